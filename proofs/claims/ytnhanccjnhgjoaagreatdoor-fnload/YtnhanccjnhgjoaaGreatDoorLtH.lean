import Derived.Test.YtnhanccjnhgjoaaGreatDoorGt
import Derived.Test.YtnhanccjnhgjoaaGreatDoorGa
namespace Go.Proofs.YtnhanccjnhgjoaaGreatDoor
open Go.RowKit Go.Shelf
set_option linter.unusedVariables false
set_option linter.unusedSimpArgs false
set_option maxRecDepth 100000
set_option maxHeartbeats 9000000
theorem ItOk.one {y : World} {x : PI} (h : ItOk y x) : ∀ u ∈ pcs x, u.oneCell' = true := by
 obtain ⟨o3, k3, e3⟩ := own_slL h.row.o3;obtain ⟨o4, k4, e4⟩ := own_slL h.row.o4;obtain ⟨o5, k5, e5⟩ := own_slL h.row.o5;obtain ⟨o8, k8, e8⟩ := own_slL h.row.o8;obtain ⟨o9, k9, e9⟩ := own_slL h.row.o9;intro u hu;unfold pcs at hu;rw [e3, e4, e5, e8, e9] at hu;simp only [List.mem_cons, List.not_mem_nil, or_false] at hu;rcases hu with rfl | rfl | rfl | rfl | rfl | rfl | rfl | rfl | rfl | rfl <;> rfl
theorem step_own {P : Program} {w : World} {ops : Array Oper} {o : Oper} {a : Act} {K : Act → World → Prop} {Q : Exit → Act → World → Prop} {E : Prop} (hgd : o.guard = none) (s x : Operand) (t : TypeId)
  (ho : o.op = .call { callee := .builtin .append, args := #[s, x], argTypes := #[t, t] })
  (base : Nat) (e : TypeId) (i : TypeInfo) (z : Value) (size bytes : Nat) (ht : P.underlying t = some (.slice e)) (hi : P.info? e = some i) (hz : i.zero = some z)
  (hsize : i.size = size) (hby : i.bytes = bytes) (hzs : z.cells.size = size) (hsz : 0 < size)
  (v : Value) (n : Nat) (xs : List Value) (hs : a.eval s = v) (hown : w.ownsRow base e size v n xs)
  (ad : Addr) (m c : Nat) (news : List Value) (hx : a.eval x = .slice (some ad) m c) (hl : news.length = m * size) (hnews : ∀ j u, news[j]? = some u → w.cell? (ad.add j) = some u) (h1 : ∀ u ∈ news, u.oneCell' = true)
  (h63 : n + m ≤ maxLen) (hbytes : (n + m) * bytes ≤ 140737488355328) (hbase : base ≤ w.heap.size)
  (h : ∀ v' w', w'.ownsRow base e size v' (n + m) (xs ++ news) → w.grownBy w' v.ownBlock → K (a.put o.dst v') w') :
  if Region.wanted o (yielded ops a.tmps) = true then Oper.wp P o a w K Q else E := by
 have hw : Region.wanted o (yielded ops a.tmps) = true := by simp [Region.wanted, hgd]
 rw [if_pos hw];obtain ⟨v', w', hr, h2, h3, h4, h5⟩ := run_append_own_at (P := P) w base t o.type e i z size bytes ht hi hz hsize hby hzs hsz v n xs hown ad m c news hl hnews h1 h63 hbytes hbase;unfold Oper.wp execOp;simp only [ho, resolve, invoke, builtin, Sem.run_bind, Sem.run_pure, Result.andThen_ok, List.map_toArray, List.map_cons, List.map_nil, hs, hx, hr];exact h v' w' h2 h3
theorem tree_step (s : ByteArray) (V : Nat → Option (Int × Nat)) (hV : VrOk s V) (hs : s.size ≤ 2000000000) (R : Nat) (f : Nat) (ab : Int) (hab0 : 0 ≤ ab) (hab1 : ab ≤ 63) (hf : ab < 63 → 0 < f)
  (ih : ab < 63 → ∀ r an w, RowL w R 98 (rdL s r (ab + 1) an) → r.pos ≤ s.size → 0 ≤ an → an ≤ 200 →
   Calls Tryz.prog 42 #[.pointer (some ⟨R, 0, none⟩)] w fun e w' => ∃ v its mid, e = .returned v ∧ TrOk w w' v its mid ∧ its.map (·.p) = (rdTree s V f (ab + 1) r an).1 ∧ RowL w' R 98 (rdL s (rdTree s V f (ab + 1) r an).2.1 (ab + 1) (rdTree s V f (ab + 1) r an).2.2) ∧ Ex R w w')
  (r : RS) (an : Int) (w : World) (h : RowL w R 98 (rdL s r ab an)) (hp : r.pos ≤ s.size) (ha0 : 0 ≤ an) (ha1 : an ≤ 200) :
  Calls Tryz.prog 42 #[.pointer (some ⟨R, 0, none⟩)] w fun e w' => ∃ v its mid, e = .returned v ∧ TrOk w w' v its mid ∧ its.map (·.p) = (rdTree s V (f + 1) ab r an).1 ∧ RowL w' R 98 (rdL s (rdTree s V (f + 1) ab r an).2.1 ab (rdTree s V (f + 1) ab r an).2.2) ∧ Ex R w w' := by
 have hRlt : R < w.heap.size := World.rowIs.lt h;obtain ⟨most, hm⟩ : ∃ m, m = (if ab = 63 then (0 : Int) else 200 - an) := ⟨_, rfl⟩;have hm0 : 0 ≤ most ∧ most ≤ 200 - an ∧ (ab = 63 → most = 0) := by rw [hm]; split <;> omega
 have hpr := hidR (proto_in s V hV r ab an most R w h hs hp ha0 ha1 hm);have hpf := rdPro_facts hV (G := gi0) hm0.1 hp
 have htree : rdTree s V (f + 1) ab r an = ((rdPro s V gi0 most r).1 :: (rdFor (rdTree s V f (ab + 1)) (rdPro s V gi0 most r).1.kids.toNat (rdPro s V gi0 most r).2 (an + (rdPro s V gi0 most r).1.kids) []).1.flatten, (rdFor (rdTree s V f (ab + 1)) (rdPro s V gi0 most r).1.kids.toNat (rdPro s V gi0 most r).2 (an + (rdPro s V gi0 most r).1.kids) []).2) := by
  rw [hm]; rfl
 obtain ⟨x, hx⟩ : ∃ x, rdPro s V gi0 most r = x := ⟨_, rfl⟩;rw [hx] at hpr hpf htree;obtain ⟨p, r1⟩ := x;dsimp only at hpr hpf htree;obtain ⟨kn, hkn⟩ : ∃ kn : Nat, p.kids = kn := ⟨p.kids.toNat, by omega⟩;have hkn2 : p.kids.toNat = kn := by omega
 rw [hkn2] at htree;have hkb : 0 < kn → ab < 63 := by intro hk; by_cases h63 : ab = 63 <;> omega
 have hfa := rdFor_facts (rdTree_facts hV f (ab + 1)) kn r1 (an + p.kids) [] hpf.1 (by omega) (by omega)
 have hfn : ∀ l ∈ (rdFor (rdTree s V f (ab + 1)) kn r1 (an + p.kids) []).1, l ≠ [] := by
  by_cases hk : 0 < kn
  ·obtain ⟨f', rfl⟩ : ∃ f', f = f' + 1 := ⟨f - 1, by have := hf (hkb hk); omega⟩;exact rdFor_ne (fun r an => rdTree_ne f' (ab + 1) r an) kn r1 (an + p.kids) [] (fun l hl => by cases hl)
  ·obtain rfl : kn = 0 := by omega
   intro l hl
   cases hl
 have hkn200 : kn ≤ 200 := by omega
 replace hm := hidR hm;replace hm0 := hidR hm0;replace htree := hidR htree;replace hkn := hidR hkn;replace hpf := hidR hpf;replace hfa := hidR hfa;replace hfn := hidR hfn;replace hkb := hidR hkb;replace ih := hidR ih;clear h hx hkn2;go_enter Tryz.func42, Tryz.ntmps42;go_wp2_with fail;refine Calls.mono hpr.out ?_;rintro e y1 ⟨v3, v4, v5, v8, v9, rfl, hrow, hr1, hx1⟩;clear hpr;have hit : ItOk y1 ⟨w.heap.size, y1.heap.size, v3, v4, v5, v8, v9, p⟩ := ⟨hrow, fun q hq => (hrow.o3.lt q hq).2, fun q hq => (hrow.o4.lt q hq).2, fun q hq => (hrow.o5.lt q hq).2, fun q hq => (hrow.o8.lt q hq).2, fun q hq => (hrow.o9.lt q hq).2⟩;obtain ⟨o3, k3, rfl⟩ := own_slL hrow.o3;obtain ⟨o4, k4, rfl⟩ := own_slL hrow.o4;obtain ⟨o5, k5, rfl⟩ := own_slL hrow.o5;obtain ⟨o8, k8, rfl⟩ := own_slL hrow.o8;obtain ⟨o9, k9, rfl⟩ := own_slL hrow.o9;have hone := hidR hit.one;obtain ⟨y2, hy2⟩ : ∃ y2, y1.alloc (.cells ([.int .i64 p.params, .bool p.vararg, .int .i64 p.regs, .slice o3 p.code.length k3, .slice o4 p.consts.length k4, .slice o5 p.ups.length k5, .int .i64 p.kids, .string p.name, .slice o8 p.lines.length k8, .slice o9 p.upNames.length k9] : List Value).toArray 48) = y2 := ⟨_, rfl⟩;have hR2 : RowL y2 R 98 (rdL s r1 ab (an + p.kids)) := by rw [← hy2]; exact hr1.alloc _
 have hP2 : RowL y2 y1.heap.size 48 [.int .i64 p.params, .bool p.vararg, .int .i64 p.regs, .slice o3 p.code.length k3, .slice o4 p.consts.length k4, .slice o5 p.ups.length k5, .int .i64 p.kids, .string p.name, .slice o8 p.lines.length k8, .slice o9 p.upNames.length k9] := by rw [← hy2]; exact RowL.new y1 _ _
 have hX2 : Ex R w y2 := by rw [← hy2]; exact hx1.alloc _
 have hz2 : y2.heap.size = y1.heap.size + 1 := by rw [← hy2, World.size_alloc]
 have hit2 : ItOk y2 ⟨w.heap.size, y1.heap.size, .slice o3 p.code.length k3, .slice o4 p.consts.length k4, .slice o5 p.ups.length k5, .slice o8 p.lines.length k8, .slice o9 p.upNames.length k9, p⟩ := hit.keep fun q hq => by rw [← hy2]; exact heap_alloc_old y1 _ (hit.row.lt hq).2
 have hw1 : w.heap.size ≤ y1.heap.size := hx1.size;replace hit2 := hidR hit2;replace hR2 := hidR hR2;replace hP2 := hidR hP2;clear hrow hr1 hit hx1;go_upto_region 2 with fail;clear hy2;obtain ⟨P, hPe⟩ : ∃ P, P = y1.heap.size := ⟨_, rfl⟩;rw [← hPe] at hP2 hz2 hw1 hit2 hone ⊢;have hPR : P ≠ R := by omega
 have hPw : w.heap.size ≤ P := hw1;replace hPe := hidR hPe
 -- one deeper
 replace hR2 := hR2.out;have e3 := hR2.cell 3 rfl;have f3 := hR2.frozen 3;have hR3 := hidR (hR2.set 3 (.int .i64 (ab + 1)));have hP3 := hidR (hP2.out.other (a := ⟨R, 3, none⟩) hPR (.int .i64 (ab + 1)));have hX3 := hX2.set 3 (.int .i64 (ab + 1));have hit3 := hidR (hit2.out.ex ((Ex.refl R y2).set 3 (.int .i64 (ab + 1))) hRlt);have hz3 : (y2.setCell ⟨R, 3, none⟩ (.int .i64 (ab + 1))).heap.size = P + 1 := by rw [World.size_setCell, hz2]
 clear hR2 hP2 hX2 hit2 hz2;go_upto_region 3 with fail;generalize y2.setCell ⟨R, 3, none⟩ (.int .i64 (ab + 1)) = y3 at hR3 hP3 hX3 hit3 hz3 ⊢;replace hR3 : RowL y3 R 98 (rdL s r1 (ab + 1) (an + p.kids)) := hR3.out;have e6 := hP3.out.cell 6 rfl;have hc := severalF_in (rdTree s V f (ab + 1)) s (ab + 1) R kn r1 (an + p.kids) y3 (fun hk => ih.out (hkb.out hk)) (fun r an h1 h2 h3 => by have := rdTree_facts hV f (ab + 1) r an h1 h2 h3; omega) hR3 hpf.out.1 (by have := hpf.out; omega) (by have := hpf.out; have := hm0.out; omega) hkn200;rw [← hkn.out] at hc;obtain ⟨x, hfo⟩ : ∃ x, rdFor (rdTree s V f (ab + 1)) kn r1 (an + p.kids) [] = x := ⟨_, rfl⟩;rw [hfo] at hc hfa hfn htree;obtain ⟨ls, r2, an2⟩ := x;dsimp only at hc hfa hfn htree;replace hc := hidR hc;replace hfo := hidR hfo;clear hR3 e3 f3;go_wp2_with fail;refine Calls.mono hc.out ?_;rintro e y4 ⟨vf, L, mid, rfl, hF4, hL4, hLn, hr4⟩;clear hc;have hR3w : R < y3.heap.size := by rw [hz3]; omega
 have hX4 := hX3.trans hF4.ex;have hP4 := hidR (hF4.ex.row hP3.out hPR);have hit4 := hidR (hit3.out.ex hF4.ex hRlt);have hmid : P + 1 ≤ mid := by have := hF4.chain.le; omega
 obtain ⟨of, kf, rfl⟩ := own_slL hF4.row
 -- one up again
 have e3 := hr4.cell 3 rfl;have f3 := hr4.frozen 3;have hR5 := hidR (hr4.set 3 (.int .i64 ab));have hP5 := hidR (hP4.out.other (a := ⟨R, 3, none⟩) hPR (.int .i64 ab));have hx5 := (Ex.refl R y4).set 3 (.int .i64 ab);have hX5 := hX4.trans hx5;have hit5 := hidR (hit4.out.ex hx5 hRlt);have hF5 := hidR (hF4.later hR3w hx5);replace hF4 := hidR hF4;clear hr4 hP4 hX4 hit4 hP3 hit3 e6 hX3 hx5;go_upto_region 5 with fail;generalize y4.setCell ⟨R, 3, none⟩ (.int .i64 ab) = y5 at hR5 hP5 hX5 hit5 hF5 ⊢;replace hR5 : RowL y5 R 98 (rdL s r2 ab an2) := hR5.out;clear e3 f3 hF4;have hPl : P < y5.heap.size := World.rowIs.lt hP5.out;obtain ⟨S, hSe⟩ : ∃ S : World → Prop, S = fun y : World => y.rangeAt P 0 [.int .i64 p.params, .bool p.vararg, .int .i64 p.regs, .slice o3 p.code.length k3, .slice o4 p.consts.length k4, .slice o5 p.ups.length k5, .int .i64 p.kids, .string p.name, .slice o8 p.lines.length k8, .slice o9 p.upNames.length k9] := ⟨_, rfl⟩;have hSk : Hid (∀ y, Below y5.heap.size y5 y → S y) := fun y hy => by rw [hSe]; exact RowL.range (World.rowIs.of_block hP5.out (hy.block P hPl))
 have bY0 : Below y5.heap.size y5 y5.drew := (Below.refl _ _).drew;have hS0 := hSk.out _ bY0
 have hcat : Hid (∀ y, Below y5.heap.size y5 y → Calls Tryz.prog 88 #[.slice of L.length kf] y fun e w' => ∃ v, e = .returned v ∧ w'.ownsRow y.heap.size 48 10 v (L.flatMap (·.2)).length ((L.flatMap (·.2)).flatMap pcs) ∧ Below y.heap.size y w') := by
  intro y hy;refine concat_in L y3.heap.size of kf y (own_kept hF5.out.row fun q hq => hy.block q (hF5.out.row.lt q hq).2) (fun x hx => ?_) (fun x hx => ?_) (fun x hx u hu => ?_) (by omega) ?_
  ·obtain ⟨m, _, hm⟩ := hF5.out.each x hx;exact ⟨m, own_kept hm fun q hq => hy.block q (hm.lt q hq).2⟩
  ·have := hfn.out (x.2.map (·.p)) (by rw [← hL4]; exact List.mem_map.2 ⟨x, hx, rfl⟩);intro h0;rw [h0] at this;exact this rfl
  ·obtain ⟨z, hz, hu⟩ := List.mem_flatMap.1 hu;exact (hF5.out.its x hx z hz).one u hu
  ·have h1 : (L.flatMap (·.2)).length = ls.flatten.length := by
    rw [← hL4, List.flatMap_def, List.length_flatten, List.length_flatten, List.map_map, List.map_map]
    congr 1
    apply List.map_congr_left;intro x _;simp
   have h2 := hfa.out.2;simp only [List.flatten_nil, List.length_nil] at h2;have h3 := hpf.out.2;rw [h1];omega
 have hfin : Hid (∀ v y, y.ownsRow y5.heap.size 48 10 v (1 + (L.flatMap (·.2)).length) ([.int .i64 p.params, .bool p.vararg, .int .i64 p.regs, .slice o3 p.code.length k3, .slice o4 p.consts.length k4, .slice o5 p.ups.length k5, .int .i64 p.kids, .string p.name, .slice o8 p.lines.length k8, .slice o9 p.upNames.length k9] ++ (L.flatMap (·.2)).flatMap pcs) → Below y5.heap.size y5 y →
   ∃ v' its mid, Ending.returned v = .returned v' ∧ TrOk w y v' its mid ∧ its.map (·.p) = (rdTree s V (f + 1) ab r an).1 ∧ RowL y R 98 (rdL s (rdTree s V (f + 1) ab r an).2.1 ab (rdTree s V (f + 1) ab r an).2.2) ∧ Ex R w y) := by
  intro v y hv hy;have hRl : R < y5.heap.size := World.rowIs.lt hR5;refine ⟨v, ⟨w.heap.size, P, .slice o3 p.code.length k3, .slice o4 p.consts.length k4, .slice o5 p.ups.length k5, .slice o8 p.lines.length k8, .slice o9 p.upNames.length k9, p⟩ :: L.flatMap (·.2), y5.heap.size, rfl, ⟨?_, ?_, ?_, hy.size⟩, ?_, ?_, hX5.trans ⟨hy.os, hy.tape, hy.output, hy.size, fun k hk _ => hy.block k hk⟩⟩
  ·rw [List.flatMap_cons, List.length_cons, Nat.add_comm];exact hv
  ·intro x hx;rcases List.mem_cons.1 hx with rfl | hx
   ·exact hit5.out.keep fun q hq => hy.block q (hit5.out.row.lt hq).2
   ·obtain ⟨z, hz, hx⟩ := List.mem_flatMap.1 hx;have := hF5.out.its z hz x hx;exact this.keep fun q hq => hy.block q (this.row.lt hq).2
  ·exact ⟨Nat.le_refl _, hPw, (hF5.out.chain.down (show P ≤ y3.heap.size by omega)).up hF5.out.mid⟩
  ·rw [htree.out, List.map_cons]
   congr 1
   rw [← hL4, List.flatMap_def, List.map_flatten, List.map_map];rfl
  ·rw [htree.out];exact World.rowIs.of_block hR5 (hy.block R hRl)
 have htot : (L.flatMap (·.2)).length ≤ 1000 := by
  have h1 : (L.flatMap (·.2)).length = ls.flatten.length := by
   rw [← hL4, List.flatMap_def, List.length_flatten, List.length_flatten, List.map_map, List.map_map]
   congr 1
   apply List.map_congr_left;intro x _;simp
  have h2 := hfa.out.2;simp only [List.flatten_nil, List.length_nil] at h2;have h3 := hpf.out.2;rw [h1];omega
 have hpone : Hid (∀ u ∈ (L.flatMap (·.2)).flatMap pcs, u.oneCell' = true) := by
  intro u hu;obtain ⟨z, hz, hu⟩ := List.mem_flatMap.1 hu;obtain ⟨x, hx, hz⟩ := List.mem_flatMap.1 hz;exact (hF5.out.its x hx z hz).one u hu
 obtain ⟨i0, hi, hz0, hz1, hz2⟩ := info_of infPr;replace hSe := hidR hSe;refine wp_region_held_drew (S := S) (by kernel_rfl) hS0 (fun hH => ?_);generalize y5.drew = yd at bY0 hS0 ⊢;refine tkd 0 27 (.agg ([.int .i64 p.params, .bool p.vararg, .int .i64 p.regs, .slice o3 p.code.length k3, .slice o4 p.consts.length k4, .slice o5 p.ups.length k5, .int .i64 p.kids, .string p.name, .slice o8 p.lines.length k8, .slice o9 p.upNames.length k9] : List Value).toArray) hS0 ?_ (hy := yieldsIf_load_mid (by rfl) 48 (.tmp 3) rfl P 0 rfl [.int .i64 p.params, .bool p.vararg, .int .i64 p.regs, .slice o3 p.code.length k3, .slice o4 p.consts.length k4, .slice o5 p.ups.length k5, .int .i64 p.kids, .string p.name, .slice o8 p.lines.length k8, .slice o9 p.upNames.length k9] _ (fun y hy => by rw [hSe.out] at hy; exact hy) Tryz.underlying48 rfl infP);try simp only [tK]
 refine tkd 2 29 (.slice of L.length kf) hS0 ?_;try simp only [tK]
 refine rdy2 1 3 (fun K hK => ?_) (fun K hK => ?_)
 focus
  go_simp;have b1 : Below yd.heap.size yd (yd.alloc (.cells ([.int .i64 p.params, .bool p.vararg, .int .i64 p.regs, .slice o3 p.code.length k3, .slice o4 p.consts.length k4, .slice o5 p.ups.length k5, .int .i64 p.kids, .string p.name, .slice o8 p.lines.length k8, .slice o9 p.upNames.length k9] : List Value).toArray 48)) := (Below.refl _ _).alloc (Nat.le_refl _) _;have bY1 := bY0.trans (b1.mono bY0.size);have hS1 := hSk.out _ bY1;have hl1 : (yd.alloc (.cells ([.int .i64 p.params, .bool p.vararg, .int .i64 p.regs, .slice o3 p.code.length k3, .slice o4 p.consts.length k4, .slice o5 p.ups.length k5, .int .i64 p.kids, .string p.name, .slice o8 p.lines.length k8, .slice o9 p.upNames.length k9] : List Value).toArray 48)).ownsRow y5.heap.size 48 10 (.slice (some ⟨yd.heap.size, 0, none⟩) 1 1) 1 [.int .i64 p.params, .bool p.vararg, .int .i64 p.regs, .slice o3 p.code.length k3, .slice o4 p.consts.length k4, .slice o5 p.ups.length k5, .int .i64 p.kids, .string p.name, .slice o8 p.lines.length k8, .slice o9 p.upNames.length k9] := ⟨rfl, .inr ⟨yd.heap.size, 1, _, rfl, bY0.size, heap_alloc_new _ _, Nat.le_refl _, by simp [maxLen], rfl, rfl⟩⟩;refine hK.out _ _ hS1 (fun _ => ?_);clear hK K;try simp only [tK]
  obtain ⟨y6, hy6⟩ : ∃ y6, yd.alloc (.cells ([.int .i64 p.params, .bool p.vararg, .int .i64 p.regs, .slice o3 p.code.length k3, .slice o4 p.consts.length k4, .slice o5 p.ups.length k5, .int .i64 p.kids, .string p.name, .slice o8 p.lines.length k8, .slice o9 p.upNames.length k9] : List Value).toArray 48) = y6 := ⟨_, rfl⟩;rw [hy6] at bY1 hS1 hl1 ⊢;refine rdy1 3 (fun K hK => ?_);go_simp;refine Calls.mono (hcat.out y6 bY1) ?_;rintro e y7 ⟨vc, rfl, hvc, b2⟩;have bY2 := bY1.trans (b2.mono bY1.size);have hS2 := hSk.out _ bY2;have hl2 := own_kept (y' := y7) hl1 (fun q hq => b2.block q (hl1.lt q hq).2);go_wp2_with fail;refine hK.out _ _ hS2 (fun _ => ?_);clear hK K;try simp only [tK]
  refine rdy1 4 (fun K hK => ?_);rcases hvc.2 with ⟨rfl, h0⟩ | ⟨gc, cc, cur, rfl, -⟩
  ·go_simp;refine hK.out _ _ hS2 (fun _ => ?_);clear hK K;try simp only [tK]
   refine tkd 5 2 (.slice (some ⟨yd.heap.size, 0, none⟩) 1 1) hS2 ?_;try simp only [tK]
   refine wpAnyH_done (by kernel_rfl) ?_ _;go_wp2_with fail;refine bodyPost_ret (v := .slice (some ⟨yd.heap.size, 0, none⟩) 1 1) (by simp [results, Tryz.results42, go_sem]) rfl ?_;refine hfin.out _ _ ?_ bY2;have hn0 : (L.flatMap (·.2)) = [] := List.length_eq_zero_iff.1 h0;rw [hn0]
   simpa using hl2
 rotate_left
 focus
  go_simp;refine Calls.mono (hcat.out yd bY0) ?_;rintro e y6 ⟨vc, rfl, hvc, b1⟩;have bY1 := bY0.trans (b1.mono bY0.size);have hS1 := hSk.out _ bY1;go_wp2_with fail;refine hK.out _ _ hS1 (fun _ => ?_);clear hK K;try simp only [tK]
  refine rdy1 1 (fun K hK => ?_);go_simp;have b2 : Below y6.heap.size y6 (y6.alloc (.cells ([.int .i64 p.params, .bool p.vararg, .int .i64 p.regs, .slice o3 p.code.length k3, .slice o4 p.consts.length k4, .slice o5 p.ups.length k5, .int .i64 p.kids, .string p.name, .slice o8 p.lines.length k8, .slice o9 p.upNames.length k9] : List Value).toArray 48)) := (Below.refl _ _).alloc (Nat.le_refl _) _;have bY2 := bY1.trans (b2.mono bY1.size);have hS2 := hSk.out _ bY2;have hl2 : (y6.alloc (.cells ([.int .i64 p.params, .bool p.vararg, .int .i64 p.regs, .slice o3 p.code.length k3, .slice o4 p.consts.length k4, .slice o5 p.ups.length k5, .int .i64 p.kids, .string p.name, .slice o8 p.lines.length k8, .slice o9 p.upNames.length k9] : List Value).toArray 48)).ownsRow y5.heap.size 48 10 (.slice (some ⟨y6.heap.size, 0, none⟩) 1 1) 1 [.int .i64 p.params, .bool p.vararg, .int .i64 p.regs, .slice o3 p.code.length k3, .slice o4 p.consts.length k4, .slice o5 p.ups.length k5, .int .i64 p.kids, .string p.name, .slice o8 p.lines.length k8, .slice o9 p.upNames.length k9] := ⟨rfl, .inr ⟨y6.heap.size, 1, _, rfl, bY1.size, heap_alloc_new _ _, Nat.le_refl _, by simp [maxLen], rfl, rfl⟩⟩;replace hvc := hvc.alloc (.cells ([.int .i64 p.params, .bool p.vararg, .int .i64 p.regs, .slice o3 p.code.length k3, .slice o4 p.consts.length k4, .slice o5 p.ups.length k5, .int .i64 p.kids, .string p.name, .slice o8 p.lines.length k8, .slice o9 p.upNames.length k9] : List Value).toArray 48);refine hK.out _ _ hS2 (fun _ => ?_);clear hK K;try simp only [tK]
  obtain ⟨y7, hy7⟩ : ∃ y7, y6.alloc (.cells ([.int .i64 p.params, .bool p.vararg, .int .i64 p.regs, .slice o3 p.code.length k3, .slice o4 p.consts.length k4, .slice o5 p.ups.length k5, .int .i64 p.kids, .string p.name, .slice o8 p.lines.length k8, .slice o9 p.upNames.length k9] : List Value).toArray 48) = y7 := ⟨_, rfl⟩;rw [hy7] at bY2 hS2 hl2 hvc ⊢;refine rdy1 4 (fun K hK => ?_);rcases hvc.2 with ⟨rfl, h0⟩ | ⟨gc, cc, cur, rfl, -⟩
  ·go_simp;refine hK.out _ _ hS2 (fun _ => ?_);clear hK K;try simp only [tK]
   refine tkd 5 2 (.slice (some ⟨y6.heap.size, 0, none⟩) 1 1) hS2 ?_;try simp only [tK]
   refine wpAnyH_done (by kernel_rfl) ?_ _;go_wp2_with fail;refine bodyPost_ret (v := .slice (some ⟨y6.heap.size, 0, none⟩) 1 1) (by simp [results, Tryz.results42, go_sem]) rfl ?_;refine hfin.out _ _ ?_ bY2;have hn0 : (L.flatMap (·.2)) = [] := List.length_eq_zero_iff.1 h0;rw [hn0]
   simpa using hl2
 all_goals
  ·refine step_own rfl (.tmp 28) (.tmp 30) 24 rfl y5.heap.size 48 i0 zP 10 168 Tryz.underlying24 hi hz0 hz1 hz2 rfl (by decide) _ 1 [.int .i64 p.params, .bool p.vararg, .int .i64 p.regs, .slice o3 p.code.length k3, .slice o4 p.consts.length k4, .slice o5 p.ups.length k5, .int .i64 p.kids, .string p.name, .slice o8 p.lines.length k8, .slice o9 p.upNames.length k9] rfl hl2 ⟨gc, 0, none⟩ (L.flatMap (·.2)).length cc ((L.flatMap (·.2)).flatMap pcs) rfl (pcs_len _) (fun j u hj => ?_) hpone.out (by simp only [maxLen]; omega) (by omega) (bY2).size (fun v8 y8 hown hg => ?_)
   ·rw [Addr.add_mid, Nat.zero_add, hvc.cellAt j (by rw [← pcs_len]; exact (List.getElem?_eq_some_iff.1 hj).1)]; exact hj
   have b3 : Below y5.heap.size y5 y8 := Below.grown bY2 hg (bY2).size (fun q hq => ((hl2).lt q hq).1);have hS3 := hSk.out _ b3;refine hK.out _ _ hS3 (fun _ => ?_);clear hK K;try simp only [tK]
   refine tkd 5 2 v8 hS3 ?_;try simp only [tK]
   refine wpAnyH_done (by kernel_rfl) ?_ _;go_wp2_with fail;refine bodyPost_ret (v := v8) (by simp [results, Tryz.results42, go_sem]) rfl ?_;obtain ⟨v', its, mid', q1, q2, q3, q4, q5⟩ := hfin.out _ _ hown b3;first | exact ⟨v', its, mid', q1, q2, q3, q4, q5⟩ | exact ⟨v', q1, its, ⟨mid', q2⟩, q3, q4, q5⟩
theorem tree_in (s : ByteArray) (V : Nat → Option (Int × Nat)) (hV : VrOk s V) (hs : s.size ≤ 2000000000) (R : Nat) : ∀ (f : Nat) (ab : Int), ab + (f : Int) = 63 → 0 ≤ ab → ∀ r an w, RowL w R 98 (rdL s r ab an) → r.pos ≤ s.size → 0 ≤ an → an ≤ 200 →
  Calls Tryz.prog 42 #[.pointer (some ⟨R, 0, none⟩)] w fun e w' => ∃ v its mid, e = .returned v ∧ TrOk w w' v its mid ∧ its.map (·.p) = (rdTree s V (f + 1) ab r an).1 ∧ RowL w' R 98 (rdL s (rdTree s V (f + 1) ab r an).2.1 ab (rdTree s V (f + 1) ab r an).2.2) ∧ Ex R w w'
 | 0, ab, hab, hab0, r, an, w, h, hp, ha0, ha1 => tree_step s V hV hs R 0 ab hab0 (by omega) (fun h => by omega) (fun h => by omega) r an w h hp ha0 ha1
 | f + 1, ab, hab, hab0, r, an, w, h, hp, ha0, ha1 => tree_step s V hV hs R (f + 1) ab hab0 (by omega) (fun h => by omega) (fun _ r an w h hp ha0 ha1 => tree_in s V hV hs R f (ab + 1) (by omega) (by omega) r an w h hp ha0 ha1) r an w h hp ha0 ha1
end Go.Proofs.YtnhanccjnhgjoaaGreatDoor
