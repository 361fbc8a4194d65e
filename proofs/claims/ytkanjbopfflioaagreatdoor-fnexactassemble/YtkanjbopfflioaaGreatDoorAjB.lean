import Derived.Test.YtkanjbopfflioaaGreatDoorAjA
import Derived.Test.YtkanjbopfflioaaGreatDoorG34
import Derived.Shelf.Strings.Split
namespace Go.Proofs.YtkanjbopfflioaaGreatDoor
open Go.RowKit Go.Shelf Go.Lib
set_option linter.unusedVariables false
set_option linter.unusedSimpArgs false
set_option maxRecDepth 100000
set_option maxHeartbeats 4000000
attribute [local go_sem] Oper.semAt_some
theorem trim_in (x : ByteArray) (hx : x.size ≤ 100000) (w : World) : Calls Tryz.prog 15 #[.string x, .string ⟨#[10]⟩] w fun e w' => e = .returned (.string (trimNL x)) ∧ w = w' :=
  (Any.strings_TrimSuffix Tryz.lays102 x ⟨#[10]⟩ w (by omega)).mono fun e w' ⟨he, hw⟩ => ⟨he, hw.symm⟩
theorem split_in (t : ByteArray) (ht : t.size ≤ 100000) (w : World) (mm : Int) (hm : w.cell? ⟨2, 0, none⟩ = some (.int .i64 mm)) :
    Calls Tryz.prog 14 #[.string t, .string ⟨#[32]⟩] w fun e w' => e = .returned (.slice (some ⟨w.heap.size, 0, none⟩) (cutB 32 t).length (cutB 32 t).length) ∧ w.alloc (.cells ((cutB 32 t).map Value.string).toArray 9) = w' :=
  (Any.strings_Split Tryz.lays146 infS1 t ⟨#[32]⟩ mm w (by omega) hm (by decide)).mono fun e w' ⟨he, hw⟩ => by
    rw [split_cut 32 _ t rfl] at hw
    rw [← split_len] at he
    exact ⟨he, hw.symm⟩
/-- words[1:]. -/
theorem rest_in (g n : Nat) (hn : n ≤ 100000) : ∃ o c, (∀ y : World, (Instr.slice 30 (.slice (some ⟨g, 0, none⟩) (n + 1) (n + 1)) (some (.int .i64 1)) none none).run Tryz.prog y = .ok (.slice (some ⟨g, o, none⟩) n c) y) ∧ n ≤ c ∧ (0 < n → o = 1) ∧ o ≤ 1 := by
  cases n with
  | zero => exact ⟨0, 0, fun y => by kernel_rfl, Nat.le_refl _, by omega, by omega⟩
  | succ n => exact ⟨1, n + 1, fun y => by (have e : IntKind.i64.wrap 1 = 1 := by decide); simp [Instr.slice, go_sem]; intro h; omega, Nat.le_refl _, by omega, by omega⟩
theorem trimNL_size (x : ByteArray) : (trimNL x).size ≤ x.size := by
  unfold trimNL Lib.trimSuffix
  show (List.toArray _).size ≤ x.data.size
  split
  · simp
  · simp
theorem Few.mono {n m : Nat} {L : List PD} (h : Few n L) (hm : n ≤ m) : Few m L := ⟨Nat.le_trans h.1 hm, fun p hp => by have := h.2 p hp; omega⟩
theorem AsI.after {w W W2 W3 : World} {lo sB rB nB mB X B : Nat} {ib ob : Nat → Nat} {pre : List ByteArray} {sv : Value} {Q : List PV} (h : AsI w lo sB rB nB mB X B ib ob pre sv Q W) (hn : Nums lo sB rB nB mB X B ib ob) (hs : sB + 3 ≤ W.heap.size) (hb : Below W.heap.size W W2) (hc : Chg W2 W3 mB (X + 1) sv Q) : RowL W3 nB 3 [.int .i64 (pre.length : Int)] ∧ RowL W3 lo 24 [.slice none 0 0] ∧ RowL W3 (lo + 1) 3 [.int .i64 0] := by
  have h1 := hn.m; have h2 := hn.x; have h3 := hn.r; have h4 := hn.n; have h5 := hn.s; have h6 := hn.b
  have kc : ∀ b, lo ≤ b → b < sB → b ≠ mB → b ≠ X + 1 → W3.heap[b]? = W.heap[b]? := fun b hb1 hb2 hb3 hb4 => (hc.block b (by have := hb.size; omega) hb3 hb4 (fun e => by have := (h.lt b e).1; omega)).trans (hb.block b (by omega))
  exact ⟨World.rowIs.of_block h.nb (kc nB (by omega) (by omega) (by omega) (by omega)), World.rowIs.of_block h.res0 (kc lo (by omega) (by omega) (by omega) (by omega)), World.rowIs.of_block h.res1 (kc (lo + 1) (by omega) (by omega) (by omega) (by omega))⟩
theorem implAsm_long (s : ByteArray) (h : 60000 < (s.size : Int)) (w : World) : Calls Tryz.prog 5 #[.string s] w fun e w' => e = .returned (.tuple #[.agg #[.slice none 0 0], .int .i64 1]) ∧ Below w.heap.size w w' := by
  obtain ⟨m, hm⟩ : ∃ m, 8 ≤ m := ⟨8, by omega⟩
  refine (callsIn_wide (n := m)).1 ?_
  refine callsIn_of_wp_marks Tryz.func5 rfl trivial ?_ rfl
  simp only [Tryz.ntmps5, List.size_toArray, List.length_cons, List.length_nil, Nat.reduceAdd, Nat.reduceSub, Array.replicate_succ, Array.replicate_zero, List.push_toArray, List.append_toArray, List.nil_append, List.cons_append]
  gi_wp2
  exact ⟨.tuple #[.agg #[.slice none 0 0], .int .i64 1], by simp [results, Tryz.results5, go_sem], rfl, by go_grown⟩
/-- what Assemble gives back. -/
def AsmOut (s : ByteArray) (w : World) (e : Ending) (w' : World) : Prop := Below w.heap.size w w' ∧ ∃ R i, AsmR (linesOf s) R i ∧ (R = none → e = .returned (.tuple #[.agg #[.slice none 0 0], .int .i64 ((i : Int) + 2)])) ∧
  (∀ L, R = some L → (¬ Wf (chunkOf L) → e = .returned (.tuple #[.agg #[.slice none 0 0], .int .i64 (-1)])) ∧ (Wf (chunkOf L) → ∃ v lo, w.heap.size ≤ lo ∧ e = .returned (.tuple #[.agg #[v], .int .i64 0]) ∧ Mine w' v (chunkOf L) lo w'.heap.size))
theorem implAsm_in (s : ByteArray) (hs : s.size ≤ 60000) (w : World) (hnm : Named w) (hv : Env w) (mm : Int) (hml : w.cell? ⟨2, 0, none⟩ = some (.int .i64 mm)) :
    Calls Tryz.prog 5 #[.string s] w fun e w' => AsmOut s w e w' := by
  have hsI : ¬ (60000 : Int) < (s.size : Int) := by omega
  obtain ⟨m, hm⟩ : ∃ m, 8 ≤ m := ⟨8, by omega⟩
  replace hnm := hidR hnm
  replace hv := hidR hv
  replace hml := hidR hml
  refine (callsIn_wide (n := m)).1 ?_
  refine callsIn_of_wp_marks Tryz.func5 rfl trivial ?_ rfl
  simp only [Tryz.ntmps5, List.size_toArray, List.length_cons, List.length_nil, Nat.reduceAdd, Nat.reduceSub, Array.replicate_succ, Array.replicate_zero, List.push_toArray, List.append_toArray, List.nil_append, List.cons_append]
  gi_wp2_with fail
  have R0 := ((RowL.new w [.slice none 0 0] 24).alloc (.cells #[.int .i64 0] 3)).alloc (.cells #[.slice none 0 0] 24)
  have R1 := (RowL.new (w.alloc (.cells #[.slice none 0 0] 24)) [.int .i64 0] 3).alloc (.cells #[.slice none 0 0] 24)
  have R2 := RowL.new ((w.alloc (.cells #[.slice none 0 0] 24)).alloc (.cells #[.int .i64 0] 3)) [.slice none 0 0] 24
  have bw : Below w.heap.size w (((w.alloc (.cells #[.slice none 0 0] 24)).alloc (.cells #[.int .i64 0] 3)).alloc (.cells #[.slice none 0 0] 24)) := by go_grown
  have hs3 : (((w.alloc (.cells #[.slice none 0 0] 24)).alloc (.cells #[.int .i64 0] 3)).alloc (.cells #[.slice none 0 0] 24)).heap.size = w.heap.size + 3 := by simp
  simp only [World.size_alloc] at R1 R2
  obtain ⟨lo, hlo⟩ : ∃ lo, w.heap.size = lo := ⟨_, rfl⟩
  rw [hlo] at R0 R1 R2 bw hs3 ⊢
  generalize ((w.alloc (.cells #[.slice none 0 0] 24)).alloc (.cells #[.int .i64 0] 3)).alloc (.cells #[.slice none 0 0] 24) = w3 at R0 R1 R2 bw hs3 ⊢
  replace hlo := hidR hlo
  have hlr := hidR (lineReaders_in (lo + 2) w3 (hnm.out.below (by rw [hlo.out]; exact bw)))
  refine ⟨trivial, fun _ => by omega, ?_⟩
  refine (callsIn_wide.2 hlr.out).mono ?_
  rintro e y1 ⟨ib, ob, rfl, hrd⟩
  clear hlr
  rw [hs3] at hrd ⊢
  have b1 : Below w3.heap.size w3 y1 := by rw [hs3]; exact hrd.bel
  replace R0 := R0.call b1
  replace R1 := R1.call b1
  replace R2 := R2.call b1
  have bw1 := bw.trans (b1.mono (by omega))
  have hX1 : lo + 3 + 3 < y1.heap.size := (Array.getElem?_eq_some_iff.1 hrd.map).1
  clear b1 hs3 bw
  replace R0 := hidR R0
  replace R1 := hidR R1
  replace R2 := hidR R2
  replace hrd := hidR hrd
  gi_wp2_with fail
  refine ⟨trivial, fun _ => by omega, ?_⟩
  refine (callsIn_wide.2 (lines_in s _)).mono ?_
  rintro e w4 ⟨rfl, rfl⟩
  gi_wp2_with fail
  have hn1 : ∀ j, j < 34 → lo + 3 + 3 < ib j ∧ ib j < y1.heap.size ∧ lo + 3 + 3 < ob j ∧ ob j < y1.heap.size := fun j hj => ⟨(hrd.out.ir j hj).2.2.1, (hrd.out.ir j hj).1.lt, (hrd.out.ir j hj).2.2.2, (hrd.out.ir j hj).2.1.lt⟩
  have RB := ((RowL.new y1 [.map (some (lo + 3 + 3))] 35).alloc (.cells #[.int .i64 0] 3)).alloc (.cells #[.string s] 9)
  have RN := (RowL.new (y1.alloc (.cells #[.map (some (lo + 3 + 3))] 35)) [.int .i64 0] 3).alloc (.cells #[.string s] 9)
  have RS := RowL.new ((y1.alloc (.cells #[.map (some (lo + 3 + 3))] 35)).alloc (.cells #[.int .i64 0] 3)) [.string s] 9
  have b2 : Below y1.heap.size y1 (((y1.alloc (.cells #[.map (some (lo + 3 + 3))] 35)).alloc (.cells #[.int .i64 0] 3)).alloc (.cells #[.string s] 9)) := by go_grown
  have hsz : (((y1.alloc (.cells #[.map (some (lo + 3 + 3))] 35)).alloc (.cells #[.int .i64 0] 3)).alloc (.cells #[.string s] 9)).heap.size = y1.heap.size + 3 := by simp
  simp only [World.size_alloc] at RN RS
  obtain ⟨rB, hrB⟩ : ∃ rB, y1.heap.size = rB := ⟨_, rfl⟩
  have b1 := b2
  rw [hrB] at RB RN RS hn1 hsz hX1 b1 ⊢
  generalize ((y1.alloc (.cells #[.map (some (lo + 3 + 3))] 35)).alloc (.cells #[.int .i64 0] 3)).alloc (.cells #[.string s] 9) = w0 at RB RN RS b1 b2 hsz ⊢
  replace RS : RowL w0 (rB + 1 + 1) 9 [.string s] := RS
  have hnum : Nums lo (rB + 1 + 1) rB (rB + 1) (lo + 2) (lo + 3) (rB + 1 + 1 + 1) ib ob := ⟨rfl, rfl, by omega, by omega, by omega, rfl, hn1⟩
  have hrd0 := hrd.out.call b2 (by omega)
  have bw0 : Below lo w w0 := bw1.trans (b1.mono (by omega))
  have hI0 : AsI w lo (rB + 1 + 1) rB (rB + 1) (lo + 2) (lo + 3) (rB + 1 + 1 + 1) ib ob [] (.slice none 0 0) [] w0 := ⟨bw0, R0.out.call b2, R1.out.call b2, RB, RN, hrd0.map, hrd0.ar, fun j hj => ⟨(hrd0.ir j hj).1, (hrd0.ir j hj).2.1⟩, ⟨R2.out.call b2, hrd0.xr, hrd0.pr, Mk.nil _ _, Rgs.nil _ (by rw [hsz]; omega), by omega, by omega, by omega, by omega⟩, .nil, by simp [Value.ownBlock]⟩
  clear hrd hrd0 R0 R1 R2 RB RN b1 b2 bw1 hn1
  replace hrB := hidR hrB
  refine range_lawP (gf := 40) (lb := #[.pointer (some ⟨rB + 1 + 1, 0, none⟩)]) rfl (enters_of Tryz.func40 (by kernel_rfl) rfl) (by omega) (encs := fun x : ByteArray => #[.string x]) (fun _ => rfl) (lo := lo) (N := s.size + 1) (by omega)
    (S := fun ys => ys.map trimNL = linesOf s) (Sp := fun pre => ∃ post, pre.map trimNL ++ post = linesOf s ∧ pre ≠ []) (AI w lo (rB + 1 + 1) rB (rB + 1) (lo + 2) (lo + 3) (rB + 1 + 1 + 1) ib ob) (AX w lo (rB + 1 + 1)) (AI.foot hnum) (AX.foot (by omega)) ?foot2 ?foot3 (fun x => x.size ≤ s.size) (fun b => b = rB + 1 + 1) (fun b hb => by omega)
    ⟨fun b => (lo ≤ b ∧ b < rB + 1 + 1) ∨ some b ∈ (Value.slice none 0 0).ownBlock :: ([] : List PV).flatMap PV.blks, ⟨_, _, hI0, fun _ => Iff.rfl⟩, fun b hb => by subst hb; simp [Value.ownBlock]⟩ ?seq
    (fun x a' W => a' = { tmps := #[.string s, undef, .pointer (some ⟨lo, 0, none⟩), .pointer (some ⟨lo + 1, 0, none⟩), .pointer (some ⟨lo + 1 + 1, 0, none⟩), .pointer (some ⟨rB, 0, none⟩), .pointer (some ⟨rB + 1, 0, none⟩), .string x, undef, undef, undef, .string s, .int .i64 (s.size : Int), .bool false, undef, .map (some (lo + 3 + 3)), .string s, .func (.func 40) #[] #[.pointer (some ⟨rB + 1 + 1, 0, none⟩)], .string x, undef, undef, undef, undef, undef, undef, undef, undef, undef, undef, undef, undef, undef, undef, undef, undef, undef, undef, undef, undef, undef, undef, undef, undef, undef, undef, undef, undef, undef, undef], defers := [] }) (fun x a' W o hA => hA)
    ?assign ?body ?done ?stop
  case foot2 =>
    rintro pre U A ⟨sv, Q, h, hU⟩ b hb
    rcases (hU b).1 hb with e | e
    · have := h.nb.lt; exact ⟨e.1, by omega, .inl (by omega)⟩
    · have h8 := h.lt b e; have h9 := h.far b e; exact ⟨by omega, h8.2, .inr (by omega)⟩
  case foot3 =>
    rintro c pre U A ⟨_, hb1, hU, hsz9, _⟩ b hb
    have := (hU b).1 hb
    exact ⟨by omega, .inl (by omega)⟩
  case seq =>
    intro W hW hb
    exact lines1_own (m - 1) s (rB + 1 + 1) lo _ W (by omega) (by omega) (RowL.below RS hb (by omega))
  case assign =>
    rintro l pre x W K hsz9 hK
    gi_wp2
    exact hK _ _ (Below.refl _ _) rfl
  case body =>
    rintro l pre x a' U' W hsz9 ⟨sv, Q, hI, hU⟩ rfl hlt hPx
    have hnW : Env W := hv.out.below (by rw [hlo.out]; exact hI.bel)
    have hsW : rB + 1 + 1 + 3 ≤ W.heap.size := by omega
    have hlen0 : pre.length ≤ 60000 := by omega
    have hfew : Few 60001 (Q.map (·.p)) := (hI.st.few (Few.nil 0)).mono (by simp; omega)
    obtain ⟨p0, r, hcut⟩ : ∃ p0 r, cutB 32 (trimNL x) = p0 :: r := by
      cases h : cutB 32 (trimNL x) with
      | nil => exact absurd h (cutB_ne _ _)
      | cons a b => exact ⟨a, b, rfl⟩
    have htz := trimNL_size x
    have hlen := cutB_len 32 (trimNL x)
    have hmem := cutB_mem 32 (trimNL x)
    rw [hcut] at hlen hmem
    simp only [List.length_cons] at hlen
    have hrl : r.length ≤ 100000 := by omega
    have hrz : ∀ x ∈ r, x.size ≤ 100000 := fun y hy => by have := hmem y (List.mem_cons_of_mem _ hy); omega
    have hml2 := (hI.bel.cell (p := ⟨2, 0, none⟩) (by rw [← hlo.out]; exact World.block_lt_of_cell? _ _ hml.out)).trans hml.out
    have htr := hidR (trim_in x (by omega) W)
    have hsp := split_in (trimNL x) (by omega) W mm hml2
    rw [hcut] at hsp
    simp only [List.length_cons] at hsp
    replace hsp := hidR hsp
    obtain ⟨R, hR, hfind⟩ := rdOf_any (lo + 3) (lo + 3 + 1) (lo + 3 + 2) ib ob p0
    obtain ⟨o, c, hsl, hcap, ho1, ho2⟩ := rest_in W.heap.size r.length hrl
    have hIh := hidR hI
    have crb := hI.rb
    have hmap := hI.map
    have hst0 := hidR hI.st
    have hmw := hidR hI.mw
    have har := hidR hI.ar
    have hir := hidR hI.ir
    replace hU := hidR hU
    replace hcut := hidR hcut
    replace hmem := hidR hmem
    replace hrz := hidR hrz
    replace hnW := hidR hnW
    replace hfew := hidR hfew
    clear hI hml2 RS hI0
    obtain ⟨T, hT⟩ : ∃ T, trimNL x = T := ⟨_, rfl⟩
    rw [hT] at htr hsp htz hlen
    gi_wp2_with fail
    refine ⟨trivial, fun _ => by omega, ?_⟩
    refine (CallsIn.inRound l (callsIn_wide.2 htr.out)).mono ?_
    rintro e y8 ⟨rfl, rfl⟩
    gi_wp2_with fail
    refine ⟨trivial, fun _ => by omega, ?_⟩
    refine (CallsIn.inRound l (callsIn_wide.2 hsp.out)).mono ?_
    rintro e W1 ⟨rfl, hW1⟩
    have RWd : RowL W1 W.heap.size 9 ((p0 :: r).map Value.string) := by rw [← hW1]; exact RowL.new W _ _
    have b1 : Below W.heap.size W W1 := by rw [← hW1]; exact (Below.refl _ _).alloc (Nat.le_refl _) _
    have hcells : Hid (∀ (j : Nat) y, (p0 :: r)[j]? = some y → W1.cell? ⟨W.heap.size, j, none⟩ = some (.string y)) := fun j y hj => RWd.cell j (by rw [List.getElem?_map, hj]; rfl)
    have hgwl : W.heap.size < W1.heap.size := RWd.lt
    clear RWd hW1 htr hsp
    have hS0 : W1.drew.cell? ⟨rB, 0, none⟩ = some (.map (some (lo + 3 + 3))) ∧ W1.drew.cell? ⟨W.heap.size, 0, none⟩ = some (.string p0) ∧ W1.drew.heap[lo + 3 + 3]? = some (.map (ents (lo + 3) (lo + 3 + 1) (lo + 3 + 2) ib ob 34).toArray 38) := ⟨(RowL.cell (RowL.call crb b1) 0 rfl), hcells.out 0 p0 rfl, (b1.block _ (by omega)).trans hmap⟩
    have b2 : Below W.heap.size W W1.drew := b1.drew
    have hgw2 : W.heap.size < W1.drew.heap.size := hgwl
    have hcr : Hid (∀ (j : Nat) y, r[j]? = some y → W1.drew.cell? ⟨W.heap.size, o + j, none⟩ = some (.string y)) := fun j y hj => by
      have h0 : 0 < r.length := by have := (List.getElem?_eq_some_iff.1 hj).1; omega
      rw [ho1 h0, Nat.add_comm]
      exact hcells.out (j + 1) y (by simpa using hj)
    have hv2 := hidR (hnW.out.below b2)
    have hm2 := hidR (hmw.out.later b2)
    have ha2 := hidR ((har.out.call b2).cell 0 rfl)
    have hw1 : IntKind.i64.wrap ((pre.length : Int) + 1) = (pre.length : Int) + 1 := by rw [IntKind.wrap_i64]; omega
    have hw2 : IntKind.i64.wrap (2 + (pre.length : Int)) = (pre.length : Int) + 2 := by rw [IntKind.wrap_i64]; omega
    replace hcap := hidR hcap
    replace ho1 := hidR ho1
    clear b1 crb hmap hcells hgwl
    gi_wp2_with fail
    obtain ⟨W2, hW2⟩ : ∃ W2, W1.drew = W2 := ⟨_, rfl⟩
    obtain ⟨gw, hgw⟩ : ∃ gw, W.heap.size = gw := ⟨_, rfl⟩
    refine region_round (S := fun z => z.cell? ⟨rB, 0, none⟩ = some (.map (some (lo + 3 + 3))) ∧ z.cell? ⟨W.heap.size, 0, none⟩ = some (.string p0) ∧ z.heap[lo + 3 + 3]? = some (.map (ents (lo + 3) (lo + 3 + 1) (lo + 3 + 2) ib ob 34).toArray 38)) (by kernel_rfl) (noDefer_of (by kernel_rfl)) (fun ⟨_, _, h⟩ => h) hS0 (fun hH => ?_)
    clear hH
    rw [hW2] at hS0 b2 hgw2 hcr hv2 hm2 ha2 ⊢
    clear hW2 W1
    rw [hgw] at hS0 hsl hgw2 hcr ⊢
    obtain ⟨pp, hpp⟩ : ∃ pp, pp = p0 := ⟨_, rfl⟩
    rw [← hpp] at hR
    cases hR with
    | none n1 n2 n3 n4 n5 =>
      rw [hpp] at n1 n2 n3 n4 n5
      have hcut9 := hcut
      rcases hfind with ⟨v9, j9, e9, _⟩ | ⟨_, hfind⟩
      · cases e9
      have hlk : ∀ wv : World, wv.heap[lo + 3 + 3]? = some (.map (ents (lo + 3) (lo + 3 + 1) (lo + 3 + 2) ib ob 34).toArray 38) → (Instr.lookup 35 (.map (some (lo + 3 + 3))) (.string p0) true).run Tryz.prog wv = .ok (.tuple #[.nilFunc, .bool false]) wv := fun wv h9 => run_lookup_miss Tryz.underlying35 Tryz.underlying9 (by kernel_rfl) h9 hfind
      refine take_dst 0 23 (.map (some (lo + 3 + 3))) rfl (by kernel_rfl) (by kernel_rfl) (by kernel_rfl) (fun _ _ _ h => h) (Or.inl ⟨by rfl, by intro wv hSv; (try dsimp only at hSv); obtain ⟨k7, k8, k9⟩ := hSv; go_simp⟩) hS0 rfl ?_
      try simp only [Act.put, List.setIfInBounds_toArray, List.set_cons_zero, List.set_cons_succ]
      refine take_dst 1 24 (.slice (some ⟨gw, 0, none⟩) (r.length + 1) (r.length + 1)) rfl (by kernel_rfl) (by kernel_rfl) (by kernel_rfl) (fun _ _ _ h => h) (Or.inl ⟨by rfl, by intro wv hSv; (try dsimp only at hSv); obtain ⟨k7, k8, k9⟩ := hSv; go_simp⟩) hS0 rfl ?_
      try simp only [Act.put, List.setIfInBounds_toArray, List.set_cons_zero, List.set_cons_succ]
      refine take_dst 2 25 (.pointer (some ⟨gw, 0, none⟩)) rfl (by kernel_rfl) (by kernel_rfl) (by kernel_rfl) (fun _ _ _ h => h) (Or.inl ⟨by rfl, by intro wv hSv; (try dsimp only at hSv); obtain ⟨k7, k8, k9⟩ := hSv; go_simp⟩) hS0 rfl ?_
      try simp only [Act.put, List.setIfInBounds_toArray, List.set_cons_zero, List.set_cons_succ]
      refine take_dst 3 26 (.string p0) rfl (by kernel_rfl) (by kernel_rfl) (by kernel_rfl) (fun _ _ _ h => h) (Or.inl ⟨by rfl, by intro wv hSv; (try dsimp only at hSv); obtain ⟨k7, k8, k9⟩ := hSv; go_simp⟩) hS0 rfl ?_
      try simp only [Act.put, List.setIfInBounds_toArray, List.set_cons_zero, List.set_cons_succ]
      refine take_dst 4 27 (.tuple #[.nilFunc, .bool false]) rfl (by kernel_rfl) (by kernel_rfl) (by kernel_rfl) (fun _ _ _ h => h) (Or.inl ⟨by rfl, by intro wv hSv; obtain ⟨k7, k8, k9⟩ := hSv; have k6 := hlk wv k9; clear hlk; go_simp⟩) hS0 rfl ?_
      try simp only [Act.put, List.setIfInBounds_toArray, List.set_cons_zero, List.set_cons_succ]
      refine take_dst 5 22 (.tuple #[.nilFunc, .bool false]) rfl (by kernel_rfl) (by kernel_rfl) (by kernel_rfl) (fun _ _ _ h => h) (Or.inl ⟨by rfl, by intro wv hSv; (try dsimp only at hSv); obtain ⟨k7, k8, k9⟩ := hSv; go_simp⟩) hS0 rfl ?_
      try simp only [Act.put, List.setIfInBounds_toArray, List.set_cons_zero, List.set_cons_succ]
      refine take_dst 6 28 (.nilFunc) rfl (by kernel_rfl) (by kernel_rfl) (by kernel_rfl) (fun _ _ _ h => h) (Or.inl ⟨by rfl, by intro wv hSv; (try dsimp only at hSv); obtain ⟨k7, k8, k9⟩ := hSv; go_simp⟩) hS0 rfl ?_
      try simp only [Act.put, List.setIfInBounds_toArray, List.set_cons_zero, List.set_cons_succ]
      refine take_dst 7 29 (.bool false) rfl (by kernel_rfl) (by kernel_rfl) (by kernel_rfl) (fun _ _ _ h => h) (Or.inl ⟨by rfl, by intro wv hSv; (try dsimp only at hSv); obtain ⟨k7, k8, k9⟩ := hSv; go_simp⟩) hS0 rfl ?_
      try simp only [Act.put, List.setIfInBounds_toArray, List.set_cons_zero, List.set_cons_succ]
      refine take_dst 8 9 (.nilFunc) rfl (by kernel_rfl) (by kernel_rfl) (by kernel_rfl) (fun _ _ _ h => h) (Or.inl ⟨by rfl, by intro wv hSv; (try dsimp only at hSv); obtain ⟨k7, k8, k9⟩ := hSv; go_simp⟩) hS0 rfl ?_
      try simp only [Act.put, List.setIfInBounds_toArray, List.set_cons_zero, List.set_cons_succ]
      refine take_dst 9 10 (.bool false) rfl (by kernel_rfl) (by kernel_rfl) (by kernel_rfl) (fun _ _ _ h => h) (Or.inl ⟨by rfl, by intro wv hSv; (try dsimp only at hSv); obtain ⟨k7, k8, k9⟩ := hSv; go_simp⟩) hS0 rfl ?_
      try simp only [Act.put, List.setIfInBounds_toArray, List.set_cons_zero, List.set_cons_succ]
      refine wpAnyH_done (by kernel_rfl) ?_ _
      clear hlk hS0
      have hls : LStep (Q.map (·.p)) p0 r none := by
        rcases List.eq_nil_or_concat Q with rfl | ⟨K, q, rfl⟩
        · exact LStep.none n1
        · rw [List.concat_eq_append, List.map_append]
          exact LStep.word n1 n2 n3 (StepW.none n4 n5)
      obtain ⟨W3, hW3⟩ : ∃ W3, W2 = W3 := ⟨_, rfl⟩
      have hch : Chg W2 W3 (lo + 2) (lo + 3 + 1) sv Q := by rw [hW3]; exact Chg.of_below (Below.refl _ _)
      rw [hW3]
      clear hW3
      have haft := hIh.out.after hnum (by omega) b2 hch
      have hbd := hidR (AI.bad hIh.out hU.out hnum (by omega) b2 hch hcut9.out hls).2
      have rn := haft.1.cell 0 rfl
      have r0 := haft.2.1.cell 0 rfl
      have f0 := haft.2.1.frozen 0
      have r1 := haft.2.2.cell 0 rfl
      have f1 := haft.2.2.frozen 0
      clear haft
      gi_wp2_with fail
      refine ⟨(fun f h => by cases h), ?_⟩
      gi_wp2_with fail
      have hS1 : W3.drew.cell? ⟨rB + 1, 0, none⟩ = some (.int .i64 (pre.length : Int)) := rn
      have g0 : W3.drew.cell? ⟨lo, 0, none⟩ = some (.slice none 0 0) := r0
      have g0f : W3.drew.frozen? ⟨lo, 0, none⟩ = false := f0
      have g1 : W3.drew.cell? ⟨lo + 1, 0, none⟩ = some (.int .i64 0) := r1
      have g1f : W3.drew.frozen? ⟨lo + 1, 0, none⟩ = false := f1
      have hS2 : (W3.drew.setCell ⟨lo, 0, none⟩ (.slice none 0 0)).cell? ⟨rB + 1, 0, none⟩ = some (.int .i64 (pre.length : Int)) := (World.cell?_of_block (a := ⟨rB + 1, 0, none⟩) (heap_setCell_other _ ⟨lo, 0, none⟩ (rB + 1) _ (show rB + 1 ≠ lo by omega))).trans hS1
      have hS3 : ((W3.drew.setCell ⟨lo, 0, none⟩ (.slice none 0 0)).setCell ⟨lo + 1, 0, none⟩ (.int .i64 ((pre.length : Int) + 2))).cell? ⟨rB + 1, 0, none⟩ = some (.int .i64 (pre.length : Int)) := (World.cell?_of_block (a := ⟨rB + 1, 0, none⟩) (heap_setCell_other _ ⟨lo + 1, 0, none⟩ (rB + 1) _ (show rB + 1 ≠ lo + 1 by omega))).trans hS2
      replace hS2 := hidR hS2
      replace hS3 := hidR hS3
      refine region_round (S := fun z => z.cell? ⟨rB + 1, 0, none⟩ = some (.int .i64 (pre.length : Int))) (by kernel_rfl) (noDefer_of (by kernel_rfl)) (by rintro ⟨_, _, h⟩; exact h) hS1 (fun hH => ?_)
      clear hH rn r0 f0 r1 f1
      generalize W3.drew = W9 at hS1 hS2 hS3 hbd g0 g0f g1 g1f ⊢
      refine take_dst 0 39 (.agg #[.slice none 0 0]) rfl (by kernel_rfl) (by kernel_rfl) (by kernel_rfl) (fun _ _ _ h => h) (Or.inl ⟨by rfl, by intro wv hSv; go_simp⟩) hS1 rfl ?_
      try simp only [Act.put, List.setIfInBounds_toArray, List.set_cons_zero, List.set_cons_succ]
      refine take_dst 1 40 (.int .i64 (pre.length : Int)) rfl (by kernel_rfl) (by kernel_rfl) (by kernel_rfl) (fun _ _ _ h => h) (Or.inl ⟨by rfl, by intro wv hSv; (try dsimp only at hSv); go_simp⟩) hS1 rfl ?_
      try simp only [Act.put, List.setIfInBounds_toArray, List.set_cons_zero, List.set_cons_succ]
      refine take_dst 2 41 (.int .i64 ((pre.length : Int) + 2)) rfl (by kernel_rfl) (by kernel_rfl) (by kernel_rfl) (fun _ _ _ h => h) (Or.inl ⟨by rfl, by intro wv hSv; go_simp⟩) hS1 rfl ?_
      try simp only [Act.put, List.setIfInBounds_toArray, List.set_cons_zero, List.set_cons_succ]
      refine wpAnyH_ready (rs := [3]) (by kernel_rfl) (by simp) ?_
      refine AllReadyH.cons rfl (fun K9 hK => ?_) AllReadyH.nil
      go_simp
      refine hK.out _ _ hS2.out (fun _ => ?_)
      clear hK K9
      try simp only [Act.put, List.setIfInBounds_toArray, List.set_cons_zero, List.set_cons_succ]
      refine wpAnyH_ready (rs := [4]) (by kernel_rfl) (by simp) ?_
      refine AllReadyH.cons rfl (fun K9 hK => ?_) AllReadyH.nil
      go_simp
      refine hK.out _ _ hS3.out (fun _ => ?_)
      clear hK K9
      try simp only [Act.put, List.setIfInBounds_toArray, List.set_cons_zero, List.set_cons_succ]
      refine wpAnyH_done (by kernel_rfl) ?_ _
      gi_wp2_with fail
      exact hbd.out

    | proto =>
      rcases hfind with ⟨v9, j9, e9, hfind⟩ | ⟨e9, _⟩
      rotate_left
      · cases e9
      cases e9
      have hcut9 := hidR (show cutB 32 (trimNL x) = protoB' :: r by rw [hpp]; exact hcut.out)
      replace hpp := hidR hpp
      have hlk : ∀ wv : World, wv.heap[lo + 3 + 3]? = some (.map (ents (lo + 3) (lo + 3 + 1) (lo + 3 + 2) ib ob 34).toArray 38) → (Instr.lookup 35 (.map (some (lo + 3 + 3))) (.string p0) true).run Tryz.prog wv = .ok (.tuple #[.func (.func 27) #[] #[.pointer (some ⟨lo + 3, 0, none⟩), .pointer (some ⟨lo + 3 + 1, 0, none⟩)], .bool true]) wv := fun wv h9 => run_lookup_hit Tryz.underlying35 Tryz.underlying9 h9 hfind
      refine take_dst 0 23 (.map (some (lo + 3 + 3))) rfl (by kernel_rfl) (by kernel_rfl) (by kernel_rfl) (fun _ _ _ h => h) (Or.inl ⟨by rfl, by intro wv hSv; (try dsimp only at hSv); obtain ⟨k7, k8, k9⟩ := hSv; go_simp⟩) hS0 rfl ?_
      try simp only [Act.put, List.setIfInBounds_toArray, List.set_cons_zero, List.set_cons_succ]
      refine take_dst 1 24 (.slice (some ⟨gw, 0, none⟩) (r.length + 1) (r.length + 1)) rfl (by kernel_rfl) (by kernel_rfl) (by kernel_rfl) (fun _ _ _ h => h) (Or.inl ⟨by rfl, by intro wv hSv; (try dsimp only at hSv); obtain ⟨k7, k8, k9⟩ := hSv; go_simp⟩) hS0 rfl ?_
      try simp only [Act.put, List.setIfInBounds_toArray, List.set_cons_zero, List.set_cons_succ]
      refine take_dst 2 25 (.pointer (some ⟨gw, 0, none⟩)) rfl (by kernel_rfl) (by kernel_rfl) (by kernel_rfl) (fun _ _ _ h => h) (Or.inl ⟨by rfl, by intro wv hSv; (try dsimp only at hSv); obtain ⟨k7, k8, k9⟩ := hSv; go_simp⟩) hS0 rfl ?_
      try simp only [Act.put, List.setIfInBounds_toArray, List.set_cons_zero, List.set_cons_succ]
      refine take_dst 3 26 (.string p0) rfl (by kernel_rfl) (by kernel_rfl) (by kernel_rfl) (fun _ _ _ h => h) (Or.inl ⟨by rfl, by intro wv hSv; (try dsimp only at hSv); obtain ⟨k7, k8, k9⟩ := hSv; go_simp⟩) hS0 rfl ?_
      try simp only [Act.put, List.setIfInBounds_toArray, List.set_cons_zero, List.set_cons_succ]
      refine take_dst 4 27 (.tuple #[.func (.func 27) #[] #[.pointer (some ⟨lo + 3, 0, none⟩), .pointer (some ⟨lo + 3 + 1, 0, none⟩)], .bool true]) rfl (by kernel_rfl) (by kernel_rfl) (by kernel_rfl) (fun _ _ _ h => h) (Or.inl ⟨by rfl, by intro wv hSv; obtain ⟨k7, k8, k9⟩ := hSv; have k6 := hlk wv k9; clear hlk; go_simp⟩) hS0 rfl ?_
      try simp only [Act.put, List.setIfInBounds_toArray, List.set_cons_zero, List.set_cons_succ]
      refine take_dst 5 22 (.tuple #[.func (.func 27) #[] #[.pointer (some ⟨lo + 3, 0, none⟩), .pointer (some ⟨lo + 3 + 1, 0, none⟩)], .bool true]) rfl (by kernel_rfl) (by kernel_rfl) (by kernel_rfl) (fun _ _ _ h => h) (Or.inl ⟨by rfl, by intro wv hSv; (try dsimp only at hSv); obtain ⟨k7, k8, k9⟩ := hSv; go_simp⟩) hS0 rfl ?_
      try simp only [Act.put, List.setIfInBounds_toArray, List.set_cons_zero, List.set_cons_succ]
      refine take_dst 6 28 (.func (.func 27) #[] #[.pointer (some ⟨lo + 3, 0, none⟩), .pointer (some ⟨lo + 3 + 1, 0, none⟩)]) rfl (by kernel_rfl) (by kernel_rfl) (by kernel_rfl) (fun _ _ _ h => h) (Or.inl ⟨by rfl, by intro wv hSv; (try dsimp only at hSv); obtain ⟨k7, k8, k9⟩ := hSv; go_simp⟩) hS0 rfl ?_
      try simp only [Act.put, List.setIfInBounds_toArray, List.set_cons_zero, List.set_cons_succ]
      refine take_dst 7 29 (.bool true) rfl (by kernel_rfl) (by kernel_rfl) (by kernel_rfl) (fun _ _ _ h => h) (Or.inl ⟨by rfl, by intro wv hSv; (try dsimp only at hSv); obtain ⟨k7, k8, k9⟩ := hSv; go_simp⟩) hS0 rfl ?_
      try simp only [Act.put, List.setIfInBounds_toArray, List.set_cons_zero, List.set_cons_succ]
      refine take_dst 8 9 (.func (.func 27) #[] #[.pointer (some ⟨lo + 3, 0, none⟩), .pointer (some ⟨lo + 3 + 1, 0, none⟩)]) rfl (by kernel_rfl) (by kernel_rfl) (by kernel_rfl) (fun _ _ _ h => h) (Or.inl ⟨by rfl, by intro wv hSv; (try dsimp only at hSv); obtain ⟨k7, k8, k9⟩ := hSv; go_simp⟩) hS0 rfl ?_
      try simp only [Act.put, List.setIfInBounds_toArray, List.set_cons_zero, List.set_cons_succ]
      refine take_dst 9 10 (.bool true) rfl (by kernel_rfl) (by kernel_rfl) (by kernel_rfl) (fun _ _ _ h => h) (Or.inl ⟨by rfl, by intro wv hSv; (try dsimp only at hSv); obtain ⟨k7, k8, k9⟩ := hSv; go_simp⟩) hS0 rfl ?_
      try simp only [Act.put, List.setIfInBounds_toArray, List.set_cons_zero, List.set_cons_succ]
      refine wpAnyH_done (by kernel_rfl) ?_ _
      clear hlk hS0
      have hcon := hidR (read_proto r gw o c W2 hcap.out (by omega) hrl hcr.out hgw2 hrz.out hv2.out (rB + 1 + 1 + 1) (lo + 2) (lo + 3) (lo + 3 + 1) sv Q hm2.out hfew.out)
      gi_wp2_with fail
      refine ⟨trivial, fun _ => by omega, ?_⟩
      refine (CallsIn.inRound l (callsIn_wide.2 hcon.out)).mono ?_
      rintro e W3 ⟨b9, R9, rfl, hls, hyes, hno, hch⟩
      clear hcon
      cases b9 with
      | true =>
        obtain ⟨sv2, Q2, hR9, hm9, hft⟩ := hyes rfl
        rw [hR9] at hls
        have rn3 := (hIh.out.after hnum (by omega) b2 hch).1
        have rn := rn3.cell 0 rfl
        have fn := rn3.frozen 0
        have hfin := hidR (AI.step hIh.out hU.out hnum (by omega) b2 hch hm9 hft hcut9.out hls)
        clear rn3 hyes hno hls hR9 hm9 hft hch
        gi_wp2_with fail
        exact hfin.out
      | false =>
        have hN9 := hno rfl
        rw [hN9] at hls
        clear hyes hno hN9
        have haft := hIh.out.after hnum (by omega) b2 hch
        have hbd := hidR (AI.bad hIh.out hU.out hnum (by omega) b2 hch hcut9.out hls).2
        have rn := haft.1.cell 0 rfl
        have r0 := haft.2.1.cell 0 rfl
        have f0 := haft.2.1.frozen 0
        have r1 := haft.2.2.cell 0 rfl
        have f1 := haft.2.2.frozen 0
        clear haft
        gi_wp2_with fail
        have hS1 : W3.drew.cell? ⟨rB + 1, 0, none⟩ = some (.int .i64 (pre.length : Int)) := rn
        have g0 : W3.drew.cell? ⟨lo, 0, none⟩ = some (.slice none 0 0) := r0
        have g0f : W3.drew.frozen? ⟨lo, 0, none⟩ = false := f0
        have g1 : W3.drew.cell? ⟨lo + 1, 0, none⟩ = some (.int .i64 0) := r1
        have g1f : W3.drew.frozen? ⟨lo + 1, 0, none⟩ = false := f1
        have hS2 : (W3.drew.setCell ⟨lo, 0, none⟩ (.slice none 0 0)).cell? ⟨rB + 1, 0, none⟩ = some (.int .i64 (pre.length : Int)) := (World.cell?_of_block (a := ⟨rB + 1, 0, none⟩) (heap_setCell_other _ ⟨lo, 0, none⟩ (rB + 1) _ (show rB + 1 ≠ lo by omega))).trans hS1
        have hS3 : ((W3.drew.setCell ⟨lo, 0, none⟩ (.slice none 0 0)).setCell ⟨lo + 1, 0, none⟩ (.int .i64 ((pre.length : Int) + 2))).cell? ⟨rB + 1, 0, none⟩ = some (.int .i64 (pre.length : Int)) := (World.cell?_of_block (a := ⟨rB + 1, 0, none⟩) (heap_setCell_other _ ⟨lo + 1, 0, none⟩ (rB + 1) _ (show rB + 1 ≠ lo + 1 by omega))).trans hS2
        replace hS2 := hidR hS2
        replace hS3 := hidR hS3
        refine region_round (S := fun z => z.cell? ⟨rB + 1, 0, none⟩ = some (.int .i64 (pre.length : Int))) (by kernel_rfl) (noDefer_of (by kernel_rfl)) (by rintro ⟨_, _, h⟩; exact h) hS1 (fun hH => ?_)
        clear hH rn r0 f0 r1 f1
        generalize W3.drew = W9 at hS1 hS2 hS3 hbd g0 g0f g1 g1f ⊢
        refine take_dst 0 39 (.agg #[.slice none 0 0]) rfl (by kernel_rfl) (by kernel_rfl) (by kernel_rfl) (fun _ _ _ h => h) (Or.inl ⟨by rfl, by intro wv hSv; go_simp⟩) hS1 rfl ?_
        try simp only [Act.put, List.setIfInBounds_toArray, List.set_cons_zero, List.set_cons_succ]
        refine take_dst 1 40 (.int .i64 (pre.length : Int)) rfl (by kernel_rfl) (by kernel_rfl) (by kernel_rfl) (fun _ _ _ h => h) (Or.inl ⟨by rfl, by intro wv hSv; (try dsimp only at hSv); go_simp⟩) hS1 rfl ?_
        try simp only [Act.put, List.setIfInBounds_toArray, List.set_cons_zero, List.set_cons_succ]
        refine take_dst 2 41 (.int .i64 ((pre.length : Int) + 2)) rfl (by kernel_rfl) (by kernel_rfl) (by kernel_rfl) (fun _ _ _ h => h) (Or.inl ⟨by rfl, by intro wv hSv; go_simp⟩) hS1 rfl ?_
        try simp only [Act.put, List.setIfInBounds_toArray, List.set_cons_zero, List.set_cons_succ]
        refine wpAnyH_ready (rs := [3]) (by kernel_rfl) (by simp) ?_
        refine AllReadyH.cons rfl (fun K9 hK => ?_) AllReadyH.nil
        go_simp
        refine hK.out _ _ hS2.out (fun _ => ?_)
        clear hK K9
        try simp only [Act.put, List.setIfInBounds_toArray, List.set_cons_zero, List.set_cons_succ]
        refine wpAnyH_ready (rs := [4]) (by kernel_rfl) (by simp) ?_
        refine AllReadyH.cons rfl (fun K9 hK => ?_) AllReadyH.nil
        go_simp
        refine hK.out _ _ hS3.out (fun _ => ?_)
        clear hK K9
        try simp only [Act.put, List.setIfInBounds_toArray, List.set_cons_zero, List.set_cons_succ]
        refine wpAnyH_done (by kernel_rfl) ?_ _
        gi_wp2_with fail
        exact hbd.out


    | const =>
      rcases hfind with ⟨v9, j9, e9, hfind⟩ | ⟨e9, _⟩
      rotate_left
      · cases e9
      cases e9
      have hcut9 := hidR (show cutB 32 (trimNL x) = constB' :: r by rw [hpp]; exact hcut.out)
      replace hpp := hidR hpp
      have hlk : ∀ wv : World, wv.heap[lo + 3 + 3]? = some (.map (ents (lo + 3) (lo + 3 + 1) (lo + 3 + 2) ib ob 34).toArray 38) → (Instr.lookup 35 (.map (some (lo + 3 + 3))) (.string p0) true).run Tryz.prog wv = .ok (.tuple #[.func (.func 29) #[] #[.pointer (some ⟨lo + 3 + 1, 0, none⟩)], .bool true]) wv := fun wv h9 => run_lookup_hit Tryz.underlying35 Tryz.underlying9 h9 hfind
      refine take_dst 0 23 (.map (some (lo + 3 + 3))) rfl (by kernel_rfl) (by kernel_rfl) (by kernel_rfl) (fun _ _ _ h => h) (Or.inl ⟨by rfl, by intro wv hSv; (try dsimp only at hSv); obtain ⟨k7, k8, k9⟩ := hSv; go_simp⟩) hS0 rfl ?_
      try simp only [Act.put, List.setIfInBounds_toArray, List.set_cons_zero, List.set_cons_succ]
      refine take_dst 1 24 (.slice (some ⟨gw, 0, none⟩) (r.length + 1) (r.length + 1)) rfl (by kernel_rfl) (by kernel_rfl) (by kernel_rfl) (fun _ _ _ h => h) (Or.inl ⟨by rfl, by intro wv hSv; (try dsimp only at hSv); obtain ⟨k7, k8, k9⟩ := hSv; go_simp⟩) hS0 rfl ?_
      try simp only [Act.put, List.setIfInBounds_toArray, List.set_cons_zero, List.set_cons_succ]
      refine take_dst 2 25 (.pointer (some ⟨gw, 0, none⟩)) rfl (by kernel_rfl) (by kernel_rfl) (by kernel_rfl) (fun _ _ _ h => h) (Or.inl ⟨by rfl, by intro wv hSv; (try dsimp only at hSv); obtain ⟨k7, k8, k9⟩ := hSv; go_simp⟩) hS0 rfl ?_
      try simp only [Act.put, List.setIfInBounds_toArray, List.set_cons_zero, List.set_cons_succ]
      refine take_dst 3 26 (.string p0) rfl (by kernel_rfl) (by kernel_rfl) (by kernel_rfl) (fun _ _ _ h => h) (Or.inl ⟨by rfl, by intro wv hSv; (try dsimp only at hSv); obtain ⟨k7, k8, k9⟩ := hSv; go_simp⟩) hS0 rfl ?_
      try simp only [Act.put, List.setIfInBounds_toArray, List.set_cons_zero, List.set_cons_succ]
      refine take_dst 4 27 (.tuple #[.func (.func 29) #[] #[.pointer (some ⟨lo + 3 + 1, 0, none⟩)], .bool true]) rfl (by kernel_rfl) (by kernel_rfl) (by kernel_rfl) (fun _ _ _ h => h) (Or.inl ⟨by rfl, by intro wv hSv; obtain ⟨k7, k8, k9⟩ := hSv; have k6 := hlk wv k9; clear hlk; go_simp⟩) hS0 rfl ?_
      try simp only [Act.put, List.setIfInBounds_toArray, List.set_cons_zero, List.set_cons_succ]
      refine take_dst 5 22 (.tuple #[.func (.func 29) #[] #[.pointer (some ⟨lo + 3 + 1, 0, none⟩)], .bool true]) rfl (by kernel_rfl) (by kernel_rfl) (by kernel_rfl) (fun _ _ _ h => h) (Or.inl ⟨by rfl, by intro wv hSv; (try dsimp only at hSv); obtain ⟨k7, k8, k9⟩ := hSv; go_simp⟩) hS0 rfl ?_
      try simp only [Act.put, List.setIfInBounds_toArray, List.set_cons_zero, List.set_cons_succ]
      refine take_dst 6 28 (.func (.func 29) #[] #[.pointer (some ⟨lo + 3 + 1, 0, none⟩)]) rfl (by kernel_rfl) (by kernel_rfl) (by kernel_rfl) (fun _ _ _ h => h) (Or.inl ⟨by rfl, by intro wv hSv; (try dsimp only at hSv); obtain ⟨k7, k8, k9⟩ := hSv; go_simp⟩) hS0 rfl ?_
      try simp only [Act.put, List.setIfInBounds_toArray, List.set_cons_zero, List.set_cons_succ]
      refine take_dst 7 29 (.bool true) rfl (by kernel_rfl) (by kernel_rfl) (by kernel_rfl) (fun _ _ _ h => h) (Or.inl ⟨by rfl, by intro wv hSv; (try dsimp only at hSv); obtain ⟨k7, k8, k9⟩ := hSv; go_simp⟩) hS0 rfl ?_
      try simp only [Act.put, List.setIfInBounds_toArray, List.set_cons_zero, List.set_cons_succ]
      refine take_dst 8 9 (.func (.func 29) #[] #[.pointer (some ⟨lo + 3 + 1, 0, none⟩)]) rfl (by kernel_rfl) (by kernel_rfl) (by kernel_rfl) (fun _ _ _ h => h) (Or.inl ⟨by rfl, by intro wv hSv; (try dsimp only at hSv); obtain ⟨k7, k8, k9⟩ := hSv; go_simp⟩) hS0 rfl ?_
      try simp only [Act.put, List.setIfInBounds_toArray, List.set_cons_zero, List.set_cons_succ]
      refine take_dst 9 10 (.bool true) rfl (by kernel_rfl) (by kernel_rfl) (by kernel_rfl) (fun _ _ _ h => h) (Or.inl ⟨by rfl, by intro wv hSv; (try dsimp only at hSv); obtain ⟨k7, k8, k9⟩ := hSv; go_simp⟩) hS0 rfl ?_
      try simp only [Act.put, List.setIfInBounds_toArray, List.set_cons_zero, List.set_cons_succ]
      refine wpAnyH_done (by kernel_rfl) ?_ _
      clear hlk hS0
      have hcon := hidR (read_const r gw o c W2 hcap.out (by omega) hrl hcr.out hgw2 hrz.out hv2.out (rB + 1 + 1 + 1) (lo + 2) (lo + 3) (lo + 3 + 1) sv Q hm2.out hfew.out)
      gi_wp2_with fail
      refine ⟨trivial, fun _ => by omega, ?_⟩
      refine (CallsIn.inRound l (callsIn_wide.2 hcon.out)).mono ?_
      rintro e W3 ⟨b9, R9, rfl, hls, hyes, hno, hch⟩
      clear hcon
      cases b9 with
      | true =>
        obtain ⟨sv2, Q2, hR9, hm9, hft⟩ := hyes rfl
        rw [hR9] at hls
        have rn3 := (hIh.out.after hnum (by omega) b2 hch).1
        have rn := rn3.cell 0 rfl
        have fn := rn3.frozen 0
        have hfin := hidR (AI.step hIh.out hU.out hnum (by omega) b2 hch hm9 hft hcut9.out hls)
        clear rn3 hyes hno hls hR9 hm9 hft hch
        gi_wp2_with fail
        exact hfin.out
      | false =>
        have hN9 := hno rfl
        rw [hN9] at hls
        clear hyes hno hN9
        have haft := hIh.out.after hnum (by omega) b2 hch
        have hbd := hidR (AI.bad hIh.out hU.out hnum (by omega) b2 hch hcut9.out hls).2
        have rn := haft.1.cell 0 rfl
        have r0 := haft.2.1.cell 0 rfl
        have f0 := haft.2.1.frozen 0
        have r1 := haft.2.2.cell 0 rfl
        have f1 := haft.2.2.frozen 0
        clear haft
        gi_wp2_with fail
        have hS1 : W3.drew.cell? ⟨rB + 1, 0, none⟩ = some (.int .i64 (pre.length : Int)) := rn
        have g0 : W3.drew.cell? ⟨lo, 0, none⟩ = some (.slice none 0 0) := r0
        have g0f : W3.drew.frozen? ⟨lo, 0, none⟩ = false := f0
        have g1 : W3.drew.cell? ⟨lo + 1, 0, none⟩ = some (.int .i64 0) := r1
        have g1f : W3.drew.frozen? ⟨lo + 1, 0, none⟩ = false := f1
        have hS2 : (W3.drew.setCell ⟨lo, 0, none⟩ (.slice none 0 0)).cell? ⟨rB + 1, 0, none⟩ = some (.int .i64 (pre.length : Int)) := (World.cell?_of_block (a := ⟨rB + 1, 0, none⟩) (heap_setCell_other _ ⟨lo, 0, none⟩ (rB + 1) _ (show rB + 1 ≠ lo by omega))).trans hS1
        have hS3 : ((W3.drew.setCell ⟨lo, 0, none⟩ (.slice none 0 0)).setCell ⟨lo + 1, 0, none⟩ (.int .i64 ((pre.length : Int) + 2))).cell? ⟨rB + 1, 0, none⟩ = some (.int .i64 (pre.length : Int)) := (World.cell?_of_block (a := ⟨rB + 1, 0, none⟩) (heap_setCell_other _ ⟨lo + 1, 0, none⟩ (rB + 1) _ (show rB + 1 ≠ lo + 1 by omega))).trans hS2
        replace hS2 := hidR hS2
        replace hS3 := hidR hS3
        refine region_round (S := fun z => z.cell? ⟨rB + 1, 0, none⟩ = some (.int .i64 (pre.length : Int))) (by kernel_rfl) (noDefer_of (by kernel_rfl)) (by rintro ⟨_, _, h⟩; exact h) hS1 (fun hH => ?_)
        clear hH rn r0 f0 r1 f1
        generalize W3.drew = W9 at hS1 hS2 hS3 hbd g0 g0f g1 g1f ⊢
        refine take_dst 0 39 (.agg #[.slice none 0 0]) rfl (by kernel_rfl) (by kernel_rfl) (by kernel_rfl) (fun _ _ _ h => h) (Or.inl ⟨by rfl, by intro wv hSv; go_simp⟩) hS1 rfl ?_
        try simp only [Act.put, List.setIfInBounds_toArray, List.set_cons_zero, List.set_cons_succ]
        refine take_dst 1 40 (.int .i64 (pre.length : Int)) rfl (by kernel_rfl) (by kernel_rfl) (by kernel_rfl) (fun _ _ _ h => h) (Or.inl ⟨by rfl, by intro wv hSv; (try dsimp only at hSv); go_simp⟩) hS1 rfl ?_
        try simp only [Act.put, List.setIfInBounds_toArray, List.set_cons_zero, List.set_cons_succ]
        refine take_dst 2 41 (.int .i64 ((pre.length : Int) + 2)) rfl (by kernel_rfl) (by kernel_rfl) (by kernel_rfl) (fun _ _ _ h => h) (Or.inl ⟨by rfl, by intro wv hSv; go_simp⟩) hS1 rfl ?_
        try simp only [Act.put, List.setIfInBounds_toArray, List.set_cons_zero, List.set_cons_succ]
        refine wpAnyH_ready (rs := [3]) (by kernel_rfl) (by simp) ?_
        refine AllReadyH.cons rfl (fun K9 hK => ?_) AllReadyH.nil
        go_simp
        refine hK.out _ _ hS2.out (fun _ => ?_)
        clear hK K9
        try simp only [Act.put, List.setIfInBounds_toArray, List.set_cons_zero, List.set_cons_succ]
        refine wpAnyH_ready (rs := [4]) (by kernel_rfl) (by simp) ?_
        refine AllReadyH.cons rfl (fun K9 hK => ?_) AllReadyH.nil
        go_simp
        refine hK.out _ _ hS3.out (fun _ => ?_)
        clear hK K9
        try simp only [Act.put, List.setIfInBounds_toArray, List.set_cons_zero, List.set_cons_succ]
        refine wpAnyH_done (by kernel_rfl) ?_ _
        gi_wp2_with fail
        exact hbd.out


    | up =>
      rcases hfind with ⟨v9, j9, e9, hfind⟩ | ⟨e9, _⟩
      rotate_left
      · cases e9
      cases e9
      have hcut9 := hidR (show cutB 32 (trimNL x) = upB' :: r by rw [hpp]; exact hcut.out)
      replace hpp := hidR hpp
      have hlk : ∀ wv : World, wv.heap[lo + 3 + 3]? = some (.map (ents (lo + 3) (lo + 3 + 1) (lo + 3 + 2) ib ob 34).toArray 38) → (Instr.lookup 35 (.map (some (lo + 3 + 3))) (.string p0) true).run Tryz.prog wv = .ok (.tuple #[.func (.func 31) #[] #[.pointer (some ⟨lo + 3 + 1, 0, none⟩)], .bool true]) wv := fun wv h9 => run_lookup_hit Tryz.underlying35 Tryz.underlying9 h9 hfind
      refine take_dst 0 23 (.map (some (lo + 3 + 3))) rfl (by kernel_rfl) (by kernel_rfl) (by kernel_rfl) (fun _ _ _ h => h) (Or.inl ⟨by rfl, by intro wv hSv; (try dsimp only at hSv); obtain ⟨k7, k8, k9⟩ := hSv; go_simp⟩) hS0 rfl ?_
      try simp only [Act.put, List.setIfInBounds_toArray, List.set_cons_zero, List.set_cons_succ]
      refine take_dst 1 24 (.slice (some ⟨gw, 0, none⟩) (r.length + 1) (r.length + 1)) rfl (by kernel_rfl) (by kernel_rfl) (by kernel_rfl) (fun _ _ _ h => h) (Or.inl ⟨by rfl, by intro wv hSv; (try dsimp only at hSv); obtain ⟨k7, k8, k9⟩ := hSv; go_simp⟩) hS0 rfl ?_
      try simp only [Act.put, List.setIfInBounds_toArray, List.set_cons_zero, List.set_cons_succ]
      refine take_dst 2 25 (.pointer (some ⟨gw, 0, none⟩)) rfl (by kernel_rfl) (by kernel_rfl) (by kernel_rfl) (fun _ _ _ h => h) (Or.inl ⟨by rfl, by intro wv hSv; (try dsimp only at hSv); obtain ⟨k7, k8, k9⟩ := hSv; go_simp⟩) hS0 rfl ?_
      try simp only [Act.put, List.setIfInBounds_toArray, List.set_cons_zero, List.set_cons_succ]
      refine take_dst 3 26 (.string p0) rfl (by kernel_rfl) (by kernel_rfl) (by kernel_rfl) (fun _ _ _ h => h) (Or.inl ⟨by rfl, by intro wv hSv; (try dsimp only at hSv); obtain ⟨k7, k8, k9⟩ := hSv; go_simp⟩) hS0 rfl ?_
      try simp only [Act.put, List.setIfInBounds_toArray, List.set_cons_zero, List.set_cons_succ]
      refine take_dst 4 27 (.tuple #[.func (.func 31) #[] #[.pointer (some ⟨lo + 3 + 1, 0, none⟩)], .bool true]) rfl (by kernel_rfl) (by kernel_rfl) (by kernel_rfl) (fun _ _ _ h => h) (Or.inl ⟨by rfl, by intro wv hSv; obtain ⟨k7, k8, k9⟩ := hSv; have k6 := hlk wv k9; clear hlk; go_simp⟩) hS0 rfl ?_
      try simp only [Act.put, List.setIfInBounds_toArray, List.set_cons_zero, List.set_cons_succ]
      refine take_dst 5 22 (.tuple #[.func (.func 31) #[] #[.pointer (some ⟨lo + 3 + 1, 0, none⟩)], .bool true]) rfl (by kernel_rfl) (by kernel_rfl) (by kernel_rfl) (fun _ _ _ h => h) (Or.inl ⟨by rfl, by intro wv hSv; (try dsimp only at hSv); obtain ⟨k7, k8, k9⟩ := hSv; go_simp⟩) hS0 rfl ?_
      try simp only [Act.put, List.setIfInBounds_toArray, List.set_cons_zero, List.set_cons_succ]
      refine take_dst 6 28 (.func (.func 31) #[] #[.pointer (some ⟨lo + 3 + 1, 0, none⟩)]) rfl (by kernel_rfl) (by kernel_rfl) (by kernel_rfl) (fun _ _ _ h => h) (Or.inl ⟨by rfl, by intro wv hSv; (try dsimp only at hSv); obtain ⟨k7, k8, k9⟩ := hSv; go_simp⟩) hS0 rfl ?_
      try simp only [Act.put, List.setIfInBounds_toArray, List.set_cons_zero, List.set_cons_succ]
      refine take_dst 7 29 (.bool true) rfl (by kernel_rfl) (by kernel_rfl) (by kernel_rfl) (fun _ _ _ h => h) (Or.inl ⟨by rfl, by intro wv hSv; (try dsimp only at hSv); obtain ⟨k7, k8, k9⟩ := hSv; go_simp⟩) hS0 rfl ?_
      try simp only [Act.put, List.setIfInBounds_toArray, List.set_cons_zero, List.set_cons_succ]
      refine take_dst 8 9 (.func (.func 31) #[] #[.pointer (some ⟨lo + 3 + 1, 0, none⟩)]) rfl (by kernel_rfl) (by kernel_rfl) (by kernel_rfl) (fun _ _ _ h => h) (Or.inl ⟨by rfl, by intro wv hSv; (try dsimp only at hSv); obtain ⟨k7, k8, k9⟩ := hSv; go_simp⟩) hS0 rfl ?_
      try simp only [Act.put, List.setIfInBounds_toArray, List.set_cons_zero, List.set_cons_succ]
      refine take_dst 9 10 (.bool true) rfl (by kernel_rfl) (by kernel_rfl) (by kernel_rfl) (fun _ _ _ h => h) (Or.inl ⟨by rfl, by intro wv hSv; (try dsimp only at hSv); obtain ⟨k7, k8, k9⟩ := hSv; go_simp⟩) hS0 rfl ?_
      try simp only [Act.put, List.setIfInBounds_toArray, List.set_cons_zero, List.set_cons_succ]
      refine wpAnyH_done (by kernel_rfl) ?_ _
      clear hlk hS0
      have hcon := hidR (read_up r gw o c W2 hcap.out (by omega) hrl hcr.out hgw2 hrz.out hv2.out (rB + 1 + 1 + 1) (lo + 2) (lo + 3) (lo + 3 + 1) sv Q hm2.out hfew.out)
      gi_wp2_with fail
      refine ⟨trivial, fun _ => by omega, ?_⟩
      refine (CallsIn.inRound l (callsIn_wide.2 hcon.out)).mono ?_
      rintro e W3 ⟨b9, R9, rfl, hls, hyes, hno, hch⟩
      clear hcon
      cases b9 with
      | true =>
        obtain ⟨sv2, Q2, hR9, hm9, hft⟩ := hyes rfl
        rw [hR9] at hls
        have rn3 := (hIh.out.after hnum (by omega) b2 hch).1
        have rn := rn3.cell 0 rfl
        have fn := rn3.frozen 0
        have hfin := hidR (AI.step hIh.out hU.out hnum (by omega) b2 hch hm9 hft hcut9.out hls)
        clear rn3 hyes hno hls hR9 hm9 hft hch
        gi_wp2_with fail
        exact hfin.out
      | false =>
        have hN9 := hno rfl
        rw [hN9] at hls
        clear hyes hno hN9
        have haft := hIh.out.after hnum (by omega) b2 hch
        have hbd := hidR (AI.bad hIh.out hU.out hnum (by omega) b2 hch hcut9.out hls).2
        have rn := haft.1.cell 0 rfl
        have r0 := haft.2.1.cell 0 rfl
        have f0 := haft.2.1.frozen 0
        have r1 := haft.2.2.cell 0 rfl
        have f1 := haft.2.2.frozen 0
        clear haft
        gi_wp2_with fail
        have hS1 : W3.drew.cell? ⟨rB + 1, 0, none⟩ = some (.int .i64 (pre.length : Int)) := rn
        have g0 : W3.drew.cell? ⟨lo, 0, none⟩ = some (.slice none 0 0) := r0
        have g0f : W3.drew.frozen? ⟨lo, 0, none⟩ = false := f0
        have g1 : W3.drew.cell? ⟨lo + 1, 0, none⟩ = some (.int .i64 0) := r1
        have g1f : W3.drew.frozen? ⟨lo + 1, 0, none⟩ = false := f1
        have hS2 : (W3.drew.setCell ⟨lo, 0, none⟩ (.slice none 0 0)).cell? ⟨rB + 1, 0, none⟩ = some (.int .i64 (pre.length : Int)) := (World.cell?_of_block (a := ⟨rB + 1, 0, none⟩) (heap_setCell_other _ ⟨lo, 0, none⟩ (rB + 1) _ (show rB + 1 ≠ lo by omega))).trans hS1
        have hS3 : ((W3.drew.setCell ⟨lo, 0, none⟩ (.slice none 0 0)).setCell ⟨lo + 1, 0, none⟩ (.int .i64 ((pre.length : Int) + 2))).cell? ⟨rB + 1, 0, none⟩ = some (.int .i64 (pre.length : Int)) := (World.cell?_of_block (a := ⟨rB + 1, 0, none⟩) (heap_setCell_other _ ⟨lo + 1, 0, none⟩ (rB + 1) _ (show rB + 1 ≠ lo + 1 by omega))).trans hS2
        replace hS2 := hidR hS2
        replace hS3 := hidR hS3
        refine region_round (S := fun z => z.cell? ⟨rB + 1, 0, none⟩ = some (.int .i64 (pre.length : Int))) (by kernel_rfl) (noDefer_of (by kernel_rfl)) (by rintro ⟨_, _, h⟩; exact h) hS1 (fun hH => ?_)
        clear hH rn r0 f0 r1 f1
        generalize W3.drew = W9 at hS1 hS2 hS3 hbd g0 g0f g1 g1f ⊢
        refine take_dst 0 39 (.agg #[.slice none 0 0]) rfl (by kernel_rfl) (by kernel_rfl) (by kernel_rfl) (fun _ _ _ h => h) (Or.inl ⟨by rfl, by intro wv hSv; go_simp⟩) hS1 rfl ?_
        try simp only [Act.put, List.setIfInBounds_toArray, List.set_cons_zero, List.set_cons_succ]
        refine take_dst 1 40 (.int .i64 (pre.length : Int)) rfl (by kernel_rfl) (by kernel_rfl) (by kernel_rfl) (fun _ _ _ h => h) (Or.inl ⟨by rfl, by intro wv hSv; (try dsimp only at hSv); go_simp⟩) hS1 rfl ?_
        try simp only [Act.put, List.setIfInBounds_toArray, List.set_cons_zero, List.set_cons_succ]
        refine take_dst 2 41 (.int .i64 ((pre.length : Int) + 2)) rfl (by kernel_rfl) (by kernel_rfl) (by kernel_rfl) (fun _ _ _ h => h) (Or.inl ⟨by rfl, by intro wv hSv; go_simp⟩) hS1 rfl ?_
        try simp only [Act.put, List.setIfInBounds_toArray, List.set_cons_zero, List.set_cons_succ]
        refine wpAnyH_ready (rs := [3]) (by kernel_rfl) (by simp) ?_
        refine AllReadyH.cons rfl (fun K9 hK => ?_) AllReadyH.nil
        go_simp
        refine hK.out _ _ hS2.out (fun _ => ?_)
        clear hK K9
        try simp only [Act.put, List.setIfInBounds_toArray, List.set_cons_zero, List.set_cons_succ]
        refine wpAnyH_ready (rs := [4]) (by kernel_rfl) (by simp) ?_
        refine AllReadyH.cons rfl (fun K9 hK => ?_) AllReadyH.nil
        go_simp
        refine hK.out _ _ hS3.out (fun _ => ?_)
        clear hK K9
        try simp only [Act.put, List.setIfInBounds_toArray, List.set_cons_zero, List.set_cons_succ]
        refine wpAnyH_done (by kernel_rfl) ?_ _
        gi_wp2_with fail
        exact hbd.out


    | word =>
      rcases hfind with ⟨v9, j9, e9, hfind⟩ | ⟨e9, _⟩
      rotate_left
      · cases e9
      cases e9
      have hcut9 := hidR (show cutB 32 (trimNL x) = wordB :: r by rw [hpp]; exact hcut.out)
      replace hpp := hidR hpp
      have hlk : ∀ wv : World, wv.heap[lo + 3 + 3]? = some (.map (ents (lo + 3) (lo + 3 + 1) (lo + 3 + 2) ib ob 34).toArray 38) → (Instr.lookup 35 (.map (some (lo + 3 + 3))) (.string p0) true).run Tryz.prog wv = .ok (.tuple #[.func (.func 33) #[] #[.pointer (some ⟨lo + 3 + 2, 0, none⟩)], .bool true]) wv := fun wv h9 => run_lookup_hit Tryz.underlying35 Tryz.underlying9 h9 hfind
      refine take_dst 0 23 (.map (some (lo + 3 + 3))) rfl (by kernel_rfl) (by kernel_rfl) (by kernel_rfl) (fun _ _ _ h => h) (Or.inl ⟨by rfl, by intro wv hSv; (try dsimp only at hSv); obtain ⟨k7, k8, k9⟩ := hSv; go_simp⟩) hS0 rfl ?_
      try simp only [Act.put, List.setIfInBounds_toArray, List.set_cons_zero, List.set_cons_succ]
      refine take_dst 1 24 (.slice (some ⟨gw, 0, none⟩) (r.length + 1) (r.length + 1)) rfl (by kernel_rfl) (by kernel_rfl) (by kernel_rfl) (fun _ _ _ h => h) (Or.inl ⟨by rfl, by intro wv hSv; (try dsimp only at hSv); obtain ⟨k7, k8, k9⟩ := hSv; go_simp⟩) hS0 rfl ?_
      try simp only [Act.put, List.setIfInBounds_toArray, List.set_cons_zero, List.set_cons_succ]
      refine take_dst 2 25 (.pointer (some ⟨gw, 0, none⟩)) rfl (by kernel_rfl) (by kernel_rfl) (by kernel_rfl) (fun _ _ _ h => h) (Or.inl ⟨by rfl, by intro wv hSv; (try dsimp only at hSv); obtain ⟨k7, k8, k9⟩ := hSv; go_simp⟩) hS0 rfl ?_
      try simp only [Act.put, List.setIfInBounds_toArray, List.set_cons_zero, List.set_cons_succ]
      refine take_dst 3 26 (.string p0) rfl (by kernel_rfl) (by kernel_rfl) (by kernel_rfl) (fun _ _ _ h => h) (Or.inl ⟨by rfl, by intro wv hSv; (try dsimp only at hSv); obtain ⟨k7, k8, k9⟩ := hSv; go_simp⟩) hS0 rfl ?_
      try simp only [Act.put, List.setIfInBounds_toArray, List.set_cons_zero, List.set_cons_succ]
      refine take_dst 4 27 (.tuple #[.func (.func 33) #[] #[.pointer (some ⟨lo + 3 + 2, 0, none⟩)], .bool true]) rfl (by kernel_rfl) (by kernel_rfl) (by kernel_rfl) (fun _ _ _ h => h) (Or.inl ⟨by rfl, by intro wv hSv; obtain ⟨k7, k8, k9⟩ := hSv; have k6 := hlk wv k9; clear hlk; go_simp⟩) hS0 rfl ?_
      try simp only [Act.put, List.setIfInBounds_toArray, List.set_cons_zero, List.set_cons_succ]
      refine take_dst 5 22 (.tuple #[.func (.func 33) #[] #[.pointer (some ⟨lo + 3 + 2, 0, none⟩)], .bool true]) rfl (by kernel_rfl) (by kernel_rfl) (by kernel_rfl) (fun _ _ _ h => h) (Or.inl ⟨by rfl, by intro wv hSv; (try dsimp only at hSv); obtain ⟨k7, k8, k9⟩ := hSv; go_simp⟩) hS0 rfl ?_
      try simp only [Act.put, List.setIfInBounds_toArray, List.set_cons_zero, List.set_cons_succ]
      refine take_dst 6 28 (.func (.func 33) #[] #[.pointer (some ⟨lo + 3 + 2, 0, none⟩)]) rfl (by kernel_rfl) (by kernel_rfl) (by kernel_rfl) (fun _ _ _ h => h) (Or.inl ⟨by rfl, by intro wv hSv; (try dsimp only at hSv); obtain ⟨k7, k8, k9⟩ := hSv; go_simp⟩) hS0 rfl ?_
      try simp only [Act.put, List.setIfInBounds_toArray, List.set_cons_zero, List.set_cons_succ]
      refine take_dst 7 29 (.bool true) rfl (by kernel_rfl) (by kernel_rfl) (by kernel_rfl) (fun _ _ _ h => h) (Or.inl ⟨by rfl, by intro wv hSv; (try dsimp only at hSv); obtain ⟨k7, k8, k9⟩ := hSv; go_simp⟩) hS0 rfl ?_
      try simp only [Act.put, List.setIfInBounds_toArray, List.set_cons_zero, List.set_cons_succ]
      refine take_dst 8 9 (.func (.func 33) #[] #[.pointer (some ⟨lo + 3 + 2, 0, none⟩)]) rfl (by kernel_rfl) (by kernel_rfl) (by kernel_rfl) (fun _ _ _ h => h) (Or.inl ⟨by rfl, by intro wv hSv; (try dsimp only at hSv); obtain ⟨k7, k8, k9⟩ := hSv; go_simp⟩) hS0 rfl ?_
      try simp only [Act.put, List.setIfInBounds_toArray, List.set_cons_zero, List.set_cons_succ]
      refine take_dst 9 10 (.bool true) rfl (by kernel_rfl) (by kernel_rfl) (by kernel_rfl) (fun _ _ _ h => h) (Or.inl ⟨by rfl, by intro wv hSv; (try dsimp only at hSv); obtain ⟨k7, k8, k9⟩ := hSv; go_simp⟩) hS0 rfl ?_
      try simp only [Act.put, List.setIfInBounds_toArray, List.set_cons_zero, List.set_cons_succ]
      refine wpAnyH_done (by kernel_rfl) ?_ _
      clear hlk hS0
      have hcon := hidR (read_word r gw o c W2 hcap.out (by omega) hrl hcr.out hgw2 hrz.out hv2.out (rB + 1 + 1 + 1) (lo + 2) (lo + 3) (lo + 3 + 1) (lo + 3 + 2) sv Q hm2.out hfew.out ha2.out (by omega) (by omega) (by omega))
      gi_wp2_with fail
      refine ⟨trivial, fun _ => by omega, ?_⟩
      refine (CallsIn.inRound l (callsIn_wide.2 hcon.out)).mono ?_
      rintro e W3 ⟨b9, R9, rfl, hls, hyes, hno, hch⟩
      clear hcon
      cases b9 with
      | true =>
        obtain ⟨sv2, Q2, hR9, hm9, hft⟩ := hyes rfl
        rw [hR9] at hls
        have rn3 := (hIh.out.after hnum (by omega) b2 hch).1
        have rn := rn3.cell 0 rfl
        have fn := rn3.frozen 0
        have hfin := hidR (AI.step hIh.out hU.out hnum (by omega) b2 hch hm9 hft hcut9.out hls)
        clear rn3 hyes hno hls hR9 hm9 hft hch
        gi_wp2_with fail
        exact hfin.out
      | false =>
        have hN9 := hno rfl
        rw [hN9] at hls
        clear hyes hno hN9
        have haft := hIh.out.after hnum (by omega) b2 hch
        have hbd := hidR (AI.bad hIh.out hU.out hnum (by omega) b2 hch hcut9.out hls).2
        have rn := haft.1.cell 0 rfl
        have r0 := haft.2.1.cell 0 rfl
        have f0 := haft.2.1.frozen 0
        have r1 := haft.2.2.cell 0 rfl
        have f1 := haft.2.2.frozen 0
        clear haft
        gi_wp2_with fail
        have hS1 : W3.drew.cell? ⟨rB + 1, 0, none⟩ = some (.int .i64 (pre.length : Int)) := rn
        have g0 : W3.drew.cell? ⟨lo, 0, none⟩ = some (.slice none 0 0) := r0
        have g0f : W3.drew.frozen? ⟨lo, 0, none⟩ = false := f0
        have g1 : W3.drew.cell? ⟨lo + 1, 0, none⟩ = some (.int .i64 0) := r1
        have g1f : W3.drew.frozen? ⟨lo + 1, 0, none⟩ = false := f1
        have hS2 : (W3.drew.setCell ⟨lo, 0, none⟩ (.slice none 0 0)).cell? ⟨rB + 1, 0, none⟩ = some (.int .i64 (pre.length : Int)) := (World.cell?_of_block (a := ⟨rB + 1, 0, none⟩) (heap_setCell_other _ ⟨lo, 0, none⟩ (rB + 1) _ (show rB + 1 ≠ lo by omega))).trans hS1
        have hS3 : ((W3.drew.setCell ⟨lo, 0, none⟩ (.slice none 0 0)).setCell ⟨lo + 1, 0, none⟩ (.int .i64 ((pre.length : Int) + 2))).cell? ⟨rB + 1, 0, none⟩ = some (.int .i64 (pre.length : Int)) := (World.cell?_of_block (a := ⟨rB + 1, 0, none⟩) (heap_setCell_other _ ⟨lo + 1, 0, none⟩ (rB + 1) _ (show rB + 1 ≠ lo + 1 by omega))).trans hS2
        replace hS2 := hidR hS2
        replace hS3 := hidR hS3
        refine region_round (S := fun z => z.cell? ⟨rB + 1, 0, none⟩ = some (.int .i64 (pre.length : Int))) (by kernel_rfl) (noDefer_of (by kernel_rfl)) (by rintro ⟨_, _, h⟩; exact h) hS1 (fun hH => ?_)
        clear hH rn r0 f0 r1 f1
        generalize W3.drew = W9 at hS1 hS2 hS3 hbd g0 g0f g1 g1f ⊢
        refine take_dst 0 39 (.agg #[.slice none 0 0]) rfl (by kernel_rfl) (by kernel_rfl) (by kernel_rfl) (fun _ _ _ h => h) (Or.inl ⟨by rfl, by intro wv hSv; go_simp⟩) hS1 rfl ?_
        try simp only [Act.put, List.setIfInBounds_toArray, List.set_cons_zero, List.set_cons_succ]
        refine take_dst 1 40 (.int .i64 (pre.length : Int)) rfl (by kernel_rfl) (by kernel_rfl) (by kernel_rfl) (fun _ _ _ h => h) (Or.inl ⟨by rfl, by intro wv hSv; (try dsimp only at hSv); go_simp⟩) hS1 rfl ?_
        try simp only [Act.put, List.setIfInBounds_toArray, List.set_cons_zero, List.set_cons_succ]
        refine take_dst 2 41 (.int .i64 ((pre.length : Int) + 2)) rfl (by kernel_rfl) (by kernel_rfl) (by kernel_rfl) (fun _ _ _ h => h) (Or.inl ⟨by rfl, by intro wv hSv; go_simp⟩) hS1 rfl ?_
        try simp only [Act.put, List.setIfInBounds_toArray, List.set_cons_zero, List.set_cons_succ]
        refine wpAnyH_ready (rs := [3]) (by kernel_rfl) (by simp) ?_
        refine AllReadyH.cons rfl (fun K9 hK => ?_) AllReadyH.nil
        go_simp
        refine hK.out _ _ hS2.out (fun _ => ?_)
        clear hK K9
        try simp only [Act.put, List.setIfInBounds_toArray, List.set_cons_zero, List.set_cons_succ]
        refine wpAnyH_ready (rs := [4]) (by kernel_rfl) (by simp) ?_
        refine AllReadyH.cons rfl (fun K9 hK => ?_) AllReadyH.nil
        go_simp
        refine hK.out _ _ hS3.out (fun _ => ?_)
        clear hK K9
        try simp only [Act.put, List.setIfInBounds_toArray, List.set_cons_zero, List.set_cons_succ]
        refine wpAnyH_done (by kernel_rfl) ?_ _
        gi_wp2_with fail
        exact hbd.out


    | @op k hk =>
      rcases hfind with ⟨v9, j9, e9, hfind⟩ | ⟨e9, _⟩
      rotate_left
      · cases e9
      cases e9
      have hcut9 := hidR (show cutB 32 (trimNL x) = nm k :: r by rw [hpp]; exact hcut.out)
      replace hpp := hidR hpp
      obtain ⟨q1, q2, q3, q4⟩ := hnum.i k hk
      have hi2 := ((hir.out k hk).1.call b2).cell 0 rfl
      have ho2' := hidR (((hir.out k hk).2.call b2).cell 0 rfl)
      unfold fI at hi2
      by_cases hwk : WideOp k
      · rw [if_pos hwk] at hi2
        replace hi2 := hidR hi2
        replace hwk := hidR hwk
        have hlk : ∀ wv : World, wv.heap[lo + 3 + 3]? = some (.map (ents (lo + 3) (lo + 3 + 1) (lo + 3 + 2) ib ob 34).toArray 38) → (Instr.lookup 35 (.map (some (lo + 3 + 3))) (.string p0) true).run Tryz.prog wv = .ok (.tuple #[.func (.func 38) #[] #[.pointer (some ⟨lo + 3 + 2, 0, none⟩), .pointer (some ⟨ib k, 0, none⟩), .pointer (some ⟨ob k, 0, none⟩)], .bool true]) wv := fun wv h9 => run_lookup_hit Tryz.underlying35 Tryz.underlying9 h9 hfind
        refine take_dst 0 23 (.map (some (lo + 3 + 3))) rfl (by kernel_rfl) (by kernel_rfl) (by kernel_rfl) (fun _ _ _ h => h) (Or.inl ⟨by rfl, by intro wv hSv; (try dsimp only at hSv); obtain ⟨k7, k8, k9⟩ := hSv; go_simp⟩) hS0 rfl ?_
        try simp only [Act.put, List.setIfInBounds_toArray, List.set_cons_zero, List.set_cons_succ]
        refine take_dst 1 24 (.slice (some ⟨gw, 0, none⟩) (r.length + 1) (r.length + 1)) rfl (by kernel_rfl) (by kernel_rfl) (by kernel_rfl) (fun _ _ _ h => h) (Or.inl ⟨by rfl, by intro wv hSv; (try dsimp only at hSv); obtain ⟨k7, k8, k9⟩ := hSv; go_simp⟩) hS0 rfl ?_
        try simp only [Act.put, List.setIfInBounds_toArray, List.set_cons_zero, List.set_cons_succ]
        refine take_dst 2 25 (.pointer (some ⟨gw, 0, none⟩)) rfl (by kernel_rfl) (by kernel_rfl) (by kernel_rfl) (fun _ _ _ h => h) (Or.inl ⟨by rfl, by intro wv hSv; (try dsimp only at hSv); obtain ⟨k7, k8, k9⟩ := hSv; go_simp⟩) hS0 rfl ?_
        try simp only [Act.put, List.setIfInBounds_toArray, List.set_cons_zero, List.set_cons_succ]
        refine take_dst 3 26 (.string p0) rfl (by kernel_rfl) (by kernel_rfl) (by kernel_rfl) (fun _ _ _ h => h) (Or.inl ⟨by rfl, by intro wv hSv; (try dsimp only at hSv); obtain ⟨k7, k8, k9⟩ := hSv; go_simp⟩) hS0 rfl ?_
        try simp only [Act.put, List.setIfInBounds_toArray, List.set_cons_zero, List.set_cons_succ]
        refine take_dst 4 27 (.tuple #[.func (.func 38) #[] #[.pointer (some ⟨lo + 3 + 2, 0, none⟩), .pointer (some ⟨ib k, 0, none⟩), .pointer (some ⟨ob k, 0, none⟩)], .bool true]) rfl (by kernel_rfl) (by kernel_rfl) (by kernel_rfl) (fun _ _ _ h => h) (Or.inl ⟨by rfl, by intro wv hSv; obtain ⟨k7, k8, k9⟩ := hSv; have k6 := hlk wv k9; clear hlk; go_simp⟩) hS0 rfl ?_
        try simp only [Act.put, List.setIfInBounds_toArray, List.set_cons_zero, List.set_cons_succ]
        refine take_dst 5 22 (.tuple #[.func (.func 38) #[] #[.pointer (some ⟨lo + 3 + 2, 0, none⟩), .pointer (some ⟨ib k, 0, none⟩), .pointer (some ⟨ob k, 0, none⟩)], .bool true]) rfl (by kernel_rfl) (by kernel_rfl) (by kernel_rfl) (fun _ _ _ h => h) (Or.inl ⟨by rfl, by intro wv hSv; (try dsimp only at hSv); obtain ⟨k7, k8, k9⟩ := hSv; go_simp⟩) hS0 rfl ?_
        try simp only [Act.put, List.setIfInBounds_toArray, List.set_cons_zero, List.set_cons_succ]
        refine take_dst 6 28 (.func (.func 38) #[] #[.pointer (some ⟨lo + 3 + 2, 0, none⟩), .pointer (some ⟨ib k, 0, none⟩), .pointer (some ⟨ob k, 0, none⟩)]) rfl (by kernel_rfl) (by kernel_rfl) (by kernel_rfl) (fun _ _ _ h => h) (Or.inl ⟨by rfl, by intro wv hSv; (try dsimp only at hSv); obtain ⟨k7, k8, k9⟩ := hSv; go_simp⟩) hS0 rfl ?_
        try simp only [Act.put, List.setIfInBounds_toArray, List.set_cons_zero, List.set_cons_succ]
        refine take_dst 7 29 (.bool true) rfl (by kernel_rfl) (by kernel_rfl) (by kernel_rfl) (fun _ _ _ h => h) (Or.inl ⟨by rfl, by intro wv hSv; (try dsimp only at hSv); obtain ⟨k7, k8, k9⟩ := hSv; go_simp⟩) hS0 rfl ?_
        try simp only [Act.put, List.setIfInBounds_toArray, List.set_cons_zero, List.set_cons_succ]
        refine take_dst 8 9 (.func (.func 38) #[] #[.pointer (some ⟨lo + 3 + 2, 0, none⟩), .pointer (some ⟨ib k, 0, none⟩), .pointer (some ⟨ob k, 0, none⟩)]) rfl (by kernel_rfl) (by kernel_rfl) (by kernel_rfl) (fun _ _ _ h => h) (Or.inl ⟨by rfl, by intro wv hSv; (try dsimp only at hSv); obtain ⟨k7, k8, k9⟩ := hSv; go_simp⟩) hS0 rfl ?_
        try simp only [Act.put, List.setIfInBounds_toArray, List.set_cons_zero, List.set_cons_succ]
        refine take_dst 9 10 (.bool true) rfl (by kernel_rfl) (by kernel_rfl) (by kernel_rfl) (fun _ _ _ h => h) (Or.inl ⟨by rfl, by intro wv hSv; (try dsimp only at hSv); obtain ⟨k7, k8, k9⟩ := hSv; go_simp⟩) hS0 rfl ?_
        try simp only [Act.put, List.setIfInBounds_toArray, List.set_cons_zero, List.set_cons_succ]
        refine wpAnyH_done (by kernel_rfl) ?_ _
        clear hlk hS0
        have hcon := hidR (read_op_wide r gw o c W2 hcap.out (by omega) hrl hcr.out hgw2 hrz.out hv2.out (rB + 1 + 1 + 1) (lo + 2) (lo + 3) (lo + 3 + 1) (lo + 3 + 2) sv Q hm2.out hfew.out ha2.out (by omega) (by omega) (by omega) (ib k) (ob k) k hk hwk.out hi2.out (by omega) (by omega) (by omega) ho2'.out (by omega) (by omega) (by omega))
        gi_wp2_with fail
        refine ⟨trivial, fun _ => by omega, ?_⟩
        refine (CallsIn.inRound l (callsIn_wide.2 hcon.out)).mono ?_
        rintro e W3 ⟨b9, R9, rfl, hls, hyes, hno, hch⟩
        clear hcon
        cases b9 with
        | true =>
          obtain ⟨sv2, Q2, hR9, hm9, hft⟩ := hyes rfl
          rw [hR9] at hls
          have rn3 := (hIh.out.after hnum (by omega) b2 hch).1
          have rn := rn3.cell 0 rfl
          have fn := rn3.frozen 0
          have hfin := hidR (AI.step hIh.out hU.out hnum (by omega) b2 hch hm9 hft hcut9.out hls)
          clear rn3 hyes hno hls hR9 hm9 hft hch
          gi_wp2_with fail
          exact hfin.out
        | false =>
          have hN9 := hno rfl
          rw [hN9] at hls
          clear hyes hno hN9
          have haft := hIh.out.after hnum (by omega) b2 hch
          have hbd := hidR (AI.bad hIh.out hU.out hnum (by omega) b2 hch hcut9.out hls).2
          have rn := haft.1.cell 0 rfl
          have r0 := haft.2.1.cell 0 rfl
          have f0 := haft.2.1.frozen 0
          have r1 := haft.2.2.cell 0 rfl
          have f1 := haft.2.2.frozen 0
          clear haft
          gi_wp2_with fail
          have hS1 : W3.drew.cell? ⟨rB + 1, 0, none⟩ = some (.int .i64 (pre.length : Int)) := rn
          have g0 : W3.drew.cell? ⟨lo, 0, none⟩ = some (.slice none 0 0) := r0
          have g0f : W3.drew.frozen? ⟨lo, 0, none⟩ = false := f0
          have g1 : W3.drew.cell? ⟨lo + 1, 0, none⟩ = some (.int .i64 0) := r1
          have g1f : W3.drew.frozen? ⟨lo + 1, 0, none⟩ = false := f1
          have hS2 : (W3.drew.setCell ⟨lo, 0, none⟩ (.slice none 0 0)).cell? ⟨rB + 1, 0, none⟩ = some (.int .i64 (pre.length : Int)) := (World.cell?_of_block (a := ⟨rB + 1, 0, none⟩) (heap_setCell_other _ ⟨lo, 0, none⟩ (rB + 1) _ (show rB + 1 ≠ lo by omega))).trans hS1
          have hS3 : ((W3.drew.setCell ⟨lo, 0, none⟩ (.slice none 0 0)).setCell ⟨lo + 1, 0, none⟩ (.int .i64 ((pre.length : Int) + 2))).cell? ⟨rB + 1, 0, none⟩ = some (.int .i64 (pre.length : Int)) := (World.cell?_of_block (a := ⟨rB + 1, 0, none⟩) (heap_setCell_other _ ⟨lo + 1, 0, none⟩ (rB + 1) _ (show rB + 1 ≠ lo + 1 by omega))).trans hS2
          replace hS2 := hidR hS2
          replace hS3 := hidR hS3
          refine region_round (S := fun z => z.cell? ⟨rB + 1, 0, none⟩ = some (.int .i64 (pre.length : Int))) (by kernel_rfl) (noDefer_of (by kernel_rfl)) (by rintro ⟨_, _, h⟩; exact h) hS1 (fun hH => ?_)
          clear hH rn r0 f0 r1 f1
          generalize W3.drew = W9 at hS1 hS2 hS3 hbd g0 g0f g1 g1f ⊢
          refine take_dst 0 39 (.agg #[.slice none 0 0]) rfl (by kernel_rfl) (by kernel_rfl) (by kernel_rfl) (fun _ _ _ h => h) (Or.inl ⟨by rfl, by intro wv hSv; go_simp⟩) hS1 rfl ?_
          try simp only [Act.put, List.setIfInBounds_toArray, List.set_cons_zero, List.set_cons_succ]
          refine take_dst 1 40 (.int .i64 (pre.length : Int)) rfl (by kernel_rfl) (by kernel_rfl) (by kernel_rfl) (fun _ _ _ h => h) (Or.inl ⟨by rfl, by intro wv hSv; (try dsimp only at hSv); go_simp⟩) hS1 rfl ?_
          try simp only [Act.put, List.setIfInBounds_toArray, List.set_cons_zero, List.set_cons_succ]
          refine take_dst 2 41 (.int .i64 ((pre.length : Int) + 2)) rfl (by kernel_rfl) (by kernel_rfl) (by kernel_rfl) (fun _ _ _ h => h) (Or.inl ⟨by rfl, by intro wv hSv; go_simp⟩) hS1 rfl ?_
          try simp only [Act.put, List.setIfInBounds_toArray, List.set_cons_zero, List.set_cons_succ]
          refine wpAnyH_ready (rs := [3]) (by kernel_rfl) (by simp) ?_
          refine AllReadyH.cons rfl (fun K9 hK => ?_) AllReadyH.nil
          go_simp
          refine hK.out _ _ hS2.out (fun _ => ?_)
          clear hK K9
          try simp only [Act.put, List.setIfInBounds_toArray, List.set_cons_zero, List.set_cons_succ]
          refine wpAnyH_ready (rs := [4]) (by kernel_rfl) (by simp) ?_
          refine AllReadyH.cons rfl (fun K9 hK => ?_) AllReadyH.nil
          go_simp
          refine hK.out _ _ hS3.out (fun _ => ?_)
          clear hK K9
          try simp only [Act.put, List.setIfInBounds_toArray, List.set_cons_zero, List.set_cons_succ]
          refine wpAnyH_done (by kernel_rfl) ?_ _
          gi_wp2_with fail
          exact hbd.out


      · rw [if_neg hwk] at hi2
        replace hi2 := hidR hi2
        replace hwk := hidR hwk
        have hlk : ∀ wv : World, wv.heap[lo + 3 + 3]? = some (.map (ents (lo + 3) (lo + 3 + 1) (lo + 3 + 2) ib ob 34).toArray 38) → (Instr.lookup 35 (.map (some (lo + 3 + 3))) (.string p0) true).run Tryz.prog wv = .ok (.tuple #[.func (.func 38) #[] #[.pointer (some ⟨lo + 3 + 2, 0, none⟩), .pointer (some ⟨ib k, 0, none⟩), .pointer (some ⟨ob k, 0, none⟩)], .bool true]) wv := fun wv h9 => run_lookup_hit Tryz.underlying35 Tryz.underlying9 h9 hfind
        refine take_dst 0 23 (.map (some (lo + 3 + 3))) rfl (by kernel_rfl) (by kernel_rfl) (by kernel_rfl) (fun _ _ _ h => h) (Or.inl ⟨by rfl, by intro wv hSv; (try dsimp only at hSv); obtain ⟨k7, k8, k9⟩ := hSv; go_simp⟩) hS0 rfl ?_
        try simp only [Act.put, List.setIfInBounds_toArray, List.set_cons_zero, List.set_cons_succ]
        refine take_dst 1 24 (.slice (some ⟨gw, 0, none⟩) (r.length + 1) (r.length + 1)) rfl (by kernel_rfl) (by kernel_rfl) (by kernel_rfl) (fun _ _ _ h => h) (Or.inl ⟨by rfl, by intro wv hSv; (try dsimp only at hSv); obtain ⟨k7, k8, k9⟩ := hSv; go_simp⟩) hS0 rfl ?_
        try simp only [Act.put, List.setIfInBounds_toArray, List.set_cons_zero, List.set_cons_succ]
        refine take_dst 2 25 (.pointer (some ⟨gw, 0, none⟩)) rfl (by kernel_rfl) (by kernel_rfl) (by kernel_rfl) (fun _ _ _ h => h) (Or.inl ⟨by rfl, by intro wv hSv; (try dsimp only at hSv); obtain ⟨k7, k8, k9⟩ := hSv; go_simp⟩) hS0 rfl ?_
        try simp only [Act.put, List.setIfInBounds_toArray, List.set_cons_zero, List.set_cons_succ]
        refine take_dst 3 26 (.string p0) rfl (by kernel_rfl) (by kernel_rfl) (by kernel_rfl) (fun _ _ _ h => h) (Or.inl ⟨by rfl, by intro wv hSv; (try dsimp only at hSv); obtain ⟨k7, k8, k9⟩ := hSv; go_simp⟩) hS0 rfl ?_
        try simp only [Act.put, List.setIfInBounds_toArray, List.set_cons_zero, List.set_cons_succ]
        refine take_dst 4 27 (.tuple #[.func (.func 38) #[] #[.pointer (some ⟨lo + 3 + 2, 0, none⟩), .pointer (some ⟨ib k, 0, none⟩), .pointer (some ⟨ob k, 0, none⟩)], .bool true]) rfl (by kernel_rfl) (by kernel_rfl) (by kernel_rfl) (fun _ _ _ h => h) (Or.inl ⟨by rfl, by intro wv hSv; obtain ⟨k7, k8, k9⟩ := hSv; have k6 := hlk wv k9; clear hlk; go_simp⟩) hS0 rfl ?_
        try simp only [Act.put, List.setIfInBounds_toArray, List.set_cons_zero, List.set_cons_succ]
        refine take_dst 5 22 (.tuple #[.func (.func 38) #[] #[.pointer (some ⟨lo + 3 + 2, 0, none⟩), .pointer (some ⟨ib k, 0, none⟩), .pointer (some ⟨ob k, 0, none⟩)], .bool true]) rfl (by kernel_rfl) (by kernel_rfl) (by kernel_rfl) (fun _ _ _ h => h) (Or.inl ⟨by rfl, by intro wv hSv; (try dsimp only at hSv); obtain ⟨k7, k8, k9⟩ := hSv; go_simp⟩) hS0 rfl ?_
        try simp only [Act.put, List.setIfInBounds_toArray, List.set_cons_zero, List.set_cons_succ]
        refine take_dst 6 28 (.func (.func 38) #[] #[.pointer (some ⟨lo + 3 + 2, 0, none⟩), .pointer (some ⟨ib k, 0, none⟩), .pointer (some ⟨ob k, 0, none⟩)]) rfl (by kernel_rfl) (by kernel_rfl) (by kernel_rfl) (fun _ _ _ h => h) (Or.inl ⟨by rfl, by intro wv hSv; (try dsimp only at hSv); obtain ⟨k7, k8, k9⟩ := hSv; go_simp⟩) hS0 rfl ?_
        try simp only [Act.put, List.setIfInBounds_toArray, List.set_cons_zero, List.set_cons_succ]
        refine take_dst 7 29 (.bool true) rfl (by kernel_rfl) (by kernel_rfl) (by kernel_rfl) (fun _ _ _ h => h) (Or.inl ⟨by rfl, by intro wv hSv; (try dsimp only at hSv); obtain ⟨k7, k8, k9⟩ := hSv; go_simp⟩) hS0 rfl ?_
        try simp only [Act.put, List.setIfInBounds_toArray, List.set_cons_zero, List.set_cons_succ]
        refine take_dst 8 9 (.func (.func 38) #[] #[.pointer (some ⟨lo + 3 + 2, 0, none⟩), .pointer (some ⟨ib k, 0, none⟩), .pointer (some ⟨ob k, 0, none⟩)]) rfl (by kernel_rfl) (by kernel_rfl) (by kernel_rfl) (fun _ _ _ h => h) (Or.inl ⟨by rfl, by intro wv hSv; (try dsimp only at hSv); obtain ⟨k7, k8, k9⟩ := hSv; go_simp⟩) hS0 rfl ?_
        try simp only [Act.put, List.setIfInBounds_toArray, List.set_cons_zero, List.set_cons_succ]
        refine take_dst 9 10 (.bool true) rfl (by kernel_rfl) (by kernel_rfl) (by kernel_rfl) (fun _ _ _ h => h) (Or.inl ⟨by rfl, by intro wv hSv; (try dsimp only at hSv); obtain ⟨k7, k8, k9⟩ := hSv; go_simp⟩) hS0 rfl ?_
        try simp only [Act.put, List.setIfInBounds_toArray, List.set_cons_zero, List.set_cons_succ]
        refine wpAnyH_done (by kernel_rfl) ?_ _
        clear hlk hS0
        have hcon := hidR (read_op_abc r gw o c W2 hcap.out (by omega) hrl hcr.out hgw2 hrz.out hv2.out (rB + 1 + 1 + 1) (lo + 2) (lo + 3) (lo + 3 + 1) (lo + 3 + 2) sv Q hm2.out hfew.out ha2.out (by omega) (by omega) (by omega) (ib k) (ob k) k hk hwk.out hi2.out (by omega) (by omega) (by omega) ho2'.out (by omega) (by omega) (by omega))
        gi_wp2_with fail
        refine ⟨trivial, fun _ => by omega, ?_⟩
        refine (CallsIn.inRound l (callsIn_wide.2 hcon.out)).mono ?_
        rintro e W3 ⟨b9, R9, rfl, hls, hyes, hno, hch⟩
        clear hcon
        cases b9 with
        | true =>
          obtain ⟨sv2, Q2, hR9, hm9, hft⟩ := hyes rfl
          rw [hR9] at hls
          have rn3 := (hIh.out.after hnum (by omega) b2 hch).1
          have rn := rn3.cell 0 rfl
          have fn := rn3.frozen 0
          have hfin := hidR (AI.step hIh.out hU.out hnum (by omega) b2 hch hm9 hft hcut9.out hls)
          clear rn3 hyes hno hls hR9 hm9 hft hch
          gi_wp2_with fail
          exact hfin.out
        | false =>
          have hN9 := hno rfl
          rw [hN9] at hls
          clear hyes hno hN9
          have haft := hIh.out.after hnum (by omega) b2 hch
          have hbd := hidR (AI.bad hIh.out hU.out hnum (by omega) b2 hch hcut9.out hls).2
          have rn := haft.1.cell 0 rfl
          have r0 := haft.2.1.cell 0 rfl
          have f0 := haft.2.1.frozen 0
          have r1 := haft.2.2.cell 0 rfl
          have f1 := haft.2.2.frozen 0
          clear haft
          gi_wp2_with fail
          have hS1 : W3.drew.cell? ⟨rB + 1, 0, none⟩ = some (.int .i64 (pre.length : Int)) := rn
          have g0 : W3.drew.cell? ⟨lo, 0, none⟩ = some (.slice none 0 0) := r0
          have g0f : W3.drew.frozen? ⟨lo, 0, none⟩ = false := f0
          have g1 : W3.drew.cell? ⟨lo + 1, 0, none⟩ = some (.int .i64 0) := r1
          have g1f : W3.drew.frozen? ⟨lo + 1, 0, none⟩ = false := f1
          have hS2 : (W3.drew.setCell ⟨lo, 0, none⟩ (.slice none 0 0)).cell? ⟨rB + 1, 0, none⟩ = some (.int .i64 (pre.length : Int)) := (World.cell?_of_block (a := ⟨rB + 1, 0, none⟩) (heap_setCell_other _ ⟨lo, 0, none⟩ (rB + 1) _ (show rB + 1 ≠ lo by omega))).trans hS1
          have hS3 : ((W3.drew.setCell ⟨lo, 0, none⟩ (.slice none 0 0)).setCell ⟨lo + 1, 0, none⟩ (.int .i64 ((pre.length : Int) + 2))).cell? ⟨rB + 1, 0, none⟩ = some (.int .i64 (pre.length : Int)) := (World.cell?_of_block (a := ⟨rB + 1, 0, none⟩) (heap_setCell_other _ ⟨lo + 1, 0, none⟩ (rB + 1) _ (show rB + 1 ≠ lo + 1 by omega))).trans hS2
          replace hS2 := hidR hS2
          replace hS3 := hidR hS3
          refine region_round (S := fun z => z.cell? ⟨rB + 1, 0, none⟩ = some (.int .i64 (pre.length : Int))) (by kernel_rfl) (noDefer_of (by kernel_rfl)) (by rintro ⟨_, _, h⟩; exact h) hS1 (fun hH => ?_)
          clear hH rn r0 f0 r1 f1
          generalize W3.drew = W9 at hS1 hS2 hS3 hbd g0 g0f g1 g1f ⊢
          refine take_dst 0 39 (.agg #[.slice none 0 0]) rfl (by kernel_rfl) (by kernel_rfl) (by kernel_rfl) (fun _ _ _ h => h) (Or.inl ⟨by rfl, by intro wv hSv; go_simp⟩) hS1 rfl ?_
          try simp only [Act.put, List.setIfInBounds_toArray, List.set_cons_zero, List.set_cons_succ]
          refine take_dst 1 40 (.int .i64 (pre.length : Int)) rfl (by kernel_rfl) (by kernel_rfl) (by kernel_rfl) (fun _ _ _ h => h) (Or.inl ⟨by rfl, by intro wv hSv; (try dsimp only at hSv); go_simp⟩) hS1 rfl ?_
          try simp only [Act.put, List.setIfInBounds_toArray, List.set_cons_zero, List.set_cons_succ]
          refine take_dst 2 41 (.int .i64 ((pre.length : Int) + 2)) rfl (by kernel_rfl) (by kernel_rfl) (by kernel_rfl) (fun _ _ _ h => h) (Or.inl ⟨by rfl, by intro wv hSv; go_simp⟩) hS1 rfl ?_
          try simp only [Act.put, List.setIfInBounds_toArray, List.set_cons_zero, List.set_cons_succ]
          refine wpAnyH_ready (rs := [3]) (by kernel_rfl) (by simp) ?_
          refine AllReadyH.cons rfl (fun K9 hK => ?_) AllReadyH.nil
          go_simp
          refine hK.out _ _ hS2.out (fun _ => ?_)
          clear hK K9
          try simp only [Act.put, List.setIfInBounds_toArray, List.set_cons_zero, List.set_cons_succ]
          refine wpAnyH_ready (rs := [4]) (by kernel_rfl) (by simp) ?_
          refine AllReadyH.cons rfl (fun K9 hK => ?_) AllReadyH.nil
          go_simp
          refine hK.out _ _ hS3.out (fun _ => ?_)
          clear hK K9
          try simp only [Act.put, List.setIfInBounds_toArray, List.set_cons_zero, List.set_cons_succ]
          refine wpAnyH_done (by kernel_rfl) ?_ _
          gi_wp2_with fail
          exact hbd.out



  case done =>
    rintro D ys U' W hD hS ⟨sv, Q, hI, hU⟩ hK
    obtain ⟨so, sc, rfl⟩ := own_slice' hI.mw.mem.row
    have hfe := (hI.st.few (Few.nil 0)).mono (show 0 + (ys.map trimNL).length ≤ 70000 by
      rw [hS]
      have h8 : (linesOf s).length ≤ (cutB 10 s).length := by
        unfold linesOf
        split
        · simp
        · exact Nat.le_refl _
      have := cutB_len 10 s
      omega)
    have hql := hfe.1
    rw [List.length_map] at hql
    have hqb : ∀ q ∈ Q, q.p.code.n ≤ 1000000 ∧ q.p.consts.n ≤ 1000000 ∧ q.p.ups.n ≤ 1000000 := fun q hq => by have := hfe.2 q.p (List.mem_map.2 ⟨q, hq, rfl⟩); omega
    have hip := hI.mw.mem.isProtos (by omega) hqb
    have hwf := hidR (implWF_in (chunkOf (Q.map (·.p))) _ W hip)
    have hst9 := hI.st
    rw [hS] at hst9
    have hAs := hidR (AsmR.good hst9)
    have cm := hI.mw.made.cell 0 rfl
    have hIh := hidR hI
    have hqb9 := hidR hqb
    clear hfe hip hst9 hI hqb RS hI0
    gi_wp2_with fail
    refine ⟨trivial, fun _ => by omega, ?_⟩
    refine (callsIn_wide.2 hwf.out).mono ?_
    rintro e y5 ⟨⟨rb, rfl, hrb⟩, b5⟩
    clear hwf
    have hI5 := hIh.out
    have r0 := hI5.res0.call b5
    have r1 := hI5.res1.call b5
    have a0 := r0.cell 0 rfl
    have f0 := r0.frozen 0
    have a1 := r1.cell 0 rfl
    have f1 := r1.frozen 0
    have hD5 : y5.heap[D]? = some (Obj.deferred (some [])) := (b5.block D (Array.getElem?_eq_some_iff.1 hK).1).trans hK
    have bz5 := hI5.bel.trans (b5.mono (by rw [← hlo.out]; exact hI5.bel.size))
    replace hrb := hidR hrb
    cases rb with
    | false =>
      have hno : Hid (¬ Wf (chunkOf (Q.map (·.p)))) := fun h => by simpa using hrb.out.2 h
      have q0 := (r0.set 0 (.slice none 0 0)).other (a := ⟨lo + 1, 0, none⟩) (show lo ≠ lo + 1 by omega) (.int .i64 (-1))
      have q1 := (r1.other (a := ⟨lo, 0, none⟩) (show lo + 1 ≠ lo by omega) (.slice none 0 0)).set 0 (.int .i64 (-1))
      have hK2 : ((y5.setCell ⟨lo, 0, none⟩ (.slice none 0 0)).setCell ⟨lo + 1, 0, none⟩ (.int .i64 (-1))).heap[D]? = some (.deferred (some [])) := ((heap_setCell_other _ ⟨lo + 1, 0, none⟩ D _ (show D ≠ lo + 1 by omega)).trans (heap_setCell_other _ ⟨lo, 0, none⟩ D _ (show D ≠ lo by omega))).trans hD5
      have p0 := hidR ((q0.putOther (l := D) (by omega) (.deferred none)).cell 0 rfl)
      have p1 := hidR ((q1.putOther (l := D) (by omega) (.deferred none)).cell 0 rfl)
      have hbel := hidR (((bz5.setCell (p := ⟨lo, 0, none⟩) (show lo ≤ lo from Nat.le_refl _) (.slice none 0 0)).setCell (p := ⟨lo + 1, 0, none⟩) (show lo ≤ lo + 1 by omega) (.int .i64 (-1))).trans (below_putObj _ (show lo ≤ D by omega) (Array.getElem?_eq_some_iff.1 hK2).1 (.deferred none)))
      replace hK2 := hidR hK2
      clear hI5 r0 r1 q0 q1 hD5 bz5 b5 hK
      gi_wp2
      refine ⟨by simp, .inl ⟨_, _, rfl, run_takeDeferred hK2.out, ?_⟩⟩
      refine ⟨.tuple #[.agg #[.slice none 0 0], .int .i64 (-1)], by simp [results, Tryz.results5, go_sem, p0.out, p1.out], ?_⟩
      exact ⟨by rw [hlo.out]; exact hbel.out, _, 0, hAs.out, (by simp), fun L e => by cases e; exact ⟨fun _ => rfl, fun h => absurd h hno.out⟩⟩
    | true =>
      have hyes : Hid (Wf (chunkOf (Q.map (·.p)))) := hrb.out.1 rfl
      have hpos : 0 < Q.length := by have := hyes.out.low; simp [chunkOf] at this; omega
      have cm5 := (hI5.mw.made.call b5).cell 0 rfl
      have q0 := (r0.set 0 (.slice so Q.length sc)).other (a := ⟨lo + 1, 0, none⟩) (show lo ≠ lo + 1 by omega) (.int .i64 0)
      have q1 := (r1.other (a := ⟨lo, 0, none⟩) (show lo + 1 ≠ lo by omega) (.slice so Q.length sc)).set 0 (.int .i64 0)
      have hK2 : ((y5.setCell ⟨lo, 0, none⟩ (.slice so Q.length sc)).setCell ⟨lo + 1, 0, none⟩ (.int .i64 0)).heap[D]? = some (.deferred (some [])) := ((heap_setCell_other _ ⟨lo + 1, 0, none⟩ D _ (show D ≠ lo + 1 by omega)).trans (heap_setCell_other _ ⟨lo, 0, none⟩ D _ (show D ≠ lo by omega))).trans hD5
      have p0 := hidR ((q0.putOther (l := D) (by omega) (.deferred none)).cell 0 rfl)
      have p1 := hidR ((q1.putOther (l := D) (by omega) (.deferred none)).cell 0 rfl)
      have hbel := hidR (((bz5.setCell (p := ⟨lo, 0, none⟩) (show lo ≤ lo from Nat.le_refl _) (.slice so Q.length sc)).setCell (p := ⟨lo + 1, 0, none⟩) (show lo ≤ lo + 1 by omega) (.int .i64 0)).trans (below_putObj _ (show lo ≤ D by omega) (Array.getElem?_eq_some_iff.1 hK2).1 (.deferred none)))
      have hm5 := hI5.mw.mem.later b5
      have hMf : Mk (((y5.setCell ⟨lo, 0, none⟩ (.slice so Q.length sc)).setCell ⟨lo + 1, 0, none⟩ (.int .i64 0)).putObj D (.deferred none)) (rB + 1 + 1 + 1) (.slice so Q.length sc) Q := hm5.keepB fun k hk => by
        have h8 := hI5.far k hk
        exact (World.putObj_heap_other (show k ≠ D by omega)).trans ((heap_setCell_other _ ⟨lo + 1, 0, none⟩ k _ (show k ≠ lo + 1 by omega)).trans (heap_setCell_other _ ⟨lo, 0, none⟩ k _ (show k ≠ lo by omega)))
      have hsz5 : (((y5.setCell ⟨lo, 0, none⟩ (.slice so Q.length sc)).setCell ⟨lo + 1, 0, none⟩ (.int .i64 0)).putObj D (.deferred none)).heap.size = y5.heap.size := by simp
      have hmine := hidR (hMf.mine (by rw [hsz5]; exact hI5.mw.rg.up b5.size) (by omega) hqb9.out hpos)
      replace hK2 := hidR hK2
      clear hI5 r0 r1 q0 q1 hD5 bz5 b5 hK hm5 hMf hsz5
      gi_wp2
      refine ⟨by simp, .inl ⟨_, _, rfl, run_takeDeferred hK2.out, ?_⟩⟩
      refine ⟨.tuple #[.agg #[.slice so Q.length sc], .int .i64 0], by simp [results, Tryz.results5, go_sem, p0.out, p1.out], ?_⟩
      exact ⟨by rw [hlo.out]; exact hbel.out, _, 0, hAs.out, (by simp), fun L e => by cases e; exact ⟨fun h => absurd hyes.out h, fun _ => ⟨_, _, (by rw [hlo.out]; omega), rfl, hmine.out⟩⟩⟩
  case stop =>
    rintro D c pre U' W hD hpre hX hK
    obtain ⟨rfl, hB, hU9, hsz8, pre0, x, L, rfl, hst, hlt, r0, r1⟩ := hX
    obtain ⟨post, hpost, _⟩ := hpre
    have hAs : Hid (AsmR (linesOf s) none pre0.length) := by
      have h8 := AsmR.bad (ls := linesOf s) (pre := pre0.map trimNL) (s := trimNL x) (post := post) (by rw [← hpost]; simp) hst hlt
      rw [List.length_map] at h8
      exact h8
    have p0 := hidR ((r0.putOther (l := D) (by omega) (.deferred none)).cell 0 rfl)
    have p1 := hidR ((r1.putOther (l := D) (by omega) (.deferred none)).cell 0 rfl)
    have hbel := hidR (hB.trans (below_putObj _ (show lo ≤ D by omega) (Array.getElem?_eq_some_iff.1 hK).1 (.deferred none)))
    clear hst hlt r0 r1 RS hI0
    gi_wp2
    refine ⟨by simp, .inl ⟨_, _, rfl, run_takeDeferred hK, ?_⟩⟩
    refine ⟨.tuple #[.agg #[.slice none 0 0], .int .i64 ((pre0.length : Int) + 2)], by simp [results, Tryz.results5, go_sem, p0.out, p1.out], ?_⟩
    exact ⟨by rw [hlo.out]; exact hbel.out, none, pre0.length, hAs.out, fun _ => rfl, fun L e => by cases e⟩
end Go.Proofs.YtkanjbopfflioaaGreatDoor
