import Derived.Test.YtplijnfaiofckaaGreatDoorGv
import Derived.Test.YtplijnfaiofckaaGreatDoorGw
namespace Go.Proofs.YtplijnfaiofckaaGreatDoor
open Go.RowKit Go.Lib Go.Shelf
set_option linter.unusedVariables false
set_option linter.unusedSimpArgs false
set_option maxRecDepth 100000
set_option maxHeartbeats 9000000
attribute [local go_sem] Oper.semAt_some
def lsTab : Array Value := #[.pointer none, .slice none 0 0] ++ usTab
theorem lsTab_list : lsTab.toList = .pointer none :: .slice none 0 0 :: usTab.toList := by simp [lsTab]
def over (off : Nat) (vs cs : Array Value) : Array Value := vs.zipIdx.foldl (fun cs (c, j) => cs.setIfInBounds (off + j) c) cs
theorem over_list (off : Nat) : ∀ (l : List Value) (k : Nat) (cs : Array Value), ((l.zipIdx k).foldl (fun cs (c, j) => cs.setIfInBounds (off + j) c) cs).size = cs.size ∧
  ∀ i, ((l.zipIdx k).foldl (fun cs (c, j) => cs.setIfInBounds (off + j) c) cs)[i]? = if off + k ≤ i ∧ i < off + k + l.length ∧ i < cs.size then l[i - (off + k)]? else cs[i]?
 | [], k, cs => ⟨rfl, fun i => by rw [if_neg (by simp; omega)]; rfl⟩
 | x :: l, k, cs => by
  obtain ⟨h1, h2⟩ := over_list off l (k + 1) (cs.setIfInBounds (off + k) x);simp only [List.zipIdx_cons, List.foldl_cons];refine ⟨by rw [h1]; simp, fun i => ?_⟩;rw [h2 i, Array.size_setIfInBounds];by_cases hi : i = off + k
  ·subst hi;rw [if_neg (by omega), Array.getElem?_setIfInBounds_self];by_cases hc : off + k < cs.size
   ·rw [if_pos hc, if_pos (by simp; omega)]; simp
   ·rw [if_neg hc, if_neg (by omega), Array.getElem?_eq_none (by omega)]
  ·rw [Array.getElem?_setIfInBounds_ne (by omega)];by_cases hc : off + (k + 1) ≤ i ∧ i < off + (k + 1) + l.length ∧ i < cs.size
   ·rw [if_pos hc, if_pos (by simp; omega), show i - (off + k) = (i - (off + (k + 1))) + 1 by omega, List.getElem?_cons_succ]
   ·rw [if_neg hc, if_neg (by simp; omega)]
theorem over_fold (off : Nat) (vs cs : Array Value) : over off vs cs = (vs.toList.zipIdx 0).foldl (fun cs (c, j) => cs.setIfInBounds (off + j) c) cs := by
 unfold over;rw [← Array.foldl_toList, Array.toList_zipIdx]
theorem over_get (off : Nat) (vs cs : Array Value) (i : Nat) : (over off vs cs)[i]? = if off ≤ i ∧ i < off + vs.size ∧ i < cs.size then vs[i - off]? else cs[i]? := by
 rw [over_fold, (over_list off vs.toList 0 cs).2 i];simp
theorem fill_cons {place : Nat → Option (Nat × Nat)} {cells : Array Value} {i : Nat} {v : Value} {rest : List (Nat × Value)} (off n : Nat) (hp : place i = some (off, n)) (hn : v.cells.size = n) (h : off + n ≤ cells.size) :
  Instr.fill place cells ((i, v) :: rest) = Instr.fill place (over off v.cells cells) rest := by
 subst hn;rw [Instr.fill, hp];dsimp only;rw [if_neg (by simp; omega)];rfl
theorem ls_zinfo : ((Tryz.prog.info? 50).bind (·.zero)).map (fun z => (z.cells.size, z.cells.toList.take 2)) = some (642, [.pointer none, .slice none 0 0]) := by kernel_rfl
theorem ls_places : (((Tryz.prog.underlying 50).bind fun d => match d with | .struct fields => some fields.toList | _ => none).bind fun fs => fs.mapM (fun f => (Tryz.prog.info? f.type).map fun i => (f.offset, i.size))) = some [(0, 2), (2, 640)] := by kernel_rfl
theorem ls_built_any (U : Array Value) (hs : U.size = 640) : Tryz.prog.built 50 [(1, .agg U)] = some (#[.pointer none, .slice none 0 0] ++ U) := by
 have hz := ls_zinfo;have hp := ls_places;unfold Program.built
 cases hit : Tryz.prog.info? 50 with
 | none => rw [hit] at hz; cases hz
 | some it =>
 rw [hit] at hz
 cases hu : Tryz.prog.underlying 50 with
 | none => rw [hu] at hp; cases hp
 | some d =>
 rw [hu] at hp
 cases d <;> try (simp at hp; done)
 case struct fields =>
 simp only [Option.bind_some] at hp hz
 cases hzz : it.zero with
 | none => rw [hzz] at hz; cases hz
 | some z =>
 rw [hzz] at hz;simp only [Option.map_some, Option.some.injEq, Prod.mk.injEq] at hz;simp only [hzz, hp];generalize z.cells = Z at hz;obtain ⟨hz, hz2⟩ := hz;have e4 : (Value.agg U).cells = U := rfl
 have g0 : Z[0]? = some (.pointer none) := by
  have : (Z.toList.take 2)[0]? = some (Value.pointer none) := by rw [hz2]; rfl
  rw [List.getElem?_take_of_lt (by omega)] at this
  simpa using this
 have g1 : Z[1]? = some (.slice none 0 0) := by
  have : (Z.toList.take 2)[1]? = some (Value.slice none 0 0) := by rw [hz2]; rfl
  rw [List.getElem?_take_of_lt (by omega)] at this
  simpa using this
 rw [fill_cons 2 640 rfl (by rw [e4]; exact hs) (by omega), e4, Instr.fill]
 congr 1
 refine Array.ext_getElem? fun i => ?_;rw [over_get, hz, hs];by_cases h0 : i = 0
 ·subst h0;simp [Array.getElem?_append, g0]
 by_cases h1 : i = 1
 ·subst h1;simp [Array.getElem?_append, g1]
 by_cases h2 : i < 642
 ·rw [if_pos (by omega), Array.getElem?_append_right (by simp; omega)];simp
 ·rw [if_neg (by omega), Array.getElem?_eq_none (by omega), Array.getElem?_eq_none (by simp [hs]; omega)]
theorem ls_built : Tryz.prog.built 50 [(1, .agg usTab)] = some lsTab := ls_built_any usTab qe6
section
variable {F : Fence} {nF : Nat} {P : Program} {w : World}
theorem wpListIn_buildTo {ops : Array Oper} {rest : List Oper} {o : Oper} {a : Act} {Q : Exit → Act → World → Prop} (hg : o.guard = none) (t : TypeId) (parts : Array (Nat × Operand)) (ho : o.op = .build t parts)
  (d : Option Tmp) (hd : o.dst = d) (cells : Array Value) (hf : P.built t (parts.map fun (i, x) => (i, a.eval x)).toList = some cells)
  (h : wpListIn F nF P ops Q rest (a.put d (.agg cells)) w) : wpListIn F nF P ops Q (o :: rest) a w := by
 subst hd;refine wpListIn_plain hg fun K hK => ?_;unfold Oper.wpIn;refine ⟨by simp [Oper.about, ho], ?_⟩;rw [Oper.semAt_plain F _ _ (by rw [ho]; intro c hc'; cases hc')];have hr := run_build (P := P) w t _ cells hf;simp only [execOp, ho, Sem.run_bind, hr, Result.andThen_ok];exact hK _ _ h
theorem wpListIn_boxTo {ops : Array Oper} {rest : List Oper} {o : Oper} {a : Act} {Q : Exit → Act → World → Prop} (hg : o.guard = none) (t : TypeId) (x : Operand) (ho : o.op = .box t x)
  (dst : Option Tmp) (hdst : o.dst = dst) (N : Nat) (hN : w.heap.size = N) (cells : Array Value) (hx : (a.eval x).cells = cells)
  (h : wpListIn F nF P ops Q rest (a.put dst (.pointer (some ⟨N, 0, none⟩))) (w.alloc (.cells cells t))) : wpListIn F nF P ops Q (o :: rest) a w := by
 subst hdst hN hx;refine wpListIn_plain hg fun K hK => ?_;unfold Oper.wpIn;refine ⟨by simp [Oper.about, ho], ?_⟩;rw [Oper.semAt_plain F _ _ (by rw [ho]; intro c hc'; cases hc')];simp only [execOp, ho, Sem.run_bind, Instr.box, newVar, newRow, run_newObj_alloc, Sem.run_pure, Result.andThen_ok];exact hK _ _ h
end
noncomputable def linesL (s : Sl PD) (pre : List (Fin s.n)) : ByteArray := pre.foldl (fun b x => b ++ protoT (s.f x.val)) ByteArray.empty
theorem linesL_snoc (s : Sl PD) (pre : List (Fin s.n)) (x : Fin s.n) : linesL s (pre ++ [x]) = linesL s pre ++ protoT (s.f x.val) := by simp [linesL]
theorem linesL_take (s : Sl PD) : ∀ i, i ≤ s.n → linesL s ((List.finRange s.n).take i) = catL (fun i => protoT (s.f i)) i
 | 0, _ => rfl
 | i + 1, h => by
  have e : (List.finRange s.n).take (i + 1) = (List.finRange s.n).take i ++ [⟨i, by omega⟩] := by
   rw [List.take_add_one];simp [show i < s.n by omega]
  rw [e, linesL_snoc, linesL_take s i (by omega)];rfl
theorem linesL_all (s : Sl PD) : linesL s (List.finRange s.n) = listT s := by
 have := linesL_take s s.n (Nat.le_refl _);rw [List.take_of_length_le (by simp)] at this;rw [this];rfl
theorem linesL_size_acc {s : Sl PD} (hwf : Wf s) (hbd : Bnd s) : ∀ (pre : List (Fin s.n)) (acc : ByteArray), (pre.foldl (fun b x => b ++ protoT (s.f x.val)) acc).size ≤ acc.size + pre.length * 2000000
 | [], acc => by simp
 | x :: pre, acc => by
  have h1 := linesL_size_acc hwf hbd pre (acc ++ protoT (s.f x.val));have h2 := protoT_size (lp_of hwf hbd x.val x.isLt);rw [ByteArray.size_append] at h1;rw [List.foldl_cons, List.length_cons, Nat.add_mul];omega
theorem linesL_size {s : Sl PD} (hwf : Wf s) (hbd : Bnd s) (pre : List (Fin s.n)) : (linesL s pre).size ≤ pre.length * 2000000 := by
 have := linesL_size_acc hwf hbd pre ByteArray.empty
 simpa [linesL] using this
theorem listT_pos {s : Sl PD} (h : 0 < s.n) : (listT s).size ≠ 0 := by
 unfold listT;obtain ⟨n, hn⟩ : ∃ n, s.n = n + 1 := ⟨s.n - 1, by omega⟩;rw [hn, catL_succ, ByteArray.size_append]
 have : 0 < (protoT (s.f n)).size := by
  unfold protoT headT;simp only [ByteArray.size_append];have e1 : (⟨#[112, 114, 111, 116, 111, 32]⟩ : ByteArray).size = 6 := rfl;omega
 omega
end Go.Proofs.YtplijnfaiofckaaGreatDoor
namespace Go.Proofs.YtplijnfaiofckaaGreatDoor
open Go.RowKit Go.Lib Go.Shelf
set_option linter.unusedVariables false
set_option linter.unusedSimpArgs false
set_option maxRecDepth 100000
set_option maxHeartbeats 9000000
attribute [local go_sem] Oper.semAt_some
def DI (s : Sl PD) (P Q0 lo H : Nat) (wB : World) (pre : List (Fin s.n)) (U : Nat → Prop) (W : World) : Prop :=
 Below lo wB W ∧ ∃ vv, (∃ a, (a = .pointer none ∨ a = .pointer (some ⟨P, 0, none⟩)) ∧ RowL W P 50 (a :: vv :: usTab.toList)) ∧ RowL W Q0 34 [.pointer (some ⟨P, 0, none⟩)] ∧ Buf W 5 vv (linesL s pre) ∧ vv.ownBlock ≠ some P ∧ vv.ownBlock ≠ some Q0 ∧
  (∀ g, vv.ownBlock = some g → lo ≤ g ∧ (g < H ∨ H + 2 ≤ g)) ∧ ∀ c, U c ↔ c = P ∨ c = Q0 ∨ vv.ownBlock = some c
theorem DI.footU (s : Sl PD) (P Q0 lo H : Nat) (wB : World) : FootU lo (DI s P Q0 lo H wB) := by
 rintro pre U A C ⟨h1, vv, ⟨a2, ha2, h2⟩, h3, h4, h5, h6, h7, h8⟩ e1 e2 e3 e4 e5 e6;exact ⟨⟨e1.trans h1.os, e2.trans h1.tape, e3.trans h1.output, Nat.le_trans h1.size e4, fun c hc => (e6 c hc).trans (h1.block c hc)⟩, vv, ⟨a2, ha2, World.rowIs.of_block h2 (e5 _ ((h8 _).2 (.inl rfl)))⟩, World.rowIs.of_block h3 (e5 _ ((h8 _).2 (.inr (.inl rfl)))), h4.keep fun k hk => e5 k ((h8 k).2 (.inr (.inr hk))), h5, h6, h7, h8⟩
theorem DI.step {s : Sl PD} {P Q0 lo H : Nat} {wB W Wd W' : World} {pre : List (Fin s.n)} {U : Nat → Prop} {x : Fin s.n} {vv v' : Value}
  (hB : Below lo wB W) (hlo : lo ≤ W.heap.size) (hP : lo ≤ P) (hQP : Q0 ≠ P) (h3 : RowL W Q0 34 [.pointer (some ⟨P, 0, none⟩)]) (h6 : vv.ownBlock ≠ some Q0)
  (h7 : ∀ g, vv.ownBlock = some g → lo ≤ g ∧ (g < H ∨ H + 2 ≤ g)) (h8 : ∀ c, U c ↔ c = P ∨ c = Q0 ∨ vv.ownBlock = some c) (hH : H + 2 ≤ W.heap.size)
  (hd : Below W.heap.size W Wd) (hds : Wd.heap.size = W.heap.size) (hT : Lw P usTab.toList Wd vv W' v' (linesL s pre ++ protoT (s.f x.val))) :
  ∃ U', GrowU U U' W W' ∧ DI s P Q0 lo H wB (pre ++ [x]) U' W' := by
 have hf : Fr (fun k => k = P) W vv W' v' := Fr.after hd hT.fr;have ho := hf.own;refine ⟨fun c => c = P ∨ c = Q0 ∨ v'.ownBlock = some c, ⟨hf.size, fun b hb hU => ?_, fun b hb => ?_⟩, ?_, v', hT.box, ?_, ?_, hT.ne, ?_, ?_, fun _ => Iff.rfl⟩
 ·rw [h8] at hU;exact hf.block b hb (fun e => hU (.inl e)) (fun e => hU (.inr (.inr e)))
 ·rw [h8];rcases hb with e | e | e
  ·exact .inl (.inl e)
  ·exact .inl (.inr (.inl e))
  ·rcases ho with o | o
   ·exact .inl (.inr (.inr (o ▸ e)))
   ·exact .inr (o b e)
 ·exact hB.trans (hf.below hlo (fun k hk => by subst hk; exact hP) (fun k hk => (h7 k hk).1))
 ·exact World.rowIs.of_block h3 (hf.block _ h3.lt hQP h6)
 ·rw [linesL_snoc];exact hT.buf
 ·intro e;rcases ho with o | o
  ·exact h6 (o ▸ e)
  ·have := o _ e;have := h3.lt;omega
 ·intro g hg;rcases ho with o | o
  ·exact h7 g (o ▸ hg)
  ·have := o g hg;exact ⟨by omega, .inr (by omega)⟩
def noDeferL (ops : Array Oper) : Bool := ops.all fun o => match o.op with | .defer _ => false | _ => true
theorem noDeferL_of {ops : Array Oper} (h : noDeferL ops = true) (i : Nat) (o : Oper) (ho : ops[i]? = some o) (c : _) : o.op ≠ .defer c := fun e => by
 have hm := Array.all_eq_true'.1 h o (Array.mem_of_getElem? ho);rw [e] at hm
 cases hm
theorem implList_in (s : Sl PD) (v : Value) (w : World) (hv : qa0 (· < w.heap.size) w v s) (hbd : Bnd s) (hpt : PowTab w) (hsp : Spans w) (hnm : Named w) :
  Calls Tryz.prog 5 #[.agg #[v]] w fun e w' => ((Wf s ∧ e = .returned (.string (listT s))) ∨ (¬ Wf s ∧ e = .returned (.string ⟨#[]⟩))) ∧ Below w.heap.size w w' := by
 have hv' : Hid (qa0 (· < w.heap.size) w v s) := hv
 have hkids : Hid (∀ ao cap, v = .slice ao s.n cap → 0 < s.n → ∃ b o, ao = some ⟨b, o, none⟩ ∧ b < w.heap.size ∧ ∀ i, i < s.n → w.cell? ⟨b, o + i * 10 + 6, none⟩ = some (.int .i64 (kidsOf s i))) := fun ao cap he hp => by
  subst he;exact hv.kids hp
 obtain ⟨a3, a4, a5, a8, a9, ⟨ao, cap, rfl, hn, hc⟩, ht⟩ := hv;replace hc : Hid (0 < s.n → ∃ b o, ao = some ⟨b, o, none⟩ ∧ b < w.heap.size ∧ ∀ i, i < s.n → ∀ j, j < 10 → w.cell? ⟨b, o + i * 10 + j, none⟩ = some (pC s.f a3 a4 a5 a8 a9 i j)) := hc;replace ht : Hid (∀ i, i < s.n → IsProto (· < w.heap.size) w (a3 i) (a4 i) (a5 i) (a8 i) (a9 i) (s.f i)) := ht;replace hbd : Hid (Bnd s) := hbd;replace hpt := hidR hpt;replace hsp := hidR hsp;replace hnm := hidR hnm;obtain ⟨m, hm⟩ : ∃ m, 8 ≤ m := ⟨8, by omega⟩;refine (callsIn_wide (n := m)).1 ?_;refine callsIn_of_wp_marks Tryz.func5 rfl trivial ?_ rfl;simp only [Tryz.ntmps5, List.size_toArray, List.length_cons, List.length_nil, Nat.reduceAdd, Nat.reduceSub, Array.replicate_succ, Array.replicate_zero, List.push_toArray, List.append_toArray, List.nil_append, List.cons_append]
 gi_wp2_with fail
 have R0 := RowL.new w [.slice ao s.n cap] 25;have bw : Below w.heap.size w (w.alloc (.cells #[.slice ao s.n cap] 25)) := by go_grown
 generalize w.alloc (.cells #[.slice ao s.n cap] 25) = w3 at R0 bw ⊢;refine ⟨trivial, fun _ => by omega, ?_⟩;refine (callsIn_wide.2 (implWF_in s _ _ (hv'.out.later bw))).mono ?_;rintro e y ⟨⟨r, rfl, hr⟩, b1⟩;replace R0 := R0.call b1;replace bw := bw.trans (b1.mono bw.size);clear b1;have q0 := R0.cell 0 rfl;obtain rfl | rfl : r = false ∨ r = true := by cases r <;> simp
 ·have hno : Hid (¬ Wf s) := fun h => by simpa using hr.2 h
  clear hr hkids hv' R0
  gi_wp2
  exact ⟨.string ⟨#[]⟩, by simp [results, Tryz.results5, go_sem], .inr ⟨hno.out, rfl⟩, bw⟩
 have hwf : Hid (Wf s) := hr.1 rfl;clear hr q0
 -- the rest
 have hlow := hwf.out.low;have hhigh := hwf.out.high;obtain ⟨U, hUe⟩ : ∃ U, U = usTab := ⟨_, rfl⟩;obtain ⟨T9, hTe⟩ : ∃ T, T = lsTab := ⟨_, rfl⟩;have hls := hidR ls_built;rw [← hUe, ← hTe] at hls;have hau := hidR allUsages_in;rw [← hUe] at hau;replace hUe := hidR hUe;replace hTe := hidR hTe
 gi_wp2_with fail
 refine ⟨trivial, fun _ => by omega, ?_⟩;refine (callsIn_wide.2 (hau.out _)).mono ?_;rintro e yu ⟨rfl, b1⟩;replace R0 := R0.call b1;replace bw := bw.trans (b1.mono bw.size);clear b1;have qz := hTe.out;have hT9 : T9 = (Value.pointer none :: .slice none 0 0 :: usTab.toList).toArray := by rw [qz, ← lsTab_list, Array.toArray_toList]
 clear qz;have q0' := ((R0.alloc (.cells T9 50)).alloc (.cells #[.pointer (some ⟨yu.heap.size, 0, none⟩)] 34)).cell 0 rfl;replace hT9 := hidR hT9
 gi_wp2_with (first | (refine wpListIn_buildTo rfl 50 _ rfl (some 9) rfl T9 (by rw [Array.toList_map]; exact hls.out) ?_) | (refine wpListIn_boxTo rfl 50 _ rfl (some 10) rfl yu.heap.size rfl T9 rfl ?_))
 refine ⟨trivial, fun _ => by omega, ?_⟩;refine (callsIn_wide.2 (nodes_in ao s.n cap _)).mono ?_;rintro e w1 ⟨rfl, rfl⟩
 gi_wp2_with fail
 clear q0' hls hau;have R0' : RowL (((yu.alloc (.cells T9 50)).alloc (.cells #[.pointer (some ⟨yu.heap.size, 0, none⟩)] 34)).alloc (.cells #[.slice ao s.n cap] 23)) w.heap.size 25 [.slice ao s.n cap] := ((R0.alloc _).alloc _).alloc _
 have RP : RowL (((yu.alloc (.cells T9 50)).alloc (.cells #[.pointer (some ⟨yu.heap.size, 0, none⟩)] 34)).alloc (.cells #[.slice ao s.n cap] 23)) yu.heap.size 50 (.pointer none :: .slice none 0 0 :: usTab.toList) := by
  rw [hT9.out];exact ((RowL.new yu _ 50).alloc _).alloc _
 have RQ : RowL (((yu.alloc (.cells T9 50)).alloc (.cells #[.pointer (some ⟨yu.heap.size, 0, none⟩)] 34)).alloc (.cells #[.slice ao s.n cap] 23)) (yu.heap.size + 1) 34 [.pointer (some ⟨yu.heap.size, 0, none⟩)] := by
  have := RowL.new (yu.alloc (.cells T9 50)) [.pointer (some ⟨yu.heap.size, 0, none⟩)] 34;rw [World.size_alloc] at this;exact this.alloc _
 have RN : RowL (((yu.alloc (.cells T9 50)).alloc (.cells #[.pointer (some ⟨yu.heap.size, 0, none⟩)] 34)).alloc (.cells #[.slice ao s.n cap] 23)) (yu.heap.size + 2) 23 [.slice ao s.n cap] := by
  have := RowL.new ((yu.alloc (.cells T9 50)).alloc (.cells #[.pointer (some ⟨yu.heap.size, 0, none⟩)] 34)) [.slice ao s.n cap] 23
  rwa [World.size_alloc, World.size_alloc] at this
 have by0 : Below yu.heap.size yu (((yu.alloc (.cells T9 50)).alloc (.cells #[.pointer (some ⟨yu.heap.size, 0, none⟩)] 34)).alloc (.cells #[.slice ao s.n cap] 23)) := by go_grown
 have sz : (((yu.alloc (.cells T9 50)).alloc (.cells #[.pointer (some ⟨yu.heap.size, 0, none⟩)] 34)).alloc (.cells #[.slice ao s.n cap] 23)).heap.size = yu.heap.size + 3 := by simp
 have bw' := bw.trans (by0.mono bw.size);have hwy := bw.size;have hRl : w.heap.size < yu.heap.size := R0.lt;clear R0;generalize ((yu.alloc (.cells T9 50)).alloc (.cells #[.pointer (some ⟨yu.heap.size, 0, none⟩)] 34)).alloc (.cells #[.slice ao s.n cap] 23) = w0 at R0' RP RQ RN by0 sz bw' ⊢;have hbf : Buf w0 5 (.slice none 0 0) (linesL s []) := .inl ⟨rfl, rfl⟩
 refine range_lawO (gf := 49) (lb := #[.pointer (some ⟨yu.heap.size + 2, 0, none⟩)]) rfl (enters_of Tryz.func49 (by kernel_rfl) rfl) (by omega) (encs := fun x : Fin s.n => #[nodeV (kidsOf s) s.n x]) (fun _ => rfl) (lo := yu.heap.size) (N := s.n) (by omega)
  (S := fun ys => ys = qb8 (kidsOf s) s.n) (Sp := fun pre => pre <+: qb8 (kidsOf s) s.n ∧ pre ≠ []) (DI s yu.heap.size (yu.heap.size + 1) yu.heap.size w0.heap.size w0) (fun _ _ _ _ => False) (DI.footU _ _ _ _ _ _) (fun _ _ _ _ _ h => h.elim) ?foot2 (fun _ _ _ _ h => h.elim)
  ⟨fun c => c = yu.heap.size ∨ c = yu.heap.size + 1 ∨ Value.ownBlock (.slice none 0 0) = some c, Below.refl _ _, .slice none 0 0, ⟨_, .inl rfl, RP⟩, RQ, hbf, (by simp [Value.ownBlock]), (by simp [Value.ownBlock]), (by intro g hg; simp [Value.ownBlock] at hg), fun _ => Iff.rfl⟩ ?seq
  (fun x a' W => ∃ Bx, w0.heap.size + 2 ≤ Bx ∧ RowL W Bx 55 [.int .i64 (x.val : Int), .int .i64 (depth (EE (kidsOf s) s.n) x.val : Int), .int .i64 (EE (kidsOf s) s.n x.val : Int)] ∧ a' = { tmps := #[.agg #[.slice ao s.n cap], .pointer (some ⟨w.heap.size, 0, none⟩), .string ⟨#[]⟩, .pointer (some ⟨yu.heap.size + 1, 0, none⟩), .pointer (some ⟨Bx, 0, none⟩), .agg #[.slice ao s.n cap], .bool true, .bool false, .agg U, .agg T9, .pointer (some ⟨yu.heap.size, 0, none⟩), .pointer (some ⟨w.heap.size, 0, none⟩), .slice ao s.n cap, .func (.func 49) #[] #[.pointer (some ⟨yu.heap.size + 2, 0, none⟩)], .agg #[.int .i64 (x.val : Int), .int .i64 (depth (EE (kidsOf s) s.n) x.val : Int), .int .i64 (EE (kidsOf s) s.n x.val : Int)], undef, undef, undef, undef, undef, undef, undef, undef, undef, undef, undef, undef], defers := [] })
  (fun x a' W o hA => by obtain ⟨Bx, h1, h2, h3⟩ := hA; exact ⟨Bx, h1, h2.putOther (by omega) o, h3⟩)
  ?assign ?body ?done ?stop
 case foot2 =>
  rintro pre U A ⟨h1, vv, ⟨_, _, h2⟩, h3, h4, h5, h6, h7, h8⟩ c hc;rcases (h8 c).1 hc with rfl | rfl | e
  ·exact ⟨by omega, h2.lt, .inl (by omega)⟩
  ·exact ⟨by omega, h3.lt, .inl (by omega)⟩
  ·exact ⟨(h7 c e).1, h4.lt c e, (h7 c e).2⟩
 case seq =>
  intro W hW hb;refine nodes1_own (m - 1) (kidsOf s) s.n cap ao yu.heap.size _ _ W (by omega) (by omega) (by omega) ((RN.below hb (by omega)).cell 0 rfl) (fun hp => ?_);obtain ⟨b, o, e, hb', hcc⟩ := hkids.out ao cap rfl hp;exact ⟨b, o, e, by omega, fun i hi => (hb.cell (p := ⟨b, _, none⟩) (by show b < w0.heap.size; omega)).trans ((bw'.cell (p := ⟨b, _, none⟩) hb').trans (hcc i hi))⟩
 case assign =>
  rintro l pre x W K hsz hK;simp only [nodeV]
  gi_wp2
  refine hK _ _ ((Below.refl _ W).alloc (Nat.le_refl _) _) ⟨W.heap.size, by omega, RowL.new W _ 55, rfl⟩
 case body =>
  rintro l pre x a' U' W hsz ⟨hB, vv, ⟨av, hav, hP⟩, hQ, hBu, hneP, hneQ, hrg, hU⟩ ⟨Bx, hBx, RX, rfl⟩ hlt;have hx := x.isLt;obtain ⟨bb, oo, rfl, hbb, hcc⟩ := hc.out (by omega);have hxn : (x.val : Int) < (s.n : Int) := by omega
  have hBxl := RX.lt
  have nBx : vv.ownBlock ≠ some Bx := fun e => by
   rcases hBu with ⟨h, _⟩ | ⟨g, cp, cur, fz, h, hg, _⟩
   ·rw [h] at e; cases e
   ·rw [h] at e;have e' : g = Bx := Option.some.inj e;subst e';obtain ⟨cur', h68, _⟩ := RX;rw [hg] at h68
    cases h68
  have bwW := bw'.trans (hB.mono (by omega))
  have hk : Hid (∀ z : World, (∀ c, c < W.heap.size → c ≠ yu.heap.size → vv.ownBlock ≠ some c → z.heap[c]? = W.heap[c]?) → (z.cell? ⟨yu.heap.size + 1, 0, none⟩ = some (.pointer (some ⟨yu.heap.size, 0, none⟩)) ∧ z.cell? ⟨w.heap.size, 0, none⟩ = some (.slice (some ⟨bb, oo, none⟩) s.n cap) ∧ z.cell? ⟨Bx, 0, none⟩ = some (.int .i64 (x.val : Int)) ∧ z.cell? ⟨bb, oo + x.val * 10, none⟩ = some (.int .i64 (s.f x.val).params) ∧ z.cell? ⟨bb, oo + x.val * 10 + 1, none⟩ = some (.bool (s.f x.val).vararg) ∧ z.cell? ⟨bb, oo + x.val * 10 + 2, none⟩ = some (.int .i64 (s.f x.val).regs) ∧ z.cell? ⟨bb, oo + x.val * 10 + 3, none⟩ = some (a3 x.val) ∧ z.cell? ⟨bb, oo + x.val * 10 + 4, none⟩ = some (a4 x.val) ∧ z.cell? ⟨bb, oo + x.val * 10 + 5, none⟩ = some (a5 x.val) ∧ z.cell? ⟨bb, oo + x.val * 10 + 6, none⟩ = some (.int .i64 (s.f x.val).kids) ∧ z.cell? ⟨bb, oo + x.val * 10 + 7, none⟩ = some (.string (s.f x.val).name) ∧ z.cell? ⟨bb, oo + x.val * 10 + 8, none⟩ = some (a8 x.val) ∧ z.cell? ⟨bb, oo + x.val * 10 + 9, none⟩ = some (a9 x.val))) := fun z hz => by
   have hQz : z.heap[yu.heap.size + 1]? = W.heap[yu.heap.size + 1]? := hz _ hQ.lt (by omega) hneQ;have hw : z.heap[w.heap.size]? = W.heap[w.heap.size]? := hz _ (by omega) (by omega) (fun e => by have := (hrg _ e).1; omega);have hxz : z.heap[Bx]? = W.heap[Bx]? := hz _ hBxl (by omega) nBx;have hbz : z.heap[bb]? = W.heap[bb]? := hz _ (by omega) (by omega) (fun e => by have := (hrg _ e).1; omega)
   have hel : ∀ j, j < 10 → z.cell? ⟨bb, oo + x.val * 10 + j, none⟩ = some (pC s.f a3 a4 a5 a8 a9 x.val j) := fun j hj =>
    (World.cell?_of_block (a := ⟨bb, oo + x.val * 10 + j, none⟩) hbz).trans ((bwW.cell (p := ⟨bb, _, none⟩) hbb).trans (hcc x.val x.isLt j hj))
   exact ⟨(World.cell?_of_block (a := ⟨yu.heap.size + 1, 0, none⟩) hQz).trans (hQ.cell 0 rfl), (World.cell?_of_block (a := ⟨w.heap.size, 0, none⟩) hw).trans ((R0'.below hB (by omega)).cell 0 rfl), (World.cell?_of_block (a := ⟨Bx, 0, none⟩) hxz).trans (RX.cell 0 rfl), hel 0 (by omega), hel 1 (by omega), hel 2 (by omega), hel 3 (by omega), hel 4 (by omega), hel 5 (by omega), hel 6 (by omega), hel 7 (by omega), hel 8 (by omega), hel 9 (by omega)⟩
  have hdr : Below W.heap.size W W.drew := (Below.refl _ _).drew;have hds : W.drew.heap.size = W.heap.size := rfl;have hWt : Lw yu.heap.size usTab.toList W vv W vv (linesL s pre) := ⟨⟨av, hav, hP⟩, hBu, hneP, Fr.refl _ _ _⟩;obtain ⟨Wd, hWd⟩ : ∃ z, z = W.drew := ⟨_, rfl⟩;have hWtd : Lw yu.heap.size usTab.toList Wd vv Wd vv (linesL s pre) := by rw [hWd]; exact hWt.drew.fresh
  rw [← hWd] at hdr hds
  have hpr : Hid (Calls Tryz.prog 14 #[.pointer (some ⟨yu.heap.size, 0, none⟩), pAgg (s.f x.val) (a3 x.val) (a4 x.val) (a5 x.val) (a8 x.val) (a9 x.val)] Wd fun e w' => (∃ v', e = .returned (.tuple #[]) ∧ Lw yu.heap.size usTab.toList Wd vv w' v' (linesL s pre ++ protoT (s.f x.val)))) :=
   lproto_in yu.heap.size (s.f x.val) (a3 x.val) (a4 x.val) (a5 x.val) (a8 x.val) (a9 x.val) w hpt.out hsp.out hnm.out Wd vv Wd vv _ hWtd (bwW.trans (hdr.mono (by omega))) (by omega) (fun k hk => by have := (hrg k hk).1; omega) ((ht.out x.val x.isLt).below (bwW.trans (hdr.mono (by omega)))) (lp_of hwf.out hbd.out x.val x.isLt) (by
    have h1 := linesL_size hwf.out hbd.out pre;omega)
  have hstep : Hid (∀ W' v', Lw yu.heap.size usTab.toList Wd vv W' v' (linesL s pre ++ protoT (s.f x.val)) → ∃ U'', GrowU U' U'' W W' ∧ DI s yu.heap.size (yu.heap.size + 1) yu.heap.size w0.heap.size w0 (pre ++ [x]) U'' W') := fun W' v' hT =>
   DI.step hB (by omega) (by omega) (by omega) hQ hneQ hrg hU (by omega) hdr hds hT
  have hkW : Hid (∀ z v', Fr (fun k => k = yu.heap.size) Wd vv z v' → (z.cell? ⟨yu.heap.size + 1, 0, none⟩ = some (.pointer (some ⟨yu.heap.size, 0, none⟩)) ∧ z.cell? ⟨w.heap.size, 0, none⟩ = some (.slice (some ⟨bb, oo, none⟩) s.n cap) ∧ z.cell? ⟨Bx, 0, none⟩ = some (.int .i64 (x.val : Int)) ∧ z.cell? ⟨bb, oo + x.val * 10, none⟩ = some (.int .i64 (s.f x.val).params) ∧ z.cell? ⟨bb, oo + x.val * 10 + 1, none⟩ = some (.bool (s.f x.val).vararg) ∧ z.cell? ⟨bb, oo + x.val * 10 + 2, none⟩ = some (.int .i64 (s.f x.val).regs) ∧ z.cell? ⟨bb, oo + x.val * 10 + 3, none⟩ = some (a3 x.val) ∧ z.cell? ⟨bb, oo + x.val * 10 + 4, none⟩ = some (a4 x.val) ∧ z.cell? ⟨bb, oo + x.val * 10 + 5, none⟩ = some (a5 x.val) ∧ z.cell? ⟨bb, oo + x.val * 10 + 6, none⟩ = some (.int .i64 (s.f x.val).kids) ∧ z.cell? ⟨bb, oo + x.val * 10 + 7, none⟩ = some (.string (s.f x.val).name) ∧ z.cell? ⟨bb, oo + x.val * 10 + 8, none⟩ = some (a8 x.val) ∧ z.cell? ⟨bb, oo + x.val * 10 + 9, none⟩ = some (a9 x.val))) := fun z v' hf => hk.out z fun c h1 h2 h3 => (hf.block c (by omega) h2 h3).trans (hdr.block c h1);unfold pAgg at hpr;clear hcc R0' RP RQ RN RX hkids hv' hc ht hk hWt hWtd hBu hP hQ hU bwW
  gi_wp2_with fail
  refine qb9 (S := fun z => z.cell? ⟨yu.heap.size + 1, 0, none⟩ = some (.pointer (some ⟨yu.heap.size, 0, none⟩)) ∧ z.cell? ⟨w.heap.size, 0, none⟩ = some (.slice (some ⟨bb, oo, none⟩) s.n cap) ∧ z.cell? ⟨Bx, 0, none⟩ = some (.int .i64 (x.val : Int)) ∧ z.cell? ⟨bb, oo + x.val * 10, none⟩ = some (.int .i64 (s.f x.val).params) ∧ z.cell? ⟨bb, oo + x.val * 10 + 1, none⟩ = some (.bool (s.f x.val).vararg) ∧ z.cell? ⟨bb, oo + x.val * 10 + 2, none⟩ = some (.int .i64 (s.f x.val).regs) ∧ z.cell? ⟨bb, oo + x.val * 10 + 3, none⟩ = some (a3 x.val) ∧ z.cell? ⟨bb, oo + x.val * 10 + 4, none⟩ = some (a4 x.val) ∧ z.cell? ⟨bb, oo + x.val * 10 + 5, none⟩ = some (a5 x.val) ∧ z.cell? ⟨bb, oo + x.val * 10 + 6, none⟩ = some (.int .i64 (s.f x.val).kids) ∧ z.cell? ⟨bb, oo + x.val * 10 + 7, none⟩ = some (.string (s.f x.val).name) ∧ z.cell? ⟨bb, oo + x.val * 10 + 8, none⟩ = some (a8 x.val) ∧ z.cell? ⟨bb, oo + x.val * 10 + 9, none⟩ = some (a9 x.val)) (by kernel_rfl) (noDeferL_of (by kernel_rfl)) (fun ⟨_, _, h⟩ => h) (hWd ▸ hkW.out Wd vv (Fr.refl _ _ _)) (fun hHeld => ?_);rw [← hWd] at hHeld ⊢;clear hWd;refine tkd 0 15 (.pointer (some ⟨yu.heap.size, 0, none⟩)) hHeld ?_;refine tkd 1 16 (.pointer (some ⟨w.heap.size, 0, none⟩)) hHeld ?_;refine tkd 2 17 (.slice (some ⟨bb, oo, none⟩) s.n cap) hHeld ?_;refine tkd 3 18 (.pointer (some ⟨Bx, 0, none⟩)) hHeld ?_;refine tkd 4 19 (.int .i64 (x.val : Int)) hHeld ?_;refine tkd 5 20 (.pointer (some ⟨bb, oo + x.val * 10, none⟩)) hHeld ?_;refine tkd 6 21 (.agg #[.int .i64 (s.f x.val).params, .bool (s.f x.val).vararg, .int .i64 (s.f x.val).regs, (a3 x.val), (a4 x.val), (a5 x.val), .int .i64 (s.f x.val).kids, .string (s.f x.val).name, (a8 x.val), (a9 x.val)]) hHeld ?_;refine rdy1 7 (fun K hK => ?_);go_simp;refine (Calls.mono hpr.out ?_);rintro e z1 ⟨v1, rfl, hT⟩;go_wp2_with fail;refine hK.out _ _ (hkW.out z1 v1 hT.fr) (fun _ => ?_);clear hK K;try simp only [tK]
  refine wpAnyH_done (by kernel_rfl) ?_ _;exact hstep.out z1 v1 hT
 case stop =>
  rintro D c pre U W hD hpre h hK;exact h.elim
 case done =>
  rintro D ys U' W hD rfl hI hK;have hseq : qb8 (kidsOf s) s.n = List.finRange s.n := if_pos (wf_tree hwf.out);rw [hseq] at hI;obtain ⟨hB, vv, ⟨av, hav, hP⟩, hQ, hBu, hneP, hneQ, hrg, hU⟩ := hI;rw [linesL_all] at hBu;have hLw : Lw yu.heap.size usTab.toList W vv W vv (listT s) := ⟨⟨av, hav, hP⟩, hBu, hneP, Fr.refl _ _ _⟩;have hst := hidR (string_in yu.heap.size usTab.toList W vv W vv (listT s) hLw (listT_pos (by omega)) w.heap.size (fun k hk => by have := (hrg k hk).1; omega));have hnD : vv.ownBlock ≠ some D := fun e => by have := (hrg D e).2; omega
  have qQ := hQ.cell 0 rfl;have hPlt := hP.lt;have hbel : Hid (Below w.heap.size w W) := bw'.trans (hB.mono (by omega));clear hBu hP hQ hU hrg hneP hneQ hseq R0' RP RQ RN hkids hv' hc ht hB hbf hLw hav
  gi_wp2_with fail
  refine ⟨trivial, fun _ => by omega, ?_⟩;refine (callsIn_wide.2 hst.out).mono ?_;rintro e W2 ⟨rfl, b9, hot⟩;have hK2 : W2.heap[D]? = some (Obj.deferred (some [])) := (hot D hnD).trans hK;clear hst hot
  gi_wp2
  refine ⟨by simp, .inl ⟨_, _, rfl, run_takeDeferred hK2, ?_⟩⟩;refine ⟨.string (listT s), by simp [results, Tryz.results5, go_sem], .inl ⟨hwf.out, rfl⟩, ?_⟩;exact (hbel.out.trans b9).trans (qb6 _ (by omega) (Array.getElem?_eq_some_iff.1 hK2).1 _)
end Go.Proofs.YtplijnfaiofckaaGreatDoor
