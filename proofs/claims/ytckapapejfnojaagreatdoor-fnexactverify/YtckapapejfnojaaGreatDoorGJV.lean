import Derived.Test.YtckapapejfnojaaGreatDoorGHV
import Derived.Test.YtckapapejfnojaaGreatDoorChQV
import Derived.Test.YtckapapejfnojaaGreatDoorUsBV
import Derived.Test.YtckapapejfnojaaGreatDoorGIV
namespace Go.Proofs.YtckapapejfnojaaGreatDoor
section
open Go.RowKit Go.Shelf
set_option linter.unusedVariables false
set_option linter.unusedSimpArgs false
set_option maxRecDepth 100000
set_option maxHeartbeats 2000000
/-- the cells of a verifier. -/
def vrTab (v e c : Value) : Array Value := #[v, e] ++ usTab ++ #[c]
theorem vrTab_0 (v e c : Value) : (vrTab v e c)[0]? = some v := by simp [vrTab, Array.getElem?_append]
theorem vrTab_1 (v e c : Value) : (vrTab v e c)[1]? = some e := by simp [vrTab, Array.getElem?_append]
theorem vrTab_us (v e c : Value) {n j : Nat} (hn : n < 64) (hj : j < 10) : (vrTab v e c)[2 + n * 10 + j]? = some (usC n j) := by
  have hs := usTab_size
  have h := usTab_get hn hj
  unfold vrTab
  rw [Array.getElem?_append_left (by simp [hs]; omega), Array.getElem?_append_right (by simp; omega)]
  rw [← h]
  congr 1
  simp
  omega
theorem vrTab_c (v e c : Value) : (vrTab v e c)[642]? = some c := by
  have hs := usTab_size
  unfold vrTab
  rw [Array.getElem?_append_right (by simp [hs])]
  simp [hs]
theorem vrTab_size (v e c : Value) : (vrTab v e c).size = 643 := by
  have hs := usTab_size
  simp [vrTab, hs]
theorem vr_info (v e c : Value) : (Tryz.prog.info? 95).map (·.size) = some (vrTab v e c).size := by
  rw [vrTab_size]; kernel_rfl
theorem vr_zero (v e c : Value) : Tryz.zeroCells95.size = (vrTab v e c).size := by
  rw [vrTab_size]; kernel_rfl
theorem vr_one (a1 a2 a3 : Option Addr) (n1 n2 n3 c1 c2 c3 : Nat) : (vrTab (.slice a1 n1 c1) (.slice a2 n2 c2) (.slice a3 n3 c3)).all (·.oneCell') = true := by
  unfold vrTab
  rw [Array.all_append, Array.all_append, us_one]
  simp [Value.oneCell']
/-- a row of cells over another. -/
def over (off : Nat) (vs cs : Array Value) : Array Value := vs.zipIdx.foldl (fun cs (c, j) => cs.setIfInBounds (off + j) c) cs
theorem over_list (off : Nat) : ∀ (l : List Value) (k : Nat) (cs : Array Value), ((l.zipIdx k).foldl (fun cs (c, j) => cs.setIfInBounds (off + j) c) cs).size = cs.size ∧
    ∀ i, ((l.zipIdx k).foldl (fun cs (c, j) => cs.setIfInBounds (off + j) c) cs)[i]? = if off + k ≤ i ∧ i < off + k + l.length ∧ i < cs.size then l[i - (off + k)]? else cs[i]?
  | [], k, cs => ⟨rfl, fun i => by rw [if_neg (by simp; omega)]; rfl⟩
  | x :: l, k, cs => by
    obtain ⟨h1, h2⟩ := over_list off l (k + 1) (cs.setIfInBounds (off + k) x)
    simp only [List.zipIdx_cons, List.foldl_cons]
    refine ⟨by rw [h1]; simp, fun i => ?_⟩
    rw [h2 i, Array.size_setIfInBounds]
    by_cases hi : i = off + k
    · subst hi
      rw [if_neg (by omega), Array.getElem?_setIfInBounds_self]
      by_cases hc : off + k < cs.size
      · rw [if_pos hc, if_pos (by simp; omega)]; simp
      · rw [if_neg hc, if_neg (by omega), Array.getElem?_eq_none (by omega)]
    · rw [Array.getElem?_setIfInBounds_ne (by omega)]
      by_cases hc : off + (k + 1) ≤ i ∧ i < off + (k + 1) + l.length ∧ i < cs.size
      · rw [if_pos hc, if_pos (by simp; omega), show i - (off + k) = (i - (off + (k + 1))) + 1 by omega, List.getElem?_cons_succ]
      · rw [if_neg hc, if_neg (by simp; omega)]
theorem over_fold (off : Nat) (vs cs : Array Value) : over off vs cs = (vs.toList.zipIdx 0).foldl (fun cs (c, j) => cs.setIfInBounds (off + j) c) cs := by
  unfold over
  rw [← Array.foldl_toList, Array.toList_zipIdx]
theorem over_size (off : Nat) (vs cs : Array Value) : (over off vs cs).size = cs.size := by rw [over_fold]; exact (over_list off vs.toList 0 cs).1
theorem over_get (off : Nat) (vs cs : Array Value) (i : Nat) : (over off vs cs)[i]? = if off ≤ i ∧ i < off + vs.size ∧ i < cs.size then vs[i - off]? else cs[i]? := by
  rw [over_fold, (over_list off vs.toList 0 cs).2 i]
  simp
theorem fill_cons {place : Nat → Option (Nat × Nat)} {cells : Array Value} {i : Nat} {v : Value} {rest : List (Nat × Value)} (off n : Nat) (hp : place i = some (off, n)) (hn : v.cells.size = n) (h : off + n ≤ cells.size) :
    Instr.fill place cells ((i, v) :: rest) = Instr.fill place (over off v.cells cells) rest := by
  subst hn
  rw [Instr.fill, hp]
  dsimp only
  rw [if_neg (by simp; omega)]
  rfl
theorem vr_zinfo : ((Tryz.prog.info? 95).bind (·.zero)).map (·.cells.size) = some 643 := by kernel_rfl
theorem vr_places : (((Tryz.prog.underlying 95).bind fun d => match d with | .struct fields => some fields.toList | _ => none).bind fun fs => fs.mapM (fun f => (Tryz.prog.info? f.type).map fun i => (f.offset, i.size))) = some [(0, 1), (1, 1), (2, 640), (642, 1)] := by kernel_rfl
theorem vr_built_any (U : Array Value) (hs : U.size = 640) (a1 a2 a3 : Option Addr) (n1 n2 n3 c1 c2 c3 : Nat) : Tryz.prog.built 95 [(0, .slice a1 n1 c1), (1, .slice a2 n2 c2), (2, .agg U), (3, .slice a3 n3 c3)] = some (#[.slice a1 n1 c1, .slice a2 n2 c2] ++ U ++ #[.slice a3 n3 c3]) := by
  have hz := vr_zinfo
  have hp := vr_places
  unfold Program.built
  cases hit : Tryz.prog.info? 95 with
  | none => rw [hit] at hz; cases hz
  | some it =>
  rw [hit] at hz
  cases hu : Tryz.prog.underlying 95 with
  | none => rw [hu] at hp; cases hp
  | some d =>
  rw [hu] at hp
  cases d <;> try (simp at hp; done)
  case struct fields =>
  simp only [Option.bind_some] at hp hz
  cases hzz : it.zero with
  | none => rw [hzz] at hz; cases hz
  | some z =>
  rw [hzz] at hz
  simp only [Option.map_some, Option.some.injEq] at hz
  simp only [hzz, hp]
  generalize z.cells = Z at hz
  have e1 : (Value.slice a1 n1 c1).cells = #[.slice a1 n1 c1] := rfl
  have e2 : (Value.slice a2 n2 c2).cells = #[.slice a2 n2 c2] := rfl
  have e3 : (Value.slice a3 n3 c3).cells = #[.slice a3 n3 c3] := rfl
  have e4 : (Value.agg U).cells = U := rfl
  rw [fill_cons 0 1 rfl rfl (by omega), e1, fill_cons 1 1 rfl rfl (by rw [over_size]; omega), e2, fill_cons 2 640 rfl (by rw [e4]; exact hs) (by rw [over_size, over_size]; omega), e4, fill_cons 642 1 rfl rfl (by rw [over_size, over_size, over_size]; omega), e3, Instr.fill]
  congr 1
  refine Array.ext_getElem? fun i => ?_
  rw [over_get, over_get, over_get, over_get, over_size, over_size, over_size, hz, hs]
  by_cases h0 : i = 0
  · subst h0
    simp [Array.getElem?_append]
  by_cases h1 : i = 1
  · subst h1
    simp [Array.getElem?_append]
  by_cases h2 : i < 642
  · rw [if_neg (by omega), if_pos (by omega), Array.getElem?_append_left (by simp [hs]; omega), Array.getElem?_append_right (by simp; omega)]
    simp
  by_cases h3 : i = 642
  · subst h3
    rw [if_pos (by simp), Array.getElem?_append_right (by simp [hs])]
    simp [hs]
  · rw [if_neg (by simp; omega), if_neg (by omega), if_neg (by simp; omega), if_neg (by simp; omega), Array.getElem?_eq_none (by omega), Array.getElem?_eq_none (by simp [hs]; omega)]
theorem vr_built (a1 a2 a3 : Option Addr) (n1 n2 n3 c1 c2 c3 : Nat) : Tryz.prog.built 95 [(0, .slice a1 n1 c1), (1, .slice a2 n2 c2), (2, .agg usTab), (3, .slice a3 n3 c3)] = some (vrTab (.slice a1 n1 c1) (.slice a2 n2 c2) (.slice a3 n3 c3)) :=
  vr_built_any usTab usTab_size a1 a2 a3 n1 n2 n3 c1 c2 c3
/-- what lies in memory once a verifier is made. -/
structure Vok (w : World) (s : Sl PD) (VB b o cap be oe ce cb : Nat) : Prop where
  ver : Ver w VB s b o cap be oe ce
  us : UsO w VB 2
  sp : Spans w
  ck : w.cell? ⟨VB, 642, none⟩ = some (.slice (some ⟨cb, 0, none⟩) 9 9)
  row : RowL w cb 162 ckL
theorem Vok.later {w w' : World} {s : Sl PD} {VB b o cap be oe ce cb : Nat} (h : Vok w s VB b o cap be oe ce cb) (hb : Below w.heap.size w w') : Vok w' s VB b o cap be oe ce cb :=
  ⟨h.ver.later hb, h.us.later h.ver.lt hb, h.sp.below hb, (hb.cell (p := ⟨VB, 642, none⟩) h.ver.lt).trans h.ck, h.row.call hb⟩
theorem vok_fin {w2 y : World} {s : Sl PD} {VB eb cb b o cap : Nat} {E : Nat → Nat} (hb : Below w2.heap.size w2 y) (hVB : w2.heap.size ≤ VB) (hz : y.heap[VB]? = some (.cells Tryz.zeroCells95 95 (0, 0)))
    (hp : IsProtos (· < w2.heap.size) w2 (.slice (some ⟨b, o, none⟩) s.n cap) s) (h0 : 0 < s.n) (hS : Spans w2) (he : y.rowIs eb 3 s.n (fun j => .int .i64 (E j : Int))) (hE : ∀ i, i < s.n → ∃ h, Fo (kidsOf s) s.n 1 i (E i) h)
    (hk : RowL y cb 162 ckL) (h1 : eb ≠ VB) (h2 : cb ≠ VB) :
    Vok (y.setRow VB (vrTab (.slice (some ⟨b, o, none⟩) s.n cap) (.slice (some ⟨eb, 0, none⟩) s.n s.n) (.slice (some ⟨cb, 0, none⟩) 9 9))) s VB b o cap eb 0 s.n cb ∧ Below w2.heap.size w2 (y.setRow VB (vrTab (.slice (some ⟨b, o, none⟩) s.n cap) (.slice (some ⟨eb, 0, none⟩) s.n s.n) (.slice (some ⟨cb, 0, none⟩) 9 9))) := by
  generalize hT : vrTab (.slice (some ⟨b, o, none⟩) s.n cap) (.slice (some ⟨eb, 0, none⟩) s.n s.n) (.slice (some ⟨cb, 0, none⟩) 9 9) = T
  have bx : Below w2.heap.size w2 (y.setRow VB T) := ⟨hb.os, hb.tape, hb.output, by rw [setRow_size]; exact hb.size, fun k hk => (setRow_other _ _ _ _ (by omega)).trans (hb.block k hk)⟩
  have hlt : VB < y.heap.size := (Array.getElem?_eq_some_iff.1 hz).1
  have ce : ∀ j, (y.setRow VB T).cell? ⟨VB, j, none⟩ = T[j]? := fun j => cell_setRow_same _ _ _ _ _ _ _ hz
  have he' : (y.setRow VB T).rowIs eb 3 s.n (fun j => .int .i64 (E j : Int)) := World.rowIs.of_block he (setRow_other _ _ _ _ h1)
  have hk' : RowL (y.setRow VB T) cb 162 ckL := World.rowIs.of_block hk (setRow_other _ _ _ _ h2)
  obtain ⟨b', o', hbo, -, hpr⟩ := (hp.later bx).proto h0
  simp only [Option.some.injEq, Addr.mk.injEq] at hbo
  obtain ⟨rfl, rfl, -⟩ := hbo
  refine ⟨⟨⟨by rw [setRow_size]; exact hlt, by rw [ce, ← hT]; exact vrTab_0 _ _ _, by rw [ce, ← hT]; exact vrTab_1 _ _ _, hpr, he'.lt, fun i hi => ?_⟩, fun n j hn hj => by rw [ce, ← hT]; exact vrTab_us _ _ _ hn hj, hS.below bx, by rw [ce, ← hT]; exact vrTab_c _ _ _, hk'⟩, bx⟩
  obtain ⟨h, t⟩ := hE i hi
  rw [EE_eq t, Nat.zero_add]
  exact he'.cell hi
theorem IsProtos.slice {av : Nat → Prop} {w : World} {v : Value} {s : Sl PD} (h : IsProtos av w v s) : ∃ ao cap, v = .slice ao s.n cap := by
  obtain ⟨a3, a4, a5, a8, a9, ⟨ao, cap, rfl, hn, hc⟩, ht⟩ := h
  exact ⟨ao, cap, rfl⟩
theorem ends_of (y : World) (s : Sl PD) (b o cap : Nat) (hw : Wf s) (hp : IsProtos (· < y.heap.size) y (.slice (some ⟨b, o, none⟩) s.n cap) s) :
    Calls Tryz.prog 41 #[.slice (some ⟨b, o, none⟩) s.n cap] y fun e w' => (∃ E : Nat → Nat, e = .returned (.slice (some ⟨y.heap.size, 0, none⟩) s.n s.n) ∧ w'.rowIs y.heap.size 3 s.n (fun j => .int .i64 (E j : Int)) ∧ ∀ i, i < s.n → ∃ h, Fo (kidsOf s) s.n 1 i (E i) h) ∧ Below y.heap.size y w' := by
  refine (treeEnds_in _ _ _ (kidsOf s) y hw.high hp.kids).mono ?_
  rintro e w' ⟨⟨v, rfl, h⟩, hb⟩
  rcases h with ⟨-, hno⟩ | ⟨E, h0, rfl, hr, hE, -⟩
  · obtain ⟨h, t, -⟩ := hw.tree
    exact absurd t (hno h)
  · exact ⟨⟨E, rfl, hr, hE⟩, hb⟩
end
section
open Go.RowKit Go.Shelf
set_option linter.unusedVariables false
set_option linter.unusedSimpArgs false
set_option maxRecDepth 100000
set_option maxHeartbeats 2000000
/-- the function of a round. -/
def vfF : Nat → Nat
  | 0 => 43
  | _ => 44
/-- what a round says of a prototype. -/
def RR (E : Nat → Nat) (s : Sl PD) : Nat → Nat → Int → Int → Int → Prop
  | 0 => Rep1 E s
  | _ => Rep2 s
theorem vf_call {r : Nat} (hr : r < 2) (args : Array Value) (w : World) : (callFunc (vfF r) args).run Tryz.prog w = .ok (.enter (vfF r) args) w := by
  match r, hr with
  | 0, _ => show (callFunc 43 args).run Tryz.prog w = .ok (.enter 43 args) w; kernel_rfl
  | 1, _ => show (callFunc 44 args).run Tryz.prog w = .ok (.enter 44 args) w; kernel_rfl
theorem vf_in {w : World} {s : Sl PD} {VB b o cap be oe ce cb : Nat} (h : Vok w s VB b o cap be oe ce cb) (hw : Wf s) (hC : CodeB s) (r k : Nat) (hk : k < s.n) :
    Calls Tryz.prog (vfF r) #[.pointer (some ⟨VB, 0, none⟩), .int .i64 (k : Int)] w fun e w' => SaysR e (RR (EE (kidsOf s) s.n) s r k) ∧ Below w.heap.size w w' := by
  cases r with
  | zero => exact first_in w VB s b o cap be oe ce h.ver hw h.us h.sp hC cb h.ck h.row k hk
  | succ r => exact second_in w VB s b o cap be oe ce h.ver hw h.us h.sp hC k hk
theorem RR.zero {E : Nat → Nat} {s : Sl PD} {r k : Nat} {pr pc : Int} (h : RR E s r k 0 pr pc) : pr = 0 ∧ pc = 0 := by
  cases r with
  | zero =>
    obtain ⟨q, c0, -, h⟩ := h
    rcases h with ⟨a, b, -⟩ | ⟨-, -, b, -⟩ | ⟨-, -, -, b, c⟩
    · exact absurd b.symm a
    · exact absurd b (by decide)
    · exact ⟨b, c⟩
  | succ r =>
    obtain ⟨q, c0, -, h⟩ := h
    rcases h with ⟨-, b, -⟩ | ⟨-, -, b, c⟩
    · exact absurd b (by decide)
    · exact ⟨b, c⟩
theorem rep_of {E : Nat → Nat} {s : Sl PD} {r k : Nat} {c pr pc : Int} (hr : r < 2) (hk : k < s.n) (hc : c ≠ 0) (hR : RR E s r k c pr pc) (hj : ∀ j, j < k → RR E s r j 0 0 0) (hp : ∀ r', r' < r → ∀ j, j < s.n → RR E s r' j 0 0 0) : Rep E s c pr pc := by
  match r, hr with
  | 0, _ => exact .inl ⟨hc, .inl ⟨k, hk, hc, hR, hj⟩⟩
  | 1, _ => exact .inr ⟨.inr ⟨rfl, rfl, rfl, hp 0 (by decide)⟩, .inl ⟨k, hk, hc, hR, hj⟩⟩
theorem rep_end {E : Nat → Nat} {s : Sl PD} (hp : ∀ r', r' < 2 → ∀ j, j < s.n → RR E s r' j 0 0 0) : Rep E s 0 0 0 :=
  .inr ⟨.inr ⟨rfl, rfl, rfl, hp 0 (by decide)⟩, .inr ⟨rfl, rfl, rfl, hp 1 (by decide)⟩⟩
/-- the list of the rounds. -/
def fnL (VB : Nat) : List Value := [.func (.func 43) #[.pointer (some ⟨VB, 0, none⟩)] #[], .func (.func 44) #[.pointer (some ⟨VB, 0, none⟩)] #[]]
theorem fn_cell {w : World} {fb VB : Nat} {t : TypeId} (h : RowL w fb t (fnL VB)) {r : Nat} (hr : r < 2) : w.cell? ⟨fb, r, none⟩ = some (.func (.func (vfF r)) #[.pointer (some ⟨VB, 0, none⟩)] #[]) := by
  match r, hr with
  | 0, _ => exact h.cell 0 rfl
  | 1, _ => exact h.cell 1 rfl
/-- between two rounds, between two prototypes. -/
structure Rnd (w wr : World) (s : Sl PD) (VB b o cap eb cb fb : Nat) (r k : Nat) : Prop where
  ok : Vok wr s VB b o cap eb 0 s.n cb
  fn : RowL wr fb 96 (fnL VB)
  rep : RowL wr (w.heap.size + 1) 41 [.int .i64 0, .int .i64 0, .int .i64 0]
  bel : Below w.heap.size w wr
  old : ∀ r', r' < r → ∀ j, j < s.n → RR (EE (kidsOf s) s.n) s r' j 0 0 0
  now : ∀ j, j < k → RR (EE (kidsOf s) s.n) s r j 0 0 0
theorem Rnd.later {w wr wq : World} {s : Sl PD} {VB b o cap eb cb fb r k : Nat} (h : Rnd w wr s VB b o cap eb cb fb r k) (hb : Below wr.heap.size wr wq) : Rnd w wq s VB b o cap eb cb fb r k :=
  ⟨h.ok.later hb, h.fn.call hb, h.rep.call hb, h.bel.trans (hb.mono h.bel.size), h.old, h.now⟩
end
end Go.Proofs.YtckapapejfnojaaGreatDoor
