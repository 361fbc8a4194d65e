import Derived.Test.YtlkmohhkhcbiaaaDrJ
namespace Go.Proofs.Ytlkmohhkhcbiaaa
open Go.RowKit Go.Shelf
set_option linter.unusedVariables false
set_option linter.unusedSimpArgs false
attribute [local go_sem] Oper.semAt_some
theorem conv_one (w : World) (n : Int) : (convert 22 9 (.slice (some ⟨w.heap.size, 0, none⟩) 1 1)).run Try.prog (w.alloc (.cells #[.int .u8 n] 5)) = .ok (.string (strOfNums [n])) (w.alloc (.cells #[.int .u8 n] 5)) := by
  refine run_convert_bytes_arg _ 22 5 Try.underlying22 Try.underlying5 _ 0 1 1 [n] rfl (fun i hi => ?_) 9 Try.underlying9
  obtain rfl : i = 0 := by omega
  simp [go_sem]
set_option maxRecDepth 100000 in
set_option maxHeartbeats 400000 in
theorem l1Byte_any (n : Int) (w : World) (h0 : 0 ≤ n) (h1 : n ≤ 255) :
    Calls Try.prog 43 #[.int .i64 n] w fun e w' => e = .returned (.string (strOfNums [n])) ∧ Below w.heap.size w w' := by
  have hcv := conv_one w n
  go_enter Try.func43, Try.ntmps43
  go_wp2
  go_ret
  exact ⟨rfl, by go_grown⟩
theorem infoInt : (Try.prog.info? 3).map (fun i => (i.zero, i.size, i.bytes)) = some (some (.int .i64 0), 1, 8) := by kernel_rfl
theorem infoStr : (Try.prog.info? 9).map (fun i => (i.zero, i.size, i.bytes)) = some (some (.string ⟨#[]⟩), 1, 16) := by kernel_rfl
theorem infoPro : (Try.prog.info? 35).map (fun i => (i.zero, i.size, i.bytes)) = some (some (.agg #[.int .i64 0, .bool false, .int .i64 0, .slice none 0 0, .slice none 0 0, .slice none 0 0, .int .i64 0, .string ⟨#[]⟩, .slice none 0 0, .slice none 0 0]), 10, 168) := by kernel_rfl
/-- the prototype in its box, while its debug texts are made. -/
structure KSt (w0 : World) (pa : Int) (va : Bool) (vc vk vu : Value) (kids : Int) (nm : ByteArray) (y : World) (vl : Value) (LI : List Int) (vn : Value) (NM : List ByteArray) : Prop where
  box : RowL y w0.heap.size 35 [.int .i64 pa, .bool va, .int .i64 12, vc, vk, vu, .int .i64 kids, .string nm, vl, vn]
  lines : y.ownsRow w0.heap.size 3 1 vl LI.length (LI.map (Value.int .i64))
  names : y.ownsRow w0.heap.size 9 1 vn NM.length (NM.map Value.string)
  bel : Below w0.heap.size w0 y
section
variable {w0 : World} {pa : Int} {va : Bool} {vc vk vu : Value} {kids : Int} {nm : ByteArray} {y : World} {vl : Value} {LI : List Int} {vn : Value} {NM : List ByteArray}
theorem KSt.later (h : KSt w0 pa va vc vk vu kids nm y vl LI vn NM) {y' : World} (hb : Below y.heap.size y y') : KSt w0 pa va vc vk vu kids nm y' vl LI vn NM :=
  ⟨h.box.call hb, own_below h.lines hb, own_below h.names hb, h.bel.trans (hb.mono h.bel.size)⟩
theorem KSt.named (h : KSt w0 pa va vc vk vu kids nm y vl LI vn NM) (nm' : ByteArray) : KSt w0 pa va vc vk vu kids nm' (y.setCell ⟨w0.heap.size, 7, none⟩ (.string nm')) vl LI vn NM := by
  have n1 := own_ne_row h.lines h.box (by decide)
  have n2 := own_ne_row h.names h.box (by decide)
  exact ⟨h.box.set 7 _, own_keep h.lines fun k hk => Below.heap_setCell _ _ _ _ (by rintro rfl; exact n1 hk), own_keep h.names fun k hk => Below.heap_setCell _ _ _ _ (by rintro rfl; exact n2 hk), h.bel.setCell (p := ⟨w0.heap.size, 7, none⟩) (Nat.le_refl _) _⟩
theorem KSt.line (h : KSt w0 pa va vc vk vu kids nm y vl LI vn NM) {w' : World} {v' : Value} {N : List Int} (hrow : w'.ownsRow w0.heap.size 3 1 v' (LI ++ N).length ((LI ++ N).map (Value.int .i64))) (hg : y.grownBy w' vl.ownBlock) :
    KSt w0 pa va vc vk vu kids nm (w'.setCell ⟨w0.heap.size, 8, none⟩ v') v' (LI ++ N) vn NM ∧ RowL w' w0.heap.size 35 [.int .i64 pa, .bool va, .int .i64 12, vc, vk, vu, .int .i64 kids, .string nm, vl, vn] := by
  have n1 := own_ne_row h.lines h.box (by decide)
  have n3 := own_ne_own h.lines h.names (by decide)
  have b1 : RowL w' w0.heap.size 35 _ := World.rowIs.of_block h.box (hg.block _ h.box.lt fun e => n1 e.symm)
  have hu : w'.ownsRow w0.heap.size 9 1 vn NM.length (NM.map Value.string) := World.ownsRow.kept h.names hg (by
    cases e : vn.ownBlock with
    | none => exact .inl rfl
    | some q => exact .inr fun e2 => n3 q e e2.symm)
  have n4 := own_ne_row hrow b1 (by decide)
  have n5 := own_ne_row hu b1 (by decide)
  exact ⟨⟨b1.set 8 v', own_keep hrow fun k hk => Below.heap_setCell _ _ _ _ (by rintro rfl; exact n4 hk), own_keep hu fun k hk => Below.heap_setCell _ _ _ _ (by rintro rfl; exact n5 hk), (Below.grown h.bel hg h.bel.size (fun q hq => (h.lines.lt q hq).1)).setCell (p := ⟨w0.heap.size, 8, none⟩) (Nat.le_refl _) _⟩, b1⟩
theorem KSt.upn (h : KSt w0 pa va vc vk vu kids nm y vl LI vn NM) {w' : World} {v' : Value} {N : List ByteArray} (hrow : w'.ownsRow w0.heap.size 9 1 v' (NM ++ N).length ((NM ++ N).map Value.string)) (hg : y.grownBy w' vn.ownBlock) :
    KSt w0 pa va vc vk vu kids nm (w'.setCell ⟨w0.heap.size, 9, none⟩ v') vl LI v' (NM ++ N) ∧ RowL w' w0.heap.size 35 [.int .i64 pa, .bool va, .int .i64 12, vc, vk, vu, .int .i64 kids, .string nm, vl, vn] := by
  have n1 := own_ne_row h.names h.box (by decide)
  have n3 := own_ne_own h.names h.lines (by decide)
  have b1 : RowL w' w0.heap.size 35 _ := World.rowIs.of_block h.box (hg.block _ h.box.lt fun e => n1 e.symm)
  have hu : w'.ownsRow w0.heap.size 3 1 vl LI.length (LI.map (Value.int .i64)) := World.ownsRow.kept h.lines hg (by
    cases e : vl.ownBlock with
    | none => exact .inl rfl
    | some q => exact .inr fun e2 => n3 q e e2.symm)
  have n4 := own_ne_row hrow b1 (by decide)
  have n5 := own_ne_row hu b1 (by decide)
  exact ⟨⟨b1.set 9 v', own_keep hu fun k hk => Below.heap_setCell _ _ _ _ (by rintro rfl; exact n5 hk), own_keep hrow fun k hk => Below.heap_setCell _ _ _ _ (by rintro rfl; exact n4 hk), (Below.grown h.bel hg h.bel.size (fun q hq => (h.names.lt q hq).1)).setCell (p := ⟨w0.heap.size, 9, none⟩) (Nat.le_refl _) _⟩, b1⟩
/-- the list of this one prototype. -/
theorem KSt.tree (h : KSt w0 pa va vc vk vu kids nm y vl LI vn NM) {lo : Nat} {LC : List Int} {KD : List VD} {U : List UD} (hin : KIn lo w0 vc vk vu LC KD U) (hlo : lo ≤ w0.heap.size) (q : PD) (hq : q = { params := pa, vararg := va, regs := 12, code := slOf LC, consts := slOf KD, ups := slOf U, kids := kids, name := nm, lines := slOf LI, upNames := slOf NM }) (hnm : nm.size ≤ 100) (hNM : ∀ s ∈ NM, s.size ≤ 9223372036854775807) :
    TreeS lo (y.alloc (.cells #[.int .i64 pa, .bool va, .int .i64 12, vc, vk, vu, .int .i64 kids, .string nm, vl, vn] 35)) (.slice (some ⟨y.heap.size, 0, none⟩) 1 1) ⟨q, vc, vk, vu, vl, vn⟩ U [] := by
  subst hq
  have hbs := h.bel.size
  have hul := hin.ups.lt
  have hb1 : Below y.heap.size y (y.alloc (.cells #[.int .i64 pa, .bool va, .int .i64 12, vc, vk, vu, .int .i64 kids, .string nm, vl, vn] 35)) := (Below.refl _ _).alloc (Nat.le_refl _) _
  have hb2 : Below w0.heap.size w0 (y.alloc (.cells #[.int .i64 pa, .bool va, .int .i64 12, vc, vk, vu, .int .i64 kids, .string nm, vl, vn] 35)) := h.bel.trans (hb1.mono hbs)
  have m1 : ∀ b, (lo ≤ b ∧ b < w0.heap.size ∧ vu.ownBlock ≠ some b) → Av lo (y.alloc (.cells #[.int .i64 pa, .bool va, .int .i64 12, vc, vk, vu, .int .i64 kids, .string nm, vl, vn] 35)) (.slice (some ⟨y.heap.size, 0, none⟩) 1 1) vu b := fun b hb => ⟨hb.1, by rw [World.size_alloc]; omega, hb.2.2, fun e => by simp [Value.ownBlock] at e; omega⟩
  have m2 : ∀ b, w0.heap.size ≤ b ∧ b < y.heap.size → Av lo (y.alloc (.cells #[.int .i64 pa, .bool va, .int .i64 12, vc, vk, vu, .int .i64 kids, .string nm, vl, vn] 35)) (.slice (some ⟨y.heap.size, 0, none⟩) 1 1) vu b := fun b hb => ⟨by omega, by rw [World.size_alloc]; omega, fun e => by have := (hul b e).2; omega, fun e => by simp [Value.ownBlock] at e; omega⟩
  refine ⟨World.ownsRow_lit y _ 1 (by omega) (by simp only [maxLen]; omega) rfl, own_below (own_below hin.ups (h.bel)) hb1, rfl, (IsArr.keep hin.code fun b hb => hb2.block b hb.2.1).mono m1, ⟨(IsArr.keep hin.consts.1 fun b hb => hb2.block b hb.2.1).mono m1, hin.consts.2⟩, ?_, ?_, by show nm.size ≤ _; omega, by simp⟩
  · exact (IsArr.keep (ints_of_own h.lines h.lines.lt) fun b hb => hb1.block b hb.2).mono m2
  · have := strs_of_own h.names h.names.lt hNM
    exact ⟨(IsArr.keep this.1 fun b hb => hb1.block b hb.2).mono m2, this.2⟩
end
theorem IsArr.slice {av : Nat → Prop} {w : World} {v : Value} {z n : Nat} {C : Nat → Nat → Value} (h : IsArr av w v z n C) : ∃ ao cap, v = .slice ao n cap := by
  obtain ⟨ao, cap, h, -⟩ := h
  exact ⟨ao, cap, h⟩
theorem fCat (a : Int) : (⟨#[102]⟩ : ByteArray) ++ strOfNums [97 + a] = strOfNums [102, 97 + a] := by
  apply ByteArray.ext
  apply Array.ext'
  simp [strOfNums]
def lnL (i : Nat) : List Int := (List.range i).map fun (k : Nat) => (k : Int) * 37
theorem lnL_len (i : Nat) : (lnL i).length = i := by simp [lnL]
theorem lnL_succ (i : Nat) : lnL (i + 1) = lnL i ++ [(i : Int) * 37] := by simp [lnL, List.range_succ]
theorem own_slice {y : World} {lo : Nat} {e : TypeId} {z n : Nat} {v : Value} {xs : List Value} (h : y.ownsRow lo e z v n xs) : ∃ ao cap, v = .slice ao n cap := by
  rcases h.2 with ⟨h1, h2⟩ | ⟨g, cm, cur, h1, -⟩
  · exact ⟨none, 0, by rw [h1, h2]⟩
  · exact ⟨_, cm, h1⟩
/-- the first upvalue written. -/
theorem TreeS.setU {lo : Nat} {y : World} {v : Value} {x0 : PV} {U : List UD} {L : List PV} {gu cu : Nat} (h : TreeS lo y v x0 U L) (hu : x0.a5 = .slice (some ⟨gu, 0, none⟩) U.length cu) (h0 : 0 < U.length) (n : Int) :
    TreeS lo ((y.setCell ⟨gu, 0, none⟩ (.bool false)).setCell ⟨gu, 1, none⟩ (.int .i64 n)) v { x0 with p := { x0.p with ups := slSet x0.p.ups 0 ⟨false, n⟩ } } (U.set 0 ⟨false, n⟩) L := by
  have hk : ∀ b, b ≠ gu → ((y.setCell ⟨gu, 0, none⟩ (.bool false)).setCell ⟨gu, 1, none⟩ (.int .i64 n)).heap[b]? = y.heap[b]? := fun b hb => by
    rw [Below.heap_setCell _ _ _ _ hb, Below.heap_setCell _ _ _ _ hb]
  have hsz : ((y.setCell ⟨gu, 0, none⟩ (.bool false)).setCell ⟨gu, 1, none⟩ (.int .i64 n)).heap.size = y.heap.size := by rw [World.size_setCell, World.size_setCell]
  have hne : ∀ b, Av lo y v x0.a5 b → b ≠ gu := fun b hb e => hb.2.2.1 (by rw [hu, e]; rfl)
  have hk' : ∀ b, Av lo y v x0.a5 b → ((y.setCell ⟨gu, 0, none⟩ (.bool false)).setCell ⟨gu, 1, none⟩ (.int .i64 n)).heap[b]? = y.heap[b]? := fun b hb => hk b (hne b hb)
  have hm : ∀ b, Av lo y v x0.a5 b → Av lo ((y.setCell ⟨gu, 0, none⟩ (.bool false)).setCell ⟨gu, 1, none⟩ (.int .i64 n)) v x0.a5 b := fun b hb => ⟨hb.1, by rw [hsz]; exact hb.2.1, hb.2.2⟩
  have hvu := own_ne_own h.row h.ups (by decide) gu (by rw [hu]; rfl)
  have hups := h.ups
  rw [hu] at hups
  have s1 := (hups.stored 0 (.bool false)).1
  have s2 := (s1.stored 1 (.int .i64 n)).1
  have hcs : ((upCells U).set 0 (.bool false)).set 1 (.int .i64 n) = upCells (U.set 0 ⟨false, n⟩) := by
    cases U with
    | nil => simp at h0
    | cons u us => rfl
  rw [hcs] at s2
  refine ⟨?_, by show World.ownsRow _ lo _ 2 x0.a5 _ _; rw [hu, List.length_set]; exact s2, by show slSet x0.p.ups 0 _ = _; rw [h.pups, slOf_set _ _ _ h0], (IsArr.keep h.code hk').mono hm, ⟨(IsArr.keep h.consts.1 hk').mono hm, h.consts.2⟩, (IsArr.keep h.lines hk').mono hm, ⟨(IsArr.keep h.upNames.1 hk').mono hm, h.upNames.2⟩, h.name, fun x hx => ((h.rest x hx).keep hk').mono hm⟩
  exact own_keep h.row fun k hk1 => hk k (by rintro rfl; exact hvu hk1)
/-- between two children. -/
structure OutI (w : World) (lo : Nat) (x0 : PV) (U : List UD) (bx : List Value) (PS : List PD) (L : List PV) (v : Value) (y : World) : Prop where
  tree : TreeS lo y v x0 U L
  data : (x0 :: L).map PV.p = PS
  box : RowL y w.heap.size 35 bx
  bel : Below w.heap.size w y
  ne : ∀ k, v.ownBlock = some k → w.heap.size < k
/-- between two prototypes of a child. -/
structure InI (w : World) (lo : Nat) (x0 : PV) (U : List UD) (bx : List Value) (lo2 : Nat) (y3 : World) (L : List PV) (v : Value) (y : World) : Prop where
  tree : TreeS lo y v x0 U L
  keep : ∀ b, lo2 ≤ b → b < y3.heap.size → y.heap[b]? = y3.heap[b]? ∧ v.ownBlock ≠ some b
  box : RowL y w.heap.size 35 bx
  bel : Below w.heap.size w y
  ne : ∀ k, v.ownBlock = some k → w.heap.size < k
  size : y3.heap.size ≤ y.heap.size
theorem OutI.start {w : World} {lo : Nat} {x0 : PV} {U : List UD} {bx : List Value} {PS : List PD} {L : List PV} {v : Value} {y y2 y3 : World} (h : OutI w lo x0 U bx PS L v y) (b2 : Below y.heap.size y y2) (hk : ∀ b, b < y.heap.size → y3.heap[b]? = y2.heap[b]?) (b3 : Below w.heap.size w y3) (hs : y2.heap.size ≤ y3.heap.size) : InI w lo x0 U bx y.heap.size y3 L v y3 := by
  have hk' : ∀ b, b < y.heap.size → y3.heap[b]? = y.heap[b]? := fun b hb => (hk b hb).trans (b2.block b hb)
  have h2 := b2.size
  have h1 := h.tree.row.lt
  exact ⟨h.tree.move (own_keep h.tree.row fun k hk1 => hk' k (h1 k hk1).2) (fun b hb _ => hk' b hb) (by omega) (fun _ _ e => e) (fun x hx => .inl hx), fun b hb1 hb2 => ⟨rfl, fun e => by have := (h1 b e).2; omega⟩, World.rowIs.of_block h.box (hk' _ h.box.lt), b3, h.ne, Nat.le_refl _⟩
theorem InI.step {w : World} {lo : Nat} {x0 : PV} {U : List UD} {bx : List Value} {lo2 : Nat} {y3 : World} {L : List PV} {v v' : Value} {y w' : World} {x : PV} {o : Obj} (h : InI w lo x0 U bx lo2 y3 L v y) (hlo : lo ≤ lo2) (hx0 : ∀ b, x0.a5.ownBlock = some b → b < lo2) (hx : IsProto (fun b => lo2 ≤ b ∧ b < y3.heap.size) y3 x.a3 x.a4 x.a5 x.a8 x.a9 x.p)
    (hrow : w'.ownsRow lo 35 10 v' (L.length + 1 + 1) (pvCells (x0 :: L) ++ x.cells)) (hg : (y.alloc o).grownBy w' v.ownBlock) (hat : v'.ownBlock = v.ownBlock ∨ v'.ownBlock = some (y.alloc o).heap.size) : InI w lo x0 U bx lo2 y3 (L ++ [x]) v' w' := by
  have hba : Below y.heap.size y (y.alloc o) := (Below.refl _ _).alloc (Nat.le_refl _) _
  have hsa : (y.alloc o).heap.size = y.heap.size + 1 := World.size_alloc _ _
  have hsz := h.size
  have hws := h.bel.size
  have hxA : IsProto (Av lo (y.alloc o) v x0.a5) (y.alloc o) x.a3 x.a4 x.a5 x.a8 x.a9 x.p := by
    refine (hx.keep fun b hb => ?_).mono fun b hb => ⟨by omega, by omega, fun e => by have := hx0 b e; omega, (h.keep b hb.1 hb.2).2⟩
    exact (hba.block b (by omega)).trans (h.keep b hb.1 hb.2).1
  have hne' : ∀ k, v'.ownBlock = some k → w.heap.size < k := fun k hk => by
    rcases hat with e | e
    · exact h.ne k (e ▸ hk)
    · rw [e] at hk
      simp at hk
      omega
  refine ⟨(h.tree.later hba).app hrow hg hat hxA, fun b hb1 hb2 => ⟨?_, fun e => ?_⟩, ?_, ?_, hne', ?_⟩
  · exact ((hg.block b (by omega) fun e => (h.keep b hb1 hb2).2 e.symm).trans (hba.block b (by omega))).trans (h.keep b hb1 hb2).1
  · rcases hat with e2 | e2
    · exact (h.keep b hb1 hb2).2 (e2 ▸ e)
    · rw [e2] at e
      simp at e
      omega
  · exact World.rowIs.of_block (h.box.call hba) (hg.block _ (h.box.call hba).lt fun e => by have := h.ne _ e.symm; omega)
  · exact Below.grown (h.bel.trans (hba.mono hws)) hg (by omega) fun k hk => Nat.le_of_lt (h.ne k hk)
  · have := hg.size
    omega
theorem kSeq_bd (c : Sl Int) (level : Int) (T : Nat → Int → List PD × Nat) (q : PD) (nu p : Nat) (kids : Nat) (hp : p ≤ 100000) (hk3 : kids ≤ 3) (hT : 0 < kids → ∀ p' ups, p' ≤ p + 10000 → 0 ≤ ups → ups ≤ 2 → TreeA c level p' ups (T p' ups)) : ∀ i, i ≤ kids → (kSeq c T q nu (p + 1) i).2 ≤ p + 1 + 2001 * i ∧ (kSeq c T q nu (p + 1) i).1.length ≤ 1 + 100 * i := by
  intro i
  induction i with
  | zero => intro _; simp [kSeq]
  | succ i ih =>
    intro hi
    obtain ⟨h1, h2⟩ := ih (by omega)
    have bt := tk_bd c (kSeq c T q nu (p + 1) i).2 3
    obtain ⟨t1, t2, -⟩ := hT (by omega) ((kSeq c T q nu (p + 1) i).2 + 1) (tk c (kSeq c T q nu (p + 1) i).2 3) (by omega) bt.1 (by have := bt.2 (by omega); omega)
    rw [kSeq]
    refine ⟨Nat.le_trans t1 (by omega), ?_⟩
    have hfl : ∀ (S : List PD) (n : Int), (fixU S n).length = S.length := fun S n => by cases S <;> rfl
    show List.length (_ ++ _) ≤ _
    rw [List.length_append]
    split
    · rw [hfl]; omega
    · omega
end Go.Proofs.Ytlkmohhkhcbiaaa
