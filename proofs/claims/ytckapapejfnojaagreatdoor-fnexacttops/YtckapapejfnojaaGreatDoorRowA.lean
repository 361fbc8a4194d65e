import Derived.Test.YtckapapejfnojaaGreatDoorChA
import Derived.Test.YtckapapejfnojaaGreatDoorRows
namespace Go.Proofs.YtckapapejfnojaaGreatDoor
open Go.RowKit
set_option linter.unusedVariables false
set_option linter.unusedSimpArgs false
def Filled (g : Nat → Value) (z i : Nat) (C : Nat → Nat → Value) : Prop := ∀ i', i' < i → ∀ j, j < z → g (i' * z + j) = C i' j

theorem isArr_of_row {w : World} {B : Nat} {e : TypeId} {z n : Nat} {g : Nat → Value} {C : Nat → Nat → Value} {av : Nat → Prop} (h : w.rowIs B e (n * z) g) (hF : Filled g z n C) (hav : av B) (hn : n ≤ 9223372036854775807) :
    IsArr av w (.slice (some ⟨B, 0, none⟩) n n) z n C := by
  refine ⟨_, _, rfl, hn, fun _ => ⟨B, 0, rfl, hav, fun i hi j hj => ?_⟩⟩
  have hlt : i * z + j < n * z := by
    have := Nat.mul_le_mul_right z (show i + 1 ≤ n from hi)
    rw [Nat.succ_mul] at this
    omega
  have hc := h.cell hlt
  rw [hF i hi j hj] at hc
  simpa [Nat.add_assoc] using hc

theorem lt_mul_of {i n j z : Nat} (hi : i < n) (hj : j < z) : i * z + j < n * z := by
  have := Nat.mul_le_mul_right z (show i + 1 ≤ n from hi)
  rw [Nat.succ_mul] at this
  omega

/-- the world behind 'make'. -/
def madeW (w : World) (z : Value) (n size : Nat) (e : TypeId) : World := w.alloc (.cells (madeCells z.cells (n * size)) e)
theorem run_make_rows (t e : TypeId) (z : Value) (size bytes : Nat) (ht : Tryz.prog.underlying t = some (.slice e)) (hinfo : (Tryz.prog.info? e).map (fun i => (i.zero, i.size, i.bytes)) = some (some z, size, bytes))
    (n : Nat) (hbytes : bytes * n ≤ 281474976710656) (h63 : n ≤ 9223372036854775807) (w : World) :
    (Instr.makeSlice t (.int .i64 (n : Int)) (.int .i64 (n : Int))).run Tryz.prog w = .ok (.slice (some ⟨w.heap.size, 0, none⟩) n n) (madeW w z n size e) := by
  obtain ⟨i, hi, hzz⟩ := Option.map_eq_some_iff.1 hinfo
  simp only [Prod.mk.injEq] at hzz
  obtain ⟨hz, hs, hb⟩ := hzz
  have hb' : (i.bytes : Int) * (n : Int) ≤ 281474976710656 := by
    have h : ((i.bytes * n : Nat) : Int) ≤ 281474976710656 := by rw [hb]; omega
    rwa [Int.natCast_mul] at h
  have hr := run_make (P := Tryz.prog) w t e i z ht hi hz .i64 .i64 n n (by omega) (Int.le_refl _) hb' (by omega)
  simp only [Int.toNat_natCast, hs] at hr
  exact hr
theorem rowIs_madeW (w : World) (z : Value) (n size : Nat) (t : TypeId) : ∃ g, (madeW w z n size t).rowIs w.heap.size t (n * size) g := by
  refine ⟨fun i => (madeCells z.cells (n * size))[i]!, madeCells z.cells (n * size), Go.Deep.blk_alloc_new _ _, size_madeCells _ _, fun i hi => ?_⟩
  show _ = some (madeCells z.cells (n * size))[i]!
  rw [getElem!_pos _ _ (by rw [size_madeCells]; exact hi)]
  simp
theorem below_madeW (w : World) (z : Value) (n size : Nat) (t : TypeId) : Below w.heap.size w (madeW w z n size t) := (Below.refl _ _).alloc (Nat.le_refl _) _

/-- block b is a row that holds just these. -/
def RowL (w : World) (b : Nat) (t : TypeId) (L : List Value) : Prop := w.rowIs b t L.length (fun j => L.getD j undef)
theorem RowL.new (w : World) (L : List Value) (t : TypeId) : RowL (w.alloc (.cells L.toArray t)) w.heap.size t L :=
  World.rowIs_alloc w L.toArray t _ (fun i hi => by
    simp at hi
    simp [List.getD, hi])
theorem RowL.alloc {w : World} {b : Nat} {t : TypeId} {L : List Value} (h : RowL w b t L) (o : Obj) : RowL (w.alloc o) b t L := World.rowIs.alloc h o
theorem RowL.call {w w' : World} {b : Nat} {t : TypeId} {L : List Value} (h : RowL w b t L) (hb : Below w.heap.size w w') : RowL w' b t L := World.rowIs.of_block h (hb.block _ (World.rowIs.lt h))
theorem RowL.other {w : World} {b : Nat} {t : TypeId} {L : List Value} (h : RowL w b t L) {a : Addr} (ha : b ≠ a.block) (v : Value) : RowL (w.setCell a v) b t L := World.rowIs.setOther h ha v
theorem RowL.set {w : World} {b : Nat} {t : TypeId} {L : List Value} (h : RowL w b t L) (k : Nat) (v : Value) : RowL (w.setCell ⟨b, k, none⟩ v) b t (L.set k v) := by
  have := World.rowIs.set h k v
  unfold RowL
  rw [List.length_set]
  refine this.congr fun i hi => ?_
  by_cases e : i = k
  · subst e
    simp [List.getD, hi]
  · simp [List.getD, e, List.getElem?_set, Ne.symm e]
theorem RowL.cell {w : World} {b : Nat} {t : TypeId} {L : List Value} (h : RowL w b t L) (k : Nat) {v : Value} (hk : L[k]? = some v) : w.cell? ⟨b, k, none⟩ = some v := by
  obtain ⟨hlt, hv⟩ := List.getElem?_eq_some_iff.1 hk
  have := World.rowIs.cell h hlt
  rw [this]
  simp [List.getD, hk]
theorem RowL.frozen {w : World} {b : Nat} {t : TypeId} {L : List Value} (h : RowL w b t L) (k : Nat) : w.frozen? ⟨b, k, none⟩ = false := World.rowIs.frozen h k

theorem IsArr.call {lo : Nat} {w w' : World} {v : Value} {z n : Nat} {C : Nat → Nat → Value} (h : IsArr (fun b => lo ≤ b ∧ b < w.heap.size) w v z n C) (hb : Below w.heap.size w w') : IsArr (fun b => lo ≤ b ∧ b < w'.heap.size) w' v z n C :=
  (h.keep fun b hb' => hb.block b hb'.2).mono fun b hb' => ⟨hb'.1, Nat.lt_of_lt_of_le hb'.2 hb.size⟩
theorem IsArr.store {lo : Nat} {w : World} {v : Value} {z n : Nat} {C : Nat → Nat → Value} (h : IsArr (fun b => lo ≤ b ∧ b < w.heap.size) w v z n C) {a : Addr} (ha : a.block < lo) (u : Value) : IsArr (fun b => lo ≤ b ∧ b < (w.setCell a u).heap.size) (w.setCell a u) v z n C := by
  refine (h.keep (w' := w.setCell a u) fun b hb' => Below.heap_setCell w a u b (by omega)).mono fun b hb' => ⟨hb'.1, ?_⟩
  rw [World.size_setCell]
  exact hb'.2
end Go.Proofs.YtckapapejfnojaaGreatDoor
