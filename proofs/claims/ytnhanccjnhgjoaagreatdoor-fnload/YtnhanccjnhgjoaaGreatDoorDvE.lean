import Derived.Test.YtnhanccjnhgjoaaGreatDoorGx
import Derived.Test.YtnhanccjnhgjoaaGreatDoorGy
import Derived.Test.YtnhanccjnhgjoaaGreatDoorGd
namespace Go.Proofs.YtnhanccjnhgjoaaGreatDoor
open Go.RowKit Go.Shelf
set_option linter.unusedVariables false
set_option linter.unusedSimpArgs false
theorem flat_get {α β : Type} (c : α → List β) (z : Nat) (hz : ∀ x, (c x).length = z) : ∀ (L : List α) (i j : Nat) (hi : i < L.length), j < z → (L.flatMap c)[i * z + j]? = (c L[i])[j]?
 | [], i, j, hi, hj => by simp at hi
 | x :: L, 0, j, hi, hj => by
  rw [List.flatMap_cons, Nat.zero_mul, Nat.zero_add, List.getElem?_append_left (by rw [hz]; exact hj)];rfl
 | x :: L, i + 1, j, hi, hj => by
  rw [List.flatMap_cons, List.getElem?_append_right (by rw [hz, Nat.succ_mul]; omega), hz, Nat.succ_mul, show i * z + z + j - z = i * z + j by omega];exact flat_get c z hz L i j (by simpa using hi) hj
theorem arr_read {α : Type} {y : World} {lo : Nat} {e : TypeId} {z : Nat} {v : Value} {L : List α} {d : α} {c : α → List Value} {C : Nat → Nat → Value} {av : Nat → Prop} (hz : ∀ x, (c x).length = z) (h : y.ownsRow lo e z v L.length (L.flatMap c)) (hC : ∀ i, i < L.length → ∀ j, j < z → (c (L.getD i d))[j]? = some (C i j)) (hav : ∀ b, v.ownBlock = some b → av b) : IsArr av y v z L.length C := by
 refine arr_of_own h (fun i hi j hj => ?_) hav;rw [flat_get c z hz _ i j hi hj];have := hC i hi j hj
 rwa [show L.getD i d = L[i] by simp [List.getD, hi]] at this
theorem row_is {B : Nat} {y : World} {v3 v4 v5 v8 v9 : Value} {p : PR} (h : PRow B y v3 v4 v5 v8 v9 p) (hg : PGood p) : IsProto (· < y.heap.size) y v3 v4 v5 v8 v9 (pdOf p) := by
 have ok := hg.1;have hn := ok.name;refine ⟨?_, ⟨?_, fun i hi => ?_⟩, ?_, ?_, ⟨?_, fun i hi => ?_⟩, by omega⟩
 ·refine arr_read (c := cCode) (d := 0) (fun _ => rfl) h.o3 (fun i hi j hj => ?_) (fun b hb => (h.o3.lt b hb).2);obtain rfl : j = 0 := by omega
  rfl
 ·refine arr_read (c := cConsts) (d := ⟨0, 0, ByteArray.empty⟩) (fun _ => rfl) h.o4 (fun i hi j hj => ?_) (fun b hb => (h.o4.lt b hb).2)
  match j, hj with
  | 0, _ => rfl
  | 1, _ => rfl
  | 2, _ => rfl
 ·have := ok.allConsts i hi;unfold Plain at this;omega
 ·refine arr_read (c := cUps) (d := ⟨false, 0⟩) (fun _ => rfl) h.o5 (fun i hi j hj => ?_) (fun b hb => (h.o5.lt b hb).2)
  match j, hj with
  | 0, _ => rfl
  | 1, _ => rfl
 ·refine arr_read (c := cLines) (d := 0) (fun _ => rfl) h.o8 (fun i hi j hj => ?_) (fun b hb => (h.o8.lt b hb).2);obtain rfl : j = 0 := by omega
  rfl
 ·refine arr_read (c := cNames) (d := ByteArray.empty) (fun _ => rfl) h.o9 (fun i hi j hj => ?_) (fun b hb => (h.o9.lt b hb).2);obtain rfl : j = 0 := by omega
  rfl
 ·have := ok.allUpNames i hi;omega
theorem back_is {y w' : World} {v : Value} {its : List PI} {mid : Nat} (h : TrOk y w' v its mid) (hg : ∀ p ∈ its.map (·.p), PGood p) : IsProtos (· < w'.heap.size) w' v (rdS (its.map (·.p))) := by
 have hl : (its.map (·.p)).length = its.length := by simp
 have hpi : ∀ i (hi : i < its.length), (its.map (·.p)).getD i pr0 = its[i].p := fun i hi => by simp [List.getD, hi]
 have hrow := h.row;refine ⟨fun i => if hi : i < its.length then its[i].v3 else undef, fun i => if hi : i < its.length then its[i].v4 else undef, fun i => if hi : i < its.length then its[i].v5 else undef, fun i => if hi : i < its.length then its[i].v8 else undef, fun i => if hi : i < its.length then its[i].v9 else undef, ?_, fun i hi => ?_⟩
 ·show IsArr _ _ _ 10 (its.map (·.p)).length _;rw [hl];refine arr_of_own hrow (fun i hi' j hj => ?_) (fun b hb => (hrow.lt b hb).2);rw [flat_get pcs 10 (fun _ => rfl) _ i j hi' hj];unfold pcs pC rdS;dsimp only;rw [hpi i hi']
  match j, hj with
  | 0, _ => rfl
  | 1, _ => rfl
  | 2, _ => rfl
  | 3, _ => simp [hi']
  | 4, _ => simp [hi']
  | 5, _ => simp [hi']
  | 6, _ => rfl
  | 7, _ => rfl
  | 8, _ => simp [hi']
  | 9, _ => simp [hi']
 ·have hi' : i < its.length := by rw [← hl]; exact hi
  simp only [dif_pos hi'];show IsProto _ _ _ _ _ _ _ (pdOf ((its.map (·.p)).getD i pr0));rw [hpi i hi'];exact row_is (h.its its[i] (List.getElem_mem hi')).row (hg _ (List.mem_map.2 ⟨_, List.getElem_mem hi', rfl⟩))
end Go.Proofs.YtnhanccjnhgjoaaGreatDoor
