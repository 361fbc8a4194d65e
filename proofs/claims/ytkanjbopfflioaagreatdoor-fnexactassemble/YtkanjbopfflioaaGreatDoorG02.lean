import Derived.WalkKit
import Derived.ProofKit
import Derived.Handy
import Derived.Laws.BytesArg
import Derived.Laws.OwnMore
import Derived.Lib.FrozenHead
import Derived.Lib.ConvBytes
import Derived.Deep.AppendLies
import Derived.Test.YtkanjbopfflioaaGreatDoorAsC
namespace Go.Proofs.YtkanjbopfflioaaGreatDoor
section
open Go.RowKit Go.Lib
set_option linter.unusedVariables false
set_option linter.unusedSimpArgs false

/-- The slice value v holds the bytes B, in a row of which no cell is frozen. -/
def Buf (w : World) (e : TypeId) (v : Value) (B : ByteArray) : Prop :=
  (v = .slice none 0 0 ∧ B.size = 0) ∨
  ∃ g cap cur fz, v = .slice (some ⟨g, 0, none⟩) B.size cap ∧ w.heap[g]? = some (.cells cur e fz) ∧ (fz.2 = 0 ∨ cur.size ≤ fz.1) ∧ B.size ≤ cap ∧ cap ≤ maxLen ∧ cur.size = cap ∧ cur.toList.take B.size = strCells B

theorem Buf.lt {w : World} {e : TypeId} {v : Value} {B : ByteArray} (h : Buf w e v B) : ∀ k, v.ownBlock = some k → k < w.heap.size := by
  intro k hk
  rcases h with ⟨rfl, _⟩ | ⟨g, cap, cur, fz, rfl, hg, _⟩
  · simp [Value.ownBlock] at hk
  · simp [Value.ownBlock] at hk
    subst hk
    exact (Array.getElem?_eq_some_iff.1 hg).1
theorem Buf.keep {w w' : World} {e : TypeId} {v : Value} {B : ByteArray} (h : Buf w e v B) (hk : ∀ k, v.ownBlock = some k → w'.heap[k]? = w.heap[k]?) : Buf w' e v B := by
  rcases h with h | ⟨g, cap, cur, fz, rfl, hg, h2⟩
  · exact .inl h
  · exact .inr ⟨g, cap, cur, fz, rfl, (hk g rfl).trans hg, h2⟩
theorem Buf.form {w : World} {e : TypeId} {v : Value} {B : ByteArray} (h : Buf w e v B) : ∃ a cap, v = .slice a B.size cap := by
  rcases h with ⟨rfl, h⟩ | ⟨g, cap, cur, fz, rfl, hg, h2⟩
  · exact ⟨none, 0, by rw [h]⟩
  · exact ⟨_, _, rfl⟩
theorem Buf.cells {w : World} {e : TypeId} {v : Value} {B : ByteArray} (h : Buf w e v B) {g : Nat} (hg : v.ownBlock = some g) : ∀ j u, (strCells B)[j]? = some u → w.cell? ((⟨g, 0, none⟩ : Addr).add j) = some u := by
  intro j u hu
  rcases h with ⟨rfl, _⟩ | ⟨g', cap, cur, fz, rfl, hgg, _, _, _, _, htake⟩
  · simp [Value.ownBlock] at hg
  · simp [Value.ownBlock] at hg
    subst hg
    have hadd : (⟨g', 0, none⟩ : Addr).add j = ⟨g', j, none⟩ := by unfold Addr.add; split <;> simp_all
    rw [hadd, cell_of_row w g' j cur e fz hgg]
    rw [← htake, List.getElem?_take] at hu
    split at hu
    · simpa using hu
    · cases hu

theorem run_storeCells_atN (P : Program) (g o : Nat) (t : TypeId) (fz : Nat × Nat) (N : Nat) (hN : fz.2 = 0 ∨ N ≤ fz.1) : ∀ (vs : List Value) (i : Nat) (cur : Array Value) (w : World), w.heap[g]? = some (.cells cur t fz) → cur.size = N → o + i + vs.length ≤ cur.size → (∀ v ∈ vs, v.oneCell' = true) →
    (storeCells ⟨g, o, none⟩ vs i).run P w = .ok () (w.setRow g (cur.toList.take (o + i) ++ vs ++ cur.toList.drop (o + i + vs.length)).toArray)
  | [], i, cur, w, hg, _, _, _ => by
    simp only [storeCells, List.append_nil, List.length_nil, Nat.add_zero, List.take_append_drop, Array.toArray_toList]
    rw [setRow_self w g cur t fz hg]
    rfl
  | v :: rest, i, cur, w, hg, hfz, hl, h1 => by
    have hi : o + i < cur.size := by simp at hl; omega
    have hadd : (⟨g, o, none⟩ : Addr).add i = ⟨g, o + i, none⟩ := by unfold Addr.add; split <;> simp_all
    have hcell : w.cell? ⟨g, o + i, none⟩ = some cur[o + i] := by simp [World.cell?, hg, hi]
    have hfro : w.frozen? ⟨g, o + i, none⟩ = false := by
      obtain ⟨lo, hi'⟩ := fz
      simp only [World.frozen?, hg, Bool.and_eq_false_iff, decide_eq_false_iff_not]
      simp only at hN
      rcases hN with h | h
      · right; omega
      · left; omega
    have hst : (store ((⟨g, o, none⟩ : Addr).add i) v).run P w = .ok () (w.setRow g (cur.setIfInBounds (o + i) v)) := by
      rw [hadd, run_store P w _ v _ (h1 v (by simp)), hcell]
      simp [hfro, setCell_eq_setRow w g (o + i) cur t fz v hg]
    have ih := run_storeCells_atN P g o t fz N hN rest (i + 1) (cur.setIfInBounds (o + i) v) (w.setRow g (cur.setIfInBounds (o + i) v)) (setRow_heap w g cur _ t _ hg) (by simpa using hfz) (by simp at hl ⊢; omega) (fun x hx => h1 x (by simp [hx]))
    simp only [storeCells, Sem.run_bind, hst, Result.andThen_ok, ih, setRow_setRow]
    congr 3
    have e := list_seg_step cur.toList (o + i) v rest (by simp at hl ⊢; omega)
    simpa [Array.toList_setIfInBounds, Nat.add_assoc] using e

theorem strCells_append (A B : ByteArray) : strCells (A ++ B) = strCells A ++ strCells B := by simp [strCells]
theorem strCells_nums (xs : List Int) (h : ∀ x ∈ xs, 0 ≤ x ∧ x ≤ 255) : strCells (strOfNums xs) = xs.map (Value.int .u8) := by
  simp only [strCells, strOfNums_data, List.map_map]
  refine List.map_congr_left fun x hx => ?_
  have := h x hx
  simp only [Function.comp, UInt8.toNat_ofNat', Value.int.injEq, true_and]
  omega

section
variable {P : Program} (w : World)
theorem run_append_room_strN (t u ty e : TypeId) (i : TypeInfo) (ht : P.underlying t = some (.slice e)) (hu : P.underlying u = some .string) (hi : P.info? e = some i) (hs1 : i.size = 1)
    (g sLen sCap : Nat) (cur : Array Value) (fz : Nat × Nat) (hg : w.heap[g]? = some (.cells cur e fz)) (hfz : fz.2 = 0 ∨ cur.size ≤ fz.1) (s : ByteArray)
    (hroom : sLen + s.size ≤ sCap) (hfit : sLen + s.size ≤ cur.size) :
    (Builtin.append_ #[t, u] ty #[.slice (some ⟨g, 0, none⟩) sLen sCap, .string s]).run P w =
      .ok (.slice (some ⟨g, 0, none⟩) (sLen + s.size) sCap) (w.setRow g (cur.toList.take sLen ++ strCells s ++ cur.toList.drop (sLen + s.size)).toArray) := by
  have hf := run_firstCells_string (P := P) w 1 s
  have hst := run_storeCells_atN P g sLen e fz cur.size hfz (strCells s) 0 cur w hg rfl (by simpa [strCells_length] using hfit) (strCells_oneCell s)
  simp only [Nat.add_zero, strCells_length] at hst
  simp [Builtin.append_, run_underlying ht, run_underlying hu, sizeOf, typeInfo, hi, hs1, Builtin.lenOf, hroom, hf, Addr.add_lit, hst]

/-- appending a string. -/
theorem run_append_buf_str (t u ty e : TypeId) (i : TypeInfo) (ht : P.underlying t = some (.slice e)) (hu : P.underlying u = some .string) (hi : P.info? e = some i) (hz : i.zero = some (.int .u8 0))
    (hsize : i.size = 1) (hby : i.bytes = 1) (v : Value) (B : ByteArray) (hown : Buf w e v B) (s : ByteArray) (hbytes : B.size + s.size ≤ 140737488355328) :
    ∃ v' w', (Builtin.append_ #[t, u] ty #[v, .string s]).run P w = .ok v' w' ∧ Buf w' e v' (B ++ s) ∧ w.grownBy w' v.ownBlock ∧ (v'.ownBlock = v.ownBlock ∨ v'.ownBlock = some w.heap.size) := by
  have h63 : B.size + s.size ≤ maxLen := by simp only [maxLen]; omega
  have hlen : (B ++ s).size = B.size + s.size := by simp
  rcases hown with ⟨rfl, h0⟩ | ⟨g, cap, cur, fz, rfl, hg, hfz, hnc, hcm, hcs, htake⟩
  · have hBn : strCells B = [] := List.eq_nil_of_length_eq_zero (by rw [strCells_length]; exact h0)
    by_cases hm : s.size = 0
    · refine ⟨.slice none 0 0, w, ?_, .inl ⟨rfl, by omega⟩, ⟨rfl, rfl, rfl, Nat.le_refl _, fun _ _ _ => rfl⟩, .inl rfl⟩
      have hf := run_firstCells_string (P := P) w 1 s
      rw [hm] at hf
      simp [Builtin.append_, run_underlying ht, run_underlying hu, sizeOf, typeInfo, hi, hsize, Builtin.lenOf, hm, hf]
    · have hr := run_append_nil_string (P := P) w t u ty e i (.int .u8 0) ht hu hi hz s (by omega) (by omega) (by rw [hby]; omega)
      have e1 : (s.data.map fun b => Value.int .u8 b.toNat) = (strCells s).toArray := by
        apply Array.ext'
        simp [strCells]
      rw [e1] at hr
      have hge := grownCap_ge w s.size 0 e
      have hcm2 : grownCap w s.size 0 e ≤ maxLen := grownCap_le_maxLen w s.size 0 e (by omega)
      refine ⟨_, _, hr, .inr ⟨w.heap.size, _, _, (0, 0), by rw [hlen, h0, Nat.zero_add], heap_alloc_new w.drew _, .inl rfl, by omega, hcm2, ?_, ?_⟩, ⟨rfl, rfl, rfl, by simp, fun k hk _ => heap_alloc_old w.drew _ hk⟩, .inr rfl⟩
      · have hz1 : (Value.int IntKind.u8 0).cells.size = 1 := rfl
        simp only [Array.size_append, List.size_toArray, size_zeroCells, hz1, strCells_length]
        omega
      · simp only [Array.toList_append, strCells_append, hBn, List.nil_append]
        rw [hlen, h0, Nat.zero_add, ← strCells_length]
        exact List.take_left
  · by_cases hroom : B.size + s.size ≤ cap
    · have hr := run_append_room_strN (P := P) w t u ty e i ht hu hi hsize g B.size cap cur fz hg hfz s hroom (by omega)
      refine ⟨_, _, hr, .inr ⟨g, cap, _, fz, by rw [hlen], setRow_heap w g cur _ e _ hg, ?_, by omega, hcm, ?_, ?_⟩, ⟨rfl, rfl, rfl, by simp, fun k _ hk => setRow_other w g k _ (fun e => hk (by simp [Value.ownBlock, e]))⟩, .inl rfl⟩
      · simp only [List.size_toArray, List.length_append, List.length_take, List.length_drop, Array.length_toList, strCells_length]
        omega
      · simp only [List.size_toArray, List.length_append, List.length_take, List.length_drop, Array.length_toList, strCells_length]
        omega
      · rw [htake, strCells_append, hlen, ← strCells_length, ← strCells_length, ← List.length_append]
        exact List.take_left
    · have hr := run_append_grow_string (P := P) w t u ty e i (.int .u8 0) ht hu hi hz ⟨g, 0, none⟩ B.size cap (strCells B) (by rw [hsize, strCells_length]; omega) (Buf.cells (w := w) (e := e) (.inr ⟨g, cap, cur, fz, rfl, hg, hfz, hnc, hcm, hcs, htake⟩) (g := g) rfl) s (by omega) (by omega) (by rw [hby]; exact growslice_fits (by omega) (by omega))
      have hge := grownCap_ge w (B.size + s.size) cap e
      have hcm2 : grownCap w (B.size + s.size) cap e ≤ maxLen := grownCap_le_maxLen w (B.size + s.size) cap e h63
      refine ⟨_, _, hr, .inr ⟨w.heap.size, _, _, (0, 0), by rw [hlen], heap_alloc_new w.drew _, .inl rfl, by omega, hcm2, ?_, ?_⟩, ⟨rfl, rfl, rfl, by simp, fun k hk _ => heap_alloc_old w.drew _ hk⟩, .inr rfl⟩
      · have hz1 : (Value.int IntKind.u8 0).cells.size = 1 := rfl
        simp only [Array.size_append, List.size_toArray, size_zeroCells, hz1, strCells_length]
        omega
      · simp only [Array.toList_append, strCells_append, List.append_assoc]
        rw [← List.append_assoc, hlen, ← strCells_length, ← strCells_length, ← List.length_append]
        exact List.take_left
end
end
section
open Go.RowKit Go.Lib
set_option linter.unusedVariables false
set_option linter.unusedSimpArgs false
section
variable {P : Program} (w : World)
theorem run_append_room_newsN (t ty e : TypeId) (i : TypeInfo) (ht : P.underlying t = some (.slice e)) (hi : P.info? e = some i) (hs1 : i.size = 1)
    (g sLen sCap : Nat) (cur : Array Value) (fz : Nat × Nat) (hg : w.heap[g]? = some (.cells cur e fz)) (hfz : fz.2 = 0 ∨ cur.size ≤ fz.1) (s : ByteArray)
    (ad : Addr) (c : Nat) (hnews : ∀ j u, (strCells s)[j]? = some u → w.cell? (ad.add j) = some u) (hroom : sLen + s.size ≤ sCap) (hfit : sLen + s.size ≤ cur.size) :
    (Builtin.append_ #[t, t] ty #[.slice (some ⟨g, 0, none⟩) sLen sCap, .slice (some ad) s.size c]).run P w =
      .ok (.slice (some ⟨g, 0, none⟩) (sLen + s.size) sCap) (w.setRow g (cur.toList.take sLen ++ strCells s ++ cur.toList.drop (sLen + s.size)).toArray) := by
  have hf := run_firstCells_some (P := P) w i.size s.size ad s.size c (strCells s) (by rw [hs1, strCells_length]; omega) hnews
  have hst := run_storeCells_atN P g sLen e fz cur.size hfz (strCells s) 0 cur w hg rfl (by simpa [strCells_length] using hfit) (strCells_oneCell s)
  simp only [Nat.add_zero, strCells_length] at hst
  rw [hs1] at hf
  simp [Builtin.append_, run_underlying ht, sizeOf, typeInfo, hi, hs1, Builtin.lenOf, hroom, hf, Addr.add_lit, hst]

/-- appending bytes that lie somewhere. -/
theorem run_append_buf_news (t ty e : TypeId) (i : TypeInfo) (ht : P.underlying t = some (.slice e)) (hi : P.info? e = some i) (hz : i.zero = some (.int .u8 0))
    (hsize : i.size = 1) (hby : i.bytes = 1) (v : Value) (B : ByteArray) (hown : Buf w e v B) (s : ByteArray) (ad : Addr) (m c : Nat) (hm : s.size = m) (h0 : 0 < m)
    (hnews : ∀ j u, (strCells s)[j]? = some u → w.cell? (ad.add j) = some u) (hbytes : B.size + s.size ≤ 140737488355328) :
    ∃ v' w', (Builtin.append_ #[t, t] ty #[v, .slice (some ad) m c]).run P w = .ok v' w' ∧ Buf w' e v' (B ++ s) ∧ w.grownBy w' v.ownBlock ∧ (v'.ownBlock = v.ownBlock ∨ v'.ownBlock = some w.heap.size) := by
  subst hm
  have h63 : B.size + s.size ≤ maxLen := by simp only [maxLen]; omega
  have hlen : (B ++ s).size = B.size + s.size := by simp
  have hl : (strCells s).length = s.size * i.size := by rw [hsize, strCells_length]; omega
  rcases hown with ⟨rfl, hB0⟩ | ⟨g, cap, cur, fz, rfl, hg, hfz, hnc, hcm, hcs, htake⟩
  · have hBn : strCells B = [] := List.eq_nil_of_length_eq_zero (by rw [strCells_length]; exact hB0)
    have hr := run_append_nil (P := P) w t ty e i (.int .u8 0) ht hi hz ad s.size c (strCells s) hl hnews h0 (by omega) (by rw [hby]; omega)
    have hge := grownCap_ge w s.size 0 e
    have hcm2 : grownCap w s.size 0 e ≤ maxLen := grownCap_le_maxLen w s.size 0 e (by omega)
    refine ⟨_, _, hr, .inr ⟨w.heap.size, _, _, (0, 0), by rw [hlen, hB0, Nat.zero_add], heap_alloc_new w.drew _, .inl rfl, by omega, hcm2, ?_, ?_⟩, ⟨rfl, rfl, rfl, by simp, fun k hk _ => heap_alloc_old w.drew _ hk⟩, .inr rfl⟩
    · have hz1 : (Value.int IntKind.u8 0).cells.size = 1 := rfl
      simp only [Array.size_append, List.size_toArray, size_zeroCells, hz1, strCells_length]
      omega
    · simp only [Array.toList_append, strCells_append, hBn, List.nil_append]
      rw [hlen, hB0, Nat.zero_add, ← strCells_length]
      exact List.take_left
  · by_cases hroom : B.size + s.size ≤ cap
    · have hr := run_append_room_newsN (P := P) w t ty e i ht hi hsize g B.size cap cur fz hg hfz s ad c hnews hroom (by omega)
      refine ⟨_, _, hr, .inr ⟨g, cap, _, fz, by rw [hlen], setRow_heap w g cur _ e _ hg, ?_, by omega, hcm, ?_, ?_⟩, ⟨rfl, rfl, rfl, by simp, fun k _ hk => setRow_other w g k _ (fun e => hk (by simp [Value.ownBlock, e]))⟩, .inl rfl⟩
      · simp only [List.size_toArray, List.length_append, List.length_take, List.length_drop, Array.length_toList, strCells_length]
        omega
      · simp only [List.size_toArray, List.length_append, List.length_take, List.length_drop, Array.length_toList, strCells_length]
        omega
      · rw [htake, strCells_append, hlen, ← strCells_length, ← strCells_length, ← List.length_append]
        exact List.take_left
    · have hr := run_append_grow (P := P) w t ty e i (.int .u8 0) ht hi hz ⟨g, 0, none⟩ B.size cap (strCells B) (by rw [hsize, strCells_length]; omega) (Buf.cells (w := w) (e := e) (.inr ⟨g, cap, cur, fz, rfl, hg, hfz, hnc, hcm, hcs, htake⟩) (g := g) rfl) ad s.size c (strCells s) hl hnews (by omega) (by omega) (by rw [hby]; exact growslice_fits (by omega) (by omega))
      have hge := grownCap_ge w (B.size + s.size) cap e
      have hcm2 : grownCap w (B.size + s.size) cap e ≤ maxLen := grownCap_le_maxLen w (B.size + s.size) cap e h63
      refine ⟨_, _, hr, .inr ⟨w.heap.size, _, _, (0, 0), by rw [hlen], heap_alloc_new w.drew _, .inl rfl, by omega, hcm2, ?_, ?_⟩, ⟨rfl, rfl, rfl, by simp, fun k hk _ => heap_alloc_old w.drew _ hk⟩, .inr rfl⟩
      · have hz1 : (Value.int IntKind.u8 0).cells.size = 1 := rfl
        simp only [Array.size_append, List.size_toArray, size_zeroCells, hz1, strCells_length]
        omega
      · simp only [Array.toList_append, strCells_append, List.append_assoc]
        rw [← List.append_assoc, hlen, ← strCells_length, ← strCells_length, ← List.length_append]
        exact List.take_left

theorem wp_append_buf_str {o : Oper} {a : Act} {K : Act → World → Prop} {Q : Exit → Act → World → Prop} (sl x : Operand) (t u : TypeId)
    (ho : o.op = .call { callee := .builtin .append, args := #[sl, x], argTypes := #[t, u] })
    (e : TypeId) (i : TypeInfo) (ht : P.underlying t = some (.slice e)) (hu : P.underlying u = some .string) (hi : P.info? e = some i) (hz : i.zero = some (.int .u8 0))
    (hsize : i.size = 1) (hby : i.bytes = 1) (v : Value) (B : ByteArray) (hs : a.eval sl = v) (hown : Buf w e v B) (s : ByteArray) (hx : a.eval x = .string s) (hbytes : B.size + s.size ≤ 140737488355328)
    (h : ∀ v' w', Buf w' e v' (B ++ s) → w.grownBy w' v.ownBlock → (v'.ownBlock = v.ownBlock ∨ v'.ownBlock = some w.heap.size) → K (a.put o.dst v') w') : o.wp P a w K Q := by
  obtain ⟨v', w', hr, h2, h3, h4⟩ := run_append_buf_str (P := P) w t u o.type e i ht hu hi hz hsize hby v B hown s hbytes
  unfold Oper.wp execOp
  simp only [ho, resolve, invoke, builtin, Sem.run_bind, Sem.run_pure, Result.andThen_ok, List.map_toArray, List.map_cons, List.map_nil, hs, hx, hr]
  exact h v' w' h2 h3 h4
theorem wpList_append_buf_str {ops : Array Oper} {rest : List Oper} {o : Oper} {a : Act} {Q : Exit → Act → World → Prop} (hgd : o.guard = none) (sl x : Operand) (t u : TypeId)
    (ho : o.op = .call { callee := .builtin .append, args := #[sl, x], argTypes := #[t, u] })
    (e : TypeId) (i : TypeInfo) (ht : P.underlying t = some (.slice e)) (hu : P.underlying u = some .string) (hi : P.info? e = some i) (hz : i.zero = some (.int .u8 0))
    (hsize : i.size = 1) (hby : i.bytes = 1) (v : Value) (B : ByteArray) (hs : a.eval sl = v) (hown : Buf w e v B) (s : ByteArray) (hx : a.eval x = .string s) (hbytes : B.size + s.size ≤ 140737488355328)
    (h : ∀ v' w', Buf w' e v' (B ++ s) → w.grownBy w' v.ownBlock → (v'.ownBlock = v.ownBlock ∨ v'.ownBlock = some w.heap.size) → wpList P ops Q rest (a.put o.dst v') w') : wpList P ops Q (o :: rest) a w :=
  wpList_plain hgd fun K hK => wp_append_buf_str w sl x t u ho e i ht hu hi hz hsize hby v B hs hown s hx hbytes fun v' w' h1 h2 h3 => hK _ _ (h v' w' h1 h2 h3)
theorem step_append_buf_str {ops : Array Oper} {o : Oper} {a : Act} {K : Act → World → Prop} {Q : Exit → Act → World → Prop} {E : Prop} (hgd : o.guard = none) (sl x : Operand) (t u : TypeId)
    (ho : o.op = .call { callee := .builtin .append, args := #[sl, x], argTypes := #[t, u] })
    (e : TypeId) (i : TypeInfo) (ht : P.underlying t = some (.slice e)) (hu : P.underlying u = some .string) (hi : P.info? e = some i) (hz : i.zero = some (.int .u8 0))
    (hsize : i.size = 1) (hby : i.bytes = 1) (v : Value) (B : ByteArray) (hs : a.eval sl = v) (hown : Buf w e v B) (s : ByteArray) (hx : a.eval x = .string s) (hbytes : B.size + s.size ≤ 140737488355328)
    (h : ∀ v' w', Buf w' e v' (B ++ s) → w.grownBy w' v.ownBlock → (v'.ownBlock = v.ownBlock ∨ v'.ownBlock = some w.heap.size) → K (a.put o.dst v') w') :
    if Region.wanted o (yielded ops a.tmps) = true then Oper.wp P o a w K Q else E := by
  have hw : Region.wanted o (yielded ops a.tmps) = true := by simp [Region.wanted, hgd]
  rw [if_pos hw]
  exact wp_append_buf_str w sl x t u ho e i ht hu hi hz hsize hby v B hs hown s hx hbytes h

theorem wp_append_buf_news {o : Oper} {a : Act} {K : Act → World → Prop} {Q : Exit → Act → World → Prop} (sl x : Operand) (t : TypeId)
    (ho : o.op = .call { callee := .builtin .append, args := #[sl, x], argTypes := #[t, t] })
    (e : TypeId) (i : TypeInfo) (ht : P.underlying t = some (.slice e)) (hi : P.info? e = some i) (hz : i.zero = some (.int .u8 0))
    (hsize : i.size = 1) (hby : i.bytes = 1) (v : Value) (B : ByteArray) (hs : a.eval sl = v) (hown : Buf w e v B) (s : ByteArray) (ad : Addr) (m c : Nat) (hx : a.eval x = .slice (some ad) m c) (hm : s.size = m) (h0 : 0 < m)
    (hnews : ∀ j u, (strCells s)[j]? = some u → w.cell? (ad.add j) = some u) (hbytes : B.size + s.size ≤ 140737488355328)
    (h : ∀ v' w', Buf w' e v' (B ++ s) → w.grownBy w' v.ownBlock → (v'.ownBlock = v.ownBlock ∨ v'.ownBlock = some w.heap.size) → K (a.put o.dst v') w') : o.wp P a w K Q := by
  obtain ⟨v', w', hr, h2, h3, h4⟩ := run_append_buf_news (P := P) w t o.type e i ht hi hz hsize hby v B hown s ad m c hm h0 hnews hbytes
  unfold Oper.wp execOp
  simp only [ho, resolve, invoke, builtin, Sem.run_bind, Sem.run_pure, Result.andThen_ok, List.map_toArray, List.map_cons, List.map_nil, hs, hx, hr]
  exact h v' w' h2 h3 h4
theorem wpList_append_buf_news {ops : Array Oper} {rest : List Oper} {o : Oper} {a : Act} {Q : Exit → Act → World → Prop} (hgd : o.guard = none) (sl x : Operand) (t : TypeId)
    (ho : o.op = .call { callee := .builtin .append, args := #[sl, x], argTypes := #[t, t] })
    (e : TypeId) (i : TypeInfo) (ht : P.underlying t = some (.slice e)) (hi : P.info? e = some i) (hz : i.zero = some (.int .u8 0))
    (hsize : i.size = 1) (hby : i.bytes = 1) (v : Value) (B : ByteArray) (hs : a.eval sl = v) (hown : Buf w e v B) (s : ByteArray) (ad : Addr) (m c : Nat) (hx : a.eval x = .slice (some ad) m c) (hm : s.size = m) (h0 : 0 < m)
    (hnews : ∀ j u, (strCells s)[j]? = some u → w.cell? (ad.add j) = some u) (hbytes : B.size + s.size ≤ 140737488355328)
    (h : ∀ v' w', Buf w' e v' (B ++ s) → w.grownBy w' v.ownBlock → (v'.ownBlock = v.ownBlock ∨ v'.ownBlock = some w.heap.size) → wpList P ops Q rest (a.put o.dst v') w') : wpList P ops Q (o :: rest) a w :=
  wpList_plain hgd fun K hK => wp_append_buf_news w sl x t ho e i ht hi hz hsize hby v B hs hown s ad m c hx hm h0 hnews hbytes fun v' w' h1 h2 h3 => hK _ _ (h v' w' h1 h2 h3)
theorem step_append_buf_news {ops : Array Oper} {o : Oper} {a : Act} {K : Act → World → Prop} {Q : Exit → Act → World → Prop} {E : Prop} (hgd : o.guard = none) (sl x : Operand) (t : TypeId)
    (ho : o.op = .call { callee := .builtin .append, args := #[sl, x], argTypes := #[t, t] })
    (e : TypeId) (i : TypeInfo) (ht : P.underlying t = some (.slice e)) (hi : P.info? e = some i) (hz : i.zero = some (.int .u8 0))
    (hsize : i.size = 1) (hby : i.bytes = 1) (v : Value) (B : ByteArray) (hs : a.eval sl = v) (hown : Buf w e v B) (s : ByteArray) (ad : Addr) (m c : Nat) (hx : a.eval x = .slice (some ad) m c) (hm : s.size = m) (h0 : 0 < m)
    (hnews : ∀ j u, (strCells s)[j]? = some u → w.cell? (ad.add j) = some u) (hbytes : B.size + s.size ≤ 140737488355328)
    (h : ∀ v' w', Buf w' e v' (B ++ s) → w.grownBy w' v.ownBlock → (v'.ownBlock = v.ownBlock ∨ v'.ownBlock = some w.heap.size) → K (a.put o.dst v') w') :
    if Region.wanted o (yielded ops a.tmps) = true then Oper.wp P o a w K Q else E := by
  have hw : Region.wanted o (yielded ops a.tmps) = true := by simp [Region.wanted, hgd]
  rw [if_pos hw]
  exact wp_append_buf_news w sl x t ho e i ht hi hz hsize hby v B hs hown s ad m c hx hm h0 hnews hbytes h
end

theorem add_zero_lit (g i : Nat) : (⟨g, 0, none⟩ : Addr).add i = ⟨g, i, none⟩ := by unfold Addr.add; split <;> simp_all
/-- bytes as a string. -/
theorem conv_buf {P : Program} {w : World} {v : Value} {B : ByteArray} (src dst e : TypeId) (hs : P.underlying src = some (.slice e)) (he : P.underlying e = some (.int .u8)) (hd : P.underlying dst = some .string) (h : Buf w e v B) :
    (convert src dst v).run P w = .ok (.string B) w := by
  have hB : B = strOfNums (B.data.toList.map fun b => (b.toNat : Int)) := by
    apply ByteArray.ext
    apply Array.ext'
    rw [strOfNums_data, List.map_map]
    conv => lhs; rw [← List.map_id B.data.toList]
    refine List.map_congr_left fun x _ => ?_
    simp
  rcases h with ⟨rfl, h0⟩ | ⟨g, cap, cur, fz, rfl, hg, hfz, hnc, hcm, hcs, htake⟩
  · have : B = ByteArray.empty := by
      apply ByteArray.ext
      apply Array.ext'
      exact List.eq_nil_of_length_eq_zero (by simpa using h0)
    rw [this]
    exact run_convert_bytes_nil w src e hs he 0 0 dst hd
  · have hc : ∀ j u, (strCells B)[j]? = some u → w.cell? ((⟨g, 0, none⟩ : Addr).add j) = some u := Buf.cells (w := w) (e := e) (.inr ⟨g, cap, cur, fz, rfl, hg, hfz, hnc, hcm, hcs, htake⟩) (g := g) rfl
    conv => rhs; rw [hB]
    refine run_convert_bytes_arg w src e hs he g 0 B.size cap _ (by simp) (fun i hi => ?_) dst hd
    have hi' : i < (B.data.toList.map fun b => (b.toNat : Int)).length := by rw [List.length_map]; exact hi
    have hadd := add_zero_lit g i
    have := hc i (.int .u8 ((B.data.toList.map fun b => (b.toNat : Int))[i]'hi')) (by
      simp only [strCells, List.getElem?_map, List.getElem_map]
      have h3 : i < B.data.toList.length := by simpa using hi
      rw [List.getElem?_eq_getElem h3]
      rfl)
    rw [hadd] at this
    rw [Nat.zero_add, this, List.getD_eq_getElem?_getD, List.getElem?_eq_getElem hi']
    rfl
theorem buf_made (w : World) (e : TypeId) : Buf (w.alloc (.cells #[] e)) e (.slice (some ⟨w.heap.size, 0, none⟩) 0 0) ByteArray.empty :=
  .inr ⟨w.heap.size, 0, #[], (0, 0), rfl, heap_alloc_new w _, .inl rfl, Nat.le_refl _, by simp [maxLen], rfl, rfl⟩
theorem buf_conv (w : World) (e : TypeId) (s : ByteArray) (hs : s.size ≤ maxLen) : Buf (bytesWorld w e s) e (.slice (some ⟨w.heap.size, 0, none⟩) s.size (grownCap w s.size 0 e)) s := by
  have hge := grownCap_ge w s.size 0 e
  have hz : (bytesCells w e s).size = grownCap w s.size 0 e := by
    have : s.data.size = s.size := rfl
    simp only [bytesCells, Array.size_append, Array.size_map, Array.size_replicate]
    omega
  refine .inr ⟨w.heap.size, _, _, _, rfl, bytesWorld_at_new w e s, .inr (Nat.le_refl _), hge, grownCap_le_maxLen w s.size 0 e hs, hz, ?_⟩
  have e1 : (bytesCells w e s).toList = strCells s ++ List.replicate (grownCap w s.size 0 e - s.size) (.int .u8 0) := by
    simp [bytesCells, strCells]
  rw [e1, ← strCells_length]
  exact List.take_left

/-- What writing leaves: all but P's blocks and the row of v. -/
structure Fr (P : Nat → Prop) (w : World) (v : Value) (w' : World) (v' : Value) : Prop where
  os : w'.os = w.os
  tape : w'.tape = w.tape
  output : w'.output = w.output
  size : w.heap.size ≤ w'.heap.size
  block : ∀ k, k < w.heap.size → ¬ P k → v.ownBlock ≠ some k → w'.heap[k]? = w.heap[k]?
  own : v'.ownBlock = v.ownBlock ∨ ∀ g, v'.ownBlock = some g → w.heap.size ≤ g
theorem Fr.refl (P : Nat → Prop) (w : World) (v : Value) : Fr P w v w v := ⟨rfl, rfl, rfl, Nat.le_refl _, fun _ _ _ _ => rfl, .inl rfl⟩
theorem Fr.trans {P : Nat → Prop} {a b c : World} {u v x : Value} (h : Fr P a u b v) (k : Fr P b v c x) : Fr P a u c x := by
  refine ⟨k.os.trans h.os, k.tape.trans h.tape, k.output.trans h.output, Nat.le_trans h.size k.size, fun j h1 h2 h3 => ?_, ?_⟩
  · refine (k.block j (Nat.lt_of_lt_of_le h1 h.size) h2 fun e => ?_).trans (h.block j h1 h2 h3)
    rcases h.own with o | o
    · exact h3 (o ▸ e)
    · have := o j e
      omega
  · rcases k.own with o | o
    · rcases h.own with p | p
      · exact .inl (o.trans p)
      · exact .inr fun g e => p g (o ▸ e)
    · exact .inr fun g e => Nat.le_trans h.size (o g e)
theorem Fr.of_grown {w w' : World} {v v' : Value} (P : Nat → Prop) (h : w.grownBy w' v.ownBlock) (o : v'.ownBlock = v.ownBlock ∨ v'.ownBlock = some w.heap.size) : Fr P w v w' v' :=
  ⟨h.os, h.tape, h.output, h.size, fun k h1 _ h3 => h.block k h1 fun e => h3 e.symm, o.imp id fun e g he => by rw [e] at he; exact Nat.le_of_eq (Option.some.inj he)⟩
/-- a call that changes nothing that was there. -/
theorem Fr.of_below {w w' : World} (P : Nat → Prop) (v : Value) (h : Below w.heap.size w w') : Fr P w v w' v :=
  ⟨h.os, h.tape, h.output, h.size, fun k h1 _ _ => h.block k h1, .inl rfl⟩
theorem Fr.below {P : Nat → Prop} {B : Nat} {w w' : World} {v v' : Value} (h : Fr P w v w' v') (hB : B ≤ w.heap.size) (hP : ∀ k, P k → B ≤ k) (hv : ∀ k, v.ownBlock = some k → B ≤ k) : Below B w w' :=
  ⟨h.os, h.tape, h.output, h.size, fun k hk => h.block k (by omega) (fun e => by have := hP k e; omega) (fun e => by have := hv k e; omega)⟩
theorem Fr.mono {P Q : Nat → Prop} {w w' : World} {v v' : Value} (h : Fr P w v w' v') (hPQ : ∀ k, P k → Q k) : Fr Q w v w' v' :=
  ⟨h.os, h.tape, h.output, h.size, fun k h1 h2 h3 => h.block k h1 (fun e => h2 (hPQ k e)) h3, h.own⟩
/-- with new blocks ahead of it. -/
theorem Fr.after {P : Nat → Prop} {a b c : World} {u v : Value} (hb : Below a.heap.size a b) (h : Fr P b u c v) : Fr P a u c v := (Fr.of_below P u hb).trans h
end
section
open Go.RowKit Go.Lib Go.Shelf
set_option linter.unusedVariables false
set_option linter.unusedSimpArgs false
set_option maxRecDepth 100000
set_option maxHeartbeats 2000000
/-- a number from 0 to a greatest one; -1 if it is none. -/
noncomputable def natOf (s : ByteArray) (hi : Int) : Int := match decOf s with
  | some n => if 0 ≤ n ∧ n ≤ hi then n else -1
  | none => -1
theorem l6Natural_in (s : ByteArray) (hs : s.size ≤ 100000) (hi : Int) (h0 : 0 ≤ hi) (h1 : hi ≤ 4294967295) (w : World) :
    Calls Tryz.prog 59 #[.string s, .int .i64 hi] w fun e w' => e = .returned (.int .i64 (natOf s hi)) ∧ Below w.heap.size w w' := by
  have hc := hidR (l6Int_in s hs w)
  obtain ⟨r, hr⟩ : ∃ r, natOf s hi = r := ⟨_, rfl⟩
  rw [hr]
  replace hr := hidR hr
  go_enter Tryz.func59, Tryz.ntmps59
  go_wp2_with fail
  refine Calls.mono hc.out ?_
  rintro e y ⟨⟨n, b, rfl, hI, ht, hf⟩, b1⟩
  clear hc
  cases b with
  | false =>
    have hn := hf rfl
    have hre : r = -1 := by rw [← hr.out]; unfold natOf; rw [hn]
    clear ht hf hr hn
    subst hre
    go_wp2_with fail
    exact bodyPost_ret (v := .int .i64 (-1)) (by simp [results, Tryz.results59, go_sem]) rfl ⟨rfl, b1⟩
  | true =>
    have hn := ht rfl
    have hre : r = if 0 ≤ n ∧ n ≤ hi then n else -1 := by rw [← hr.out]; unfold natOf; rw [hn]
    clear ht hf hr hn
    by_cases hn0 : n < 0
    · rw [if_neg (by omega)] at hre
      subst hre
      go_wp2_with fail
      exact bodyPost_ret (v := .int .i64 (-1)) (by simp [results, Tryz.results59, go_sem]) rfl ⟨rfl, b1⟩
    · by_cases hn1 : n > hi
      · rw [if_neg (by omega)] at hre
        subst hre
        go_wp2_with fail
        exact bodyPost_ret (v := .int .i64 (-1)) (by simp [results, Tryz.results59, go_sem]) rfl ⟨rfl, b1⟩
      · rw [if_pos (by omega)] at hre
        subst hre
        unfold I64 at hI
        go_wp2_with fail
        exact bodyPost_ret (v := .int .i64 r) (by simp [results, Tryz.results59, go_sem]) rfl ⟨rfl, b1⟩
/-- the digits. -/
def hxD : ByteArray := ⟨#[48, 49, 50, 51, 52, 53, 54, 55, 56, 57, 97, 98, 99, 100, 101, 102]⟩
/-- what a digit says. -/
def hexV (c : Int) : Int := if 48 ≤ c ∧ c ≤ 57 then c - 48 else if 97 ≤ c ∧ c ≤ 102 then c - 87 else -1
theorem hexV_lt (c : Int) : hexV c ≤ 15 ∧ -1 ≤ hexV c := by
  unfold hexV
  split
  · omega
  · split <;> omega
theorem hxD_fin : ∀ k : Fin 16, (hxD.data.toList[k.val]?).map (fun b => (b.toNat : Int)) = some (if k.val < 10 then 48 + (k.val : Int) else 87 + (k.val : Int)) := by decide
theorem hxD_at {k : Nat} (h : k < 16) (h' : k < hxD.size) : (hxD[k].toNat : Int) = if k < 10 then 48 + (k : Int) else 87 + (k : Int) := by
  have := hxD_fin ⟨k, h⟩
  rw [get_list h'] at this
  simpa using this
theorem hexV_iff {c : Int} {k : Nat} (h : k < 16) : hexV c = (k : Int) ↔ (if k < 10 then 48 + (k : Int) else 87 + (k : Int)) = c := by
  unfold hexV
  constructor
  · intro h1
    split at h1
    · split <;> omega
    · split at h1 <;> split <;> omega
  · intro h1
    split at h1
    · rw [if_pos (by omega)]; omega
    · rw [if_neg (by omega), if_pos (by omega)]; omega
theorem l6Digit_in (c : Int) (h0 : 0 ≤ c) (h1 : c ≤ 255) (w : World) :
    Calls Tryz.prog 120 #[.int .u8 c] w fun e w' => e = .returned (.int .i64 (hexV c)) ∧ w = w' := by
  have hsz : hxD.size = 16 := rfl
  have hb := hexV_lt c
  obtain ⟨r, hr⟩ : ∃ r, hexV c = r := ⟨_, rfl⟩
  rw [hr] at hb ⊢
  replace hr := hidR hr
  go_enter Tryz.func120, Tryz.ntmps120
  go_wp2_with fail
  go_loopw [3] (fun iv wr => ∃ k : Nat, iv = .int .i64 (k : Int) ∧ k ≤ 16 ∧ w = wr ∧ (r = -1 ∨ (k : Int) ≤ r)) (fun iv _ => 16 - (intOf iv).toNat)
  case atStart => exact ⟨0, rfl, by omega, rfl, by omega⟩
  case round =>
    obtain ⟨k, rfl, hk, hwr, hrk⟩ := hrel
    subst hwr
    by_cases hlt : k < 16
    · have hlI : (k : Int) < 16 := by omega
      have hki : k < hxD.size := by omega
      have hat := hxD_at hlt hki
      have hif := hexV_iff (c := c) hlt
      rw [hr.out] at hif
      rw [← hat] at hif
      clear hat
      by_cases he : r = (k : Int)
      · have hbe : ((hxD[k].toNat : Int) == c) = true := by simpa using hif.1 he
        clear hif
        unfold hxD at hbe hki
        go_wp2_with fail
        refine bodyPost_ret (v := .int .i64 r) ?_ rfl ⟨rfl, rfl⟩
        simp [results, Tryz.results120, go_sem, he]
      · have hbe : ((hxD[k].toNat : Int) == c) = false := by simpa using fun e => he (hif.2 e)
        clear hif
        unfold hxD at hbe hki
        go_wp2_with fail
        go_roundw
        case rel => exact ⟨k + 1, by go_num, by omega, by trivial, by omega⟩
        case measure => simp only [intOf]; omega
    · obtain rfl : k = 16 := by omega
      obtain rfl : r = -1 := by omega
      go_wp2_with fail
      exact bodyPost_ret (v := .int .i64 (-1)) (by simp [results, Tryz.results120, go_sem]) rfl ⟨rfl, rfl⟩
/-- the bytes that digits say. -/
def unhexL : List UInt8 → Option (List UInt8)
  | [] => some []
  | [_] => none
  | a :: b :: r => if hexV (a.toNat : Int) < 0 ∨ hexV (b.toNat : Int) < 0 then none else (unhexL r).map fun l => UInt8.ofNat (hexV (a.toNat : Int) * 16 + hexV (b.toNat : Int)).toNat :: l
def unhexOf (s : ByteArray) : Option ByteArray := (unhexL s.data.toList).map fun l => ⟨l.toArray⟩
theorem unhex_odd : ∀ (l : List UInt8), l.length % 2 = 1 → unhexL l = none
  | [], h => by simp at h
  | [_], _ => rfl
  | a :: b :: r, h => by
    unfold unhexL
    split
    · rfl
    · rw [unhex_odd r (by simp at h; omega)]
      rfl
theorem drop2 {s : ByteArray} {i : Nat} (h : i + 1 < s.size) : s.data.toList.drop i = s[i] :: s[i + 1] :: s.data.toList.drop (i + 2) := by
  have h1 := get_list (s := s) (i := i) (by omega)
  have h2 := get_list h
  have hl : s.data.toList.length = s.size := by rw [Array.length_toList]; rfl
  rw [List.drop_eq_getElem_cons (by omega), List.drop_eq_getElem_cons (by omega)]
  rw [List.getElem?_eq_getElem (by omega)] at h1 h2
  rw [Option.some.inj h1, Option.some.inj h2]
/-- what the reader of a text gives. -/
def HexEnds (s : ByteArray) (e : Ending) : Prop := ∃ (t : ByteArray) (b : Bool), e = .returned (.tuple #[.string t, .bool b]) ∧ (b = true → unhexOf s = some t) ∧ (b = false → unhexOf s = none)
/-- so far. -/
def HexAt (s : ByteArray) (i : Nat) (X : ByteArray) : Prop := unhexL s.data.toList = (unhexL (s.data.toList.drop i)).map fun l => X.data.toList ++ l
theorem HexAt.start (s : ByteArray) : HexAt s 0 ByteArray.empty := by
  unfold HexAt
  rw [List.drop_zero]
  cases unhexL s.data.toList <;> rfl
theorem by_one (x : UInt8) (X : ByteArray) (l : List UInt8) : X.data.toList ++ (x :: l) = (X ++ (⟨#[x]⟩ : ByteArray)).data.toList ++ l := by
  rw [ByteArray.data_append, Array.toList_append]
  simp
theorem HexAt.step {s : ByteArray} {i : Nat} {X : ByteArray} (h : HexAt s i X) (hi : i + 1 < s.size) (h1 : 0 ≤ hexV (s[i].toNat : Int)) (h2 : 0 ≤ hexV (s[i + 1].toNat : Int)) :
    HexAt s (i + 2) (X ++ ⟨#[UInt8.ofNat (hexV (s[i].toNat : Int) * 16 + hexV (s[i + 1].toNat : Int)).toNat]⟩) := by
  unfold HexAt at h ⊢
  rw [h, drop2 hi, unhexL, if_neg (by omega)]
  cases unhexL (s.data.toList.drop (i + 2)) with
  | none => rfl
  | some l =>
    simp only [Option.map_some, Option.some.injEq]
    exact by_one _ _ _
theorem HexAt.bad {s : ByteArray} {i : Nat} {X : ByteArray} (h : HexAt s i X) (hi : i + 1 < s.size) (h1 : hexV (s[i].toNat : Int) < 0 ∨ hexV (s[i + 1].toNat : Int) < 0) : unhexOf s = none := by
  unfold HexAt at h
  unfold unhexOf
  rw [h, drop2 hi, unhexL, if_pos h1]
  rfl
theorem HexAt.fin {s : ByteArray} {X : ByteArray} (h : HexAt s s.size X) : unhexOf s = some X := by
  have hl : s.data.toList.length = s.size := by rw [Array.length_toList]; rfl
  unfold HexAt at h
  unfold unhexOf
  rw [List.drop_eq_nil_of_le (by omega)] at h
  rw [h]
  simp [unhexL]
theorem unhexOf_odd {s : ByteArray} (h : s.size % 2 = 1) : unhexOf s = none := by
  have hl : s.data.toList.length = s.size := by rw [Array.length_toList]; rfl
  unfold unhexOf
  rw [unhex_odd _ (by omega)]
  rfl
end
end Go.Proofs.YtkanjbopfflioaaGreatDoor
