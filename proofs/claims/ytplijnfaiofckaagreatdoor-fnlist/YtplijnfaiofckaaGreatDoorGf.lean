import Derived.Deep.AppendLies
import Derived.Test.YtplijnfaiofckaaGreatDoorGa
import Derived.Deep.Cut
import Derived.Test.YtplijnfaiofckaaGreatDoorShelf
namespace Go.Proofs.YtplijnfaiofckaaGreatDoor
open Go.RowKit Go.Lib
set_option linter.unusedVariables false
set_option linter.unusedSimpArgs false

def Buf (w : World) (e : TypeId) (v : Value) (B : ByteArray) : Prop :=
 (v = .slice none 0 0 ∧ B.size = 0) ∨
 ∃ g cap cur fz, v = .slice (some ⟨g, 0, none⟩) B.size cap ∧ w.heap[g]? = some (.cells cur e fz) ∧ (fz.2 = 0 ∨ cur.size ≤ fz.1) ∧ B.size ≤ cap ∧ cap ≤ maxLen ∧ cur.size = cap ∧ cur.toList.take B.size = strCells B

theorem Buf.lt {w : World} {e : TypeId} {v : Value} {B : ByteArray} (h : Buf w e v B) : ∀ k, v.ownBlock = some k → k < w.heap.size := by
 intro k hk;rcases h with ⟨rfl, _⟩ | ⟨g, cap, cur, fz, rfl, hg, _⟩
 ·simp [Value.ownBlock] at hk
 ·simp [Value.ownBlock] at hk;subst hk;exact (Array.getElem?_eq_some_iff.1 hg).1
theorem Buf.keep {w w' : World} {e : TypeId} {v : Value} {B : ByteArray} (h : Buf w e v B) (hk : ∀ k, v.ownBlock = some k → w'.heap[k]? = w.heap[k]?) : Buf w' e v B := by
 rcases h with h | ⟨g, cap, cur, fz, rfl, hg, h2⟩
 ·exact .inl h
 ·exact .inr ⟨g, cap, cur, fz, rfl, (hk g rfl).trans hg, h2⟩
theorem Buf.form {w : World} {e : TypeId} {v : Value} {B : ByteArray} (h : Buf w e v B) : ∃ a cap, v = .slice a B.size cap := by
 rcases h with ⟨rfl, h⟩ | ⟨g, cap, cur, fz, rfl, hg, h2⟩
 ·exact ⟨none, 0, by rw [h]⟩
 ·exact ⟨_, _, rfl⟩
theorem Buf.cells {w : World} {e : TypeId} {v : Value} {B : ByteArray} (h : Buf w e v B) {g : Nat} (hg : v.ownBlock = some g) : ∀ j u, (strCells B)[j]? = some u → w.cell? ((⟨g, 0, none⟩ : Addr).add j) = some u := by
 intro j u hu;rcases h with ⟨rfl, _⟩ | ⟨g', cap, cur, fz, rfl, hgg, _, _, _, _, htake⟩
 ·simp [Value.ownBlock] at hg
 ·simp [Value.ownBlock] at hg;subst hg;have hadd : (⟨g', 0, none⟩ : Addr).add j = ⟨g', j, none⟩ := by unfold Addr.add; split <;> simp_all
  rw [hadd, cell_of_row w g' j cur e fz hgg];rw [← htake, List.getElem?_take] at hu;split at hu
  ·simpa using hu
  ·cases hu
theorem qe2 (P : Program) (g o : Nat) (t : TypeId) (fz : Nat × Nat) (N : Nat) (hN : fz.2 = 0 ∨ N ≤ fz.1) : ∀ (vs : List Value) (i : Nat) (cur : Array Value) (w : World), w.heap[g]? = some (.cells cur t fz) → cur.size = N → o + i + vs.length ≤ cur.size → (∀ v ∈ vs, v.oneCell' = true) →
  (storeCells ⟨g, o, none⟩ vs i).run P w = .ok () (w.setRow g (cur.toList.take (o + i) ++ vs ++ cur.toList.drop (o + i + vs.length)).toArray)
 | [], i, cur, w, hg, _, _, _ => by
  simp only [storeCells, List.append_nil, List.length_nil, Nat.add_zero, List.take_append_drop, Array.toArray_toList];rw [setRow_self w g cur t fz hg];rfl
 | v :: rest, i, cur, w, hg, hfz, hl, h1 => by
  have hi : o + i < cur.size := by simp at hl; omega
  have hadd : (⟨g, o, none⟩ : Addr).add i = ⟨g, o + i, none⟩ := by unfold Addr.add; split <;> simp_all
  have hcell : w.cell? ⟨g, o + i, none⟩ = some cur[o + i] := by simp [World.cell?, hg, hi]
  have hfro : w.frozen? ⟨g, o + i, none⟩ = false := by
   obtain ⟨lo, hi'⟩ := fz;simp only [World.frozen?, hg, Bool.and_eq_false_iff, decide_eq_false_iff_not];simp only at hN;rcases hN with h | h
   ·right; omega
   ·left; omega
  have hst : (store ((⟨g, o, none⟩ : Addr).add i) v).run P w = .ok () (w.setRow g (cur.setIfInBounds (o + i) v)) := by
   rw [hadd, run_store P w _ v _ (h1 v (by simp)), hcell];simp [hfro, setCell_eq_setRow w g (o + i) cur t fz v hg]
  have ih := qe2 P g o t fz N hN rest (i + 1) (cur.setIfInBounds (o + i) v) (w.setRow g (cur.setIfInBounds (o + i) v)) (setRow_heap w g cur _ t _ hg) (by simpa using hfz) (by simp at hl ⊢; omega) (fun x hx => h1 x (by simp [hx]));simp only [storeCells, Sem.run_bind, hst, Result.andThen_ok, ih, setRow_setRow]
  congr 3
  have e := list_seg_step cur.toList (o + i) v rest (by simp at hl ⊢; omega)
  simpa [Array.toList_setIfInBounds, Nat.add_assoc] using e
theorem qc2 (A B : ByteArray) : strCells (A ++ B) = strCells A ++ strCells B := by simp [strCells]
section
variable {P : Program} (w : World)
theorem run_append_room_strN (t u ty e : TypeId) (i : TypeInfo) (ht : P.underlying t = some (.slice e)) (hu : P.underlying u = some .string) (hi : P.info? e = some i) (hs1 : i.size = 1)
  (g sLen sCap : Nat) (cur : Array Value) (fz : Nat × Nat) (hg : w.heap[g]? = some (.cells cur e fz)) (hfz : fz.2 = 0 ∨ cur.size ≤ fz.1) (s : ByteArray)
  (hroom : sLen + s.size ≤ sCap) (hfit : sLen + s.size ≤ cur.size) :
  (Builtin.append_ #[t, u] ty #[.slice (some ⟨g, 0, none⟩) sLen sCap, .string s]).run P w =
   .ok (.slice (some ⟨g, 0, none⟩) (sLen + s.size) sCap) (w.setRow g (cur.toList.take sLen ++ strCells s ++ cur.toList.drop (sLen + s.size)).toArray) := by
 have hf := run_firstCells_string (P := P) w 1 s;have hst := qe2 P g sLen e fz cur.size hfz (strCells s) 0 cur w hg rfl (by simpa [strCells_length] using hfit) (strCells_oneCell s);simp only [Nat.add_zero, strCells_length] at hst;simp [Builtin.append_, run_underlying ht, run_underlying hu, sizeOf, typeInfo, hi, hs1, Builtin.lenOf, hroom, hf, Addr.add_lit, hst]
theorem run_append_buf_str (t u ty e : TypeId) (i : TypeInfo) (ht : P.underlying t = some (.slice e)) (hu : P.underlying u = some .string) (hi : P.info? e = some i) (hz : i.zero = some (.int .u8 0))
  (hsize : i.size = 1) (hby : i.bytes = 1) (v : Value) (B : ByteArray) (hown : Buf w e v B) (s : ByteArray) (hbytes : B.size + s.size ≤ 140737488355328) :
  ∃ v' w', (Builtin.append_ #[t, u] ty #[v, .string s]).run P w = .ok v' w' ∧ Buf w' e v' (B ++ s) ∧ w.grownBy w' v.ownBlock ∧ (v'.ownBlock = v.ownBlock ∨ v'.ownBlock = some w.heap.size) := by
 have h63 : B.size + s.size ≤ maxLen := by simp only [maxLen]; omega
 have hlen : (B ++ s).size = B.size + s.size := by simp
 rcases hown with ⟨rfl, h0⟩ | ⟨g, cap, cur, fz, rfl, hg, hfz, hnc, hcm, hcs, htake⟩
 ·have hBn : strCells B = [] := List.eq_nil_of_length_eq_zero (by rw [strCells_length]; exact h0);by_cases hm : s.size = 0
  ·refine ⟨.slice none 0 0, w, ?_, .inl ⟨rfl, by omega⟩, ⟨rfl, rfl, rfl, Nat.le_refl _, fun _ _ _ => rfl⟩, .inl rfl⟩;have hf := run_firstCells_string (P := P) w 1 s;rw [hm] at hf;simp [Builtin.append_, run_underlying ht, run_underlying hu, sizeOf, typeInfo, hi, hsize, Builtin.lenOf, hm, hf]
  ·have hr := run_append_nil_string (P := P) w t u ty e i (.int .u8 0) ht hu hi hz s (by omega) (by omega) (by rw [hby]; omega)
   have e1 : (s.data.map fun b => Value.int .u8 b.toNat) = (strCells s).toArray := by
    apply Array.ext';simp [strCells]
   rw [e1] at hr;have hge := grownCap_ge w s.size 0 e;have hcm2 : grownCap w s.size 0 e ≤ maxLen := grownCap_le_maxLen w s.size 0 e (by omega);refine ⟨_, _, hr, .inr ⟨w.heap.size, _, _, (0, 0), by rw [hlen, h0, Nat.zero_add], heap_alloc_new w.drew _, .inl rfl, by omega, hcm2, ?_, ?_⟩, ⟨rfl, rfl, rfl, by simp, fun k hk _ => heap_alloc_old w.drew _ hk⟩, .inr rfl⟩
   ·have hz1 : (Value.int IntKind.u8 0).cells.size = 1 := rfl;simp only [Array.size_append, List.size_toArray, size_zeroCells, hz1, strCells_length];omega
   ·simp only [Array.toList_append, qc2, hBn, List.nil_append];rw [hlen, h0, Nat.zero_add, ← strCells_length];exact List.take_left
 ·by_cases hroom : B.size + s.size ≤ cap
  ·have hr := run_append_room_strN (P := P) w t u ty e i ht hu hi hsize g B.size cap cur fz hg hfz s hroom (by omega);refine ⟨_, _, hr, .inr ⟨g, cap, _, fz, by rw [hlen], setRow_heap w g cur _ e _ hg, ?_, by omega, hcm, ?_, ?_⟩, ⟨rfl, rfl, rfl, by simp, fun k _ hk => setRow_other w g k _ (fun e => hk (by simp [Value.ownBlock, e]))⟩, .inl rfl⟩
   ·simp only [List.size_toArray, List.length_append, List.length_take, List.length_drop, Array.length_toList, strCells_length];omega
   ·simp only [List.size_toArray, List.length_append, List.length_take, List.length_drop, Array.length_toList, strCells_length];omega
   ·rw [htake, qc2, hlen, ← strCells_length, ← strCells_length, ← List.length_append];exact List.take_left
  ·have hr := run_append_grow_string (P := P) w t u ty e i (.int .u8 0) ht hu hi hz ⟨g, 0, none⟩ B.size cap (strCells B) (by rw [hsize, strCells_length]; omega) (Buf.cells (w := w) (e := e) (.inr ⟨g, cap, cur, fz, rfl, hg, hfz, hnc, hcm, hcs, htake⟩) (g := g) rfl) s (by omega) (by omega) (by rw [hby]; exact growslice_fits (by omega) (by omega));have hge := grownCap_ge w (B.size + s.size) cap e;have hcm2 : grownCap w (B.size + s.size) cap e ≤ maxLen := grownCap_le_maxLen w (B.size + s.size) cap e h63;refine ⟨_, _, hr, .inr ⟨w.heap.size, _, _, (0, 0), by rw [hlen], heap_alloc_new w.drew _, .inl rfl, by omega, hcm2, ?_, ?_⟩, ⟨rfl, rfl, rfl, by simp, fun k hk _ => heap_alloc_old w.drew _ hk⟩, .inr rfl⟩
   ·have hz1 : (Value.int IntKind.u8 0).cells.size = 1 := rfl;simp only [Array.size_append, List.size_toArray, size_zeroCells, hz1, strCells_length];omega
   ·simp only [Array.toList_append, qc2, List.append_assoc];rw [← List.append_assoc, hlen, ← strCells_length, ← strCells_length, ← List.length_append];exact List.take_left
end
section
variable {P : Program} (w : World)
theorem run_append_room_newsN (t ty e : TypeId) (i : TypeInfo) (ht : P.underlying t = some (.slice e)) (hi : P.info? e = some i) (hs1 : i.size = 1)
  (g sLen sCap : Nat) (cur : Array Value) (fz : Nat × Nat) (hg : w.heap[g]? = some (.cells cur e fz)) (hfz : fz.2 = 0 ∨ cur.size ≤ fz.1) (s : ByteArray)
  (ad : Addr) (c : Nat) (hnews : ∀ j u, (strCells s)[j]? = some u → w.cell? (ad.add j) = some u) (hroom : sLen + s.size ≤ sCap) (hfit : sLen + s.size ≤ cur.size) :
  (Builtin.append_ #[t, t] ty #[.slice (some ⟨g, 0, none⟩) sLen sCap, .slice (some ad) s.size c]).run P w =
   .ok (.slice (some ⟨g, 0, none⟩) (sLen + s.size) sCap) (w.setRow g (cur.toList.take sLen ++ strCells s ++ cur.toList.drop (sLen + s.size)).toArray) := by
 have hf := run_firstCells_some (P := P) w i.size s.size ad s.size c (strCells s) (by rw [hs1, strCells_length]; omega) hnews;have hst := qe2 P g sLen e fz cur.size hfz (strCells s) 0 cur w hg rfl (by simpa [strCells_length] using hfit) (strCells_oneCell s);simp only [Nat.add_zero, strCells_length] at hst;rw [hs1] at hf;simp [Builtin.append_, run_underlying ht, sizeOf, typeInfo, hi, hs1, Builtin.lenOf, hroom, hf, Addr.add_lit, hst]
theorem run_append_buf_news (t ty e : TypeId) (i : TypeInfo) (ht : P.underlying t = some (.slice e)) (hi : P.info? e = some i) (hz : i.zero = some (.int .u8 0))
  (hsize : i.size = 1) (hby : i.bytes = 1) (v : Value) (B : ByteArray) (hown : Buf w e v B) (s : ByteArray) (ad : Addr) (m c : Nat) (hm : s.size = m) (h0 : 0 < m)
  (hnews : ∀ j u, (strCells s)[j]? = some u → w.cell? (ad.add j) = some u) (hbytes : B.size + s.size ≤ 140737488355328) :
  ∃ v' w', (Builtin.append_ #[t, t] ty #[v, .slice (some ad) m c]).run P w = .ok v' w' ∧ Buf w' e v' (B ++ s) ∧ w.grownBy w' v.ownBlock ∧ (v'.ownBlock = v.ownBlock ∨ v'.ownBlock = some w.heap.size) := by
 subst hm;have h63 : B.size + s.size ≤ maxLen := by simp only [maxLen]; omega
 have hlen : (B ++ s).size = B.size + s.size := by simp
 have hl : (strCells s).length = s.size * i.size := by rw [hsize, strCells_length]; omega
 rcases hown with ⟨rfl, hB0⟩ | ⟨g, cap, cur, fz, rfl, hg, hfz, hnc, hcm, hcs, htake⟩
 ·have hBn : strCells B = [] := List.eq_nil_of_length_eq_zero (by rw [strCells_length]; exact hB0);have hr := run_append_nil (P := P) w t ty e i (.int .u8 0) ht hi hz ad s.size c (strCells s) hl hnews h0 (by omega) (by rw [hby]; omega);have hge := grownCap_ge w s.size 0 e;have hcm2 : grownCap w s.size 0 e ≤ maxLen := grownCap_le_maxLen w s.size 0 e (by omega);refine ⟨_, _, hr, .inr ⟨w.heap.size, _, _, (0, 0), by rw [hlen, hB0, Nat.zero_add], heap_alloc_new w.drew _, .inl rfl, by omega, hcm2, ?_, ?_⟩, ⟨rfl, rfl, rfl, by simp, fun k hk _ => heap_alloc_old w.drew _ hk⟩, .inr rfl⟩
  ·have hz1 : (Value.int IntKind.u8 0).cells.size = 1 := rfl;simp only [Array.size_append, List.size_toArray, size_zeroCells, hz1, strCells_length];omega
  ·simp only [Array.toList_append, qc2, hBn, List.nil_append];rw [hlen, hB0, Nat.zero_add, ← strCells_length];exact List.take_left
 ·by_cases hroom : B.size + s.size ≤ cap
  ·have hr := run_append_room_newsN (P := P) w t ty e i ht hi hsize g B.size cap cur fz hg hfz s ad c hnews hroom (by omega);refine ⟨_, _, hr, .inr ⟨g, cap, _, fz, by rw [hlen], setRow_heap w g cur _ e _ hg, ?_, by omega, hcm, ?_, ?_⟩, ⟨rfl, rfl, rfl, by simp, fun k _ hk => setRow_other w g k _ (fun e => hk (by simp [Value.ownBlock, e]))⟩, .inl rfl⟩
   ·simp only [List.size_toArray, List.length_append, List.length_take, List.length_drop, Array.length_toList, strCells_length];omega
   ·simp only [List.size_toArray, List.length_append, List.length_take, List.length_drop, Array.length_toList, strCells_length];omega
   ·rw [htake, qc2, hlen, ← strCells_length, ← strCells_length, ← List.length_append];exact List.take_left
  ·have hr := run_append_grow (P := P) w t ty e i (.int .u8 0) ht hi hz ⟨g, 0, none⟩ B.size cap (strCells B) (by rw [hsize, strCells_length]; omega) (Buf.cells (w := w) (e := e) (.inr ⟨g, cap, cur, fz, rfl, hg, hfz, hnc, hcm, hcs, htake⟩) (g := g) rfl) ad s.size c (strCells s) hl hnews (by omega) (by omega) (by rw [hby]; exact growslice_fits (by omega) (by omega));have hge := grownCap_ge w (B.size + s.size) cap e;have hcm2 : grownCap w (B.size + s.size) cap e ≤ maxLen := grownCap_le_maxLen w (B.size + s.size) cap e h63;refine ⟨_, _, hr, .inr ⟨w.heap.size, _, _, (0, 0), by rw [hlen], heap_alloc_new w.drew _, .inl rfl, by omega, hcm2, ?_, ?_⟩, ⟨rfl, rfl, rfl, by simp, fun k hk _ => heap_alloc_old w.drew _ hk⟩, .inr rfl⟩
   ·have hz1 : (Value.int IntKind.u8 0).cells.size = 1 := rfl;simp only [Array.size_append, List.size_toArray, size_zeroCells, hz1, strCells_length];omega
   ·simp only [Array.toList_append, qc2, List.append_assoc];rw [← List.append_assoc, hlen, ← strCells_length, ← strCells_length, ← List.length_append];exact List.take_left
theorem wp_append_buf_str {o : Oper} {a : Act} {K : Act → World → Prop} {Q : Exit → Act → World → Prop} (sl x : Operand) (t u : TypeId)
  (ho : o.op = .call { callee := .builtin .append, args := #[sl, x], argTypes := #[t, u] })
  (e : TypeId) (i : TypeInfo) (ht : P.underlying t = some (.slice e)) (hu : P.underlying u = some .string) (hi : P.info? e = some i) (hz : i.zero = some (.int .u8 0))
  (hsize : i.size = 1) (hby : i.bytes = 1) (v : Value) (B : ByteArray) (hs : a.eval sl = v) (hown : Buf w e v B) (s : ByteArray) (hx : a.eval x = .string s) (hbytes : B.size + s.size ≤ 140737488355328)
  (h : ∀ v' w', Buf w' e v' (B ++ s) → w.grownBy w' v.ownBlock → (v'.ownBlock = v.ownBlock ∨ v'.ownBlock = some w.heap.size) → K (a.put o.dst v') w') : o.wp P a w K Q := by
 obtain ⟨v', w', hr, h2, h3, h4⟩ := run_append_buf_str (P := P) w t u o.type e i ht hu hi hz hsize hby v B hown s hbytes;unfold Oper.wp execOp;simp only [ho, resolve, invoke, builtin, Sem.run_bind, Sem.run_pure, Result.andThen_ok, List.map_toArray, List.map_cons, List.map_nil, hs, hx, hr];exact h v' w' h2 h3 h4
theorem wpList_append_buf_str {ops : Array Oper} {rest : List Oper} {o : Oper} {a : Act} {Q : Exit → Act → World → Prop} (hgd : o.guard = none) (sl x : Operand) (t u : TypeId)
  (ho : o.op = .call { callee := .builtin .append, args := #[sl, x], argTypes := #[t, u] })
  (e : TypeId) (i : TypeInfo) (ht : P.underlying t = some (.slice e)) (hu : P.underlying u = some .string) (hi : P.info? e = some i) (hz : i.zero = some (.int .u8 0))
  (hsize : i.size = 1) (hby : i.bytes = 1) (v : Value) (B : ByteArray) (hs : a.eval sl = v) (hown : Buf w e v B) (s : ByteArray) (hx : a.eval x = .string s) (hbytes : B.size + s.size ≤ 140737488355328)
  (h : ∀ v' w', Buf w' e v' (B ++ s) → w.grownBy w' v.ownBlock → (v'.ownBlock = v.ownBlock ∨ v'.ownBlock = some w.heap.size) → wpList P ops Q rest (a.put o.dst v') w') : wpList P ops Q (o :: rest) a w :=
 wpList_plain hgd fun K hK => wp_append_buf_str w sl x t u ho e i ht hu hi hz hsize hby v B hs hown s hx hbytes fun v' w' h1 h2 h3 => hK _ _ (h v' w' h1 h2 h3)
theorem qg9 {o : Oper} {a : Act} {K : Act → World → Prop} {Q : Exit → Act → World → Prop} (sl x : Operand) (t : TypeId)
  (ho : o.op = .call { callee := .builtin .append, args := #[sl, x], argTypes := #[t, t] })
  (e : TypeId) (i : TypeInfo) (ht : P.underlying t = some (.slice e)) (hi : P.info? e = some i) (hz : i.zero = some (.int .u8 0))
  (hsize : i.size = 1) (hby : i.bytes = 1) (v : Value) (B : ByteArray) (hs : a.eval sl = v) (hown : Buf w e v B) (s : ByteArray) (ad : Addr) (m c : Nat) (hx : a.eval x = .slice (some ad) m c) (hm : s.size = m) (h0 : 0 < m)
  (hnews : ∀ j u, (strCells s)[j]? = some u → w.cell? (ad.add j) = some u) (hbytes : B.size + s.size ≤ 140737488355328)
  (h : ∀ v' w', Buf w' e v' (B ++ s) → w.grownBy w' v.ownBlock → (v'.ownBlock = v.ownBlock ∨ v'.ownBlock = some w.heap.size) → K (a.put o.dst v') w') : o.wp P a w K Q := by
 obtain ⟨v', w', hr, h2, h3, h4⟩ := run_append_buf_news (P := P) w t o.type e i ht hi hz hsize hby v B hown s ad m c hm h0 hnews hbytes;unfold Oper.wp execOp;simp only [ho, resolve, invoke, builtin, Sem.run_bind, Sem.run_pure, Result.andThen_ok, List.map_toArray, List.map_cons, List.map_nil, hs, hx, hr];exact h v' w' h2 h3 h4
theorem qe5 {ops : Array Oper} {rest : List Oper} {o : Oper} {a : Act} {Q : Exit → Act → World → Prop} (hgd : o.guard = none) (sl x : Operand) (t : TypeId)
  (ho : o.op = .call { callee := .builtin .append, args := #[sl, x], argTypes := #[t, t] })
  (e : TypeId) (i : TypeInfo) (ht : P.underlying t = some (.slice e)) (hi : P.info? e = some i) (hz : i.zero = some (.int .u8 0))
  (hsize : i.size = 1) (hby : i.bytes = 1) (v : Value) (B : ByteArray) (hs : a.eval sl = v) (hown : Buf w e v B) (s : ByteArray) (ad : Addr) (m c : Nat) (hx : a.eval x = .slice (some ad) m c) (hm : s.size = m) (h0 : 0 < m)
  (hnews : ∀ j u, (strCells s)[j]? = some u → w.cell? (ad.add j) = some u) (hbytes : B.size + s.size ≤ 140737488355328)
  (h : ∀ v' w', Buf w' e v' (B ++ s) → w.grownBy w' v.ownBlock → (v'.ownBlock = v.ownBlock ∨ v'.ownBlock = some w.heap.size) → wpList P ops Q rest (a.put o.dst v') w') : wpList P ops Q (o :: rest) a w :=
 wpList_plain hgd fun K hK => qg9 w sl x t ho e i ht hi hz hsize hby v B hs hown s ad m c hx hm h0 hnews hbytes fun v' w' h1 h2 h3 => hK _ _ (h v' w' h1 h2 h3)
theorem qf4 {ops : Array Oper} {o : Oper} {a : Act} {K : Act → World → Prop} {Q : Exit → Act → World → Prop} {E : Prop} (hgd : o.guard = none) (sl x : Operand) (t : TypeId)
  (ho : o.op = .call { callee := .builtin .append, args := #[sl, x], argTypes := #[t, t] })
  (e : TypeId) (i : TypeInfo) (ht : P.underlying t = some (.slice e)) (hi : P.info? e = some i) (hz : i.zero = some (.int .u8 0))
  (hsize : i.size = 1) (hby : i.bytes = 1) (v : Value) (B : ByteArray) (hs : a.eval sl = v) (hown : Buf w e v B) (s : ByteArray) (ad : Addr) (m c : Nat) (hx : a.eval x = .slice (some ad) m c) (hm : s.size = m) (h0 : 0 < m)
  (hnews : ∀ j u, (strCells s)[j]? = some u → w.cell? (ad.add j) = some u) (hbytes : B.size + s.size ≤ 140737488355328)
  (h : ∀ v' w', Buf w' e v' (B ++ s) → w.grownBy w' v.ownBlock → (v'.ownBlock = v.ownBlock ∨ v'.ownBlock = some w.heap.size) → K (a.put o.dst v') w') :
  if Region.wanted o (yielded ops a.tmps) = true then Oper.wp P o a w K Q else E := by
 have hw : Region.wanted o (yielded ops a.tmps) = true := by simp [Region.wanted, hgd]
 rw [if_pos hw];exact qg9 w sl x t ho e i ht hi hz hsize hby v B hs hown s ad m c hx hm h0 hnews hbytes h
end

theorem add_zero_lit (g i : Nat) : (⟨g, 0, none⟩ : Addr).add i = ⟨g, i, none⟩ := by unfold Addr.add; split <;> simp_all
theorem conv_buf {P : Program} {w : World} {v : Value} {B : ByteArray} (src dst e : TypeId) (hs : P.underlying src = some (.slice e)) (he : P.underlying e = some (.int .u8)) (hd : P.underlying dst = some .string) (h : Buf w e v B) :
  (convert src dst v).run P w = .ok (.string B) w := by
 have hB : B = strOfNums (B.data.toList.map fun b => (b.toNat : Int)) := by
  apply ByteArray.ext;apply Array.ext';rw [strOfNums_data, List.map_map]
  conv => lhs; rw [← List.map_id B.data.toList]
  refine List.map_congr_left fun x _ => ?_;simp
 rcases h with ⟨rfl, h0⟩ | ⟨g, cap, cur, fz, rfl, hg, hfz, hnc, hcm, hcs, htake⟩
 ·have : B = ByteArray.empty := by
   apply ByteArray.ext;apply Array.ext';exact List.eq_nil_of_length_eq_zero (by simpa using h0)
  rw [this];exact run_convert_bytes_nil w src e hs he 0 0 dst hd
 ·have hc : ∀ j u, (strCells B)[j]? = some u → w.cell? ((⟨g, 0, none⟩ : Addr).add j) = some u := Buf.cells (w := w) (e := e) (.inr ⟨g, cap, cur, fz, rfl, hg, hfz, hnc, hcm, hcs, htake⟩) (g := g) rfl
  conv => rhs; rw [hB]
  refine run_convert_bytes_arg w src e hs he g 0 B.size cap _ (by simp) (fun i hi => ?_) dst hd;have hi' : i < (B.data.toList.map fun b => (b.toNat : Int)).length := by rw [List.length_map]; exact hi
  have hadd := add_zero_lit g i
  have := hc i (.int .u8 ((B.data.toList.map fun b => (b.toNat : Int))[i]'hi')) (by
   simp only [strCells, List.getElem?_map, List.getElem_map];have h3 : i < B.data.toList.length := by simpa using hi
   rw [List.getElem?_eq_getElem h3];rfl)
  rw [hadd] at this;rw [Nat.zero_add, this, List.getD_eq_getElem?_getD, List.getElem?_eq_getElem hi'];rfl
theorem buf_made (w : World) (e : TypeId) : Buf (w.alloc (.cells #[] e)) e (.slice (some ⟨w.heap.size, 0, none⟩) 0 0) ByteArray.empty :=
 .inr ⟨w.heap.size, 0, #[], (0, 0), rfl, heap_alloc_new w _, .inl rfl, Nat.le_refl _, by simp [maxLen], rfl, rfl⟩
structure Fr (P : Nat → Prop) (w : World) (v : Value) (w' : World) (v' : Value) : Prop where
 os : w'.os = w.os
 tape : w'.tape = w.tape
 output : w'.output = w.output
 size : w.heap.size ≤ w'.heap.size
 block : ∀ k, k < w.heap.size → ¬ P k → v.ownBlock ≠ some k → w'.heap[k]? = w.heap[k]?
 own : v'.ownBlock = v.ownBlock ∨ ∀ g, v'.ownBlock = some g → w.heap.size ≤ g
theorem Fr.refl (P : Nat → Prop) (w : World) (v : Value) : Fr P w v w v := ⟨rfl, rfl, rfl, Nat.le_refl _, fun _ _ _ _ => rfl, .inl rfl⟩
theorem Fr.trans {P : Nat → Prop} {a b c : World} {u v x : Value} (h : Fr P a u b v) (k : Fr P b v c x) : Fr P a u c x := by
 refine ⟨k.os.trans h.os, k.tape.trans h.tape, k.output.trans h.output, Nat.le_trans h.size k.size, fun j h1 h2 h3 => ?_, ?_⟩
 ·refine (k.block j (Nat.lt_of_lt_of_le h1 h.size) h2 fun e => ?_).trans (h.block j h1 h2 h3);rcases h.own with o | o
  ·exact h3 (o ▸ e)
  ·have := o j e;omega
 ·rcases k.own with o | o
  ·rcases h.own with p | p
   ·exact .inl (o.trans p)
   ·exact .inr fun g e => p g (o ▸ e)
  ·exact .inr fun g e => Nat.le_trans h.size (o g e)
theorem Fr.of_grown {w w' : World} {v v' : Value} (P : Nat → Prop) (h : w.grownBy w' v.ownBlock) (o : v'.ownBlock = v.ownBlock ∨ v'.ownBlock = some w.heap.size) : Fr P w v w' v' :=
 ⟨h.os, h.tape, h.output, h.size, fun k h1 _ h3 => h.block k h1 fun e => h3 e.symm, o.imp id fun e g he => by rw [e] at he; exact Nat.le_of_eq (Option.some.inj he)⟩
theorem Fr.of_below {w w' : World} (P : Nat → Prop) (v : Value) (h : Below w.heap.size w w') : Fr P w v w' v :=
 ⟨h.os, h.tape, h.output, h.size, fun k h1 _ _ => h.block k h1, .inl rfl⟩
theorem Fr.below {P : Nat → Prop} {B : Nat} {w w' : World} {v v' : Value} (h : Fr P w v w' v') (hB : B ≤ w.heap.size) (hP : ∀ k, P k → B ≤ k) (hv : ∀ k, v.ownBlock = some k → B ≤ k) : Below B w w' :=
 ⟨h.os, h.tape, h.output, h.size, fun k hk => h.block k (by omega) (fun e => by have := hP k e; omega) (fun e => by have := hv k e; omega)⟩
theorem Fr.after {P : Nat → Prop} {a b c : World} {u v : Value} (hb : Below a.heap.size a b) (h : Fr P b u c v) : Fr P a u c v := (Fr.of_below P u hb).trans h
end Go.Proofs.YtplijnfaiofckaaGreatDoor
namespace Go.Proofs.YtplijnfaiofckaaGreatDoor
open Go.RowKit Go.Lib
set_option linter.unusedVariables false
set_option linter.unusedSimpArgs false
set_option maxRecDepth 100000
set_option maxHeartbeats 9000000
theorem info8 : (Tryz.prog.info? 5).map (fun i => (i.zero, i.size, i.bytes)) = some (some (.int .u8 0), 1, 1) := by kernel_rfl
theorem strCells_byte (b : UInt8) : strCells (strOfNums [(b.toNat : Int)]) = [.int .u8 (b.toNat : Int)] := by simp [strCells, strOfNums]
theorem ext_step (s : ByteArray) (i : Nat) (hi : i < s.size) : s.extract 0 i ++ strOfNums [((s[i]'hi).toNat : Int)] = s.extract 0 (i + 1) := by
 apply ByteArray.ext;apply Array.ext';simp [strOfNums];rw [List.take_add_one];simp [hi];rfl
theorem l3Put_in (v : Value) (B s : ByteArray) (w : World) (h : Buf w 5 v B) (hb : B.size + s.size ≤ 70368744177664) :
  Calls Tryz.prog 58 #[v, .string s] w fun e w' => (∃ v', e = .returned v' ∧ Buf w' 5 v' (B ++ s) ∧ Fr (fun _ => False) w v w' v') := by
 obtain ⟨a0, c0, rfl⟩ := h.form;replace hb : Hid _ := hb;replace h : Hid (Buf w 5 (.slice a0 B.size c0) B) := h;go_enter Tryz.func58, Tryz.ntmps58;go_wp2_with fail
 go_loopw [0, 5] (fun o i wr => ∃ i' : Nat, i = .int .i64 (i' : Int) ∧ i' ≤ s.size ∧ Buf wr 5 o (B ++ s.extract 0 i') ∧ Fr (fun _ => False) w (.slice a0 B.size c0) wr o)
  (fun _ i _ => s.size - (RowKit.intOf i).toNat)
 case atStart => exact ⟨0, rfl, by omega, by rw [show B ++ s.extract 0 0 = B by simp]; exact h.out, Fr.refl _ _ _⟩
 case round =>
  obtain ⟨i', rfl, hin, hB, hF⟩ := hrel;have hsz : Hid ((B ++ s.extract 0 i').size = B.size + i') := by show _ = _; simp; omega
  replace hB : Hid (Buf wr 5 u0 (B ++ s.extract 0 i')) := hB;replace hF : Hid (Fr (fun _ => False) w (.slice a0 B.size c0) wr u0) := hF;by_cases hlt : i' < s.size
  ·have hii : (i' : Int) < (s.size : Int) := by omega
   obtain ⟨i0, hi, hz0, hz1, hz2⟩ := info_parts info8;go_wp2_with (at_builtin; refine qe5 _ rfl (.tmp 12) (.tmp 16) 22 rfl 5 i0 Tryz.underlying22 hi hz0 hz1 hz2 _ (B ++ s.extract 0 i') rfl (hB.out.keep ?c0) (strOfNums [((s[i']'hlt).toNat : Int)]) ⟨wr.heap.size, 0, none⟩ 1 1 rfl (strOfNums_size _) (by omega) ?c1 ?c2 ?_);case c0 => exact fun k hk => Below.heap_alloc _ _ _ (hB.out.lt k hk)
   case c1 => rw [strCells_byte]; exact cell_one_new _ _ _
   case c2 => rw [hsz.out, strOfNums_size]; have := hb.out; simp only [List.length_cons, List.length_nil]; omega
   intro v' w1 hB1 hg ho;have hF1 : Hid (Fr (fun _ => False) w (.slice a0 B.size c0) w1 v') := hF.out.trans (Fr.after (by go_grown) (Fr.of_grown _ hg (by simpa using ho)))
   have hB1' : Hid (Buf w1 5 v' (B ++ s.extract 0 (i' + 1))) := by
    rw [ByteArray.append_assoc, ext_step] at hB1;exact hB1
   clear hB hF hB1 hg ho hi hz0 hz1 hz2;have hsm : (i' : Int) + 1 ≤ 9223372036854775807 := by have := hb.out; omega
   go_wp2_with fail;go_roundw;case rel => exact ⟨i' + 1, by go_num, by omega, hB1'.out, hF1.out⟩
   case measure => simp [RowKit.intOf]; omega
  ·obtain rfl : i' = s.size := by omega
   have hfin : B ++ s.extract 0 s.size = B ++ s := by simp
   go_wp2_with fail;go_ret;exact ⟨_, rfl, hfin ▸ hB.out, hF.out⟩
end Go.Proofs.YtplijnfaiofckaaGreatDoor
namespace Go.Proofs.YtplijnfaiofckaaGreatDoor
open Go.RowKit
set_option linter.unusedVariables false
set_option linter.unusedSimpArgs false

end Go.Proofs.YtplijnfaiofckaaGreatDoor
namespace Go.Proofs.YtplijnfaiofckaaGreatDoor
open Go.RowKit Go.Lib Go.Shelf
set_option linter.unusedVariables false
set_option linter.unusedSimpArgs false
set_option maxRecDepth 100000
set_option maxHeartbeats 9000000
structure Lw (P : Nat) (U : List Value) (w0 : World) (v0 : Value) (y : World) (v : Value) (X : ByteArray) : Prop where
 box : ∃ a, (a = .pointer none ∨ a = .pointer (some ⟨P, 0, none⟩)) ∧ RowL y P 50 (a :: v :: U)
 buf : Buf y 5 v X
 ne : v.ownBlock ≠ some P
 fr : Fr (fun k => k = P) w0 v0 y v
theorem Lw.lt {P : Nat} {U : List Value} {w0 y : World} {v0 v : Value} {X : ByteArray} (h : Lw P U w0 v0 y v X) : P < y.heap.size := by
 obtain ⟨a, _, hb⟩ := h.box;exact World.rowIs.lt hb
theorem Lw.later {P : Nat} {U : List Value} {w0 y y' : World} {v0 v : Value} {X : ByteArray} (h : Lw P U w0 v0 y v X) (hb : Below y.heap.size y y') : Lw P U w0 v0 y' v X := by
 obtain ⟨a, ha, hbx⟩ := h.box;exact ⟨⟨a, ha, hbx.call hb⟩, h.buf.keep fun k hk => hb.block k (h.buf.lt k hk), h.ne, h.fr.trans (Fr.of_below _ _ hb)⟩
theorem Lw.drew {P : Nat} {U : List Value} {w0 y : World} {v0 v : Value} {X : ByteArray} (h : Lw P U w0 v0 y v X) : Lw P U w0 v0 y.drew v X := h.later (Below.refl _ _).drew
theorem Lw.fresh {P : Nat} {U : List Value} {w0 y : World} {v0 v : Value} {X : ByteArray} (h : Lw P U w0 v0 y v X) : Lw P U y v y v X := ⟨h.box, h.buf, h.ne, Fr.refl _ _ _⟩
theorem Lw.trans {P : Nat} {U : List Value} {w0 y z : World} {v0 v u : Value} {X Y : ByteArray} (h : Lw P U w0 v0 y v X) (k : Lw P U y v z u Y) : Lw P U w0 v0 z u Y := ⟨k.box, k.buf, k.ne, h.fr.trans k.fr⟩
theorem fr_set {P : Nat} {y : World} {v : Value} (k : Nat) (u : Value) : Fr (fun k => k = P) y v (y.setCell ⟨P, k, none⟩ u) v := ⟨rfl, rfl, rfl, by simp, fun k hk hp _ => Below.heap_setCell _ _ _ _ hp, .inl rfl⟩
attribute [local go_sem] Oper.semAt_some
theorem liesB : liesAt Tryz.prog Tryz.prog.depth 50 (642 / Tryz.prog.cellsOf 50) 0 48 1 = true := by kernel_rfl
theorem sizeB : (Tryz.prog.info? 48).map (·.size) = some 2 := by kernel_rfl
theorem RowL.shape {w : World} {b : Nat} {t : TypeId} {L : List Value} (h : RowL w b t L) : w.shape? b = some (t, L.length) := by
 obtain ⟨c, hc, hs, _⟩ := h;simp [World.shape?, hc, hs]
theorem copyCheck_in (P : Nat) (U : List Value) (hU : U.length = 640) (w0 : World) (v0 : Value) (y : World) (v : Value) (X : ByteArray) (h : Lw P U w0 v0 y v X) :
  Calls Tryz.prog 138 #[.pointer (some ⟨P, 0, none⟩)] y fun e w' => e = .returned (.tuple #[]) ∧ Lw P U w0 v0 w' v X := by
 obtain ⟨j, hj, hjs⟩ := Option.map_eq_some_iff.1 sizeB;obtain ⟨a, ha, hb⟩ := h.box;have hsh := hb.shape;rw [show (a :: v :: U).length = 642 by simp [hU]] at hsh;rcases ha with rfl | rfl
 ·have c0 := hb.cell 0 rfl;have f0 := hb.frozen 0;have hl := hb.lt;have hto := Lib.run_to_unsafe y ⟨P, 0, none⟩ Tryz.underlying46 Tryz.underlying190 hj (by rw [hjs]; decide) hsh (by simp);have hfr := Lib.run_from_unsafe y ⟨P, 0, none⟩ Tryz.underlying190 Tryz.underlying46 hj hsh liesB
  have hw : Hid (Lw P U w0 v0 (y.setCell ⟨P, 0, none⟩ (.pointer (some ⟨P, 0, none⟩))) v X) :=
   ⟨⟨_, .inr rfl, hb.set 0 _⟩, h.buf.keep fun k hk => Below.heap_setCell _ _ _ _ (by rintro rfl; exact h.ne hk), h.ne, h.fr.trans (fr_set 0 _)⟩
  clear h hb hsh;go_enter Tryz.func138, Tryz.ntmps138;go_wp2_with fail;rw [run_callFunc_extern Tryz.func155 (by kernel_rfl) (by kernel_rfl) (by kernel_rfl) (e := Extern.AbiNoEscape.same) (by kernel_rfl)];rw [Lib.run_noEscape];simp only [Result.andThen];rw [Oper.upon_value];go_wp2_with fail
  go_end0
  exact ⟨rfl, hw.out⟩
 ·have c0 := hb.cell 0 rfl;have hl := hb.lt;have hnq := Lib.run_neq_ptr_same y ⟨P, 0, none⟩ Tryz.underlying46 hj;replace h := show Hid (Lw P U w0 v0 y v X) from h;clear hb hsh;go_enter Tryz.func138, Tryz.ntmps138;go_wp2_with fail
  go_end0
  exact ⟨rfl, h.out⟩
theorem writeString_in (P : Nat) (U : List Value) (hU : U.length = 640) (s : ByteArray) (w0 : World) (v0 : Value) (y : World) (v : Value) (X : ByteArray) (h : Lw P U w0 v0 y v X) (hs : X.size + s.size ≤ 140737488355328) :
  Calls Tryz.prog 105 #[.pointer (some ⟨P, 0, none⟩), .string s] y fun e w' => ∃ v', e = .returned (.tuple #[.int .i64 (s.size : Int), .nilIface]) ∧ Lw P U w0 v0 w' v' (X ++ s) := by
 obtain ⟨i0, hi, hz0, hz1, hz2⟩ := info_parts info8;have hc : Hid _ := copyCheck_in P U hU w0 v0 y v X h;clear h;go_enter Tryz.func105, Tryz.ntmps105;go_wp2_with fail;refine Calls.mono hc.out ?_;rintro e y1 ⟨rfl, h1⟩;clear hc;obtain ⟨a, ha, hb⟩ := h1.box;obtain ⟨a0, c0, rfl⟩ := h1.buf.form;have q1 := hb.cell 1 rfl;have hl := hb.lt;replace hb := show Hid (RowL y1 P 50 (a :: .slice a0 X.size c0 :: U)) from hb;replace h1 := show Hid (Lw P U w0 v0 y1 (.slice a0 X.size c0) X) from h1;replace ha := show Hid (a = .pointer none ∨ a = .pointer (some ⟨P, 0, none⟩)) from ha;go_wp2_with (at_builtin; refine wpList_append_buf_str _ rfl (.tmp 12) (.tmp 13) 22 9 rfl 5 i0 Tryz.underlying22 Tryz.underlying9 hi hz0 hz1 hz2 _ X rfl h1.out.buf s rfl hs ?_);intro v' w1 hB1 hg ho;obtain ⟨a1, c1, rfl⟩ := hB1.form
 have hne : (Value.slice a1 (X ++ s).size c1).ownBlock ≠ some P := by
  rcases ho with e | e
  ·rw [e]; exact h1.out.ne
  ·rw [e]; intro k; simp only [Option.some.injEq] at k; omega
 have hbx : RowL w1 P 50 (a :: .slice a0 X.size c0 :: U) := World.rowIs.of_block hb.out (hg.block P hl fun e => h1.out.ne e.symm);have hf : Fr (fun k => k = P) y1 (.slice a0 X.size c0) w1 (.slice a1 (X ++ s).size c1) := Fr.of_grown _ hg ho
 have hW : Hid (Lw P U w0 v0 (w1.setCell ⟨P, 1, none⟩ (.slice a1 (X ++ s).size c1)) (.slice a1 (X ++ s).size c1) (X ++ s)) :=
  ⟨⟨a, ha.out, hbx.set 1 _⟩, hB1.keep fun k hk => Below.heap_setCell _ _ _ _ (by rintro rfl; exact hne hk), hne, h1.out.fr.trans (hf.trans (fr_set 1 _))⟩
 have q2 := hbx.cell 1 rfl;have f2 := hbx.frozen 1;have hl2 := hbx.lt;clear hB1 hg ho hi hz0 hz1 hz2 h1 hbx q1 hb hf hne ha;generalize (X ++ s).size = nn at hW ⊢;go_wp2_with fail
 go_ret2
 exact ⟨_, rfl, hW.out⟩
end Go.Proofs.YtplijnfaiofckaaGreatDoor
namespace Go.Proofs.YtplijnfaiofckaaGreatDoor
open Go.RowKit Go.Lib Go.Shelf
set_option linter.unusedVariables false
set_option linter.unusedSimpArgs false
set_option maxRecDepth 100000
set_option maxHeartbeats 9000000
def joinB (xs : List ByteArray) : ByteArray := ⟨(Lib.join (xs.map (·.data.toList)) [32]).toArray⟩
def lineB (xs : List ByteArray) : ByteArray := joinB xs ++ ⟨#[10]⟩
theorem join_in (bk o c : Nat) (xs : List ByteArray) (w : World) (hcells : ∀ (j : Nat) x, xs[j]? = some x → w.cell? ⟨bk, o + j, none⟩ = some (.string x)) (hbk : bk < w.heap.size) (hN : xs.length ≤ 1000) (hcap : xs.length ≤ c) (hlen : (joinB xs).size ≤ 100000) :
  Calls Tryz.prog 104 #[.slice (some ⟨bk, o, none⟩) xs.length c, .string ⟨#[32]⟩] w fun e w' => e = .returned (.string (joinB xs)) ∧ Below w.heap.size w w' :=
 Any.strings_Join Tryz.lays156 Tryz.Builder_Extra_156 bk o c xs ⟨#[32]⟩ w hcells hbk (by omega) hcap (by
  have : (joinB xs).size = (Lib.join (xs.map (·.data.toList)) [32]).length := by simp [joinB, ByteArray.size]
  have e : (⟨#[32]⟩ : ByteArray).data.toList = [32] := rfl;rw [e];omega)
attribute [local go_sem] Oper.semAt_some
theorem lineOf_in (bk o c : Nat) (xs : List ByteArray) (w : World) (hcells : ∀ (j : Nat) x, xs[j]? = some x → w.cell? ⟨bk, o + j, none⟩ = some (.string x)) (hbk : bk < w.heap.size) (hN : xs.length ≤ 1000) (hcap : xs.length ≤ c) (hlen : (joinB xs).size ≤ 100000) :
  Calls Tryz.prog 106 #[.slice (some ⟨bk, o, none⟩) xs.length c] w fun e w' => e = .returned (.string (lineB xs)) ∧ Below w.heap.size w w' := by
 have hj := show Hid _ from join_in bk o c xs w hcells hbk hN hcap hlen;clear hcells hbk hN hcap;unfold lineB;generalize joinB xs = J at hj hlen ⊢;have hz : J.size + (⟨#[10]⟩ : ByteArray).size ≤ 9223372036854775807 := by have : (⟨#[10]⟩ : ByteArray).size = 1 := rfl; omega
 go_enter Tryz.func106, Tryz.ntmps106;go_wp2_with fail;refine Calls.mono hj.out ?_;rintro e y ⟨rfl, hb⟩;clear hj;go_wp2_with fail;go_ret;exact ⟨rfl, hb⟩
theorem lineB_size (xs : List ByteArray) : (lineB xs).size = (joinB xs).size + 1 := by unfold lineB; rw [ByteArray.size_append]; rfl
theorem qg5 (P : Nat) (U : List Value) (hU : U.length = 640) (bk o c : Nat) (xs : List ByteArray) (w0 : World) (v0 : Value) (y : World) (v : Value) (X : ByteArray) (h : Lw P U w0 v0 y v X)
  (hcells : ∀ (j : Nat) x, xs[j]? = some x → y.cell? ⟨bk, o + j, none⟩ = some (.string x)) (hbk : bk < y.heap.size) (hN : xs.length ≤ 1000) (hcap : xs.length ≤ c) (hlen : (joinB xs).size ≤ 100000) (hs : X.size ≤ 70368744177664) :
  Calls Tryz.prog 52 #[.pointer (some ⟨P, 0, none⟩), .slice (some ⟨bk, o, none⟩) xs.length c] y fun e w' => ∃ v', e = .returned (.tuple #[]) ∧ Lw P U w0 v0 w' v' (X ++ lineB xs) := by
 have hl := show Hid _ from lineOf_in bk o c xs y.drew (fun j x hx => hcells j x hx) hbk hN hcap hlen
 have hw := show Hid (∀ y' v', Lw P U w0 v0 y' v' X → Calls Tryz.prog 105 #[.pointer (some ⟨P, 0, none⟩), .string (lineB xs)] y' fun e w' => ∃ v', e = .returned (.tuple #[.int .i64 ((lineB xs).size : Int), .nilIface]) ∧ Lw P U w0 v0 w' v' (X ++ lineB xs)) from
  fun y' v' h' => writeString_in P U hU (lineB xs) w0 v0 y' v' X h' (by rw [lineB_size]; omega)
 have hP := h.lt;have hd := show Hid _ from h.drew;clear h hcells hbk hN hcap hlen hs;generalize lineB xs = J at hl hw ⊢;go_enter Tryz.func52, Tryz.ntmps52;refine wp_region_held_drew (S := fun _ => True) (by kernel_rfl) trivial (fun hH => ?_);clear hH;refine tkd 0 4 (.pointer (some ⟨P, 0, none⟩)) trivial ?_;refine tkd 1 5 (.pointer (some ⟨P, 0, none⟩)) trivial ?_;refine tkd 2 6 (.pointer (some ⟨P, 0, none⟩)) trivial ?_;refine tkd 3 7 (.slice (some ⟨bk, o, none⟩) xs.length c) trivial ?_;refine rdy1 4 (fun K hK => ?_);go_simp;refine Calls.mono hl.out ?_;rintro e y1 ⟨rfl, b1⟩;have h1 := show Hid _ from hd.out.later b1;clear hl hd;go_wp2_with fail;refine hK.out _ _ trivial (fun hzz => ?_);clear hK K hzz;try simp only [tK]
 refine rdy1 5 (fun K hK => ?_);go_simp;refine Calls.mono (hw.out y1 v h1.out) ?_;rintro e y2 ⟨v2, rfl, h2⟩;replace h2 := show Hid _ from h2;clear hw h1;go_wp2_with fail;refine hK.out _ _ trivial (fun hzz => ?_);clear hK K hzz;try simp only [tK]
 refine wpAnyH_done (by kernel_rfl) ?_ _
 go_end0
 exact ⟨_, rfl, h2.out⟩
end Go.Proofs.YtplijnfaiofckaaGreatDoor
