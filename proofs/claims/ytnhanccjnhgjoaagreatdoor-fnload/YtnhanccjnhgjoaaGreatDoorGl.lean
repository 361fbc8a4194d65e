import Derived.WalkKit
import Derived.ProofKit
import Derived.Handy
import Derived.Laws.BytesArg
import Derived.Laws.OwnMore
import Derived.Lib.FrozenHead
import Derived.Lib.ConvBytes
import Derived.Deep.AppendLies
import Derived.Test.YtnhanccjnhgjoaaGreatDoorRows
import Derived.OpenShut
import Derived.WalkLawsBesides
import Derived.WalkSpells
import Derived.Laws.BitsAllLaws
import Derived.Laws.Concat
import Derived.Test.YtnhanccjnhgjoaaGreatDoorGa
import Derived.Test.YtnhanccjnhgjoaaGreatDoorGv
namespace Go.Proofs.YtnhanccjnhgjoaaGreatDoor
open Go.RowKit Go.Lib
set_option linter.unusedVariables false
set_option linter.unusedSimpArgs false

def Buf (w : World) (e : TypeId) (v : Value) (B : ByteArray) : Prop :=
 (v = .slice none 0 0 ∧ B.size = 0) ∨
 ∃ g cap cur fz, v = .slice (some ⟨g, 0, none⟩) B.size cap ∧ w.heap[g]? = some (.cells cur e fz) ∧ (fz.2 = 0 ∨ cur.size ≤ fz.1) ∧ B.size ≤ cap ∧ cap ≤ maxLen ∧ cur.size = cap ∧ cur.toList.take B.size = strCells B

theorem Buf.lt {w : World} {e : TypeId} {v : Value} {B : ByteArray} (h : Buf w e v B) : ∀ k, v.ownBlock = some k → k < w.heap.size := by
 intro k hk;rcases h with ⟨rfl, _⟩ | ⟨g, cap, cur, fz, rfl, hg, _⟩
 ·simp [Value.ownBlock] at hk
 ·simp [Value.ownBlock] at hk;subst hk;exact (Array.getElem?_eq_some_iff.1 hg).1
theorem Buf.keep {w w' : World} {e : TypeId} {v : Value} {B : ByteArray} (h : Buf w e v B) (hk : ∀ k, v.ownBlock = some k → w'.heap[k]? = w.heap[k]?) : Buf w' e v B := by
 rcases h with h | ⟨g, cap, cur, fz, rfl, hg, h2⟩
 ·exact .inl h
 ·exact .inr ⟨g, cap, cur, fz, rfl, (hk g rfl).trans hg, h2⟩
theorem Buf.form {w : World} {e : TypeId} {v : Value} {B : ByteArray} (h : Buf w e v B) : ∃ a cap, v = .slice a B.size cap := by
 rcases h with ⟨rfl, h⟩ | ⟨g, cap, cur, fz, rfl, hg, h2⟩
 ·exact ⟨none, 0, by rw [h]⟩
 ·exact ⟨_, _, rfl⟩
theorem Buf.cells {w : World} {e : TypeId} {v : Value} {B : ByteArray} (h : Buf w e v B) {g : Nat} (hg : v.ownBlock = some g) : ∀ j u, (strCells B)[j]? = some u → w.cell? ((⟨g, 0, none⟩ : Addr).add j) = some u := by
 intro j u hu;rcases h with ⟨rfl, _⟩ | ⟨g', cap, cur, fz, rfl, hgg, _, _, _, _, htake⟩
 ·simp [Value.ownBlock] at hg
 ·simp [Value.ownBlock] at hg;subst hg;have hadd : (⟨g', 0, none⟩ : Addr).add j = ⟨g', j, none⟩ := by unfold Addr.add; split <;> simp_all
  rw [hadd, cell_of_row w g' j cur e fz hgg];rw [← htake, List.getElem?_take] at hu;split at hu
  ·simpa using hu
  ·cases hu
theorem run_storeCells_atN (P : Program) (g o : Nat) (t : TypeId) (fz : Nat × Nat) (N : Nat) (hN : fz.2 = 0 ∨ N ≤ fz.1) : ∀ (vs : List Value) (i : Nat) (cur : Array Value) (w : World), w.heap[g]? = some (.cells cur t fz) → cur.size = N → o + i + vs.length ≤ cur.size → (∀ v ∈ vs, v.oneCell' = true) →
  (storeCells ⟨g, o, none⟩ vs i).run P w = .ok () (w.setRow g (cur.toList.take (o + i) ++ vs ++ cur.toList.drop (o + i + vs.length)).toArray)
 | [], i, cur, w, hg, _, _, _ => by
  simp only [storeCells, List.append_nil, List.length_nil, Nat.add_zero, List.take_append_drop, Array.toArray_toList];rw [setRow_self w g cur t fz hg];rfl
 | v :: rest, i, cur, w, hg, hfz, hl, h1 => by
  have hi : o + i < cur.size := by simp at hl; omega
  have hadd : (⟨g, o, none⟩ : Addr).add i = ⟨g, o + i, none⟩ := by unfold Addr.add; split <;> simp_all
  have hcell : w.cell? ⟨g, o + i, none⟩ = some cur[o + i] := by simp [World.cell?, hg, hi]
  have hfro : w.frozen? ⟨g, o + i, none⟩ = false := by
   obtain ⟨lo, hi'⟩ := fz;simp only [World.frozen?, hg, Bool.and_eq_false_iff, decide_eq_false_iff_not];simp only at hN;rcases hN with h | h
   ·right; omega
   ·left; omega
  have hst : (store ((⟨g, o, none⟩ : Addr).add i) v).run P w = .ok () (w.setRow g (cur.setIfInBounds (o + i) v)) := by
   rw [hadd, run_store P w _ v _ (h1 v (by simp)), hcell];simp [hfro, setCell_eq_setRow w g (o + i) cur t fz v hg]
  have ih := run_storeCells_atN P g o t fz N hN rest (i + 1) (cur.setIfInBounds (o + i) v) (w.setRow g (cur.setIfInBounds (o + i) v)) (setRow_heap w g cur _ t _ hg) (by simpa using hfz) (by simp at hl ⊢; omega) (fun x hx => h1 x (by simp [hx]));simp only [storeCells, Sem.run_bind, hst, Result.andThen_ok, ih, setRow_setRow]
  congr 3
  have e := list_seg_step cur.toList (o + i) v rest (by simp at hl ⊢; omega)
  simpa [Array.toList_setIfInBounds, Nat.add_assoc] using e
theorem strCells_append (A B : ByteArray) : strCells (A ++ B) = strCells A ++ strCells B := by simp [strCells]
theorem strCells_nums (xs : List Int) (h : ∀ x ∈ xs, 0 ≤ x ∧ x ≤ 255) : strCells (strOfNums xs) = xs.map (Value.int .u8) := by
 simp only [strCells, strOfNums_data, List.map_map];refine List.map_congr_left fun x hx => ?_;have := h x hx;simp only [Function.comp, UInt8.toNat_ofNat', Value.int.injEq, true_and];omega
section
variable {P : Program} (w : World)
theorem run_append_room_strN (t u ty e : TypeId) (i : TypeInfo) (ht : P.underlying t = some (.slice e)) (hu : P.underlying u = some .string) (hi : P.info? e = some i) (hs1 : i.size = 1)
  (g sLen sCap : Nat) (cur : Array Value) (fz : Nat × Nat) (hg : w.heap[g]? = some (.cells cur e fz)) (hfz : fz.2 = 0 ∨ cur.size ≤ fz.1) (s : ByteArray)
  (hroom : sLen + s.size ≤ sCap) (hfit : sLen + s.size ≤ cur.size) :
  (Builtin.append_ #[t, u] ty #[.slice (some ⟨g, 0, none⟩) sLen sCap, .string s]).run P w =
   .ok (.slice (some ⟨g, 0, none⟩) (sLen + s.size) sCap) (w.setRow g (cur.toList.take sLen ++ strCells s ++ cur.toList.drop (sLen + s.size)).toArray) := by
 have hf := run_firstCells_string (P := P) w 1 s;have hst := run_storeCells_atN P g sLen e fz cur.size hfz (strCells s) 0 cur w hg rfl (by simpa [strCells_length] using hfit) (strCells_oneCell s);simp only [Nat.add_zero, strCells_length] at hst;simp [Builtin.append_, run_underlying ht, run_underlying hu, sizeOf, typeInfo, hi, hs1, Builtin.lenOf, hroom, hf, Addr.add_lit, hst]
theorem run_append_buf_str (t u ty e : TypeId) (i : TypeInfo) (ht : P.underlying t = some (.slice e)) (hu : P.underlying u = some .string) (hi : P.info? e = some i) (hz : i.zero = some (.int .u8 0))
  (hsize : i.size = 1) (hby : i.bytes = 1) (v : Value) (B : ByteArray) (hown : Buf w e v B) (s : ByteArray) (hbytes : B.size + s.size ≤ 140737488355328) :
  ∃ v' w', (Builtin.append_ #[t, u] ty #[v, .string s]).run P w = .ok v' w' ∧ Buf w' e v' (B ++ s) ∧ w.grownBy w' v.ownBlock ∧ (v'.ownBlock = v.ownBlock ∨ v'.ownBlock = some w.heap.size) := by
 have h63 : B.size + s.size ≤ maxLen := by simp only [maxLen]; omega
 have hlen : (B ++ s).size = B.size + s.size := by simp
 rcases hown with ⟨rfl, h0⟩ | ⟨g, cap, cur, fz, rfl, hg, hfz, hnc, hcm, hcs, htake⟩
 ·have hBn : strCells B = [] := List.eq_nil_of_length_eq_zero (by rw [strCells_length]; exact h0);by_cases hm : s.size = 0
  ·refine ⟨.slice none 0 0, w, ?_, .inl ⟨rfl, by omega⟩, ⟨rfl, rfl, rfl, Nat.le_refl _, fun _ _ _ => rfl⟩, .inl rfl⟩;have hf := run_firstCells_string (P := P) w 1 s;rw [hm] at hf;simp [Builtin.append_, run_underlying ht, run_underlying hu, sizeOf, typeInfo, hi, hsize, Builtin.lenOf, hm, hf]
  ·have hr := run_append_nil_string (P := P) w t u ty e i (.int .u8 0) ht hu hi hz s (by omega) (by omega) (by rw [hby]; omega)
   have e1 : (s.data.map fun b => Value.int .u8 b.toNat) = (strCells s).toArray := by
    apply Array.ext';simp [strCells]
   rw [e1] at hr;have hge := grownCap_ge w s.size 0 e;have hcm2 : grownCap w s.size 0 e ≤ maxLen := grownCap_le_maxLen w s.size 0 e (by omega);refine ⟨_, _, hr, .inr ⟨w.heap.size, _, _, (0, 0), by rw [hlen, h0, Nat.zero_add], heap_alloc_new w.drew _, .inl rfl, by omega, hcm2, ?_, ?_⟩, ⟨rfl, rfl, rfl, by simp, fun k hk _ => heap_alloc_old w.drew _ hk⟩, .inr rfl⟩
   ·have hz1 : (Value.int IntKind.u8 0).cells.size = 1 := rfl;simp only [Array.size_append, List.size_toArray, size_zeroCells, hz1, strCells_length];omega
   ·simp only [Array.toList_append, strCells_append, hBn, List.nil_append];rw [hlen, h0, Nat.zero_add, ← strCells_length];exact List.take_left
 ·by_cases hroom : B.size + s.size ≤ cap
  ·have hr := run_append_room_strN (P := P) w t u ty e i ht hu hi hsize g B.size cap cur fz hg hfz s hroom (by omega);refine ⟨_, _, hr, .inr ⟨g, cap, _, fz, by rw [hlen], setRow_heap w g cur _ e _ hg, ?_, by omega, hcm, ?_, ?_⟩, ⟨rfl, rfl, rfl, by simp, fun k _ hk => setRow_other w g k _ (fun e => hk (by simp [Value.ownBlock, e]))⟩, .inl rfl⟩
   ·simp only [List.size_toArray, List.length_append, List.length_take, List.length_drop, Array.length_toList, strCells_length];omega
   ·simp only [List.size_toArray, List.length_append, List.length_take, List.length_drop, Array.length_toList, strCells_length];omega
   ·rw [htake, strCells_append, hlen, ← strCells_length, ← strCells_length, ← List.length_append];exact List.take_left
  ·have hr := run_append_grow_string (P := P) w t u ty e i (.int .u8 0) ht hu hi hz ⟨g, 0, none⟩ B.size cap (strCells B) (by rw [hsize, strCells_length]; omega) (Buf.cells (w := w) (e := e) (.inr ⟨g, cap, cur, fz, rfl, hg, hfz, hnc, hcm, hcs, htake⟩) (g := g) rfl) s (by omega) (by omega) (by rw [hby]; exact growslice_fits (by omega) (by omega));have hge := grownCap_ge w (B.size + s.size) cap e;have hcm2 : grownCap w (B.size + s.size) cap e ≤ maxLen := grownCap_le_maxLen w (B.size + s.size) cap e h63;refine ⟨_, _, hr, .inr ⟨w.heap.size, _, _, (0, 0), by rw [hlen], heap_alloc_new w.drew _, .inl rfl, by omega, hcm2, ?_, ?_⟩, ⟨rfl, rfl, rfl, by simp, fun k hk _ => heap_alloc_old w.drew _ hk⟩, .inr rfl⟩
   ·have hz1 : (Value.int IntKind.u8 0).cells.size = 1 := rfl;simp only [Array.size_append, List.size_toArray, size_zeroCells, hz1, strCells_length];omega
   ·simp only [Array.toList_append, strCells_append, List.append_assoc];rw [← List.append_assoc, hlen, ← strCells_length, ← strCells_length, ← List.length_append];exact List.take_left
end
section
variable {P : Program} (w : World)
theorem run_append_room_newsN (t ty e : TypeId) (i : TypeInfo) (ht : P.underlying t = some (.slice e)) (hi : P.info? e = some i) (hs1 : i.size = 1)
  (g sLen sCap : Nat) (cur : Array Value) (fz : Nat × Nat) (hg : w.heap[g]? = some (.cells cur e fz)) (hfz : fz.2 = 0 ∨ cur.size ≤ fz.1) (s : ByteArray)
  (ad : Addr) (c : Nat) (hnews : ∀ j u, (strCells s)[j]? = some u → w.cell? (ad.add j) = some u) (hroom : sLen + s.size ≤ sCap) (hfit : sLen + s.size ≤ cur.size) :
  (Builtin.append_ #[t, t] ty #[.slice (some ⟨g, 0, none⟩) sLen sCap, .slice (some ad) s.size c]).run P w =
   .ok (.slice (some ⟨g, 0, none⟩) (sLen + s.size) sCap) (w.setRow g (cur.toList.take sLen ++ strCells s ++ cur.toList.drop (sLen + s.size)).toArray) := by
 have hf := run_firstCells_some (P := P) w i.size s.size ad s.size c (strCells s) (by rw [hs1, strCells_length]; omega) hnews;have hst := run_storeCells_atN P g sLen e fz cur.size hfz (strCells s) 0 cur w hg rfl (by simpa [strCells_length] using hfit) (strCells_oneCell s);simp only [Nat.add_zero, strCells_length] at hst;rw [hs1] at hf;simp [Builtin.append_, run_underlying ht, sizeOf, typeInfo, hi, hs1, Builtin.lenOf, hroom, hf, Addr.add_lit, hst]
theorem run_append_buf_news (t ty e : TypeId) (i : TypeInfo) (ht : P.underlying t = some (.slice e)) (hi : P.info? e = some i) (hz : i.zero = some (.int .u8 0))
  (hsize : i.size = 1) (hby : i.bytes = 1) (v : Value) (B : ByteArray) (hown : Buf w e v B) (s : ByteArray) (ad : Addr) (m c : Nat) (hm : s.size = m) (h0 : 0 < m)
  (hnews : ∀ j u, (strCells s)[j]? = some u → w.cell? (ad.add j) = some u) (hbytes : B.size + s.size ≤ 140737488355328) :
  ∃ v' w', (Builtin.append_ #[t, t] ty #[v, .slice (some ad) m c]).run P w = .ok v' w' ∧ Buf w' e v' (B ++ s) ∧ w.grownBy w' v.ownBlock ∧ (v'.ownBlock = v.ownBlock ∨ v'.ownBlock = some w.heap.size) := by
 subst hm;have h63 : B.size + s.size ≤ maxLen := by simp only [maxLen]; omega
 have hlen : (B ++ s).size = B.size + s.size := by simp
 have hl : (strCells s).length = s.size * i.size := by rw [hsize, strCells_length]; omega
 rcases hown with ⟨rfl, hB0⟩ | ⟨g, cap, cur, fz, rfl, hg, hfz, hnc, hcm, hcs, htake⟩
 ·have hBn : strCells B = [] := List.eq_nil_of_length_eq_zero (by rw [strCells_length]; exact hB0);have hr := run_append_nil (P := P) w t ty e i (.int .u8 0) ht hi hz ad s.size c (strCells s) hl hnews h0 (by omega) (by rw [hby]; omega);have hge := grownCap_ge w s.size 0 e;have hcm2 : grownCap w s.size 0 e ≤ maxLen := grownCap_le_maxLen w s.size 0 e (by omega);refine ⟨_, _, hr, .inr ⟨w.heap.size, _, _, (0, 0), by rw [hlen, hB0, Nat.zero_add], heap_alloc_new w.drew _, .inl rfl, by omega, hcm2, ?_, ?_⟩, ⟨rfl, rfl, rfl, by simp, fun k hk _ => heap_alloc_old w.drew _ hk⟩, .inr rfl⟩
  ·have hz1 : (Value.int IntKind.u8 0).cells.size = 1 := rfl;simp only [Array.size_append, List.size_toArray, size_zeroCells, hz1, strCells_length];omega
  ·simp only [Array.toList_append, strCells_append, hBn, List.nil_append];rw [hlen, hB0, Nat.zero_add, ← strCells_length];exact List.take_left
 ·by_cases hroom : B.size + s.size ≤ cap
  ·have hr := run_append_room_newsN (P := P) w t ty e i ht hi hsize g B.size cap cur fz hg hfz s ad c hnews hroom (by omega);refine ⟨_, _, hr, .inr ⟨g, cap, _, fz, by rw [hlen], setRow_heap w g cur _ e _ hg, ?_, by omega, hcm, ?_, ?_⟩, ⟨rfl, rfl, rfl, by simp, fun k _ hk => setRow_other w g k _ (fun e => hk (by simp [Value.ownBlock, e]))⟩, .inl rfl⟩
   ·simp only [List.size_toArray, List.length_append, List.length_take, List.length_drop, Array.length_toList, strCells_length];omega
   ·simp only [List.size_toArray, List.length_append, List.length_take, List.length_drop, Array.length_toList, strCells_length];omega
   ·rw [htake, strCells_append, hlen, ← strCells_length, ← strCells_length, ← List.length_append];exact List.take_left
  ·have hr := run_append_grow (P := P) w t ty e i (.int .u8 0) ht hi hz ⟨g, 0, none⟩ B.size cap (strCells B) (by rw [hsize, strCells_length]; omega) (Buf.cells (w := w) (e := e) (.inr ⟨g, cap, cur, fz, rfl, hg, hfz, hnc, hcm, hcs, htake⟩) (g := g) rfl) ad s.size c (strCells s) hl hnews (by omega) (by omega) (by rw [hby]; exact growslice_fits (by omega) (by omega));have hge := grownCap_ge w (B.size + s.size) cap e;have hcm2 : grownCap w (B.size + s.size) cap e ≤ maxLen := grownCap_le_maxLen w (B.size + s.size) cap e h63;refine ⟨_, _, hr, .inr ⟨w.heap.size, _, _, (0, 0), by rw [hlen], heap_alloc_new w.drew _, .inl rfl, by omega, hcm2, ?_, ?_⟩, ⟨rfl, rfl, rfl, by simp, fun k hk _ => heap_alloc_old w.drew _ hk⟩, .inr rfl⟩
   ·have hz1 : (Value.int IntKind.u8 0).cells.size = 1 := rfl;simp only [Array.size_append, List.size_toArray, size_zeroCells, hz1, strCells_length];omega
   ·simp only [Array.toList_append, strCells_append, List.append_assoc];rw [← List.append_assoc, hlen, ← strCells_length, ← strCells_length, ← List.length_append];exact List.take_left
theorem wp_append_buf_str {o : Oper} {a : Act} {K : Act → World → Prop} {Q : Exit → Act → World → Prop} (sl x : Operand) (t u : TypeId)
  (ho : o.op = .call { callee := .builtin .append, args := #[sl, x], argTypes := #[t, u] })
  (e : TypeId) (i : TypeInfo) (ht : P.underlying t = some (.slice e)) (hu : P.underlying u = some .string) (hi : P.info? e = some i) (hz : i.zero = some (.int .u8 0))
  (hsize : i.size = 1) (hby : i.bytes = 1) (v : Value) (B : ByteArray) (hs : a.eval sl = v) (hown : Buf w e v B) (s : ByteArray) (hx : a.eval x = .string s) (hbytes : B.size + s.size ≤ 140737488355328)
  (h : ∀ v' w', Buf w' e v' (B ++ s) → w.grownBy w' v.ownBlock → (v'.ownBlock = v.ownBlock ∨ v'.ownBlock = some w.heap.size) → K (a.put o.dst v') w') : o.wp P a w K Q := by
 obtain ⟨v', w', hr, h2, h3, h4⟩ := run_append_buf_str (P := P) w t u o.type e i ht hu hi hz hsize hby v B hown s hbytes;unfold Oper.wp execOp;simp only [ho, resolve, invoke, builtin, Sem.run_bind, Sem.run_pure, Result.andThen_ok, List.map_toArray, List.map_cons, List.map_nil, hs, hx, hr];exact h v' w' h2 h3 h4
theorem wpList_append_buf_str {ops : Array Oper} {rest : List Oper} {o : Oper} {a : Act} {Q : Exit → Act → World → Prop} (hgd : o.guard = none) (sl x : Operand) (t u : TypeId)
  (ho : o.op = .call { callee := .builtin .append, args := #[sl, x], argTypes := #[t, u] })
  (e : TypeId) (i : TypeInfo) (ht : P.underlying t = some (.slice e)) (hu : P.underlying u = some .string) (hi : P.info? e = some i) (hz : i.zero = some (.int .u8 0))
  (hsize : i.size = 1) (hby : i.bytes = 1) (v : Value) (B : ByteArray) (hs : a.eval sl = v) (hown : Buf w e v B) (s : ByteArray) (hx : a.eval x = .string s) (hbytes : B.size + s.size ≤ 140737488355328)
  (h : ∀ v' w', Buf w' e v' (B ++ s) → w.grownBy w' v.ownBlock → (v'.ownBlock = v.ownBlock ∨ v'.ownBlock = some w.heap.size) → wpList P ops Q rest (a.put o.dst v') w') : wpList P ops Q (o :: rest) a w :=
 wpList_plain hgd fun K hK => wp_append_buf_str w sl x t u ho e i ht hu hi hz hsize hby v B hs hown s hx hbytes fun v' w' h1 h2 h3 => hK _ _ (h v' w' h1 h2 h3)
theorem step_append_buf_str {ops : Array Oper} {o : Oper} {a : Act} {K : Act → World → Prop} {Q : Exit → Act → World → Prop} {E : Prop} (hgd : o.guard = none) (sl x : Operand) (t u : TypeId)
  (ho : o.op = .call { callee := .builtin .append, args := #[sl, x], argTypes := #[t, u] })
  (e : TypeId) (i : TypeInfo) (ht : P.underlying t = some (.slice e)) (hu : P.underlying u = some .string) (hi : P.info? e = some i) (hz : i.zero = some (.int .u8 0))
  (hsize : i.size = 1) (hby : i.bytes = 1) (v : Value) (B : ByteArray) (hs : a.eval sl = v) (hown : Buf w e v B) (s : ByteArray) (hx : a.eval x = .string s) (hbytes : B.size + s.size ≤ 140737488355328)
  (h : ∀ v' w', Buf w' e v' (B ++ s) → w.grownBy w' v.ownBlock → (v'.ownBlock = v.ownBlock ∨ v'.ownBlock = some w.heap.size) → K (a.put o.dst v') w') :
  if Region.wanted o (yielded ops a.tmps) = true then Oper.wp P o a w K Q else E := by
 have hw : Region.wanted o (yielded ops a.tmps) = true := by simp [Region.wanted, hgd]
 rw [if_pos hw];exact wp_append_buf_str w sl x t u ho e i ht hu hi hz hsize hby v B hs hown s hx hbytes h
theorem wp_append_buf_news {o : Oper} {a : Act} {K : Act → World → Prop} {Q : Exit → Act → World → Prop} (sl x : Operand) (t : TypeId)
  (ho : o.op = .call { callee := .builtin .append, args := #[sl, x], argTypes := #[t, t] })
  (e : TypeId) (i : TypeInfo) (ht : P.underlying t = some (.slice e)) (hi : P.info? e = some i) (hz : i.zero = some (.int .u8 0))
  (hsize : i.size = 1) (hby : i.bytes = 1) (v : Value) (B : ByteArray) (hs : a.eval sl = v) (hown : Buf w e v B) (s : ByteArray) (ad : Addr) (m c : Nat) (hx : a.eval x = .slice (some ad) m c) (hm : s.size = m) (h0 : 0 < m)
  (hnews : ∀ j u, (strCells s)[j]? = some u → w.cell? (ad.add j) = some u) (hbytes : B.size + s.size ≤ 140737488355328)
  (h : ∀ v' w', Buf w' e v' (B ++ s) → w.grownBy w' v.ownBlock → (v'.ownBlock = v.ownBlock ∨ v'.ownBlock = some w.heap.size) → K (a.put o.dst v') w') : o.wp P a w K Q := by
 obtain ⟨v', w', hr, h2, h3, h4⟩ := run_append_buf_news (P := P) w t o.type e i ht hi hz hsize hby v B hown s ad m c hm h0 hnews hbytes;unfold Oper.wp execOp;simp only [ho, resolve, invoke, builtin, Sem.run_bind, Sem.run_pure, Result.andThen_ok, List.map_toArray, List.map_cons, List.map_nil, hs, hx, hr];exact h v' w' h2 h3 h4
theorem wpList_append_buf_news {ops : Array Oper} {rest : List Oper} {o : Oper} {a : Act} {Q : Exit → Act → World → Prop} (hgd : o.guard = none) (sl x : Operand) (t : TypeId)
  (ho : o.op = .call { callee := .builtin .append, args := #[sl, x], argTypes := #[t, t] })
  (e : TypeId) (i : TypeInfo) (ht : P.underlying t = some (.slice e)) (hi : P.info? e = some i) (hz : i.zero = some (.int .u8 0))
  (hsize : i.size = 1) (hby : i.bytes = 1) (v : Value) (B : ByteArray) (hs : a.eval sl = v) (hown : Buf w e v B) (s : ByteArray) (ad : Addr) (m c : Nat) (hx : a.eval x = .slice (some ad) m c) (hm : s.size = m) (h0 : 0 < m)
  (hnews : ∀ j u, (strCells s)[j]? = some u → w.cell? (ad.add j) = some u) (hbytes : B.size + s.size ≤ 140737488355328)
  (h : ∀ v' w', Buf w' e v' (B ++ s) → w.grownBy w' v.ownBlock → (v'.ownBlock = v.ownBlock ∨ v'.ownBlock = some w.heap.size) → wpList P ops Q rest (a.put o.dst v') w') : wpList P ops Q (o :: rest) a w :=
 wpList_plain hgd fun K hK => wp_append_buf_news w sl x t ho e i ht hi hz hsize hby v B hs hown s ad m c hx hm h0 hnews hbytes fun v' w' h1 h2 h3 => hK _ _ (h v' w' h1 h2 h3)
theorem step_append_buf_news {ops : Array Oper} {o : Oper} {a : Act} {K : Act → World → Prop} {Q : Exit → Act → World → Prop} {E : Prop} (hgd : o.guard = none) (sl x : Operand) (t : TypeId)
  (ho : o.op = .call { callee := .builtin .append, args := #[sl, x], argTypes := #[t, t] })
  (e : TypeId) (i : TypeInfo) (ht : P.underlying t = some (.slice e)) (hi : P.info? e = some i) (hz : i.zero = some (.int .u8 0))
  (hsize : i.size = 1) (hby : i.bytes = 1) (v : Value) (B : ByteArray) (hs : a.eval sl = v) (hown : Buf w e v B) (s : ByteArray) (ad : Addr) (m c : Nat) (hx : a.eval x = .slice (some ad) m c) (hm : s.size = m) (h0 : 0 < m)
  (hnews : ∀ j u, (strCells s)[j]? = some u → w.cell? (ad.add j) = some u) (hbytes : B.size + s.size ≤ 140737488355328)
  (h : ∀ v' w', Buf w' e v' (B ++ s) → w.grownBy w' v.ownBlock → (v'.ownBlock = v.ownBlock ∨ v'.ownBlock = some w.heap.size) → K (a.put o.dst v') w') :
  if Region.wanted o (yielded ops a.tmps) = true then Oper.wp P o a w K Q else E := by
 have hw : Region.wanted o (yielded ops a.tmps) = true := by simp [Region.wanted, hgd]
 rw [if_pos hw];exact wp_append_buf_news w sl x t ho e i ht hi hz hsize hby v B hs hown s ad m c hx hm h0 hnews hbytes h
end

theorem add_zero_lit (g i : Nat) : (⟨g, 0, none⟩ : Addr).add i = ⟨g, i, none⟩ := by unfold Addr.add; split <;> simp_all
theorem conv_buf {P : Program} {w : World} {v : Value} {B : ByteArray} (src dst e : TypeId) (hs : P.underlying src = some (.slice e)) (he : P.underlying e = some (.int .u8)) (hd : P.underlying dst = some .string) (h : Buf w e v B) :
  (convert src dst v).run P w = .ok (.string B) w := by
 have hB : B = strOfNums (B.data.toList.map fun b => (b.toNat : Int)) := by
  apply ByteArray.ext;apply Array.ext';rw [strOfNums_data, List.map_map]
  conv => lhs; rw [← List.map_id B.data.toList]
  refine List.map_congr_left fun x _ => ?_;simp
 rcases h with ⟨rfl, h0⟩ | ⟨g, cap, cur, fz, rfl, hg, hfz, hnc, hcm, hcs, htake⟩
 ·have : B = ByteArray.empty := by
   apply ByteArray.ext;apply Array.ext';exact List.eq_nil_of_length_eq_zero (by simpa using h0)
  rw [this];exact run_convert_bytes_nil w src e hs he 0 0 dst hd
 ·have hc : ∀ j u, (strCells B)[j]? = some u → w.cell? ((⟨g, 0, none⟩ : Addr).add j) = some u := Buf.cells (w := w) (e := e) (.inr ⟨g, cap, cur, fz, rfl, hg, hfz, hnc, hcm, hcs, htake⟩) (g := g) rfl
  conv => rhs; rw [hB]
  refine run_convert_bytes_arg w src e hs he g 0 B.size cap _ (by simp) (fun i hi => ?_) dst hd;have hi' : i < (B.data.toList.map fun b => (b.toNat : Int)).length := by rw [List.length_map]; exact hi
  have hadd := add_zero_lit g i
  have := hc i (.int .u8 ((B.data.toList.map fun b => (b.toNat : Int))[i]'hi')) (by
   simp only [strCells, List.getElem?_map, List.getElem_map];have h3 : i < B.data.toList.length := by simpa using hi
   rw [List.getElem?_eq_getElem h3];rfl)
  rw [hadd] at this;rw [Nat.zero_add, this, List.getD_eq_getElem?_getD, List.getElem?_eq_getElem hi'];rfl
theorem buf_made (w : World) (e : TypeId) : Buf (w.alloc (.cells #[] e)) e (.slice (some ⟨w.heap.size, 0, none⟩) 0 0) ByteArray.empty :=
 .inr ⟨w.heap.size, 0, #[], (0, 0), rfl, heap_alloc_new w _, .inl rfl, Nat.le_refl _, by simp [maxLen], rfl, rfl⟩
structure Fr (P : Nat → Prop) (w : World) (v : Value) (w' : World) (v' : Value) : Prop where
 os : w'.os = w.os
 tape : w'.tape = w.tape
 output : w'.output = w.output
 size : w.heap.size ≤ w'.heap.size
 block : ∀ k, k < w.heap.size → ¬ P k → v.ownBlock ≠ some k → w'.heap[k]? = w.heap[k]?
 own : v'.ownBlock = v.ownBlock ∨ ∀ g, v'.ownBlock = some g → w.heap.size ≤ g
theorem Fr.refl (P : Nat → Prop) (w : World) (v : Value) : Fr P w v w v := ⟨rfl, rfl, rfl, Nat.le_refl _, fun _ _ _ _ => rfl, .inl rfl⟩
theorem Fr.trans {P : Nat → Prop} {a b c : World} {u v x : Value} (h : Fr P a u b v) (k : Fr P b v c x) : Fr P a u c x := by
 refine ⟨k.os.trans h.os, k.tape.trans h.tape, k.output.trans h.output, Nat.le_trans h.size k.size, fun j h1 h2 h3 => ?_, ?_⟩
 ·refine (k.block j (Nat.lt_of_lt_of_le h1 h.size) h2 fun e => ?_).trans (h.block j h1 h2 h3);rcases h.own with o | o
  ·exact h3 (o ▸ e)
  ·have := o j e;omega
 ·rcases k.own with o | o
  ·rcases h.own with p | p
   ·exact .inl (o.trans p)
   ·exact .inr fun g e => p g (o ▸ e)
  ·exact .inr fun g e => Nat.le_trans h.size (o g e)
theorem Fr.of_grown {w w' : World} {v v' : Value} (P : Nat → Prop) (h : w.grownBy w' v.ownBlock) (o : v'.ownBlock = v.ownBlock ∨ v'.ownBlock = some w.heap.size) : Fr P w v w' v' :=
 ⟨h.os, h.tape, h.output, h.size, fun k h1 _ h3 => h.block k h1 fun e => h3 e.symm, o.imp id fun e g he => by rw [e] at he; exact Nat.le_of_eq (Option.some.inj he)⟩
theorem Fr.of_below {w w' : World} (P : Nat → Prop) (v : Value) (h : Below w.heap.size w w') : Fr P w v w' v :=
 ⟨h.os, h.tape, h.output, h.size, fun k h1 _ _ => h.block k h1, .inl rfl⟩
theorem Fr.below {P : Nat → Prop} {B : Nat} {w w' : World} {v v' : Value} (h : Fr P w v w' v') (hB : B ≤ w.heap.size) (hP : ∀ k, P k → B ≤ k) (hv : ∀ k, v.ownBlock = some k → B ≤ k) : Below B w w' :=
 ⟨h.os, h.tape, h.output, h.size, fun k hk => h.block k (by omega) (fun e => by have := hP k e; omega) (fun e => by have := hv k e; omega)⟩
theorem Fr.mono {P Q : Nat → Prop} {w w' : World} {v v' : Value} (h : Fr P w v w' v') (hPQ : ∀ k, P k → Q k) : Fr Q w v w' v' :=
 ⟨h.os, h.tape, h.output, h.size, fun k h1 h2 h3 => h.block k h1 (fun e => h2 (hPQ k e)) h3, h.own⟩
theorem Fr.after {P : Nat → Prop} {a b c : World} {u v : Value} (hb : Below a.heap.size a b) (h : Fr P b u c v) : Fr P a u c v := (Fr.of_below P u hb).trans h
end Go.Proofs.YtnhanccjnhgjoaaGreatDoor
namespace Go.Proofs.YtnhanccjnhgjoaaGreatDoor
open Go.RowKit Go.Lib
set_option linter.unusedVariables false
set_option linter.unusedSimpArgs false
set_option maxRecDepth 100000
set_option maxHeartbeats 9000000
theorem info8 : (Tryz.prog.info? 5).map (fun i => (i.zero, i.size, i.bytes)) = some (some (.int .u8 0), 1, 1) := by kernel_rfl
theorem strCells_byte (b : UInt8) : strCells (strOfNums [(b.toNat : Int)]) = [.int .u8 (b.toNat : Int)] := by simp [strCells, strOfNums]
theorem ext_step (s : ByteArray) (i : Nat) (hi : i < s.size) : s.extract 0 i ++ strOfNums [((s[i]'hi).toNat : Int)] = s.extract 0 (i + 1) := by
 apply ByteArray.ext;apply Array.ext';simp [strOfNums];rw [List.take_add_one];simp [hi];rfl
theorem l3Put_in (v : Value) (B s : ByteArray) (w : World) (h : Buf w 5 v B) (hb : B.size + s.size ≤ 70368744177664) :
  Calls Tryz.prog 16 #[v, .string s] w fun e w' => (∃ v', e = .returned v' ∧ Buf w' 5 v' (B ++ s) ∧ Fr (fun _ => False) w v w' v') := by
 obtain ⟨a0, c0, rfl⟩ := h.form;replace hb : Hid _ := hb;replace h : Hid (Buf w 5 (.slice a0 B.size c0) B) := h;go_enter Tryz.func16, Tryz.ntmps16;go_wp2_with fail
 go_loopw [0, 5] (fun o i wr => ∃ i' : Nat, i = .int .i64 (i' : Int) ∧ i' ≤ s.size ∧ Buf wr 5 o (B ++ s.extract 0 i') ∧ Fr (fun _ => False) w (.slice a0 B.size c0) wr o)
  (fun _ i _ => s.size - (intOf i).toNat)
 case atStart => exact ⟨0, rfl, by omega, by rw [show B ++ s.extract 0 0 = B by simp]; exact h.out, Fr.refl _ _ _⟩
 case round =>
  obtain ⟨i', rfl, hin, hB, hF⟩ := hrel;have hsz : Hid ((B ++ s.extract 0 i').size = B.size + i') := by show _ = _; simp; omega
  replace hB : Hid (Buf wr 5 u0 (B ++ s.extract 0 i')) := hB;replace hF : Hid (Fr (fun _ => False) w (.slice a0 B.size c0) wr u0) := hF;by_cases hlt : i' < s.size
  ·have hii : (i' : Int) < (s.size : Int) := by omega
   obtain ⟨i0, hi, hz0, hz1, hz2⟩ := info_parts info8;go_wp2_with (at_builtin; refine wpList_append_buf_news _ rfl (.tmp 12) (.tmp 16) 22 rfl 5 i0 Tryz.underlying22 hi hz0 hz1 hz2 _ (B ++ s.extract 0 i') rfl (hB.out.keep ?c0) (strOfNums [((s[i']'hlt).toNat : Int)]) ⟨wr.heap.size, 0, none⟩ 1 1 rfl (strOfNums_size _) (by omega) ?c1 ?c2 ?_);case c0 => exact fun k hk => Below.heap_alloc _ _ _ (hB.out.lt k hk)
   case c1 => rw [strCells_byte]; exact cell_one_new _ _ _
   case c2 => rw [hsz.out, strOfNums_size]; have := hb.out; simp only [List.length_cons, List.length_nil]; omega
   intro v' w1 hB1 hg ho;have hF1 : Hid (Fr (fun _ => False) w (.slice a0 B.size c0) w1 v') := hF.out.trans (Fr.after (by go_grown) (Fr.of_grown _ hg (by simpa using ho)))
   have hB1' : Hid (Buf w1 5 v' (B ++ s.extract 0 (i' + 1))) := by
    rw [ByteArray.append_assoc, ext_step] at hB1;exact hB1
   clear hB hF hB1 hg ho hi hz0 hz1 hz2;have hsm : (i' : Int) + 1 ≤ 9223372036854775807 := by have := hb.out; omega
   go_wp2_with fail;go_roundw;case rel => exact ⟨i' + 1, by go_num, by omega, hB1'.out, hF1.out⟩
   case measure => simp [intOf]; omega
  ·obtain rfl : i' = s.size := by omega
   have hfin : B ++ s.extract 0 s.size = B ++ s := by simp
   go_wp2_with fail;go_ret;exact ⟨_, rfl, hfin ▸ hB.out, hF.out⟩
end Go.Proofs.YtnhanccjnhgjoaaGreatDoor
namespace Go.Proofs.YtnhanccjnhgjoaaGreatDoor
open Go.RowKit
set_option linter.unusedVariables false
set_option linter.unusedSimpArgs false
def cat (f : Nat → ByteArray) : Nat → ByteArray
  | 0 => ByteArray.empty
  | n + 1 => cat f n ++ f n
theorem cat_succ (f : Nat → ByteArray) (n : Nat) : cat f (n + 1) = cat f n ++ f n := rfl
theorem cat_size {f : Nat → ByteArray} {b : Nat} : ∀ (n : Nat), (∀ i, i < n → (f i).size ≤ b) → (cat f n).size ≤ n * b
  | 0, _ => by simp [cat]
  | n + 1, h => by
    have h1 := cat_size n fun i hi => h i (by omega);have h2 := h n (by omega);rw [cat_succ, ByteArray.size_append, Nat.add_mul, Nat.one_mul];omega
theorem cat_mono (f : Nat → ByteArray) {i : Nat} : ∀ {n : Nat}, i ≤ n → (cat f i).size ≤ (cat f n).size
  | 0, h => by obtain rfl : i = 0 := by omega
               exact Nat.le_refl _
  | n + 1, h => by
    by_cases e : i = n + 1
    · subst e; exact Nat.le_refl _
    · have := cat_mono f (i := i) (n := n) (by omega)
      rw [cat_succ, ByteArray.size_append];omega
theorem cat_lt (f : Nat → ByteArray) {i n : Nat} (h : i < n) : (cat f i).size + (f i).size ≤ (cat f n).size := by
  have := cat_mono f (i := i + 1) (n := n) h;rw [cat_succ, ByteArray.size_append] at this;exact this
def by1 (n : Int) : ByteArray := strOfNums [n]
theorem by1_size (n : Int) : (by1 n).size = 1 := strOfNums_size _
def flagB (b : Bool) : ByteArray := by1 (if b then 1 else 0)
theorem flagB_size (b : Bool) : (flagB b).size = 1 := strOfNums_size _
def u4 (n : Int) : ByteArray := strOfNums [n % 256, n / 256 % 256, n / 65536 % 256, n / 16777216 % 256]
theorem u4_size (n : Int) : (u4 n).size = 4 := strOfNums_size _
open WPut in
theorem pv_size (n : Int) : (pv n).size ≤ 5 := by
  unfold pv;split
  · simp
  · rw [strOfNums_size]; exact pvL_len 5 n
def i8 (z : Int) : ByteArray := strOfNums (WPut.leL 8 (z % 18446744073709551616))
theorem leL_len (k : Nat) : ∀ n, (WPut.leL k n).length = k := by
  induction k with
  | zero => intro n; rfl
  | succ k ih => intro n; simp [WPut.leL, ih]
theorem i8_size (z : Int) : (i8 z).size = 8 := by unfold i8; rw [strOfNums_size, leL_len]
def pvN (n : Nat) : ByteArray := WPut.pv (n : Int)
theorem pvN_size (n : Nat) : (pvN n).size ≤ 5 := pv_size _
def sizedB (s : ByteArray) : ByteArray := pvN s.size ++ s
theorem sizedB_size (s : ByteArray) : (sizedB s).size ≤ 5 + s.size := by
  unfold sizedB;rw [ByteArray.size_append];have := pvN_size s.size;omega
def constB (v : VD) : ByteArray :=
  if v.kind = 0 then by1 0 else if v.kind = 1 then by1 (1 + v.num) else if v.kind = 2 then by1 3 ++ i8 v.num else by1 4 ++ sizedB v.text
theorem constB_size (v : VD) (h : v.text.size ≤ 1000) : (constB v).size ≤ 1010 := by
  unfold constB;have h1 := sizedB_size v.text;split
  · rw [by1_size]; omega
  · split
    · rw [by1_size]; omega
    · split
      · rw [ByteArray.size_append, by1_size, i8_size]; omega
      · rw [ByteArray.size_append, by1_size]; omega
def upB (u : UD) : ByteArray := flagB u.stack ++ WPut.pv u.index
theorem upB_size (u : UD) : (upB u).size ≤ 6 := by
  have := pv_size u.index;unfold upB;rw [ByteArray.size_append, flagB_size];omega
def codeB (p : PD) : ByteArray := cat (fun i => u4 (p.code.f i)) p.code.n
def constsB (p : PD) : ByteArray := cat (fun i => constB (p.consts.f i)) p.consts.n
def upsB (p : PD) : ByteArray := cat (fun i => upB (p.ups.f i)) p.ups.n
def linesB (p : PD) : ByteArray := cat (fun i => WPut.pv (p.lines.f i)) p.lines.n
def upNamesB (p : PD) : ByteArray := cat (fun i => sizedB (p.upNames.f i)) p.upNames.n
def Bare (p : PD) : Prop := p.name.size = 0 ∧ p.lines.n = 0 ∧ p.upNames.n = 0
noncomputable def debugB (p : PD) : ByteArray :=
  open Classical in if Bare p then flagB false else flagB true ++ sizedB p.name ++ pvN p.lines.n ++ linesB p ++ pvN p.upNames.n ++ upNamesB p
noncomputable def protoB (p : PD) : ByteArray :=
  flagB p.vararg ++ WPut.pv p.params ++ WPut.pv p.regs ++ pvN p.code.n ++ codeB p ++ pvN p.consts.n ++ constsB p ++ pvN p.ups.n ++ upsB p ++ WPut.pv p.kids ++ debugB p
theorem debugB_bare {p : PD} (h : Bare p) : debugB p = flagB false := if_pos h
theorem debugB_full {p : PD} (h : ¬ Bare p) : debugB p = flagB true ++ sizedB p.name ++ pvN p.lines.n ++ linesB p ++ pvN p.upNames.n ++ upNamesB p := if_neg h
def headB : ByteArray := strOfNums [27, 76, 82, 86, 1, 0]
noncomputable def chunkB (s : Sl PD) : ByteArray := headB ++ cat (fun i => protoB (s.f i)) s.n
end Go.Proofs.YtnhanccjnhgjoaaGreatDoor
namespace Go.Proofs.YtnhanccjnhgjoaaGreatDoor
open Go.RowKit Go.Lib
set_option linter.unusedVariables false
set_option linter.unusedSimpArgs false
set_option maxRecDepth 100000
set_option maxHeartbeats 9000000
theorem l3Flag_in (b : Bool) (w : World) :
  Calls Tryz.prog 31 #[.bool b] w fun e w' => e = .returned (.string (flagB b)) ∧ Below w.heap.size w w' := by
 obtain rfl | rfl : b = false ∨ b = true := by cases b <;> simp
 ·go_enter Tryz.func31, Tryz.ntmps31;go_wp2_with fail;go_ret;exact ⟨rfl, by go_grown⟩
 ·go_enter Tryz.func31, Tryz.ntmps31;go_wp2_with fail;go_ret;exact ⟨rfl, by go_grown⟩
theorem l3Sized_in (s : ByteArray) (w : World) (hs : s.size ≤ 9223372036854775000) :
  Calls Tryz.prog 35 #[.string s] w fun e w' => e = .returned (.string (sizedB s)) ∧ Below w.heap.size w w' := by
 have hz := pvN_size s.size;go_enter Tryz.func35, Tryz.ntmps35;go_wp2_with fail;refine (WPut.specPutVarint s.size _).mono ?_;rintro e w1 ⟨rfl, b1⟩;unfold pvN at hz;go_wp2_with fail;go_ret;exact ⟨rfl, b1⟩
theorem l3Bare_in (p : PD) (o3 o4 o5 o8 o9 : Option Addr) (c3 c4 c5 c8 c9 : Nat) (w : World) :
  Calls Tryz.prog 34 #[pAgg p (.slice o3 p.code.n c3) (.slice o4 p.consts.n c4) (.slice o5 p.ups.n c5) (.slice o8 p.lines.n c8) (.slice o9 p.upNames.n c9)] w fun e w' => (∃ r, e = .returned (.bool r) ∧ (r = true ↔ Bare p)) ∧ Below w.heap.size w w' := by
 unfold pAgg;by_cases h1 : p.name.size = 0
 ·by_cases h2 : p.lines.n = 0
  ·by_cases h3 : p.upNames.n = 0
   ·go_enter Tryz.func34, Tryz.ntmps34;go_wp2_with fail;go_ret;exact ⟨⟨true, rfl, by simp [Bare, h1, h2, h3]⟩, by go_grown⟩
   ·go_enter Tryz.func34, Tryz.ntmps34;go_wp2_with fail;go_ret;exact ⟨⟨((p.upNames.n : Int) == 0), rfl, by simp [Bare, h1, h2, h3]⟩, by go_grown⟩
  ·go_enter Tryz.func34, Tryz.ntmps34;go_wp2_with fail;go_ret;exact ⟨⟨false, rfl, by simp [Bare, h1, h2]⟩, by go_grown⟩
 ·go_enter Tryz.func34, Tryz.ntmps34;go_wp2_with fail;go_ret;exact ⟨⟨false, rfl, by simp [Bare, h1]⟩, by go_grown⟩
structure Cst (d : VD) : Prop where
 kind : d.kind = 0 ∨ (d.kind = 1 ∧ 0 ≤ d.num ∧ d.num ≤ 1) ∨ d.kind = 2 ∨ (d.kind = 3 ∧ d.text.size ≤ 1000)
 low : -9223372036854775808 ≤ d.num
 high : d.num ≤ 9223372036854775807
structure CstS (d : VD) : Prop where
 kind : d.kind = 0 ∨ (d.kind = 1 ∧ 0 ≤ d.num ∧ d.num ≤ 200) ∨ d.kind = 2 ∨ (3 ≤ d.kind ∧ d.text.size ≤ 2000)
 low : -9223372036854775808 ≤ d.num
 high : d.num ≤ 9223372036854775807
theorem Cst.s {d : VD} (h : Cst d) : CstS d := ⟨by have := h.kind; omega, h.low, h.high⟩
theorem u64i8 (z : Int) : strOfNums (WPut.leL 8 (IntKind.u64.wrap z)) = i8 z := by rw [IntKind.wrap_u64]; rfl
theorem l3Const_in (d : VD) (w : World) (h : CstS d) :
  Calls Tryz.prog 33 #[.agg #[.int .i64 d.kind, .int .i64 d.num, .string d.text]] w fun e w' => e = .returned (.string (constB d)) ∧ Below w.heap.size w w' := by
 obtain ⟨hk, h1, h2⟩ := h;rcases hk with hk | ⟨hk, hn1, hn2⟩ | hk | ⟨hk, ht⟩
 ·have hc : constB d = by1 0 := by simp [constB, hk]
  rw [hc];go_enter Tryz.func33, Tryz.ntmps33;go_wp2_with fail;go_ret;exact ⟨rfl, by go_grown⟩
 ·have hc : constB d = by1 (1 + d.num) := by simp [constB, hk]
  rw [hc];go_enter Tryz.func33, Tryz.ntmps33;go_wp2_with fail;refine (WPut.l1Byte_any (1 + d.num) _ (by omega) (by omega)).mono ?_;rintro e w1 ⟨rfl, b1⟩;have b2 : Below w.heap.size w w1 := (show Below w.heap.size w _ by go_grown).trans (b1.mono (by simp));clear b1;go_wp2_with fail;go_ret;exact ⟨rfl, b2⟩
 ·have hc : constB d = by1 3 ++ i8 d.num := by simp [constB, hk]
  have hz := i8_size d.num;rw [hc];go_enter Tryz.func33, Tryz.ntmps33;go_wp2_with fail;refine (WPut.specPutInt d.num _ h1 h2).mono ?_;rintro e w1 ⟨rfl, b1⟩;rw [u64i8];have b2 : Below w.heap.size w w1 := (show Below w.heap.size w _ by go_grown).trans (b1.mono (by simp));clear b1;go_wp2_with fail;go_ret;exact ⟨rfl, b2⟩
 ·have hc : constB d = by1 4 ++ sizedB d.text := by unfold constB; rw [if_neg (by omega), if_neg (by omega), if_neg (by omega)]
  have k0 : (d.kind == 0) = false := by simp; omega
  have k1 : (d.kind == 1) = false := by simp; omega
  have k2 : (d.kind == 2) = false := by simp; omega
  have hz := sizedB_size d.text;rw [hc];go_enter Tryz.func33, Tryz.ntmps33;go_wp2_with fail;refine (l3Sized_in d.text _ (by omega)).mono ?_;rintro e w1 ⟨rfl, b1⟩;have b2 : Below w.heap.size w w1 := (show Below w.heap.size w _ by go_grown).trans (b1.mono (by simp));clear b1;go_wp2_with fail;go_ret;exact ⟨rfl, b2⟩
end Go.Proofs.YtnhanccjnhgjoaaGreatDoor
