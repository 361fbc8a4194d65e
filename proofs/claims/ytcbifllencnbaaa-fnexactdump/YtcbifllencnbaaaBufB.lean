import Derived.Test.YtcbifllencnbaaaBufA
namespace Go.Proofs.Ytcbifllencnbaaa
open Go.RowKit Go.Lib
set_option linter.unusedVariables false
set_option linter.unusedSimpArgs false
section
variable {P : Program} (w : World)
theorem run_append_room_newsN (t ty e : TypeId) (i : TypeInfo) (ht : P.underlying t = some (.slice e)) (hi : P.info? e = some i) (hs1 : i.size = 1)
    (g sLen sCap : Nat) (cur : Array Value) (fz : Nat × Nat) (hg : w.heap[g]? = some (.cells cur e fz)) (hfz : fz.2 = 0 ∨ cur.size ≤ fz.1) (s : ByteArray)
    (ad : Addr) (c : Nat) (hnews : ∀ j u, (strCells s)[j]? = some u → w.cell? (ad.add j) = some u) (hroom : sLen + s.size ≤ sCap) (hfit : sLen + s.size ≤ cur.size) :
    (Builtin.append_ #[t, t] ty #[.slice (some ⟨g, 0, none⟩) sLen sCap, .slice (some ad) s.size c]).run P w =
      .ok (.slice (some ⟨g, 0, none⟩) (sLen + s.size) sCap) (w.setRow g (cur.toList.take sLen ++ strCells s ++ cur.toList.drop (sLen + s.size)).toArray) := by
  have hf := run_firstCells_some (P := P) w i.size s.size ad s.size c (strCells s) (by rw [hs1, strCells_length]; omega) hnews
  have hst := run_storeCells_atN P g sLen e fz cur.size hfz (strCells s) 0 cur w hg rfl (by simpa [strCells_length] using hfit) (strCells_oneCell s)
  simp only [Nat.add_zero, strCells_length] at hst
  rw [hs1] at hf
  simp [Builtin.append_, run_underlying ht, sizeOf, typeInfo, hi, hs1, Builtin.lenOf, hroom, hf, Addr.add_lit, hst]

/-- appending bytes that lie somewhere. -/
theorem run_append_buf_news (t ty e : TypeId) (i : TypeInfo) (ht : P.underlying t = some (.slice e)) (hi : P.info? e = some i) (hz : i.zero = some (.int .u8 0))
    (hsize : i.size = 1) (hby : i.bytes = 1) (v : Value) (B : ByteArray) (hown : Buf w e v B) (s : ByteArray) (ad : Addr) (m c : Nat) (hm : s.size = m) (h0 : 0 < m)
    (hnews : ∀ j u, (strCells s)[j]? = some u → w.cell? (ad.add j) = some u) (hbytes : B.size + s.size ≤ 140737488355328) :
    ∃ v' w', (Builtin.append_ #[t, t] ty #[v, .slice (some ad) m c]).run P w = .ok v' w' ∧ Buf w' e v' (B ++ s) ∧ w.grownBy w' v.ownBlock ∧ (v'.ownBlock = v.ownBlock ∨ v'.ownBlock = some w.heap.size) := by
  subst hm
  have h63 : B.size + s.size ≤ maxLen := by simp only [maxLen]; omega
  have hlen : (B ++ s).size = B.size + s.size := by simp
  have hl : (strCells s).length = s.size * i.size := by rw [hsize, strCells_length]; omega
  rcases hown with ⟨rfl, hB0⟩ | ⟨g, cap, cur, fz, rfl, hg, hfz, hnc, hcm, hcs, htake⟩
  · have hBn : strCells B = [] := List.eq_nil_of_length_eq_zero (by rw [strCells_length]; exact hB0)
    have hr := run_append_nil (P := P) w t ty e i (.int .u8 0) ht hi hz ad s.size c (strCells s) hl hnews h0 (by omega) (by rw [hby]; omega)
    have hge := grownCap_ge w s.size 0 e
    have hcm2 : grownCap w s.size 0 e ≤ maxLen := grownCap_le_maxLen w s.size 0 e (by omega)
    refine ⟨_, _, hr, .inr ⟨w.heap.size, _, _, (0, 0), by rw [hlen, hB0, Nat.zero_add], heap_alloc_new w.drew _, .inl rfl, by omega, hcm2, ?_, ?_⟩, ⟨rfl, rfl, rfl, by simp, fun k hk _ => heap_alloc_old w.drew _ hk⟩, .inr rfl⟩
    · have hz1 : (Value.int IntKind.u8 0).cells.size = 1 := rfl
      simp only [Array.size_append, List.size_toArray, size_zeroCells, hz1, strCells_length]
      omega
    · simp only [Array.toList_append, strCells_append, hBn, List.nil_append]
      rw [hlen, hB0, Nat.zero_add, ← strCells_length]
      exact List.take_left
  · by_cases hroom : B.size + s.size ≤ cap
    · have hr := run_append_room_newsN (P := P) w t ty e i ht hi hsize g B.size cap cur fz hg hfz s ad c hnews hroom (by omega)
      refine ⟨_, _, hr, .inr ⟨g, cap, _, fz, by rw [hlen], setRow_heap w g cur _ e _ hg, ?_, by omega, hcm, ?_, ?_⟩, ⟨rfl, rfl, rfl, by simp, fun k _ hk => setRow_other w g k _ (fun e => hk (by simp [Value.ownBlock, e]))⟩, .inl rfl⟩
      · simp only [List.size_toArray, List.length_append, List.length_take, List.length_drop, Array.length_toList, strCells_length]
        omega
      · simp only [List.size_toArray, List.length_append, List.length_take, List.length_drop, Array.length_toList, strCells_length]
        omega
      · rw [htake, strCells_append, hlen, ← strCells_length, ← strCells_length, ← List.length_append]
        exact List.take_left
    · have hr := run_append_grow (P := P) w t ty e i (.int .u8 0) ht hi hz ⟨g, 0, none⟩ B.size cap (strCells B) (by rw [hsize, strCells_length]; omega) (Buf.cells (w := w) (e := e) (.inr ⟨g, cap, cur, fz, rfl, hg, hfz, hnc, hcm, hcs, htake⟩) (g := g) rfl) ad s.size c (strCells s) hl hnews (by omega) (by omega) (by rw [hby]; exact growslice_fits (by omega) (by omega))
      have hge := grownCap_ge w (B.size + s.size) cap e
      have hcm2 : grownCap w (B.size + s.size) cap e ≤ maxLen := grownCap_le_maxLen w (B.size + s.size) cap e h63
      refine ⟨_, _, hr, .inr ⟨w.heap.size, _, _, (0, 0), by rw [hlen], heap_alloc_new w.drew _, .inl rfl, by omega, hcm2, ?_, ?_⟩, ⟨rfl, rfl, rfl, by simp, fun k hk _ => heap_alloc_old w.drew _ hk⟩, .inr rfl⟩
      · have hz1 : (Value.int IntKind.u8 0).cells.size = 1 := rfl
        simp only [Array.size_append, List.size_toArray, size_zeroCells, hz1, strCells_length]
        omega
      · simp only [Array.toList_append, strCells_append, List.append_assoc]
        rw [← List.append_assoc, hlen, ← strCells_length, ← strCells_length, ← List.length_append]
        exact List.take_left

theorem wp_append_buf_str {o : Oper} {a : Act} {K : Act → World → Prop} {Q : Exit → Act → World → Prop} (sl x : Operand) (t u : TypeId)
    (ho : o.op = .call { callee := .builtin .append, args := #[sl, x], argTypes := #[t, u] })
    (e : TypeId) (i : TypeInfo) (ht : P.underlying t = some (.slice e)) (hu : P.underlying u = some .string) (hi : P.info? e = some i) (hz : i.zero = some (.int .u8 0))
    (hsize : i.size = 1) (hby : i.bytes = 1) (v : Value) (B : ByteArray) (hs : a.eval sl = v) (hown : Buf w e v B) (s : ByteArray) (hx : a.eval x = .string s) (hbytes : B.size + s.size ≤ 140737488355328)
    (h : ∀ v' w', Buf w' e v' (B ++ s) → w.grownBy w' v.ownBlock → (v'.ownBlock = v.ownBlock ∨ v'.ownBlock = some w.heap.size) → K (a.put o.dst v') w') : o.wp P a w K Q := by
  obtain ⟨v', w', hr, h2, h3, h4⟩ := run_append_buf_str (P := P) w t u o.type e i ht hu hi hz hsize hby v B hown s hbytes
  unfold Oper.wp execOp
  simp only [ho, resolve, invoke, builtin, Sem.run_bind, Sem.run_pure, Result.andThen_ok, List.map_toArray, List.map_cons, List.map_nil, hs, hx, hr]
  exact h v' w' h2 h3 h4
theorem wpList_append_buf_str {ops : Array Oper} {rest : List Oper} {o : Oper} {a : Act} {Q : Exit → Act → World → Prop} (hgd : o.guard = none) (sl x : Operand) (t u : TypeId)
    (ho : o.op = .call { callee := .builtin .append, args := #[sl, x], argTypes := #[t, u] })
    (e : TypeId) (i : TypeInfo) (ht : P.underlying t = some (.slice e)) (hu : P.underlying u = some .string) (hi : P.info? e = some i) (hz : i.zero = some (.int .u8 0))
    (hsize : i.size = 1) (hby : i.bytes = 1) (v : Value) (B : ByteArray) (hs : a.eval sl = v) (hown : Buf w e v B) (s : ByteArray) (hx : a.eval x = .string s) (hbytes : B.size + s.size ≤ 140737488355328)
    (h : ∀ v' w', Buf w' e v' (B ++ s) → w.grownBy w' v.ownBlock → (v'.ownBlock = v.ownBlock ∨ v'.ownBlock = some w.heap.size) → wpList P ops Q rest (a.put o.dst v') w') : wpList P ops Q (o :: rest) a w :=
  wpList_plain hgd fun K hK => wp_append_buf_str w sl x t u ho e i ht hu hi hz hsize hby v B hs hown s hx hbytes fun v' w' h1 h2 h3 => hK _ _ (h v' w' h1 h2 h3)
theorem step_append_buf_str {ops : Array Oper} {o : Oper} {a : Act} {K : Act → World → Prop} {Q : Exit → Act → World → Prop} {E : Prop} (hgd : o.guard = none) (sl x : Operand) (t u : TypeId)
    (ho : o.op = .call { callee := .builtin .append, args := #[sl, x], argTypes := #[t, u] })
    (e : TypeId) (i : TypeInfo) (ht : P.underlying t = some (.slice e)) (hu : P.underlying u = some .string) (hi : P.info? e = some i) (hz : i.zero = some (.int .u8 0))
    (hsize : i.size = 1) (hby : i.bytes = 1) (v : Value) (B : ByteArray) (hs : a.eval sl = v) (hown : Buf w e v B) (s : ByteArray) (hx : a.eval x = .string s) (hbytes : B.size + s.size ≤ 140737488355328)
    (h : ∀ v' w', Buf w' e v' (B ++ s) → w.grownBy w' v.ownBlock → (v'.ownBlock = v.ownBlock ∨ v'.ownBlock = some w.heap.size) → K (a.put o.dst v') w') :
    if Region.wanted o (yielded ops a.tmps) = true then Oper.wp P o a w K Q else E := by
  have hw : Region.wanted o (yielded ops a.tmps) = true := by simp [Region.wanted, hgd]
  rw [if_pos hw]
  exact wp_append_buf_str w sl x t u ho e i ht hu hi hz hsize hby v B hs hown s hx hbytes h

theorem wp_append_buf_news {o : Oper} {a : Act} {K : Act → World → Prop} {Q : Exit → Act → World → Prop} (sl x : Operand) (t : TypeId)
    (ho : o.op = .call { callee := .builtin .append, args := #[sl, x], argTypes := #[t, t] })
    (e : TypeId) (i : TypeInfo) (ht : P.underlying t = some (.slice e)) (hi : P.info? e = some i) (hz : i.zero = some (.int .u8 0))
    (hsize : i.size = 1) (hby : i.bytes = 1) (v : Value) (B : ByteArray) (hs : a.eval sl = v) (hown : Buf w e v B) (s : ByteArray) (ad : Addr) (m c : Nat) (hx : a.eval x = .slice (some ad) m c) (hm : s.size = m) (h0 : 0 < m)
    (hnews : ∀ j u, (strCells s)[j]? = some u → w.cell? (ad.add j) = some u) (hbytes : B.size + s.size ≤ 140737488355328)
    (h : ∀ v' w', Buf w' e v' (B ++ s) → w.grownBy w' v.ownBlock → (v'.ownBlock = v.ownBlock ∨ v'.ownBlock = some w.heap.size) → K (a.put o.dst v') w') : o.wp P a w K Q := by
  obtain ⟨v', w', hr, h2, h3, h4⟩ := run_append_buf_news (P := P) w t o.type e i ht hi hz hsize hby v B hown s ad m c hm h0 hnews hbytes
  unfold Oper.wp execOp
  simp only [ho, resolve, invoke, builtin, Sem.run_bind, Sem.run_pure, Result.andThen_ok, List.map_toArray, List.map_cons, List.map_nil, hs, hx, hr]
  exact h v' w' h2 h3 h4
theorem wpList_append_buf_news {ops : Array Oper} {rest : List Oper} {o : Oper} {a : Act} {Q : Exit → Act → World → Prop} (hgd : o.guard = none) (sl x : Operand) (t : TypeId)
    (ho : o.op = .call { callee := .builtin .append, args := #[sl, x], argTypes := #[t, t] })
    (e : TypeId) (i : TypeInfo) (ht : P.underlying t = some (.slice e)) (hi : P.info? e = some i) (hz : i.zero = some (.int .u8 0))
    (hsize : i.size = 1) (hby : i.bytes = 1) (v : Value) (B : ByteArray) (hs : a.eval sl = v) (hown : Buf w e v B) (s : ByteArray) (ad : Addr) (m c : Nat) (hx : a.eval x = .slice (some ad) m c) (hm : s.size = m) (h0 : 0 < m)
    (hnews : ∀ j u, (strCells s)[j]? = some u → w.cell? (ad.add j) = some u) (hbytes : B.size + s.size ≤ 140737488355328)
    (h : ∀ v' w', Buf w' e v' (B ++ s) → w.grownBy w' v.ownBlock → (v'.ownBlock = v.ownBlock ∨ v'.ownBlock = some w.heap.size) → wpList P ops Q rest (a.put o.dst v') w') : wpList P ops Q (o :: rest) a w :=
  wpList_plain hgd fun K hK => wp_append_buf_news w sl x t ho e i ht hi hz hsize hby v B hs hown s ad m c hx hm h0 hnews hbytes fun v' w' h1 h2 h3 => hK _ _ (h v' w' h1 h2 h3)
theorem step_append_buf_news {ops : Array Oper} {o : Oper} {a : Act} {K : Act → World → Prop} {Q : Exit → Act → World → Prop} {E : Prop} (hgd : o.guard = none) (sl x : Operand) (t : TypeId)
    (ho : o.op = .call { callee := .builtin .append, args := #[sl, x], argTypes := #[t, t] })
    (e : TypeId) (i : TypeInfo) (ht : P.underlying t = some (.slice e)) (hi : P.info? e = some i) (hz : i.zero = some (.int .u8 0))
    (hsize : i.size = 1) (hby : i.bytes = 1) (v : Value) (B : ByteArray) (hs : a.eval sl = v) (hown : Buf w e v B) (s : ByteArray) (ad : Addr) (m c : Nat) (hx : a.eval x = .slice (some ad) m c) (hm : s.size = m) (h0 : 0 < m)
    (hnews : ∀ j u, (strCells s)[j]? = some u → w.cell? (ad.add j) = some u) (hbytes : B.size + s.size ≤ 140737488355328)
    (h : ∀ v' w', Buf w' e v' (B ++ s) → w.grownBy w' v.ownBlock → (v'.ownBlock = v.ownBlock ∨ v'.ownBlock = some w.heap.size) → K (a.put o.dst v') w') :
    if Region.wanted o (yielded ops a.tmps) = true then Oper.wp P o a w K Q else E := by
  have hw : Region.wanted o (yielded ops a.tmps) = true := by simp [Region.wanted, hgd]
  rw [if_pos hw]
  exact wp_append_buf_news w sl x t ho e i ht hi hz hsize hby v B hs hown s ad m c hx hm h0 hnews hbytes h
end

theorem add_zero_lit (g i : Nat) : (⟨g, 0, none⟩ : Addr).add i = ⟨g, i, none⟩ := by unfold Addr.add; split <;> simp_all
/-- bytes as a string. -/
theorem conv_buf {P : Program} {w : World} {v : Value} {B : ByteArray} (src dst e : TypeId) (hs : P.underlying src = some (.slice e)) (he : P.underlying e = some (.int .u8)) (hd : P.underlying dst = some .string) (h : Buf w e v B) :
    (convert src dst v).run P w = .ok (.string B) w := by
  have hB : B = strOfNums (B.data.toList.map fun b => (b.toNat : Int)) := by
    apply ByteArray.ext
    apply Array.ext'
    rw [strOfNums_data, List.map_map]
    conv => lhs; rw [← List.map_id B.data.toList]
    refine List.map_congr_left fun x _ => ?_
    simp
  rcases h with ⟨rfl, h0⟩ | ⟨g, cap, cur, fz, rfl, hg, hfz, hnc, hcm, hcs, htake⟩
  · have : B = ByteArray.empty := by
      apply ByteArray.ext
      apply Array.ext'
      exact List.eq_nil_of_length_eq_zero (by simpa using h0)
    rw [this]
    exact run_convert_bytes_nil w src e hs he 0 0 dst hd
  · have hc : ∀ j u, (strCells B)[j]? = some u → w.cell? ((⟨g, 0, none⟩ : Addr).add j) = some u := Buf.cells (w := w) (e := e) (.inr ⟨g, cap, cur, fz, rfl, hg, hfz, hnc, hcm, hcs, htake⟩) (g := g) rfl
    conv => rhs; rw [hB]
    refine run_convert_bytes_arg w src e hs he g 0 B.size cap _ (by simp) (fun i hi => ?_) dst hd
    have hi' : i < (B.data.toList.map fun b => (b.toNat : Int)).length := by rw [List.length_map]; exact hi
    have hadd := add_zero_lit g i
    have := hc i (.int .u8 ((B.data.toList.map fun b => (b.toNat : Int))[i]'hi')) (by
      simp only [strCells, List.getElem?_map, List.getElem_map]
      have h3 : i < B.data.toList.length := by simpa using hi
      rw [List.getElem?_eq_getElem h3]
      rfl)
    rw [hadd] at this
    rw [Nat.zero_add, this, List.getD_eq_getElem?_getD, List.getElem?_eq_getElem hi']
    rfl
theorem buf_made (w : World) (e : TypeId) : Buf (w.alloc (.cells #[] e)) e (.slice (some ⟨w.heap.size, 0, none⟩) 0 0) ByteArray.empty :=
  .inr ⟨w.heap.size, 0, #[], (0, 0), rfl, heap_alloc_new w _, .inl rfl, Nat.le_refl _, by simp [maxLen], rfl, rfl⟩
theorem buf_conv (w : World) (e : TypeId) (s : ByteArray) (hs : s.size ≤ maxLen) : Buf (bytesWorld w e s) e (.slice (some ⟨w.heap.size, 0, none⟩) s.size (grownCap w s.size 0 e)) s := by
  have hge := grownCap_ge w s.size 0 e
  have hz : (bytesCells w e s).size = grownCap w s.size 0 e := by
    have : s.data.size = s.size := rfl
    simp only [bytesCells, Array.size_append, Array.size_map, Array.size_replicate]
    omega
  refine .inr ⟨w.heap.size, _, _, _, rfl, bytesWorld_at_new w e s, .inr (Nat.le_refl _), hge, grownCap_le_maxLen w s.size 0 e hs, hz, ?_⟩
  have e1 : (bytesCells w e s).toList = strCells s ++ List.replicate (grownCap w s.size 0 e - s.size) (.int .u8 0) := by
    simp [bytesCells, strCells]
  rw [e1, ← strCells_length]
  exact List.take_left

/-- What writing leaves: all but P's blocks and the row of v. -/
structure Fr (P : Nat → Prop) (w : World) (v : Value) (w' : World) (v' : Value) : Prop where
  os : w'.os = w.os
  tape : w'.tape = w.tape
  output : w'.output = w.output
  size : w.heap.size ≤ w'.heap.size
  block : ∀ k, k < w.heap.size → ¬ P k → v.ownBlock ≠ some k → w'.heap[k]? = w.heap[k]?
  own : v'.ownBlock = v.ownBlock ∨ ∀ g, v'.ownBlock = some g → w.heap.size ≤ g
theorem Fr.refl (P : Nat → Prop) (w : World) (v : Value) : Fr P w v w v := ⟨rfl, rfl, rfl, Nat.le_refl _, fun _ _ _ _ => rfl, .inl rfl⟩
theorem Fr.trans {P : Nat → Prop} {a b c : World} {u v x : Value} (h : Fr P a u b v) (k : Fr P b v c x) : Fr P a u c x := by
  refine ⟨k.os.trans h.os, k.tape.trans h.tape, k.output.trans h.output, Nat.le_trans h.size k.size, fun j h1 h2 h3 => ?_, ?_⟩
  · refine (k.block j (Nat.lt_of_lt_of_le h1 h.size) h2 fun e => ?_).trans (h.block j h1 h2 h3)
    rcases h.own with o | o
    · exact h3 (o ▸ e)
    · have := o j e
      omega
  · rcases k.own with o | o
    · rcases h.own with p | p
      · exact .inl (o.trans p)
      · exact .inr fun g e => p g (o ▸ e)
    · exact .inr fun g e => Nat.le_trans h.size (o g e)
theorem Fr.of_grown {w w' : World} {v v' : Value} (P : Nat → Prop) (h : w.grownBy w' v.ownBlock) (o : v'.ownBlock = v.ownBlock ∨ v'.ownBlock = some w.heap.size) : Fr P w v w' v' :=
  ⟨h.os, h.tape, h.output, h.size, fun k h1 _ h3 => h.block k h1 fun e => h3 e.symm, o.imp id fun e g he => by rw [e] at he; exact Nat.le_of_eq (Option.some.inj he)⟩
/-- a call that changes nothing that was there. -/
theorem Fr.of_below {w w' : World} (P : Nat → Prop) (v : Value) (h : Below w.heap.size w w') : Fr P w v w' v :=
  ⟨h.os, h.tape, h.output, h.size, fun k h1 _ _ => h.block k h1, .inl rfl⟩
theorem Fr.below {P : Nat → Prop} {B : Nat} {w w' : World} {v v' : Value} (h : Fr P w v w' v') (hB : B ≤ w.heap.size) (hP : ∀ k, P k → B ≤ k) (hv : ∀ k, v.ownBlock = some k → B ≤ k) : Below B w w' :=
  ⟨h.os, h.tape, h.output, h.size, fun k hk => h.block k (by omega) (fun e => by have := hP k e; omega) (fun e => by have := hv k e; omega)⟩
theorem Fr.mono {P Q : Nat → Prop} {w w' : World} {v v' : Value} (h : Fr P w v w' v') (hPQ : ∀ k, P k → Q k) : Fr Q w v w' v' :=
  ⟨h.os, h.tape, h.output, h.size, fun k h1 h2 h3 => h.block k h1 (fun e => h2 (hPQ k e)) h3, h.own⟩
/-- with new blocks ahead of it. -/
theorem Fr.after {P : Nat → Prop} {a b c : World} {u v : Value} (hb : Below a.heap.size a b) (h : Fr P b u c v) : Fr P a u c v := (Fr.of_below P u hb).trans h
end Go.Proofs.Ytcbifllencnbaaa
