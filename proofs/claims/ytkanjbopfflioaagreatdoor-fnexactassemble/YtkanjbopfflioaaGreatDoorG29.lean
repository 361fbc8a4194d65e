import Derived.Test.YtkanjbopfflioaaGreatDoorG24
import Derived.Test.YtkanjbopfflioaaGreatDoorUgB
import Derived.MapKept
import Derived.Deep.CutRange
import Derived.Test.YtkanjbopfflioaaGreatDoorAiX
import Derived.Deep.AppendLies
namespace Go.Proofs.YtkanjbopfflioaaGreatDoor
section
open Go.RowKit Go.Shelf
set_option linter.unusedVariables false
set_option linter.unusedSimpArgs false
set_option maxRecDepth 100000
set_option maxHeartbeats 4000000
theorem ba_beq (a b : ByteArray) : (a == b) = decide (a = b) := by
  have h1 : (a == b) = (a.data == b.data) := by cases a; cases b; rfl
  rw [h1]
  by_cases h : a = b
  · subst h; simp
  · have h2 : a.data ≠ b.data := fun e => h (ByteArray.ext e)
    simp [h, h2]
theorem same_str (a b : ByteArray) : Instr.sameNow .string (.string a) (.string b) = some (a == b) := rfl
theorem find_miss (p : ByteArray) : ∀ (es : List MapEntry) (i : Nat), (∀ e ∈ es, ∃ s, e.key = .string s ∧ s ≠ p) → Instr.findNow .string (.string p) es i = some none
  | [], _, _ => rfl
  | e :: es, i, h => by
    obtain ⟨s, hs, hne⟩ := h e (List.mem_cons_self ..)
    unfold Instr.findNow
    rw [hs, same_str, show (p == s) = false by rw [ba_beq]; simp [Ne.symm hne]]
    exact find_miss p es (i + 1) fun x hx => h x (List.mem_cons_of_mem _ hx)
theorem find_hit (p : ByteArray) : ∀ (pre : List MapEntry) (i : Nat) (e : MapEntry) (post : List MapEntry), (∀ x ∈ pre, ∃ s, x.key = .string s ∧ s ≠ p) → e.key = .string p → Instr.findNow .string (.string p) (pre ++ e :: post) i = some (some (i + pre.length, e.val))
  | [], i, e, post, _, he => by
    show Instr.findNow .string (.string p) (e :: post) i = _
    unfold Instr.findNow
    rw [he, same_str, show (p == p) = true by rw [ba_beq]; simp]
    rfl
  | x :: pre, i, e, post, h, he => by
    obtain ⟨s, hs, hne⟩ := h x (List.mem_cons_self ..)
    show Instr.findNow .string (.string p) (x :: (pre ++ e :: post)) i = _
    unfold Instr.findNow
    rw [hs, same_str, show (p == s) = false by rw [ba_beq]; simp [Ne.symm hne]]
    have := find_hit p pre (i + 1) e post (fun x hx => h x (List.mem_cons_of_mem _ hx)) he
    rw [show i + (x :: pre).length = i + 1 + pre.length by simp; omega]
    exact this
section
variable {P : Program} {w : World} {T K E : TypeId} {M clk : Nat} {es : Array MapEntry} {p : ByteArray}
theorem run_lookup_hit {v : Value} {j : Nat} (hT : P.underlying T = some (.map K E)) (hK : P.underlying K = some .string) (hM : w.heap[M]? = some (.map es clk)) (hf : Instr.findNow .string (.string p) es.toList 0 = some (some (j, v))) :
    (Instr.lookup T (.map (some M)) (.string p) true).run P w = .ok (.tuple #[v, .bool true]) w := by
  simp [Instr.lookup, Sem.run_bind, run_underlying hT, MapKept.run_getObj_map hM, MapKept.run_checkKey hK (show MapKept.IsKey .string (.string p) by trivial), MapKept.run_findKey hK hf]
theorem run_lookup_miss {z : Value} (hT : P.underlying T = some (.map K E)) (hK : P.underlying K = some .string) (hz : (zeroValue E).run P w = .ok z w) (hM : w.heap[M]? = some (.map es clk)) (hf : Instr.findNow .string (.string p) es.toList 0 = some none) :
    (Instr.lookup T (.map (some M)) (.string p) true).run P w = .ok (.tuple #[z, .bool false]) w := by
  simp [Instr.lookup, Sem.run_bind, run_underlying hT, MapKept.run_getObj_map hM, MapKept.run_checkKey hK (show MapKept.IsKey .string (.string p) by trivial), MapKept.run_findKey hK hf, hz]
theorem run_mapPush {v : Value} (hT : P.underlying T = some (.map K E)) (hK : P.underlying K = some .string) (hM : w.heap[M]? = some (.map es clk)) (hf : Instr.findNow .string (.string p) es.toList 0 = some none) :
    (Instr.mapUpdate T (.map (some M)) (.string p) v).run P w = .ok () (w.putObj M (.map (es.push ⟨.string p, v, clk⟩) (clk + 1))) := by
  simp [Instr.mapUpdate, Sem.run_bind, run_underlying hT, MapKept.run_getObj_map hM, MapKept.run_checkKey hK (show MapKept.IsKey .string (.string p) by trivial), MapKept.run_findKey hK hf, MapKept.run_setObj_map _ hM, World.putObj]
theorem wpList_push {ops : Array Oper} {rest : List Oper} {o : Oper} {a : Act} {Q : Exit → Act → World → Prop} (hg : o.guard = none) (m x v : Operand) (T : TypeId) (hop : o.op = Op.mapUpdate T m x v ∨ o.op = Op.insert T m x v)
    {K E : TypeId} (hT : P.underlying T = some (.map K E)) (hK : P.underlying K = some .string) (M : Nat) (es : Array MapEntry) (clk : Nat) (hm : a.eval m = .map (some M)) (p : ByteArray) (hx : a.eval x = .string p) (val : Value) (hv : a.eval v = val)
    (hM : w.heap[M]? = some (.map es clk)) (hf : Instr.findNow .string (.string p) es.toList 0 = some none)
    (hK' : wpList P ops Q rest (a.put o.dst undef) (w.putObj M (.map (es.push ⟨.string p, val, clk⟩) (clk + 1)))) : wpList P ops Q (o :: rest) a w := by
  refine wpList_plain hg fun K9 hK9 => ?_
  have hrun := run_mapPush (v := val) hT hK hM hf
  unfold Oper.wp
  rcases hop with hop | hop
  · simp [execOp, hop, hm, hx, hv, hrun, Result.andThen]
    exact hK9 _ _ hK'
  · simp [execOp, hop, hm, hx, hv, hrun, Result.andThen]
    exact hK9 _ _ hK'
end
def fP (xB pB : Nat) : Value := .func (.func 27) #[] #[.pointer (some ⟨xB, 0, none⟩), .pointer (some ⟨pB, 0, none⟩)]
def fC (pB : Nat) : Value := .func (.func 29) #[] #[.pointer (some ⟨pB, 0, none⟩)]
def fU (pB : Nat) : Value := .func (.func 31) #[] #[.pointer (some ⟨pB, 0, none⟩)]
def fW (aB : Nat) : Value := .func (.func 33) #[] #[.pointer (some ⟨aB, 0, none⟩)]
def fO (aB i o : Nat) : Value := .func (.func 38) #[] #[.pointer (some ⟨aB, 0, none⟩), .pointer (some ⟨i, 0, none⟩), .pointer (some ⟨o, 0, none⟩)]
/-- the entries of the map of readers. -/
def ents (xB pB aB : Nat) (ib ob : Nat → Nat) (n : Nat) : List MapEntry :=
  [⟨.string protoB', fP xB pB, 0⟩, ⟨.string constB', fC pB, 1⟩, ⟨.string upB', fU pB, 2⟩, ⟨.string wordB, fW aB, 3⟩] ++ (List.range n).map fun k => ⟨.string (nm k), fO aB (ib k) (ob k), 4 + k⟩
theorem ents_succ (xB pB aB : Nat) (ib ob : Nat → Nat) (n : Nat) : ents xB pB aB ib ob (n + 1) = ents xB pB aB ib ob n ++ [⟨.string (nm n), fO aB (ib n) (ob n), 4 + n⟩] := by
  unfold ents
  rw [List.range_succ, List.map_append, List.append_assoc]
  rfl
theorem ents_congr {xB pB aB : Nat} {ib ob ib' ob' : Nat → Nat} {n : Nat} (h : ∀ k, k < n → ib k = ib' k ∧ ob k = ob' k) : ents xB pB aB ib ob n = ents xB pB aB ib' ob' n := by
  unfold ents
  congr 1
  refine List.map_congr_left fun k hk => ?_
  obtain ⟨h1, h2⟩ := h k (List.mem_range.1 hk)
  rw [h1, h2]
theorem nm_kw : ∀ k : Fin 34, nm k.val ≠ protoB' ∧ nm k.val ≠ constB' ∧ nm k.val ≠ upB' ∧ nm k.val ≠ wordB := by decide +kernel
theorem kw_word : protoB' ≠ wordB ∧ constB' ≠ wordB ∧ upB' ≠ wordB := by decide
theorem ents_fresh {xB pB aB : Nat} {ib ob : Nat → Nat} {n : Nat} (hn : n < 34) : Instr.findNow .string (.string (nm n)) (ents xB pB aB ib ob n).toArray.toList 0 = some none := by
  rw [List.toList_toArray]
  refine find_miss _ _ 0 fun e he => ?_
  obtain ⟨k1, k2, k3, k4⟩ := nm_kw ⟨n, hn⟩
  unfold ents at he
  rcases List.mem_append.1 he with he | he
  · simp only [List.mem_cons, List.not_mem_nil, or_false] at he
    rcases he with rfl | rfl | rfl | rfl
    · exact ⟨_, rfl, Ne.symm k1⟩
    · exact ⟨_, rfl, Ne.symm k2⟩
    · exact ⟨_, rfl, Ne.symm k3⟩
    · exact ⟨_, rfl, Ne.symm k4⟩
  · obtain ⟨k, hk, rfl⟩ := List.mem_map.1 he
    have hk := List.mem_range.1 hk
    exact ⟨_, rfl, fun e => by have := nm_inj (by omega) hn e; omega⟩
/-- which reader the map has for a word. -/
inductive RdOf (xB pB aB : Nat) (ib ob : Nat → Nat) : ByteArray → Option Value → Prop
  | proto : RdOf xB pB aB ib ob protoB' (some (fP xB pB))
  | const : RdOf xB pB aB ib ob constB' (some (fC pB))
  | up : RdOf xB pB aB ib ob upB' (some (fU pB))
  | word : RdOf xB pB aB ib ob wordB (some (fW aB))
  | op {k : Nat} : k < 34 → RdOf xB pB aB ib ob (nm k) (some (fO aB (ib k) (ob k)))
  | none {p : ByteArray} : p ≠ protoB' → p ≠ constB' → p ≠ upB' → p ≠ wordB → (∀ k, k < 34 → nm k ≠ p) → RdOf xB pB aB ib ob p none
theorem rdOf_any (xB pB aB : Nat) (ib ob : Nat → Nat) (p : ByteArray) : ∃ R, RdOf xB pB aB ib ob p R ∧ ((∃ v j, R = some v ∧ Instr.findNow .string (.string p) (ents xB pB aB ib ob 34) 0 = some (some (j, v))) ∨ (R = none ∧ Instr.findNow .string (.string p) (ents xB pB aB ib ob 34) 0 = some none)) := by
  obtain ⟨q1, q2, q3⟩ := kw_ne
  obtain ⟨w1, w2, w3⟩ := kw_word
  have hc : ents xB pB aB ib ob 34 = [⟨.string protoB', fP xB pB, 0⟩, ⟨.string constB', fC pB, 1⟩, ⟨.string upB', fU pB, 2⟩, ⟨.string wordB, fW aB, 3⟩] ++ (List.range 34).map fun k => ⟨.string (nm k), fO aB (ib k) (ob k), 4 + k⟩ := rfl
  by_cases h1 : p = protoB'
  · subst h1
    exact ⟨_, .proto, .inl ⟨_, _, rfl, find_hit _ [] 0 ⟨.string protoB', fP xB pB, 0⟩ _ (by simp) rfl⟩⟩
  by_cases h2 : p = constB'
  · subst h2
    exact ⟨_, .const, .inl ⟨_, _, rfl, find_hit _ [⟨.string protoB', fP xB pB, 0⟩] 0 ⟨.string constB', fC pB, 1⟩ _ (by
      intro x hx
      simp only [List.mem_cons, List.not_mem_nil, or_false] at hx
      subst hx
      exact ⟨_, rfl, q1⟩) rfl⟩⟩
  by_cases h3 : p = upB'
  · subst h3
    exact ⟨_, .up, .inl ⟨_, _, rfl, find_hit _ [⟨.string protoB', fP xB pB, 0⟩, ⟨.string constB', fC pB, 1⟩] 0 ⟨.string upB', fU pB, 2⟩ _ (by
      intro x hx
      simp only [List.mem_cons, List.not_mem_nil, or_false] at hx
      rcases hx with rfl | rfl
      · exact ⟨_, rfl, q2⟩
      · exact ⟨_, rfl, q3⟩) rfl⟩⟩
  by_cases h4 : p = wordB
  · subst h4
    exact ⟨_, .word, .inl ⟨_, _, rfl, find_hit _ [⟨.string protoB', fP xB pB, 0⟩, ⟨.string constB', fC pB, 1⟩, ⟨.string upB', fU pB, 2⟩] 0 ⟨.string wordB, fW aB, 3⟩ _ (by
      intro x hx
      simp only [List.mem_cons, List.not_mem_nil, or_false] at hx
      rcases hx with rfl | rfl | rfl
      · exact ⟨_, rfl, w1⟩
      · exact ⟨_, rfl, w2⟩
      · exact ⟨_, rfl, w3⟩) rfl⟩⟩
  by_cases h5 : ∃ k, k < 34 ∧ nm k = p
  · obtain ⟨k, hk, rfl⟩ := h5
    suffices hs : ∃ j, Instr.findNow .string (.string (nm k)) (ents xB pB aB ib ob 34) 0 = some (some (j, fO aB (ib k) (ob k))) from by
      obtain ⟨j, hj⟩ := hs
      exact ⟨_, .op hk, .inl ⟨_, j, rfl, hj⟩⟩
    have e : (List.range 34).map (fun k => (⟨.string (nm k), fO aB (ib k) (ob k), 4 + k⟩ : MapEntry)) = (List.range k).map (fun k => ⟨.string (nm k), fO aB (ib k) (ob k), 4 + k⟩) ++ ⟨.string (nm k), fO aB (ib k) (ob k), 4 + k⟩ :: ((List.range 34).map (fun k => (⟨.string (nm k), fO aB (ib k) (ob k), 4 + k⟩ : MapEntry))).drop (k + 1) := by
      conv => lhs; rw [← List.take_append_drop k ((List.range 34).map _)]
      congr 1
      · rw [← List.map_take, List.take_range, Nat.min_eq_left (by omega)]
      · rw [List.drop_eq_getElem_cons (by simp; omega)]
        simp
    rw [hc, e, ← List.append_assoc]
    refine ⟨_, find_hit _ _ 0 ⟨.string (nm k), fO aB (ib k) (ob k), 4 + k⟩ _ (fun x hx => ?_) rfl⟩
    obtain ⟨k1, k2, k3, k4⟩ := nm_kw ⟨k, hk⟩
    rcases List.mem_append.1 hx with hx | hx
    · simp only [List.mem_cons, List.not_mem_nil, or_false] at hx
      rcases hx with rfl | rfl | rfl | rfl
      · exact ⟨_, rfl, Ne.symm k1⟩
      · exact ⟨_, rfl, Ne.symm k2⟩
      · exact ⟨_, rfl, Ne.symm k3⟩
      · exact ⟨_, rfl, Ne.symm k4⟩
    · obtain ⟨j, hj, rfl⟩ := List.mem_map.1 hx
      have hj := List.mem_range.1 hj
      exact ⟨_, rfl, fun e => by have := nm_inj (by omega) hk e; omega⟩
  · have h6 : ∀ k, k < 34 → nm k ≠ p := fun k hk e => h5 ⟨k, hk, e⟩
    refine ⟨_, .none h1 h2 h3 h4 h6, .inr ⟨rfl, find_miss _ _ 0 fun e he => ?_⟩⟩
    rw [hc] at he
    rcases List.mem_append.1 he with he | he
    · simp only [List.mem_cons, List.not_mem_nil, or_false] at he
      rcases he with rfl | rfl | rfl | rfl
      · exact ⟨_, rfl, Ne.symm h1⟩
      · exact ⟨_, rfl, Ne.symm h2⟩
      · exact ⟨_, rfl, Ne.symm h3⟩
      · exact ⟨_, rfl, Ne.symm h4⟩
    · obtain ⟨j, hj, rfl⟩ := List.mem_map.1 he
      exact ⟨_, rfl, h6 j (List.mem_range.1 hj)⟩
end
section
open Go.RowKit Go.Shelf
set_option linter.unusedVariables false
set_option linter.unusedSimpArgs false
set_option maxRecDepth 100000
set_option maxHeartbeats 4000000
/-- how addWord ends. -/
def AddEnds (w : World) (B mB xB pB : Nat) (sv : Value) (Q : List PV) (x : Int) (bo : Bool) (e : Ending) (w' : World) : Prop :=
  ∃ b : Bool, e = .returned (.bool b) ∧ (b = true → bo = true ∧ ∃ K q Q', Q = K ++ [q] ∧ Q'.map (·.p) = K.map (·.p) ++ [q.p.addWord x] ∧ Mw w' B mB xB pB sv Q' ∧ Foot w sv Q sv Q') ∧ (b = false → bo = false ∨ Q = []) ∧ Chg w w' mB pB sv Q
theorem addWord_any (x : Int) (bo : Bool) (w : World) (B mB xB pB : Nat) (sv : Value) (Q : List PV) (h : Mw w B mB xB pB sv Q) (hf : Few 60001 (Q.map (·.p))) :
    Calls Tryz.prog 26 #[.int .u32 x, .bool bo, .pointer (some ⟨pB, 0, none⟩)] w fun e w' => AddEnds w B mB xB pB sv Q x bo e w' := by
  cases bo with
  | false => exact (addWord_no x w _).mono fun e w' ⟨he, hw⟩ => ⟨false, he, by simp, by simp, hw ▸ Chg.of_below (Below.refl _ _)⟩
  | true =>
    rcases List.eq_nil_or_concat Q with rfl | ⟨K, q, hQ⟩
    · exact (addWord_nil x w pB (h.p.cell 0 rfl)).mono fun e w' ⟨he, hw⟩ => ⟨false, he, by simp, by simp, hw ▸ Chg.of_below (Below.refl _ _)⟩
    · rw [List.concat_eq_append] at hQ
      subst hQ
      obtain ⟨g, cap, rfl, _⟩ := h.mem.form
      have h1 := hf.1
      have h2 := hf.2 q.p (by simp)
      simp only [List.length_map, List.length_append, List.length_cons, List.length_nil] at h1
      refine (addWord_in x w B mB xB pB g cap K q h (by omega) (by omega)).mono fun e w' ⟨he, g9, c9, hm, hch, hft⟩ => ⟨true, he, fun _ => ⟨rfl, K, q, _, rfl, by simp, hm, hft⟩, by simp, hch⟩
theorem Chg.low {w w' : World} {B mB xB pB : Nat} {sv : Value} {Q : List PV} (hc : Chg w w' mB pB sv Q) (h : Mw w B mB xB pB sv Q) {k : Nat} (hk : k < B) (hl : k < w.heap.size) (h1 : k ≠ mB) (h2 : k ≠ pB) : w'.heap[k]? = w.heap[k]? :=
  hc.block k hl h1 h2 fun e => by have := (h.mem.blkLt k e).2; omega
theorem Chg.cell {w w' : World} {B mB xB pB : Nat} {sv : Value} {Q : List PV} (hc : Chg w w' mB pB sv Q) (h : Mw w B mB xB pB sv Q) {k : Nat} {v : Value} (hk : k < B) (hl : k < w.heap.size) (h1 : k ≠ mB) (h2 : k ≠ pB) (hv : w.cell? ⟨k, 0, none⟩ = some v) : w'.cell? ⟨k, 0, none⟩ = some v :=
  (World.cell?_of_block (a := ⟨k, 0, none⟩) (hc.low h hk hl h1 h2)).trans hv
theorem wordIn_any {R : Option Int} {e : Ending} (h : WordIn R e) : ∃ (x : Int) (bo : Bool), e = .returned (.tuple #[.int .u32 x, .bool bo]) ∧ (bo = true → R = some x) ∧ (bo = false → R = none) := by
  rcases h with ⟨x, h1, h2⟩ | ⟨h1, h2⟩
  · exact ⟨x, true, h2, fun _ => h1, by simp⟩
  · exact ⟨0, false, h2, by simp, fun _ => h1⟩
/-- a line with a word of code. -/
theorem word_ends {w y1 w' : World} {B mB xB pB : Nat} {sv : Value} {Q : List PV} {x : Int} {bo : Bool} {e : Ending} {p0 : ByteArray} {r : List ByteArray} {R : Option Int} (hb : Below w.heap.size w y1) (h : AddEnds y1 B mB xB pB sv Q x bo e w') (n1 : p0 ≠ protoB') (n2 : p0 ≠ constB') (n3 : p0 ≠ upB') (hst : StepW p0 r R)
    (hy : bo = true → R = some x) (hn : bo = false → R = none) : ReadEnds w B mB xB pB sv Q p0 r e w' := by
  obtain ⟨b, he, h1, h2, h3⟩ := h
  rcases List.eq_nil_or_concat Q with rfl | ⟨K, q, hQ⟩
  · refine ⟨b, none, he, LStep.none n1, fun hb9 => ?_, fun _ => rfl, h3.pre hb⟩
    obtain ⟨_, K, q, Q', e9, _⟩ := h1 hb9
    simp at e9
  · rw [List.concat_eq_append] at hQ
    subst hQ
    have hs : LStep ((K ++ [q]).map (·.p)) p0 r (R.map fun x => K.map (·.p) ++ [q.p.addWord x]) := by
      rw [List.map_append]
      exact LStep.word n1 n2 n3 hst
    refine ⟨b, _, he, hs, fun hb9 => ?_, fun hb9 => ?_, h3.pre hb⟩
    · obtain ⟨hbo, K', q', Q', e9, hm, hw, hft⟩ := h1 hb9
      obtain ⟨rfl, rfl⟩ := snoc_inj e9
      refine ⟨sv, Q', by rw [hy hbo, hm]; rfl, hw, fun k hk => ?_⟩
      rcases hft k hk with h9 | h9
      · exact .inl h9
      · exact .inr (Nat.le_trans hb.size h9)
    · rcases h2 hb9 with h9 | h9
      · rw [hn h9]; rfl
      · simp at h9
theorem read_word (r : List ByteArray) (gw o c : Nat) (w : World) (hcap : r.length ≤ c) (ho : o ≤ 1000) (hN : r.length ≤ 100000) (hc : ∀ (j : Nat) x, r[j]? = some x → w.cell? ⟨gw, o + j, none⟩ = some (.string x)) (hg : gw < w.heap.size) (hz : ∀ x ∈ r, x.size ≤ 100000) (hv : Env w)
    (B mB xB pB aB : Nat) (sv : Value) (Q : List PV) (h : Mw w B mB xB pB sv Q) (hf : Few 60001 (Q.map (·.p))) (ha : w.cell? ⟨aB, 0, none⟩ = some (.func (.func 26) #[] #[.pointer (some ⟨pB, 0, none⟩)])) (hal : aB < B) (ham : aB ≠ mB) (hap : aB ≠ pB) :
    Calls Tryz.prog 33 #[.slice (some ⟨gw, o, none⟩) r.length c, .pointer (some ⟨aB, 0, none⟩)] w fun e w' => ReadEnds w B mB xB pB sv Q wordB r e w' := by
  have hcon : Hid (∀ y : World, Below w.heap.size w y → Calls Tryz.prog 34 #[.slice (some ⟨gw, o, none⟩) r.length c] y fun e w' => WordIn (wordN r) e ∧ Below y.heap.size y w') := fun y hy => wordIn_in r gw o c y hcap ho hN (fun j x hj => (hy.cell (p := ⟨gw, o + j, none⟩) hg).trans (hc j x hj)) (Nat.lt_of_lt_of_le hg hy.size) hz (hv.below hy)
  have hSk : Hid (∀ y : World, Below w.heap.size w y → (y.cell? ⟨aB, 0, none⟩ = some (.func (.func 26) #[] #[.pointer (some ⟨pB, 0, none⟩)]))) := fun y hy => (hy.cell (p := ⟨aB, 0, none⟩) (show aB < w.heap.size from (by have := h.rg.shut.choose_spec.base; omega))).trans ha
  have hfin : Hid (∀ (y w' : World) (x : Int) (bo : Bool) (e : Ending), Below w.heap.size w y → AddEnds y B mB xB pB sv Q x bo e w' → (w'.cell? ⟨aB, 0, none⟩ = some (.func (.func 26) #[] #[.pointer (some ⟨pB, 0, none⟩)]))) := fun y w' x bo e hy ha => by
    obtain ⟨_, _, _, _, hch⟩ := ha
    exact hch.cell (h.later hy) hal (by have := hy.size; have := h.rg.shut.choose_spec.base; omega) ham hap ((hy.cell (p := ⟨aB, 0, none⟩) (show aB < w.heap.size from (by have := h.rg.shut.choose_spec.base; omega))).trans ha)
  have haw := hidR (fun (y : World) (hy : Below w.heap.size w y) (x : Int) (bo : Bool) => addWord_any x bo y B mB xB pB sv Q (h.later hy) hf)
  replace h := hidR h
  replace hc := hidR hc
  replace hz := hidR hz
  replace hv := hidR hv
  replace hf := hidR hf
  go_enter Tryz.func33, Tryz.ntmps33
  go_upto_region 1 with fail
  have bY0 : Below w.heap.size w w.drew := (Below.refl _ _).drew
  have hS0 := hSk.out _ bY0
  refine wp_region_held_drew (S := fun y => y.cell? ⟨aB, 0, none⟩ = some (.func (.func 26) #[] #[.pointer (some ⟨pB, 0, none⟩)])) (by kernel_rfl) hS0 (fun hH => ?_)
  clear hH
  generalize w.drew = yd at bY0 hS0 ⊢
  refine take_dst 0 4 (.func (.func 26) #[] #[.pointer (some ⟨pB, 0, none⟩)]) rfl (by kernel_rfl) (by kernel_rfl) (by kernel_rfl) (fun _ _ _ h => h) (Or.inl ⟨by rfl, by intro wv hSv; (try dsimp only at hSv); go_simp⟩) hS0 rfl ?_
  try simp only [Act.put, List.setIfInBounds_toArray, List.set_cons_zero, List.set_cons_succ]
  refine take_dst 1 5 (.slice (some ⟨gw, o, none⟩) r.length c) rfl (by kernel_rfl) (by kernel_rfl) (by kernel_rfl) (fun _ _ _ h => h) (Or.inl ⟨by rfl, by intro wv hSv; (try dsimp only at hSv); go_simp⟩) hS0 rfl ?_
  try simp only [Act.put, List.setIfInBounds_toArray, List.set_cons_zero, List.set_cons_succ]
  refine wpAnyH_ready (rs := [2]) (by kernel_rfl) (by simp) ?_
  refine AllReadyH.cons rfl (fun K9 hK => ?_) AllReadyH.nil
  go_simp
  refine Calls.mono (hcon.out yd bY0) ?_
  rintro e y1 ⟨hW, b1⟩
  obtain ⟨x, bo, rfl, hyes, hno⟩ := wordIn_any hW
  clear hW hcon
  replace hyes := hidR hyes
  replace hno := hidR hno
  have bY1 := bY0.trans (b1.mono bY0.size)
  have hS1 := hSk.out _ bY1
  have hA1 := hidR (haw.out y1 bY1 x bo)
  go_wp2_with fail
  refine hK.out _ _ hS1 (fun _ => ?_)
  clear hK K9
  try simp only [Act.put, List.setIfInBounds_toArray, List.set_cons_zero, List.set_cons_succ]
  refine take_dst 3 7 (.int .u32 x) rfl (by kernel_rfl) (by kernel_rfl) (by kernel_rfl) (fun _ _ _ h => h) (Or.inl ⟨by rfl, by intro wv hSv; (try dsimp only at hSv); go_simp⟩) hS1 rfl ?_
  try simp only [Act.put, List.setIfInBounds_toArray, List.set_cons_zero, List.set_cons_succ]
  refine take_dst 4 8 (.bool bo) rfl (by kernel_rfl) (by kernel_rfl) (by kernel_rfl) (fun _ _ _ h => h) (Or.inl ⟨by rfl, by intro wv hSv; (try dsimp only at hSv); go_simp⟩) hS1 rfl ?_
  try simp only [Act.put, List.setIfInBounds_toArray, List.set_cons_zero, List.set_cons_succ]
  refine wpAnyH_ready (rs := [5]) (by kernel_rfl) (by simp) ?_
  refine AllReadyH.cons rfl (fun K9 hK => ?_) AllReadyH.nil
  go_simp
  refine Calls.mono hA1.out ?_
  rintro e w' hA
  have hS2 := hfin.out y1 w' x bo e bY1 hA
  have hend := hidR (word_ends bY1 hA (Ne.symm kw_word.1) (Ne.symm kw_word.2.1) (Ne.symm kw_word.2.2) (StepW.word rfl) hyes.out hno.out)
  obtain ⟨b9, rfl, _⟩ := hA
  go_wp2_with fail
  refine hK.out _ _ hS2 (fun _ => ?_)
  clear hK K9
  try simp only [Act.put, List.setIfInBounds_toArray, List.set_cons_zero, List.set_cons_succ]
  refine take_dst 6 3 (.bool b9) rfl (by kernel_rfl) (by kernel_rfl) (by kernel_rfl) (fun _ _ _ h => h) (Or.inl ⟨by rfl, by intro wv hSv; (try dsimp only at hSv); go_simp⟩) hS2 rfl ?_
  try simp only [Act.put, List.setIfInBounds_toArray, List.set_cons_zero, List.set_cons_succ]
  refine wpAnyH_done (by kernel_rfl) ?_ _
  go_wp2_with fail
  exact bodyPost_ret (v := .bool b9) (by simp [results, Tryz.results33, go_sem]) rfl hend.out
theorem read_op_wide (r : List ByteArray) (gw o c : Nat) (w : World) (hcap : r.length ≤ c) (ho : o ≤ 1000) (hN : r.length ≤ 100000) (hc : ∀ (j : Nat) x, r[j]? = some x → w.cell? ⟨gw, o + j, none⟩ = some (.string x)) (hg : gw < w.heap.size) (hz : ∀ x ∈ r, x.size ≤ 100000) (hv : Env w)
    (B mB xB pB aB : Nat) (sv : Value) (Q : List PV) (h : Mw w B mB xB pB sv Q) (hf : Few 60001 (Q.map (·.p))) (ha : w.cell? ⟨aB, 0, none⟩ = some (.func (.func 26) #[] #[.pointer (some ⟨pB, 0, none⟩)])) (hal : aB < B) (ham : aB ≠ mB) (hap : aB ≠ pB) (iB oB k : Nat) (hk : k < 34) (hw : WideOp k) (hi9 : w.cell? ⟨iB, 0, none⟩ = some (.func (.func 37) #[] #[])) (hil : iB < B) (him : iB ≠ mB) (hip : iB ≠ pB) (ho9 : w.cell? ⟨oB, 0, none⟩ = some (.int .i64 (k : Int))) (hol : oB < B) (hom : oB ≠ mB) (hop : oB ≠ pB) :
    Calls Tryz.prog 38 #[.slice (some ⟨gw, o, none⟩) r.length c, .pointer (some ⟨aB, 0, none⟩), .pointer (some ⟨iB, 0, none⟩), .pointer (some ⟨oB, 0, none⟩)] w fun e w' => ReadEnds w B mB xB pB sv Q (nm k) r e w' := by
  have hcon : Hid (∀ y : World, Below w.heap.size w y → Calls Tryz.prog 37 #[.int .i64 (k : Int), .slice (some ⟨gw, o, none⟩) r.length c] y fun e w' => WordIn (wordK k r) e ∧ Below y.heap.size y w') := fun y hy => wideIn_in k hk hw r gw o c y hcap ho hN (fun j x hj => (hy.cell (p := ⟨gw, o + j, none⟩) hg).trans (hc j x hj)) (Nat.lt_of_lt_of_le hg hy.size) hz (hv.below hy)
  have hSk : Hid (∀ y : World, Below w.heap.size w y → (y.cell? ⟨aB, 0, none⟩ = some (.func (.func 26) #[] #[.pointer (some ⟨pB, 0, none⟩)]) ∧ y.cell? ⟨iB, 0, none⟩ = some (.func (.func 37) #[] #[]) ∧ y.cell? ⟨oB, 0, none⟩ = some (.int .i64 (k : Int)))) := fun y hy => ⟨(hy.cell (p := ⟨aB, 0, none⟩) (show aB < w.heap.size from (by have := h.rg.shut.choose_spec.base; omega))).trans ha, (hy.cell (p := ⟨iB, 0, none⟩) (show iB < w.heap.size from (by have := h.rg.shut.choose_spec.base; omega))).trans hi9, (hy.cell (p := ⟨oB, 0, none⟩) (show oB < w.heap.size from (by have := h.rg.shut.choose_spec.base; omega))).trans ho9⟩
  have hfin : Hid (∀ (y w' : World) (x : Int) (bo : Bool) (e : Ending), Below w.heap.size w y → AddEnds y B mB xB pB sv Q x bo e w' → (w'.cell? ⟨aB, 0, none⟩ = some (.func (.func 26) #[] #[.pointer (some ⟨pB, 0, none⟩)]) ∧ w'.cell? ⟨iB, 0, none⟩ = some (.func (.func 37) #[] #[]) ∧ w'.cell? ⟨oB, 0, none⟩ = some (.int .i64 (k : Int)))) := fun y w' x bo e hy ha => by
    obtain ⟨_, _, _, _, hch⟩ := ha
    exact ⟨hch.cell (h.later hy) hal (by have := hy.size; have := h.rg.shut.choose_spec.base; omega) ham hap ((hy.cell (p := ⟨aB, 0, none⟩) (show aB < w.heap.size from (by have := h.rg.shut.choose_spec.base; omega))).trans ha), hch.cell (h.later hy) hil (by have := hy.size; have := h.rg.shut.choose_spec.base; omega) him hip ((hy.cell (p := ⟨iB, 0, none⟩) (show iB < w.heap.size from (by have := h.rg.shut.choose_spec.base; omega))).trans hi9), hch.cell (h.later hy) hol (by have := hy.size; have := h.rg.shut.choose_spec.base; omega) hom hop ((hy.cell (p := ⟨oB, 0, none⟩) (show oB < w.heap.size from (by have := h.rg.shut.choose_spec.base; omega))).trans ho9)⟩
  have haw := hidR (fun (y : World) (hy : Below w.heap.size w y) (x : Int) (bo : Bool) => addWord_any x bo y B mB xB pB sv Q (h.later hy) hf)
  replace h := hidR h
  replace hc := hidR hc
  replace hz := hidR hz
  replace hv := hidR hv
  replace hf := hidR hf
  go_enter Tryz.func38, Tryz.ntmps38
  go_upto_region 1 with fail
  have bY0 : Below w.heap.size w w.drew := (Below.refl _ _).drew
  have hS0 := hSk.out _ bY0
  refine wp_region_held_drew (S := fun y => y.cell? ⟨aB, 0, none⟩ = some (.func (.func 26) #[] #[.pointer (some ⟨pB, 0, none⟩)]) ∧ y.cell? ⟨iB, 0, none⟩ = some (.func (.func 37) #[] #[]) ∧ y.cell? ⟨oB, 0, none⟩ = some (.int .i64 (k : Int))) (by kernel_rfl) hS0 (fun hH => ?_)
  clear hH
  generalize w.drew = yd at bY0 hS0 ⊢
  refine take_dst 0 6 (.func (.func 26) #[] #[.pointer (some ⟨pB, 0, none⟩)]) rfl (by kernel_rfl) (by kernel_rfl) (by kernel_rfl) (fun _ _ _ h => h) (Or.inl ⟨by rfl, by intro wv hSv; obtain ⟨k7, k8, k9⟩ := hSv; go_simp⟩) hS0 rfl ?_
  try simp only [Act.put, List.setIfInBounds_toArray, List.set_cons_zero, List.set_cons_succ]
  refine take_dst 1 7 (.func (.func 37) #[] #[]) rfl (by kernel_rfl) (by kernel_rfl) (by kernel_rfl) (fun _ _ _ h => h) (Or.inl ⟨by rfl, by intro wv hSv; obtain ⟨k7, k8, k9⟩ := hSv; go_simp⟩) hS0 rfl ?_
  try simp only [Act.put, List.setIfInBounds_toArray, List.set_cons_zero, List.set_cons_succ]
  refine take_dst 2 8 (.int .i64 (k : Int)) rfl (by kernel_rfl) (by kernel_rfl) (by kernel_rfl) (fun _ _ _ h => h) (Or.inl ⟨by rfl, by intro wv hSv; obtain ⟨k7, k8, k9⟩ := hSv; go_simp⟩) hS0 rfl ?_
  try simp only [Act.put, List.setIfInBounds_toArray, List.set_cons_zero, List.set_cons_succ]
  refine take_dst 3 9 (.slice (some ⟨gw, o, none⟩) r.length c) rfl (by kernel_rfl) (by kernel_rfl) (by kernel_rfl) (fun _ _ _ h => h) (Or.inl ⟨by rfl, by intro wv hSv; obtain ⟨k7, k8, k9⟩ := hSv; go_simp⟩) hS0 rfl ?_
  try simp only [Act.put, List.setIfInBounds_toArray, List.set_cons_zero, List.set_cons_succ]
  refine wpAnyH_ready (rs := [4]) (by kernel_rfl) (by simp) ?_
  refine AllReadyH.cons rfl (fun K9 hK => ?_) AllReadyH.nil
  go_simp
  refine Calls.mono (hcon.out yd bY0) ?_
  rintro e y1 ⟨hW, b1⟩
  obtain ⟨x, bo, rfl, hyes, hno⟩ := wordIn_any hW
  clear hW hcon
  replace hyes := hidR hyes
  replace hno := hidR hno
  have bY1 := bY0.trans (b1.mono bY0.size)
  have hS1 := hSk.out _ bY1
  have hA1 := hidR (haw.out y1 bY1 x bo)
  go_wp2_with fail
  refine hK.out _ _ hS1 (fun _ => ?_)
  clear hK K9
  try simp only [Act.put, List.setIfInBounds_toArray, List.set_cons_zero, List.set_cons_succ]
  refine take_dst 5 11 (.int .u32 x) rfl (by kernel_rfl) (by kernel_rfl) (by kernel_rfl) (fun _ _ _ h => h) (Or.inl ⟨by rfl, by intro wv hSv; obtain ⟨k7, k8, k9⟩ := hSv; go_simp⟩) hS1 rfl ?_
  try simp only [Act.put, List.setIfInBounds_toArray, List.set_cons_zero, List.set_cons_succ]
  refine take_dst 6 12 (.bool bo) rfl (by kernel_rfl) (by kernel_rfl) (by kernel_rfl) (fun _ _ _ h => h) (Or.inl ⟨by rfl, by intro wv hSv; obtain ⟨k7, k8, k9⟩ := hSv; go_simp⟩) hS1 rfl ?_
  try simp only [Act.put, List.setIfInBounds_toArray, List.set_cons_zero, List.set_cons_succ]
  refine wpAnyH_ready (rs := [7]) (by kernel_rfl) (by simp) ?_
  refine AllReadyH.cons rfl (fun K9 hK => ?_) AllReadyH.nil
  go_simp
  refine Calls.mono hA1.out ?_
  rintro e w' hA
  have hS2 := hfin.out y1 w' x bo e bY1 hA
  have hend := hidR (word_ends bY1 hA (nm_kw ⟨k, hk⟩).1 (nm_kw ⟨k, hk⟩).2.1 (nm_kw ⟨k, hk⟩).2.2.1 (StepW.op hk rfl) hyes.out hno.out)
  obtain ⟨b9, rfl, _⟩ := hA
  go_wp2_with fail
  refine hK.out _ _ hS2 (fun _ => ?_)
  clear hK K9
  try simp only [Act.put, List.setIfInBounds_toArray, List.set_cons_zero, List.set_cons_succ]
  refine take_dst 8 5 (.bool b9) rfl (by kernel_rfl) (by kernel_rfl) (by kernel_rfl) (fun _ _ _ h => h) (Or.inl ⟨by rfl, by intro wv hSv; obtain ⟨k7, k8, k9⟩ := hSv; go_simp⟩) hS2 rfl ?_
  try simp only [Act.put, List.setIfInBounds_toArray, List.set_cons_zero, List.set_cons_succ]
  refine wpAnyH_done (by kernel_rfl) ?_ _
  go_wp2_with fail
  exact bodyPost_ret (v := .bool b9) (by simp [results, Tryz.results38, go_sem]) rfl hend.out
theorem read_op_abc (r : List ByteArray) (gw o c : Nat) (w : World) (hcap : r.length ≤ c) (ho : o ≤ 1000) (hN : r.length ≤ 100000) (hc : ∀ (j : Nat) x, r[j]? = some x → w.cell? ⟨gw, o + j, none⟩ = some (.string x)) (hg : gw < w.heap.size) (hz : ∀ x ∈ r, x.size ≤ 100000) (hv : Env w)
    (B mB xB pB aB : Nat) (sv : Value) (Q : List PV) (h : Mw w B mB xB pB sv Q) (hf : Few 60001 (Q.map (·.p))) (ha : w.cell? ⟨aB, 0, none⟩ = some (.func (.func 26) #[] #[.pointer (some ⟨pB, 0, none⟩)])) (hal : aB < B) (ham : aB ≠ mB) (hap : aB ≠ pB) (iB oB k : Nat) (hk : k < 34) (hw : ¬ WideOp k) (hi9 : w.cell? ⟨iB, 0, none⟩ = some (.func (.func 36) #[] #[])) (hil : iB < B) (him : iB ≠ mB) (hip : iB ≠ pB) (ho9 : w.cell? ⟨oB, 0, none⟩ = some (.int .i64 (k : Int))) (hol : oB < B) (hom : oB ≠ mB) (hop : oB ≠ pB) :
    Calls Tryz.prog 38 #[.slice (some ⟨gw, o, none⟩) r.length c, .pointer (some ⟨aB, 0, none⟩), .pointer (some ⟨iB, 0, none⟩), .pointer (some ⟨oB, 0, none⟩)] w fun e w' => ReadEnds w B mB xB pB sv Q (nm k) r e w' := by
  have hcon : Hid (∀ y : World, Below w.heap.size w y → Calls Tryz.prog 36 #[.int .i64 (k : Int), .slice (some ⟨gw, o, none⟩) r.length c] y fun e w' => WordIn (wordK k r) e ∧ Below y.heap.size y w') := fun y hy => partsIn_in k hk hw r gw o c y hcap ho hN (fun j x hj => (hy.cell (p := ⟨gw, o + j, none⟩) hg).trans (hc j x hj)) (Nat.lt_of_lt_of_le hg hy.size) hz (hv.below hy)
  have hSk : Hid (∀ y : World, Below w.heap.size w y → (y.cell? ⟨aB, 0, none⟩ = some (.func (.func 26) #[] #[.pointer (some ⟨pB, 0, none⟩)]) ∧ y.cell? ⟨iB, 0, none⟩ = some (.func (.func 36) #[] #[]) ∧ y.cell? ⟨oB, 0, none⟩ = some (.int .i64 (k : Int)))) := fun y hy => ⟨(hy.cell (p := ⟨aB, 0, none⟩) (show aB < w.heap.size from (by have := h.rg.shut.choose_spec.base; omega))).trans ha, (hy.cell (p := ⟨iB, 0, none⟩) (show iB < w.heap.size from (by have := h.rg.shut.choose_spec.base; omega))).trans hi9, (hy.cell (p := ⟨oB, 0, none⟩) (show oB < w.heap.size from (by have := h.rg.shut.choose_spec.base; omega))).trans ho9⟩
  have hfin : Hid (∀ (y w' : World) (x : Int) (bo : Bool) (e : Ending), Below w.heap.size w y → AddEnds y B mB xB pB sv Q x bo e w' → (w'.cell? ⟨aB, 0, none⟩ = some (.func (.func 26) #[] #[.pointer (some ⟨pB, 0, none⟩)]) ∧ w'.cell? ⟨iB, 0, none⟩ = some (.func (.func 36) #[] #[]) ∧ w'.cell? ⟨oB, 0, none⟩ = some (.int .i64 (k : Int)))) := fun y w' x bo e hy ha => by
    obtain ⟨_, _, _, _, hch⟩ := ha
    exact ⟨hch.cell (h.later hy) hal (by have := hy.size; have := h.rg.shut.choose_spec.base; omega) ham hap ((hy.cell (p := ⟨aB, 0, none⟩) (show aB < w.heap.size from (by have := h.rg.shut.choose_spec.base; omega))).trans ha), hch.cell (h.later hy) hil (by have := hy.size; have := h.rg.shut.choose_spec.base; omega) him hip ((hy.cell (p := ⟨iB, 0, none⟩) (show iB < w.heap.size from (by have := h.rg.shut.choose_spec.base; omega))).trans hi9), hch.cell (h.later hy) hol (by have := hy.size; have := h.rg.shut.choose_spec.base; omega) hom hop ((hy.cell (p := ⟨oB, 0, none⟩) (show oB < w.heap.size from (by have := h.rg.shut.choose_spec.base; omega))).trans ho9)⟩
  have haw := hidR (fun (y : World) (hy : Below w.heap.size w y) (x : Int) (bo : Bool) => addWord_any x bo y B mB xB pB sv Q (h.later hy) hf)
  replace h := hidR h
  replace hc := hidR hc
  replace hz := hidR hz
  replace hv := hidR hv
  replace hf := hidR hf
  go_enter Tryz.func38, Tryz.ntmps38
  go_upto_region 1 with fail
  have bY0 : Below w.heap.size w w.drew := (Below.refl _ _).drew
  have hS0 := hSk.out _ bY0
  refine wp_region_held_drew (S := fun y => y.cell? ⟨aB, 0, none⟩ = some (.func (.func 26) #[] #[.pointer (some ⟨pB, 0, none⟩)]) ∧ y.cell? ⟨iB, 0, none⟩ = some (.func (.func 36) #[] #[]) ∧ y.cell? ⟨oB, 0, none⟩ = some (.int .i64 (k : Int))) (by kernel_rfl) hS0 (fun hH => ?_)
  clear hH
  generalize w.drew = yd at bY0 hS0 ⊢
  refine take_dst 0 6 (.func (.func 26) #[] #[.pointer (some ⟨pB, 0, none⟩)]) rfl (by kernel_rfl) (by kernel_rfl) (by kernel_rfl) (fun _ _ _ h => h) (Or.inl ⟨by rfl, by intro wv hSv; obtain ⟨k7, k8, k9⟩ := hSv; go_simp⟩) hS0 rfl ?_
  try simp only [Act.put, List.setIfInBounds_toArray, List.set_cons_zero, List.set_cons_succ]
  refine take_dst 1 7 (.func (.func 36) #[] #[]) rfl (by kernel_rfl) (by kernel_rfl) (by kernel_rfl) (fun _ _ _ h => h) (Or.inl ⟨by rfl, by intro wv hSv; obtain ⟨k7, k8, k9⟩ := hSv; go_simp⟩) hS0 rfl ?_
  try simp only [Act.put, List.setIfInBounds_toArray, List.set_cons_zero, List.set_cons_succ]
  refine take_dst 2 8 (.int .i64 (k : Int)) rfl (by kernel_rfl) (by kernel_rfl) (by kernel_rfl) (fun _ _ _ h => h) (Or.inl ⟨by rfl, by intro wv hSv; obtain ⟨k7, k8, k9⟩ := hSv; go_simp⟩) hS0 rfl ?_
  try simp only [Act.put, List.setIfInBounds_toArray, List.set_cons_zero, List.set_cons_succ]
  refine take_dst 3 9 (.slice (some ⟨gw, o, none⟩) r.length c) rfl (by kernel_rfl) (by kernel_rfl) (by kernel_rfl) (fun _ _ _ h => h) (Or.inl ⟨by rfl, by intro wv hSv; obtain ⟨k7, k8, k9⟩ := hSv; go_simp⟩) hS0 rfl ?_
  try simp only [Act.put, List.setIfInBounds_toArray, List.set_cons_zero, List.set_cons_succ]
  refine wpAnyH_ready (rs := [4]) (by kernel_rfl) (by simp) ?_
  refine AllReadyH.cons rfl (fun K9 hK => ?_) AllReadyH.nil
  go_simp
  refine Calls.mono (hcon.out yd bY0) ?_
  rintro e y1 ⟨hW, b1⟩
  obtain ⟨x, bo, rfl, hyes, hno⟩ := wordIn_any hW
  clear hW hcon
  replace hyes := hidR hyes
  replace hno := hidR hno
  have bY1 := bY0.trans (b1.mono bY0.size)
  have hS1 := hSk.out _ bY1
  have hA1 := hidR (haw.out y1 bY1 x bo)
  go_wp2_with fail
  refine hK.out _ _ hS1 (fun _ => ?_)
  clear hK K9
  try simp only [Act.put, List.setIfInBounds_toArray, List.set_cons_zero, List.set_cons_succ]
  refine take_dst 5 11 (.int .u32 x) rfl (by kernel_rfl) (by kernel_rfl) (by kernel_rfl) (fun _ _ _ h => h) (Or.inl ⟨by rfl, by intro wv hSv; obtain ⟨k7, k8, k9⟩ := hSv; go_simp⟩) hS1 rfl ?_
  try simp only [Act.put, List.setIfInBounds_toArray, List.set_cons_zero, List.set_cons_succ]
  refine take_dst 6 12 (.bool bo) rfl (by kernel_rfl) (by kernel_rfl) (by kernel_rfl) (fun _ _ _ h => h) (Or.inl ⟨by rfl, by intro wv hSv; obtain ⟨k7, k8, k9⟩ := hSv; go_simp⟩) hS1 rfl ?_
  try simp only [Act.put, List.setIfInBounds_toArray, List.set_cons_zero, List.set_cons_succ]
  refine wpAnyH_ready (rs := [7]) (by kernel_rfl) (by simp) ?_
  refine AllReadyH.cons rfl (fun K9 hK => ?_) AllReadyH.nil
  go_simp
  refine Calls.mono hA1.out ?_
  rintro e w' hA
  have hS2 := hfin.out y1 w' x bo e bY1 hA
  have hend := hidR (word_ends bY1 hA (nm_kw ⟨k, hk⟩).1 (nm_kw ⟨k, hk⟩).2.1 (nm_kw ⟨k, hk⟩).2.2.1 (StepW.op hk rfl) hyes.out hno.out)
  obtain ⟨b9, rfl, _⟩ := hA
  go_wp2_with fail
  refine hK.out _ _ hS2 (fun _ => ?_)
  clear hK K9
  try simp only [Act.put, List.setIfInBounds_toArray, List.set_cons_zero, List.set_cons_succ]
  refine take_dst 8 5 (.bool b9) rfl (by kernel_rfl) (by kernel_rfl) (by kernel_rfl) (fun _ _ _ h => h) (Or.inl ⟨by rfl, by intro wv hSv; obtain ⟨k7, k8, k9⟩ := hSv; go_simp⟩) hS2 rfl ?_
  try simp only [Act.put, List.setIfInBounds_toArray, List.set_cons_zero, List.set_cons_succ]
  refine wpAnyH_done (by kernel_rfl) ?_ _
  go_wp2_with fail
  exact bodyPost_ret (v := .bool b9) (by simp [results, Tryz.results38, go_sem]) rfl hend.out
end
end Go.Proofs.YtkanjbopfflioaaGreatDoor
