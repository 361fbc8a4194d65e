import Derived.Test.YtlkmohhkhcbiaaaDrN
import Derived.Deep.MidRow
namespace Go.Proofs.Ytlkmohhkhcbiaaa
open Go.RowKit Go.Shelf
set_option linter.unusedVariables false
set_option linter.unusedSimpArgs false
theorem own_mono {y : World} {b b' : Nat} {e : TypeId} {z n : Nat} {v : Value} {xs : List Value} (h : y.ownsRow b e z v n xs) (hb : b' ≤ b) : y.ownsRow b' e z v n xs := by
  refine ⟨h.1, ?_⟩
  rcases h.2 with h1 | ⟨g, cap, cur, hv, hbb, rest⟩
  · exact .inl h1
  · exact .inr ⟨g, cap, cur, hv, Nat.le_trans hb hbb, rest⟩
/-- what 'make' lays. -/
theorem made_arr (y : World) (z : Value) (n size : Nat) (e : TypeId) (hz : z.cells.size = size) (h0 : 0 < size) (hn : n ≤ 9223372036854775807) : IsArr (· = y.heap.size) (madeW y z n size e) (.slice (some ⟨y.heap.size, 0, none⟩) n n) size n (fun _ j => z.cells[j]!) := by
  refine ⟨_, _, rfl, hn, fun _ => ⟨y.heap.size, 0, rfl, rfl, fun i hi j hj => ?_⟩⟩
  have hlt := lt_mul_of hi hj
  rw [Nat.zero_add]
  show (y.alloc (.cells (madeCells z.cells (n * size)) e)).cell? ⟨y.heap.size, i * size + j, none⟩ = _
  rw [cell_of_row _ y.heap.size (i * size + j) _ e (0, 0) (heap_alloc_new y _)]
  unfold madeCells
  rw [Array.getElem?_map, Array.getElem?_range, if_pos hlt]
  simp only [Option.map_some]
  rw [hz, Nat.add_comm, Nat.add_mul_mod_self_right, Nat.mod_eq_of_lt hj]
theorem made_ints (k : IntKind) (v : Int) {av : Nat → Prop} {w : World} {u : Value} {n : Nat} (h : IsArr av w u 1 n (fun _ j => (Value.int k v).cells[j]!)) : IsArr av w u 1 n (iC k fun _ => v) := by
  obtain ⟨a, c, h1, h2, h3⟩ := h
  refine ⟨a, c, h1, h2, fun h0 => ?_⟩
  obtain ⟨b, o, e, hb, hc⟩ := h3 h0
  refine ⟨b, o, e, hb, fun i hi j hj => ?_⟩
  rw [hc i hi j hj]
  match j, hj with
  | 0, _ => rfl
theorem made_vals {av : Nat → Prop} {w : World} {u : Value} {n : Nat} (h : IsArr av w u 3 n (fun _ j => (Value.agg #[.int .i64 0, .int .i64 0, .string ⟨#[]⟩]).cells[j]!)) : IsArr av w u 3 n (vC fun _ => ⟨0, 0, ⟨#[]⟩⟩) := by
  obtain ⟨a, c, h1, h2, h3⟩ := h
  refine ⟨a, c, h1, h2, fun h0 => ?_⟩
  obtain ⟨b, o, e, hb, hc⟩ := h3 h0
  refine ⟨b, o, e, hb, fun i hi j hj => ?_⟩
  rw [hc i hi j hj]
  match j, hj with
  | 0, _ => rfl
  | 1, _ => rfl
  | 2, _ => rfl
theorem made_ups {av : Nat → Prop} {w : World} {u : Value} {n : Nat} (h : IsArr av w u 2 n (fun _ j => (Value.agg #[.bool false, .int .i64 0]).cells[j]!)) : IsArr av w u 2 n (uC fun _ => ⟨false, 0⟩) := by
  obtain ⟨a, c, h1, h2, h3⟩ := h
  refine ⟨a, c, h1, h2, fun h0 => ?_⟩
  obtain ⟨b, o, e, hb, hc⟩ := h3 h0
  refine ⟨b, o, e, hb, fun i hi j hj => ?_⟩
  rw [hc i hi j hj]
  match j, hj with
  | 0, _ => rfl
  | 1, _ => rfl
/-- a thing ahead of a list. -/
def consS {α : Type} (d : α) (s : Sl α) : Sl α := ⟨1 + s.n, fun i => if i = 0 then d else s.f (i - 1)⟩
theorem IsArr.congr {av : Nat → Prop} {w : World} {v : Value} {z n : Nat} {C C' : Nat → Nat → Value} (h : IsArr av w v z n C) (he : ∀ i, i < n → ∀ j, j < z → C i j = C' i j) : IsArr av w v z n C' := by
  obtain ⟨a, c, h1, h2, h3⟩ := h
  refine ⟨a, c, h1, h2, fun h0 => ?_⟩
  obtain ⟨b, o, e, hb, hc⟩ := h3 h0
  exact ⟨b, o, e, hb, fun i hi j hj => by rw [hc i hi j hj, he i hi j hj]⟩
theorem made_set (y : World) (n : Nat) (e : TypeId) (a0 : Addr) (v0 : Value) (t : Int) (h0 : y.heap.size ≠ a0.block) (hn : n ≤ 9223372036854775807) : IsArr (· = y.heap.size) (((madeW y (.int .i64 0) n 1 e).setCell a0 v0).setCell ⟨y.heap.size, 0, none⟩ (.int .i64 t)) (.slice (some ⟨y.heap.size, 0, none⟩) n n) 1 n (iC .i64 fun i => if i = 0 then t else 0) := by
  have r := World.rowIs_made y (.int .i64 0) n e
  have hm : y.alloc (.cells (madeCells #[.int .i64 0] n) e) = madeW y (.int .i64 0) n 1 e := by unfold madeW; rw [Nat.mul_one]; rfl
  rw [hm] at r
  have r2 := World.rowIs.set (World.rowIs.setOther r h0 v0) 0 (.int .i64 t)
  refine ⟨_, _, rfl, hn, fun _ => ⟨y.heap.size, 0, rfl, rfl, fun i hi j hj => ?_⟩⟩
  obtain rfl : j = 0 := by omega
  have hc := r2.cell hi
  rw [Nat.zero_add, Nat.mul_one, Nat.add_zero, hc]
  by_cases h : i = 0
  · subst h; simp [iC]
  · simp [iC, h]
theorem run_append_zero {P : Program} {w : World} {base : Nat} {t ty e : TypeId} {i : TypeInfo} {size : Nat} (ht : P.underlying t = some (.slice e)) (hi : P.info? e = some i) {v : Value} {n : Nat} {xs : List Value} (hown : w.ownsRow base e size v n xs) (ao : Option Addr) (cap : Nat) :
    (Builtin.append_ #[t, t] ty #[v, .slice ao 0 cap]).run P w = .ok v w := by
  rcases hown.2 with ⟨rfl, rfl⟩ | ⟨g, cp, cur, rfl, _, _, hnc, _⟩
  · cases ao with
    | none => simp [Builtin.append_, run_underlying ht, sizeOf, typeInfo, hi, Builtin.lenOf, Builtin.firstCells]
    | some ad =>
      have hl : (loadCells ad 0).run P w = .ok #[] w := run_loadCells_list (P := P) w ad [] (by simp)
      simp [Builtin.append_, run_underlying ht, sizeOf, typeInfo, hi, Builtin.lenOf, Builtin.firstCells, hl]
  · cases ao with
    | none => simp [Builtin.append_, run_underlying ht, sizeOf, typeInfo, hi, Builtin.lenOf, Builtin.firstCells, hnc, storeCells]
    | some ad =>
      have hl : (loadCells ad 0).run P w = .ok #[] w := run_loadCells_list (P := P) w ad [] (by simp)
      simp [Builtin.append_, run_underlying ht, sizeOf, typeInfo, hi, Builtin.lenOf, Builtin.firstCells, hnc, storeCells, hl]
/-- the cells of a list, one behind the other. -/
def flatC (C : Nat → Nat → Value) (size m : Nat) : List Value := (List.range (m * size)).map fun q => C (q / size) (q % size)
/-- a whole list appended. -/
theorem app_list {P : Program} {ops : Array Oper} {rest : List Oper} {o : Oper} {a : Act} {Q : Exit → Act → World → Prop} {w : World} {av : Nat → Prop} (hgd : o.guard = none) (s x : Operand) (t : TypeId)
    (ho : o.op = .call { callee := .builtin .append, args := #[s, x], argTypes := #[t, t] })
    (base : Nat) (e : TypeId) (i : TypeInfo) (z : Value) (size bytes : Nat) (ht : P.underlying t = some (.slice e)) (hi : P.info? e = some i) (hz : i.zero = some z)
    (hsize : i.size = size) (hby : i.bytes = bytes) (hzs : z.cells.size = size) (hsz : 0 < size)
    (v : Value) (n : Nat) (xs : List Value) (hs : a.eval s = v) (hown : w.ownsRow base e size v n xs)
    (u : Value) (m : Nat) (C : Nat → Nat → Value) (hx : a.eval x = u) (hu : IsArr av w u size m C) (h1 : ∀ i j, (C i j).oneCell' = true)
    (h63 : n + m ≤ maxLen) (hbytes : (n + m) * bytes ≤ 140737488355328) (hbase : base ≤ w.heap.size)
    (h : ∀ v' w', w'.ownsRow base e size v' (n + m) (xs ++ flatC C size m) → w.grownBy w' v.ownBlock → (v'.ownBlock = v.ownBlock ∨ v'.ownBlock = some w.heap.size) → wpList P ops Q rest (a.put o.dst v') w') :
    wpList P ops Q (o :: rest) a w := by
  obtain ⟨ao, cap, rfl, hn, hc⟩ := hu
  by_cases hm : m = 0
  · subst hm
    refine wpList_plain hgd fun K hK => ?_
    have hr := run_append_zero (P := P) (w := w) (ty := o.type) ht hi hown ao cap
    unfold Oper.wp execOp
    simp only [ho, resolve, invoke, builtin, Sem.run_bind, Sem.run_pure, Result.andThen_ok, List.map_toArray, List.map_cons, List.map_nil, hs, hx, hr]
    refine hK _ _ (h v w ?_ ⟨rfl, rfl, rfl, Nat.le_refl _, fun _ _ _ => rfl⟩ (.inl rfl))
    have e0 : flatC C size 0 = [] := by simp [flatC]
    rw [e0, List.append_nil, Nat.add_zero]
    exact hown
  · obtain ⟨b, o', rfl, hb, hcc⟩ := hc (by omega)
    refine wpList_append_own_at _ hgd s x t ho base e i z size bytes ht hi hz hsize hby hzs hsz v n xs hs hown ⟨b, o', none⟩ m cap (flatC C size m) hx (by simp [flatC]) (fun j u hj => ?_) (fun u hu => ?_) h63 hbytes hbase (fun v' w' a1 a2 _ a4 => h v' w' a1 a2 a4)
    · have hlt : j < m * size := by
        have := (List.getElem?_eq_some_iff.1 hj).1
        simpa [flatC] using this
      have hd : j / size < m := by rw [Nat.div_lt_iff_lt_mul hsz]; exact hlt
      have hmod : j % size < size := Nat.mod_lt _ hsz
      have hcell := hcc (j / size) hd (j % size) hmod
      rw [Addr.add_mid]
      rw [show o' + j / size * size + j % size = o' + j by rw [Nat.add_assoc, Nat.mul_comm, Nat.div_add_mod]] at hcell
      rw [hcell]
      unfold flatC at hj
      rw [List.getElem?_map, List.getElem?_range hlt] at hj
      exact hj
    · unfold flatC at hu
      obtain ⟨q, -, rfl⟩ := List.mem_map.1 hu
      exact h1 _ _
theorem cons_get {size m : Nat} (hsz : 0 < size) {xs : List Value} {C0 : Nat → Value} {C : Nat → Nat → Value} (hl : xs.length = size) (h0 : ∀ j, j < size → xs[j]? = some (C0 j)) : ∀ i, i < 1 + m → ∀ j, j < size → (xs ++ flatC C size m)[i * size + j]? = some (if i = 0 then C0 j else C (i - 1) j) := by
  intro i hi j hj
  by_cases h : i = 0
  · subst h
    rw [if_pos rfl, Nat.zero_mul, Nat.zero_add, List.getElem?_append_left (by omega)]
    exact h0 j hj
  · rw [if_neg h]
    obtain ⟨k, rfl⟩ : ∃ k, i = k + 1 := ⟨i - 1, by omega⟩
    have hlt := lt_mul_of (show k < m by omega) hj
    rw [List.getElem?_append_right (by rw [hl, Nat.succ_mul]; omega), show (k + 1) * size + j - xs.length = k * size + j by rw [hl, Nat.succ_mul]; omega]
    unfold flatC
    rw [List.getElem?_map, List.getElem?_range hlt]
    simp only [Option.map_some, Nat.add_sub_cancel]
    rw [Nat.add_comm, Nat.add_mul_div_right _ _ hsz, Nat.div_eq_of_lt hj, Nat.zero_add, Nat.add_mul_mod_self_right, Nat.mod_eq_of_lt hj]
/-- a thing ahead of a list, in memory. -/
theorem cons_arr {y : World} {lo : Nat} {e : TypeId} {z m : Nat} {v : Value} {xs : List Value} {C0 : Nat → Value} {C C' : Nat → Nat → Value} (hz : 0 < z) (h : y.ownsRow lo e z v (1 + m) (xs ++ flatC C z m)) (hl : xs.length = z) (h0 : ∀ j, j < z → xs[j]? = some (C0 j)) (he : ∀ j, j < z → C' 0 j = C0 j ∧ ∀ i, C' (i + 1) j = C i j) : IsArr (fun b => lo ≤ b ∧ b < y.heap.size) y v z (1 + m) C' := by
  refine (arr_of_own h (cons_get hz hl h0) h.lt).congr fun i hi j hj => ?_
  cases i with
  | zero => rw [if_pos rfl, (he j hj).1]
  | succ i => rw [if_neg (by omega), Nat.add_sub_cancel, (he j hj).2]
/-- a prototype's lists are small, and there is code. -/
structure Sm (x : PD) : Prop where
  c0 : 0 < x.code.n
  c1 : x.code.n ≤ 1000
  k1 : x.consts.n ≤ 1000
  u1 : x.ups.n ≤ 1000
  l1 : x.lines.n ≤ 1000
  n1 : x.upNames.n ≤ 1000
/-- what l2Spoil answers. -/
def SpoilA (c : Sl Int) (P : Nat) (PS : List PD) : Prop :=
  ∃ PS' : List PD, ∀ (av : Nat → Prop) w v u, (∀ b, av b → b < w.heap.size) → IsCode w v c → IsProtos av w u (slOf PS) → Calls Try.prog 9 #[v, .int .i64 P, .agg #[u]] w fun e w' => ∃ u', e = .returned (.agg #[u']) ∧ Below w.heap.size w w' ∧ IsProtos (fun b => av b ∨ (w.heap.size ≤ b ∧ b < w'.heap.size)) w' u' (slOf PS')
/-- at an operation that writes slot d the world is forgotten but for G. -/
theorem wp_gen {P : Program} {ops : Array Oper} {Q : Exit → Act → World → Prop} {o : Oper} {rest : List Oper} {a : Act} {w : World} (d : Nat) (hd : o.dst = some d) (G : World → Prop) (hG : G w) (h : ∀ y, G y → wpList P ops Q (o :: rest) a y) : wpList P ops Q (o :: rest) a w := h w hG
theorem wp_genS {P : Program} {ops : Array Oper} {Q : Exit → Act → World → Prop} {o : Oper} {rest : List Oper} {a : Act} {w : World} (ty : TypeId) (x y : Operand) (ho : o.op = .store ty x y) (G : World → Prop) (hG : G w) (h : ∀ y, G y → wpList P ops Q (o :: rest) a y) : wpList P ops Q (o :: rest) a w := h w hG
theorem wp_genA {P : Program} {ops : Array Oper} {Q : Exit → Act → World → Prop} {rest : List Oper} {a : Act} {w : World} (G : World → Prop) (hG : G w) (h : ∀ y, G y → wpList P ops Q rest a y) : wpList P ops Q rest a w := h w hG
/-- cells written one behind the other. -/
def setCs (y : World) (g o : Nat) : List Value → World
  | [] => y
  | c :: cs => setCs (y.setCell ⟨g, o, none⟩ c) g (o + 1) cs
theorem setCs_eq (g : Nat) (cs : List Value) : ∀ (y : World) (o : Nat), setCs y g o cs = y.setCells g o cs := by
  induction cs with
  | nil => intro y o; rfl
  | cons c cs ih => intro y o; rw [setCs, ih, World.setCells]
def setL (L : List Value) (o : Nat) : List Value → List Value
  | [] => L
  | c :: cs => setL (L.set o c) (o + 1) cs
theorem setL_right (a b : List Value) (cs : List Value) : ∀ o, a.length ≤ o → ∀ b, setL (a ++ b) o cs = a ++ setL b (o - a.length) cs := by
  induction cs with
  | nil => intro o _ b; rfl
  | cons c cs ih =>
    intro o ho b
    rw [setL, setL, List.set_append_right _ _ ho, ih (o + 1) (by omega), show o + 1 - a.length = o - a.length + 1 by omega]
theorem pvCells_set (y : PV) : ∀ (X : List PV) (i : Nat), i < X.length → setL (pvCells X) (i * 10) y.cells = pvCells (X.set i y) := by
  intro X
  induction X with
  | nil => intro i hi; simp at hi
  | cons x xs ih =>
    intro i hi
    cases i with
    | zero => rfl
    | succ i =>
      simp at hi
      rw [pvCells, setL_right _ (pvCells xs) _ _ (by simp [PV.cells]; omega), List.set_cons_succ, pvCells, ← ih i hi]
      congr 2
      simp [PV.cells]
      omega
theorem setCs_own {base : Nat} {e : TypeId} {z n g cap : Nat} (cs : List Value) : ∀ {y : World} {xs : List Value} (o : Nat), y.ownsRow base e z (.slice (some ⟨g, 0, none⟩) n cap) n xs → (setCs y g o cs).ownsRow base e z (.slice (some ⟨g, 0, none⟩) n cap) n (setL xs o cs) := by
  induction cs with
  | nil => intro y xs o h; exact h
  | cons c cs ih => intro y xs o h; exact ih (o + 1) (h.stored o c).1
theorem setCs_heap (g : Nat) (cs : List Value) : ∀ (y : World) (o k : Nat), k ≠ g → (setCs y g o cs).heap[k]? = y.heap[k]? := by
  induction cs with
  | nil => intro y o k _; rfl
  | cons c cs ih => intro y o k hk; rw [setCs, ih _ _ _ hk, Below.heap_setCell _ _ _ _ hk]
theorem setCs_size (g : Nat) (cs : List Value) : ∀ (y : World) (o : Nat), (setCs y g o cs).heap.size = y.heap.size := by
  induction cs with
  | nil => intro y o; rfl
  | cons c cs ih => intro y o; rw [setCs, ih, World.size_setCell]
theorem setCs_below (g : Nat) (cs : List Value) : ∀ {B : Nat} {w y : World} (o : Nat), Below B w y → B ≤ g → Below B w (setCs y g o cs) := by
  induction cs with
  | nil => intro B w y o h _; exact h
  | cons c cs ih => intro B w y o h hg; exact ih (o + 1) (h.setCell (p := ⟨g, o, none⟩) hg _) hg
/-- a chunk that is being spoilt: its copy's list, and one prototype of it in a box. -/
structure SpI (w : World) (vo : Value) (n : Nat) (X : List PV) (Bo : Nat) (Q : List Value) (y : World) : Prop where
  br : RowL y (w.heap.size + 1) 25 [.slice none 0 0]
  bo : RowL y Bo 25 [vo]
  bq : RowL y (Bo + 1) 35 Q
  row : y.ownsRow w.heap.size 35 10 vo n (pvCells X)
  bel : Below w.heap.size w y
  hBo : w.heap.size + 2 ≤ Bo
  ne : ∀ k, vo.ownBlock = some k → k < Bo
section
variable {w : World} {vo : Value} {n : Nat} {X : List PV} {Bo : Nat} {Q : List Value} {y y' : World}
theorem SpI.later (h : SpI w vo n X Bo Q y) (hb : Below y.heap.size y y') : SpI w vo n X Bo Q y' :=
  ⟨h.br.call hb, h.bo.call hb, h.bq.call hb, own_below h.row hb, h.bel.trans (hb.mono h.bel.size), h.hBo, h.ne⟩
theorem SpI.alloc (h : SpI w vo n X Bo Q y) (o : Obj) : SpI w vo n X Bo Q (y.alloc o) := h.later ((Below.refl _ _).alloc (Nat.le_refl _) _)
theorem SpI.setQ (h : SpI w vo n X Bo Q y) (f : Nat) (v : Value) : SpI w vo n X Bo (Q.set f v) (y.setCell ⟨Bo + 1, f, none⟩ v) := by
  have hb := h.hBo
  refine ⟨h.br.other (a := ⟨Bo + 1, f, none⟩) (by show w.heap.size + 1 ≠ Bo + 1; omega) _, h.bo.other (a := ⟨Bo + 1, f, none⟩) (by show Bo ≠ Bo + 1; omega) _, h.bq.set f v, ?_, h.bel.setCell (p := ⟨Bo + 1, f, none⟩) (by show w.heap.size ≤ Bo + 1; omega) _, h.hBo, h.ne⟩
  exact own_keep h.row fun k hk => Below.heap_setCell _ _ _ _ (by have := h.ne k hk; show k ≠ Bo + 1; omega)
theorem SpI.setFar (h : SpI w vo n X Bo Q y) {g : Nat} (hg : Bo + 1 < g) (f : Nat) (v : Value) : SpI w vo n X Bo Q (y.setCell ⟨g, f, none⟩ v) := by
  have hb := h.hBo
  refine ⟨h.br.other (a := ⟨g, f, none⟩) (by show w.heap.size + 1 ≠ g; omega) _, h.bo.other (a := ⟨g, f, none⟩) (by show Bo ≠ g; omega) _, h.bq.other (a := ⟨g, f, none⟩) (by show Bo + 1 ≠ g; omega) v, ?_, h.bel.setCell (p := ⟨g, f, none⟩) (by show w.heap.size ≤ g; omega) _, h.hBo, h.ne⟩
  exact own_keep h.row fun k hk => Below.heap_setCell _ _ _ _ (by have := h.ne k hk; show k ≠ g; omega)
/-- a list grown: the box and the rest stay. -/
theorem SpI.grown (h : SpI w vo n X Bo Q y) {row : Option Nat} (hg : y.grownBy y' row) (hr : ∀ k, row = some k → Bo + 1 < k) : SpI w vo n X Bo Q y' := by
  have hk : ∀ k, k < y.heap.size → k ≤ Bo + 1 → y'.heap[k]? = y.heap[k]? := fun k h1 h2 => hg.block k h1 fun e => by have := hr k e.symm; omega
  have hb := h.hBo
  refine ⟨World.rowIs.of_block h.br (hk _ h.br.lt (by omega)), World.rowIs.of_block h.bo (hk _ h.bo.lt (by omega)), World.rowIs.of_block h.bq (hk _ h.bq.lt (by omega)), own_keep h.row fun k hk1 => hk k (h.row.lt k hk1).2 (by have := h.ne k hk1; omega), Below.grown h.bel hg h.bel.size fun k hk1 => by have := hr k hk1; omega, h.hBo, h.ne⟩
/-- the prototype put back, and the chunk answered. -/
theorem SpI.fin {av : Nat → Prop} (hav : ∀ b, av b → b < w.heap.size) {g cap i : Nat} {x : PV} (h : SpI w (.slice (some ⟨g, 0, none⟩) n cap) n X Bo x.cells y) (hn : X.length = n) (hi : i < n) (hX : ∀ x ∈ X, IsProto av w x.a3 x.a4 x.a5 x.a8 x.a9 x.p) (hx : IsProto (fun b => av b ∨ (Bo + 1 < b ∧ b < y.heap.size)) y x.a3 x.a4 x.a5 x.a8 x.a9 x.p) :
    Below w.heap.size w ((setCs y g (i * 10) x.cells).setCell ⟨w.heap.size + 1, 0, none⟩ (.slice (some ⟨g, 0, none⟩) n cap)) ∧ IsProtos (fun b => av b ∨ (w.heap.size ≤ b ∧ b < ((setCs y g (i * 10) x.cells).setCell ⟨w.heap.size + 1, 0, none⟩ (.slice (some ⟨g, 0, none⟩) n cap)).heap.size)) ((setCs y g (i * 10) x.cells).setCell ⟨w.heap.size + 1, 0, none⟩ (.slice (some ⟨g, 0, none⟩) n cap)) (.slice (some ⟨g, 0, none⟩) n cap) (slOf ((X.map PV.p).set i x.p)) := by
  have hg := h.row.lt g rfl
  have hgo := h.ne g rfl
  have hb := h.hBo
  have hws := h.bel.size
  have hgr := own_ne_row h.row h.br (by decide)
  have hgr' : g ≠ w.heap.size + 1 := fun e => hgr (by rw [← e]; rfl)
  have hbel := (setCs_below g x.cells (i * 10) h.bel hg.1).setCell (p := ⟨w.heap.size + 1, 0, none⟩) (by show w.heap.size ≤ w.heap.size + 1; omega) (.slice (some ⟨g, 0, none⟩) n cap)
  have hsz : ((setCs y g (i * 10) x.cells).setCell ⟨w.heap.size + 1, 0, none⟩ (.slice (some ⟨g, 0, none⟩) n cap)).heap.size = y.heap.size := by rw [World.size_setCell, setCs_size]
  have hkp : ∀ b, b ≠ g → b ≠ w.heap.size + 1 → ((setCs y g (i * 10) x.cells).setCell ⟨w.heap.size + 1, 0, none⟩ (.slice (some ⟨g, 0, none⟩) n cap)).heap[b]? = y.heap[b]? := fun b h1 h2 => by rw [Below.heap_setCell _ _ _ _ h2, setCs_heap _ _ _ _ _ h1]
  refine ⟨hbel, ?_⟩
  have hrow := setCs_own x.cells (i * 10) h.row
  rw [pvCells_set x X i (by omega)] at hrow
  have hrow2 := own_keep (y' := (setCs y g (i * 10) x.cells).setCell ⟨w.heap.size + 1, 0, none⟩ (.slice (some ⟨g, 0, none⟩) n cap)) hrow fun k hk => Below.heap_setCell _ _ _ _ (by simp [Value.ownBlock] at hk; show k ≠ w.heap.size + 1; omega)
  rw [← List.map_set]
  refine protos_of_row (X := X.set i x) (lo := w.heap.size) (by rw [List.length_set, hn]; exact hrow2) (fun b hb' => ?_) (fun x' hx' => ?_)
  · simp [Value.ownBlock] at hb'
    rw [hsz]
    exact .inr ⟨by omega, by omega⟩
  · rcases List.mem_or_eq_of_mem_set hx' with h1 | rfl
    · exact ((hX x' h1).keep fun b hb' => hbel.block b (hav b hb')).mono fun b hb' => .inl hb'
    · refine (hx.keep fun b hb' => hkp b ?_ ?_).mono fun b hb' => ?_
      · rcases hb' with h1 | h1
        · have := hav b h1; omega
        · omega
      · rcases hb' with h1 | h1
        · have := hav b h1; omega
        · omega
      · rcases hb' with h1 | h1
        · exact .inl h1
        · rw [hsz]; exact .inr ⟨by omega, h1.2⟩
end
end Go.Proofs.Ytlkmohhkhcbiaaa
