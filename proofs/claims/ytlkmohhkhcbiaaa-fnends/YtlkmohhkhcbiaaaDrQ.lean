import Derived.Test.YtlkmohhkhcbiaaaDrO
namespace Go.Proofs.Ytlkmohhkhcbiaaa
open Go.RowKit Go.Shelf
set_option linter.unusedVariables false
set_option linter.unusedSimpArgs false
/-- a whole list appended, in a region that is drawn. -/
theorem step_app_list {P : Program} {ops : Array Oper} {o : Oper} {a : Act} {K : Act → World → Prop} {Q : Exit → Act → World → Prop} {E : Prop} {w : World} {av : Nat → Prop} (hgd : o.guard = none) (s x : Operand) (t : TypeId)
    (ho : o.op = .call { callee := .builtin .append, args := #[s, x], argTypes := #[t, t] })
    (base : Nat) (e : TypeId) (i : TypeInfo) (z : Value) (size bytes : Nat) (ht : P.underlying t = some (.slice e)) (hi : P.info? e = some i) (hz : i.zero = some z)
    (hsize : i.size = size) (hby : i.bytes = bytes) (hzs : z.cells.size = size) (hsz : 0 < size)
    (v : Value) (n : Nat) (xs : List Value) (hs : a.eval s = v) (hown : w.ownsRow base e size v n xs)
    (u : Value) (m : Nat) (C : Nat → Nat → Value) (hx : a.eval x = u) (hu : IsArr av w u size m C) (h1 : ∀ i j, (C i j).oneCell' = true)
    (h63 : n + m ≤ maxLen) (hbytes : (n + m) * bytes ≤ 140737488355328) (hbase : base ≤ w.heap.size)
    (h : ∀ v' w', w'.ownsRow base e size v' (n + m) (xs ++ flatC C size m) → w.grownBy w' v.ownBlock → K (a.put o.dst v') w') :
    if Region.wanted o (yielded ops a.tmps) = true then Oper.wp P o a w K Q else E := by
  have hw : Region.wanted o (yielded ops a.tmps) = true := by simp [Region.wanted, hgd]
  rw [if_pos hw]
  obtain ⟨ao, cap, rfl, hn, hc⟩ := hu
  by_cases hm : m = 0
  · subst hm
    have hr := run_append_zero (P := P) (w := w) (ty := o.type) ht hi hown ao cap
    unfold Oper.wp execOp
    simp only [ho, resolve, invoke, builtin, Sem.run_bind, Sem.run_pure, Result.andThen_ok, List.map_toArray, List.map_cons, List.map_nil, hs, hx, hr]
    refine h v w ?_ ⟨rfl, rfl, rfl, Nat.le_refl _, fun _ _ _ => rfl⟩
    have e0 : flatC C size 0 = [] := by simp [flatC]
    rw [e0, List.append_nil, Nat.add_zero]
    exact hown
  · obtain ⟨b, o', rfl, hb, hcc⟩ := hc (by omega)
    refine wp_append_lies w s x t ho base e i z size bytes ht hi hz hsize hby hzs hsz v n xs hs hown ⟨b, o', none⟩ m cap (flatC C size m) hx (by simp [flatC]) (fun j u hj => ?_) (fun u hu => ?_) (by omega) h63 hbytes hbase _ rfl (fun g cp w' a1 a2 _ _ => h _ w' a1 a2)
    · have hlt : j < m * size := by
        have := (List.getElem?_eq_some_iff.1 hj).1
        simpa [flatC] using this
      have hd : j / size < m := by rw [Nat.div_lt_iff_lt_mul hsz]; exact hlt
      have hmod : j % size < size := Nat.mod_lt _ hsz
      have hcell := hcc (j / size) hd (j % size) hmod
      rw [Addr.add_mid]
      rw [show o' + j / size * size + j % size = o' + j by rw [Nat.add_assoc, Nat.mul_comm, Nat.div_add_mod]] at hcell
      rw [hcell]
      unfold flatC at hj
      rw [List.getElem?_map, List.getElem?_range hlt] at hj
      exact hj
    · unfold flatC at hu
      obtain ⟨q, -, rfl⟩ := List.mem_map.1 hu
      exact h1 _ _
/-- the leaf. -/
def leafK (k : Int) : PD := ⟨0, false, 1, slOf [23], slOf [], slOf [], k, ⟨#[]⟩, slOf [], slOf []⟩
def leafPV (gl : Nat) (k : Int) : PV := ⟨leafK k, .slice (some ⟨gl, 0, none⟩) 1 1, .slice none 0 0, .slice none 0 0, .slice none 0 0, .slice none 0 0⟩
def leafC (gl : Nat) (k : Int) : List Value := [.int .i64 0, .bool false, .int .i64 1, .slice (some ⟨gl, 0, none⟩) 1 1, .slice none 0 0, .slice none 0 0, .int .i64 k, .string ⟨#[]⟩, .slice none 0 0, .slice none 0 0]
theorem leaf_proto {y : World} {gl : Nat} {av : Nat → Prop} (h : RowL y gl 51 [.int .u32 23]) (hav : av gl) (k : Int) : IsProto av y (leafPV gl k).a3 (leafPV gl k).a4 (leafPV gl k).a5 (leafPV gl k).a8 (leafPV gl k).a9 (leafPV gl k).p := by
  have e0 : ∀ z C, IsArr av y (.slice none 0 0) z 0 C := fun z C => ⟨none, 0, rfl, by omega, fun h => absurd h (by omega)⟩
  refine ⟨⟨_, _, rfl, by show 1 ≤ _; omega, fun _ => ⟨gl, 0, rfl, hav, fun i hi j hj => ?_⟩⟩, ⟨e0 _ _, fun i hi => absurd hi (by show ¬ i < 0; omega)⟩, e0 _ _, e0 _ _, ⟨e0 _ _, fun i hi => absurd hi (by show ¬ i < 0; omega)⟩, by show 0 ≤ _; omega⟩
  have hi' : i < 1 := hi
  obtain rfl : i = 0 := by omega
  obtain rfl : j = 0 := by omega
  exact h.cell 0 rfl
/-- while leaves are put one behind the other. -/
structure ChI (w : World) (lo Bch Bl gl : Nat) (L : List PV) (kk : Int) (vch : Value) (y : World) : Prop where
  br : RowL y (w.heap.size + 1) 25 [.slice none 0 0]
  bc : RowL y Bch 25 [vch]
  lf : RowL y Bl 35 (leafC gl kk)
  lc : RowL y gl 51 [.int .u32 23]
  row : y.ownsRow lo 35 10 vch L.length (pvCells L)
  bel : Below w.heap.size w y
  h1 : w.heap.size + 1 < gl
  h2 : gl < Bl
  h3 : Bl < lo
  h4 : Bl < Bch
section
variable {w : World} {lo Bch Bl gl : Nat} {L : List PV} {kk : Int} {vch v' : Value} {y w' : World}
theorem ChI.kids (h : ChI w lo Bch Bl gl L kk vch y) (k : Int) : ChI w lo Bch Bl gl L k vch (y.setCell ⟨Bl, 6, none⟩ (.int .i64 k)) := by
  have a1 := h.h1
  have a2 := h.h2
  have a3 := h.h3
  have a4 := h.h4
  refine ⟨h.br.other (a := ⟨Bl, 6, none⟩) (by show w.heap.size + 1 ≠ Bl; omega) _, h.bc.other (a := ⟨Bl, 6, none⟩) (by show Bch ≠ Bl; omega) _, h.lf.set 6 _, h.lc.other (a := ⟨Bl, 6, none⟩) (by show gl ≠ Bl; omega) _, ?_, h.bel.setCell (p := ⟨Bl, 6, none⟩) (by show w.heap.size ≤ Bl; omega) _, a1, a2, a3, a4⟩
  exact own_keep h.row fun k hk => Below.heap_setCell _ _ _ _ (by have := (h.row.lt k hk).1; show k ≠ Bl; omega)
theorem ChI.alloc (h : ChI w lo Bch Bl gl L kk vch y) (o : Obj) : ChI w lo Bch Bl gl L kk vch (y.alloc o) :=
  ⟨h.br.alloc o, h.bc.alloc o, h.lf.alloc o, h.lc.alloc o, h.row.alloc o, h.bel.alloc h.bel.size o, h.h1, h.h2, h.h3, h.h4⟩
theorem ChI.app (h : ChI w lo Bch Bl gl L kk vch y) (hrow : w'.ownsRow lo 35 10 v' (L.length + 1) (pvCells L ++ leafC gl kk)) (hg : y.grownBy w' vch.ownBlock) :
    ChI w lo Bch Bl gl (L ++ [leafPV gl kk]) kk v' (w'.setCell ⟨Bch, 0, none⟩ v') ∧ RowL w' Bch 25 [vch] := by
  have a1 := h.h1
  have a2 := h.h2
  have a3 := h.h3
  have a4 := h.h4
  have hlt := h.row.lt
  have n2 := own_ne_row h.row h.bc (by decide)
  have k1 : ∀ k, k < lo → k < y.heap.size → w'.heap[k]? = y.heap[k]? := fun k h1 h2 => hg.block k h2 fun e => by have := (hlt k e.symm).1; omega
  have c2 : RowL w' Bch 25 [vch] := World.rowIs.of_block h.bc (hg.block _ h.bc.lt fun e => n2 e.symm)
  have n4 := own_ne_row hrow c2 (by decide)
  have b1 : RowL w' (w.heap.size + 1) 25 _ := World.rowIs.of_block h.br (k1 _ (by omega) h.br.lt)
  have b3 : RowL w' Bl 35 _ := World.rowIs.of_block h.lf (k1 _ (by omega) h.lf.lt)
  have b4 : RowL w' gl 51 _ := World.rowIs.of_block h.lc (k1 _ (by omega) h.lc.lt)
  refine ⟨⟨b1.other (a := ⟨Bch, 0, none⟩) (by show w.heap.size + 1 ≠ Bch; omega) _, c2.set 0 _, b3.other (a := ⟨Bch, 0, none⟩) (by show Bl ≠ Bch; omega) _, b4.other (a := ⟨Bch, 0, none⟩) (by show gl ≠ Bch; omega) _, ?_, ?_, a1, a2, a3, a4⟩, c2⟩
  · rw [List.length_append, pvCells_append]
    have e : pvCells [leafPV gl kk] = leafC gl kk := by simp [pvCells, leafPV, PV.cells, leafC, leafK]
    rw [e]
    exact own_keep hrow fun k hk => Below.heap_setCell _ _ _ _ (by rintro rfl; exact n4 hk)
  · exact (Below.grown h.bel hg h.bel.size (fun q hq => by have := (hlt q hq).1; omega)).setCell (p := ⟨Bch, 0, none⟩) (by show w.heap.size ≤ Bch; omega) _
/-- the chunk of leaves answered. -/
theorem ChI.fin (h : ChI w lo Bch Bl gl L kk vch y) {PS' : List PD} (hp : L.map PV.p = PS') (hL : ∀ x ∈ L, ∃ k, x = leafPV gl k) :
    Below w.heap.size w (y.setCell ⟨w.heap.size + 1, 0, none⟩ vch) ∧ IsProtos (fun b => w.heap.size ≤ b ∧ b < (y.setCell ⟨w.heap.size + 1, 0, none⟩ vch).heap.size) (y.setCell ⟨w.heap.size + 1, 0, none⟩ vch) vch (slOf PS') := by
  have a1 := h.h1
  have a2 := h.h2
  have a3 := h.h3
  have a4 := h.h4
  have hlt := h.row.lt
  refine ⟨h.bel.setCell (p := ⟨w.heap.size + 1, 0, none⟩) (by show w.heap.size ≤ w.heap.size + 1; omega) _, ?_⟩
  rw [← hp]
  have hrow := own_keep (y' := y.setCell ⟨w.heap.size + 1, 0, none⟩ vch) h.row fun k hk => Below.heap_setCell _ _ _ _ (by have := (hlt k hk).1; show k ≠ w.heap.size + 1; omega)
  refine protos_of_row hrow (fun b hb => by rw [World.size_setCell]; have := hlt b hb; exact ⟨by omega, this.2⟩) (fun x hx => ?_)
  obtain ⟨k, rfl⟩ := hL x hx
  exact leaf_proto (h.lc.other (a := ⟨w.heap.size + 1, 0, none⟩) (by show gl ≠ w.heap.size + 1; omega) _) (by rw [World.size_setCell]; exact ⟨by omega, h.lc.lt⟩) k
end
end Go.Proofs.Ytlkmohhkhcbiaaa
