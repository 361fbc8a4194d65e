import Derived.Test.YtplijnfaiofckaaGreatDoorGs
import Derived.Test.YtplijnfaiofckaaGreatDoorHb
import Derived.Test.YtplijnfaiofckaaGreatDoorHc
import Derived.Test.YtplijnfaiofckaaGreatDoorHd
import Derived.Test.YtplijnfaiofckaaGreatDoorGp
namespace Go.Proofs.YtplijnfaiofckaaGreatDoor
open Go.RowKit Go.Shelf
set_option linter.unusedVariables false
set_option linter.unusedSimpArgs false
def lastP (sv : Value) (n : Nat) : Value := match n, sv with
 | n + 1, .slice (some a) _ _ => .pointer (some ⟨a.block, n * 10, none⟩)
 | _, _ => .pointer none
structure Mw (w : World) (B mB xB pB : Nat) (sv : Value) (Q : List PVa) : Prop where
 made : RowL w mB 25 [sv]
 mp : RowL w xB 70 [.pointer (some ⟨mB, 0, none⟩)]
 p : RowL w pB 85 [lastP sv Q.length]
 mem : Mk w B sv Q
 rg : Rgs B w.heap.size sv.ownBlock Q
 l1 : mB < B
 l2 : xB < B
 l3 : pB < B
 n1 : mB ≠ pB
structure Chg (w w' : World) (mB pB : Nat) (sv : Value) (Q : List PVa) : Prop where
 os : w'.os = w.os
 tape : w'.tape = w.tape
 output : w'.output = w.output
 size : w.heap.size ≤ w'.heap.size
 block : ∀ k, k < w.heap.size → k ≠ mB → k ≠ pB → some k ∉ sv.ownBlock :: Q.flatMap PVa.blks → w'.heap[k]? = w.heap[k]?
theorem Chg.of_below {w w' : World} {mB pB : Nat} {sv : Value} {Q : List PVa} (h : Below w.heap.size w w') : Chg w w' mB pB sv Q := ⟨h.os, h.tape, h.output, h.size, fun k hk _ _ _ => h.block k hk⟩
theorem Chg.pre {w w1 w' : World} {mB pB : Nat} {sv : Value} {Q : List PVa} (h : Below w.heap.size w w1) (k : Chg w1 w' mB pB sv Q) : Chg w w' mB pB sv Q :=
 ⟨k.os.trans h.os, k.tape.trans h.tape, k.output.trans h.output, Nat.le_trans h.size k.size, fun i hi h1 h2 h3 => (k.block i (Nat.lt_of_lt_of_le hi h.size) h1 h2 h3).trans (h.block i hi)⟩
def Foot (w : World) (sv : Value) (Q : List PVa) (sv' : Value) (Q' : List PVa) : Prop := ∀ k, some k ∈ sv'.ownBlock :: Q'.flatMap PVa.blks → some k ∈ sv.ownBlock :: Q.flatMap PVa.blks ∨ w.heap.size ≤ k
theorem Mw.later {w w' : World} {B mB xB pB : Nat} {sv : Value} {Q : List PVa} (h : Mw w B mB xB pB sv Q) (hb : Below w.heap.size w w') : Mw w' B mB xB pB sv Q :=
 ⟨h.made.call hb, h.mp.call hb, h.p.call hb, h.mem.later hb, h.rg.up hb.size, h.l1, h.l2, h.l3, h.n1⟩
theorem grown_pre {w w0 w1 : World} {ch : Option Nat} (hb : Below w.heap.size w w0) (hg : w0.grownBy w1 ch) : w.grownBy w1 ch :=
 ⟨hg.os.trans hb.os, hg.tape.trans hb.tape, hg.output.trans hb.output, Nat.le_trans hb.size hg.size, fun k hk hne => (hg.block k (Nat.lt_of_lt_of_le hk hb.size) hne).trans (hb.block k hk)⟩
theorem Mw.word {w w0 w1 : World} {B mB xB pB : Nat} {K : List PVa} {q : PVa} {x : Int} {g cap g9 c9 : Nat} (h : Mw w B mB xB pB (.slice (some ⟨g, 0, none⟩) (K.length + 1) cap) (K ++ [q])) (hb : Below w.heap.size w w0) (hg : w0.grownBy w1 q.a3.ownBlock)
  (ho : w1.ownsRow B 101 1 (.slice (some ⟨g9, 0, none⟩) (q.p.code.n + 1) c9) (q.p.code.n + 1) (codeC q.p.code ++ [.int .u32 x])) (hat : q.a3.ownBlock = some g9 ∨ g9 = w0.heap.size) (hlt : g9 < w1.heap.size) :
  Mw (w1.setCell ⟨g, K.length * 10 + 3, none⟩ (.slice (some ⟨g9, 0, none⟩) (q.p.code.n + 1) c9)) B mB xB pB (.slice (some ⟨g, 0, none⟩) (K.length + 1) cap) (K ++ [⟨q.p.addWord x, .slice (some ⟨g9, 0, none⟩) (q.p.code.n + 1) c9, q.a4, q.a5⟩]) ∧ Chg w (w1.setCell ⟨g, K.length * 10 + 3, none⟩ (.slice (some ⟨g9, 0, none⟩) (q.p.code.n + 1) c9)) mB pB (.slice (some ⟨g, 0, none⟩) (K.length + 1) cap) (K ++ [q]) ∧
   Foot w (.slice (some ⟨g, 0, none⟩) (K.length + 1) cap) (K ++ [q]) (.slice (some ⟨g, 0, none⟩) (K.length + 1) cap) (K ++ [⟨q.p.addWord x, .slice (some ⟨g9, 0, none⟩) (q.p.code.n + 1) c9, q.a4, q.a5⟩]) := by
 have hg' := grown_pre hb hg;have hq := h.mem.each q (by simp);have hch : ∀ k, q.a3.ownBlock = some k → k < w.heap.size ∧ B ≤ k := fun k hk => hq.lt k (by simp [PVa.blks, hk]);have hgB := (h.mem.blkLt g (by simp [Value.ownBlock]))
 have hat' : (Value.ownBlock (.slice (some ⟨g9, 0, none⟩) (q.p.code.n + 1) c9)) = q.a3.ownBlock ∨ ∃ k, (Value.ownBlock (.slice (some ⟨g9, 0, none⟩) (q.p.code.n + 1) c9)) = some k ∧ w.heap.size ≤ k := by
  rcases hat with e | e
  ·exact .inl e.symm
  ·exact .inr ⟨g9, rfl, by have := hb.size; omega⟩
 have hmk := h.mem.addWord hg' ho hat' (Stored.one w1 B q ⟨q.p.addWord x, .slice (some ⟨g9, 0, none⟩) (q.p.code.n + 1) c9, q.a4, q.a5⟩ rfl 3 (.slice (some ⟨g9, 0, none⟩) (q.p.code.n + 1) c9) rfl);have hsz : (w1.setCell ⟨g, K.length * 10 + 3, none⟩ (.slice (some ⟨g9, 0, none⟩) (q.p.code.n + 1) c9)).heap.size = w1.heap.size := World.size_setCell _ _ _
 have hkeep : ∀ k, k < w.heap.size → k ≠ g → q.a3.ownBlock ≠ some k → (w1.setCell ⟨g, K.length * 10 + 3, none⟩ (.slice (some ⟨g9, 0, none⟩) (q.p.code.n + 1) c9)).heap[k]? = w.heap[k]? := fun k hk h1 h2 =>
  (heap_setCell_other w1 ⟨g, K.length * 10 + 3, none⟩ k (.slice (some ⟨g9, 0, none⟩) (q.p.code.n + 1) c9) (fun e => h1 e)).trans (hg'.block k hk (fun e => h2 e.symm))
 have hlow : ∀ k, k < B → k < w.heap.size → (w1.setCell ⟨g, K.length * 10 + 3, none⟩ (.slice (some ⟨g9, 0, none⟩) (q.p.code.n + 1) c9)).heap[k]? = w.heap[k]? := fun k hk hk2 => hkeep k hk2 (by omega) (fun e => by have := hch k e; omega)
 have hbl : ∀ k, some k ∈ PVa.blks ⟨q.p.addWord x, .slice (some ⟨g9, 0, none⟩) (q.p.code.n + 1) c9, q.a4, q.a5⟩ → some k ∈ q.blks ∨ k = g9 := fun k hk => by
  simp only [PVa.blks, List.mem_cons, List.not_mem_nil, or_false, Value.ownBlock, Option.some.injEq] at hk ⊢;rcases hk with e | e | e
  ·exact .inr e
  ·exact .inl (by simp [e])
  ·exact .inl (by simp [e])
 refine ⟨⟨World.rowIs.of_block h.made (hlow _ h.l1 h.made.lt), World.rowIs.of_block h.mp (hlow _ h.l2 h.mp.lt), ?_, hmk, ?_, h.l1, h.l2, h.l3, h.n1⟩, ⟨hg'.os, hg'.tape, hg'.output, by rw [hsz]; exact hg'.size, fun k hk h1 h2 h3 => ?_⟩, fun k hk => ?_⟩
 ·have := World.rowIs.of_block h.p (hlow _ h.l3 h.p.lt);have e : (K ++ [(⟨q.p.addWord x, .slice (some ⟨g9, 0, none⟩) (q.p.code.n + 1) c9, q.a4, q.a5⟩ : PVa)]).length = (K ++ [q]).length := by simp
  show RowL _ _ _ [lastP _ (K ++ [(⟨q.p.addWord x, .slice (some ⟨g9, 0, none⟩) (q.p.code.n + 1) c9, q.a4, q.a5⟩ : PVa)]).length];rw [e];exact this
 ·rw [hsz];refine h.rg.last hg'.size fun k hk => ?_;rcases hbl k hk with e | rfl
  ·exact .inl e
  ·rcases hat with e | e
   ·exact .inl (by simp [PVa.blks, e])
   ·exact .inr ⟨by have := hb.size; omega, hlt⟩
 ·refine hkeep k hk (fun e => h3 (by simp [Value.ownBlock, e])) (fun e => h3 ?_);simp [List.flatMap_append, PVa.blks, e]
 ·rcases List.mem_cons.1 hk with e | hk
  ·exact .inl (by rw [e]; exact List.mem_cons_self ..)
  ·rw [List.flatMap_append] at hk;rcases List.mem_append.1 hk with hk | hk
   ·exact .inl (List.mem_cons_of_mem _ (by rw [List.flatMap_append]; exact List.mem_append_left _ hk))
   ·have hk' : some k ∈ PVa.blks ⟨q.p.addWord x, .slice (some ⟨g9, 0, none⟩) (q.p.code.n + 1) c9, q.a4, q.a5⟩ := by simpa using hk
    rcases hbl k hk' with e | rfl
    ·exact .inl (List.mem_cons_of_mem _ (by rw [List.flatMap_append]; exact List.mem_append_right _ (by simpa using e)))
    ·rcases hat with e | e
     ·exact .inl (List.mem_cons_of_mem _ (by rw [List.flatMap_append]; exact List.mem_append_right _ (by simp [PVa.blks, e])))
     ·exact .inr (by have := hb.size; omega)
theorem Mw.const {w w0 w1 : World} {B mB xB pB : Nat} {K : List PVa} {q : PVa} {d : VD} {g cap g9 c9 : Nat} (h : Mw w B mB xB pB (.slice (some ⟨g, 0, none⟩) (K.length + 1) cap) (K ++ [q])) (hb : Below w.heap.size w w0) (hg : w0.grownBy w1 q.a4.ownBlock)
  (ho : w1.ownsRow B 96 3 (.slice (some ⟨g9, 0, none⟩) (q.p.consts.n + 1) c9) (q.p.consts.n + 1) (valC q.p.consts ++ [.int .i64 d.kind, .int .i64 d.num, .string d.text])) (hat : q.a4.ownBlock = some g9 ∨ g9 = w0.heap.size) (hlt : g9 < w1.heap.size) (ht : d.text.size ≤ 9223372036854775807) :
  Mw (w1.setCell ⟨g, K.length * 10 + 4, none⟩ (.slice (some ⟨g9, 0, none⟩) (q.p.consts.n + 1) c9)) B mB xB pB (.slice (some ⟨g, 0, none⟩) (K.length + 1) cap) (K ++ [⟨q.p.addConst d, q.a3, .slice (some ⟨g9, 0, none⟩) (q.p.consts.n + 1) c9, q.a5⟩]) ∧ Chg w (w1.setCell ⟨g, K.length * 10 + 4, none⟩ (.slice (some ⟨g9, 0, none⟩) (q.p.consts.n + 1) c9)) mB pB (.slice (some ⟨g, 0, none⟩) (K.length + 1) cap) (K ++ [q]) ∧
   Foot w (.slice (some ⟨g, 0, none⟩) (K.length + 1) cap) (K ++ [q]) (.slice (some ⟨g, 0, none⟩) (K.length + 1) cap) (K ++ [⟨q.p.addConst d, q.a3, .slice (some ⟨g9, 0, none⟩) (q.p.consts.n + 1) c9, q.a5⟩]) := by
 have hg' := grown_pre hb hg;have hq := h.mem.each q (by simp);have hch : ∀ k, q.a4.ownBlock = some k → k < w.heap.size ∧ B ≤ k := fun k hk => hq.lt k (by simp [PVa.blks, hk]);have hgB := (h.mem.blkLt g (by simp [Value.ownBlock]))
 have hat' : (Value.ownBlock (.slice (some ⟨g9, 0, none⟩) (q.p.consts.n + 1) c9)) = q.a4.ownBlock ∨ ∃ k, (Value.ownBlock (.slice (some ⟨g9, 0, none⟩) (q.p.consts.n + 1) c9)) = some k ∧ w.heap.size ≤ k := by
  rcases hat with e | e
  ·exact .inl e.symm
  ·exact .inr ⟨g9, rfl, by have := hb.size; omega⟩
 have hmk := h.mem.addConst hg' ho hat' ht (Stored.one w1 B q ⟨q.p.addConst d, q.a3, .slice (some ⟨g9, 0, none⟩) (q.p.consts.n + 1) c9, q.a5⟩ rfl 4 (.slice (some ⟨g9, 0, none⟩) (q.p.consts.n + 1) c9) rfl);have hsz : (w1.setCell ⟨g, K.length * 10 + 4, none⟩ (.slice (some ⟨g9, 0, none⟩) (q.p.consts.n + 1) c9)).heap.size = w1.heap.size := World.size_setCell _ _ _
 have hkeep : ∀ k, k < w.heap.size → k ≠ g → q.a4.ownBlock ≠ some k → (w1.setCell ⟨g, K.length * 10 + 4, none⟩ (.slice (some ⟨g9, 0, none⟩) (q.p.consts.n + 1) c9)).heap[k]? = w.heap[k]? := fun k hk h1 h2 =>
  (heap_setCell_other w1 ⟨g, K.length * 10 + 4, none⟩ k (.slice (some ⟨g9, 0, none⟩) (q.p.consts.n + 1) c9) (fun e => h1 e)).trans (hg'.block k hk (fun e => h2 e.symm))
 have hlow : ∀ k, k < B → k < w.heap.size → (w1.setCell ⟨g, K.length * 10 + 4, none⟩ (.slice (some ⟨g9, 0, none⟩) (q.p.consts.n + 1) c9)).heap[k]? = w.heap[k]? := fun k hk hk2 => hkeep k hk2 (by omega) (fun e => by have := hch k e; omega)
 have hbl : ∀ k, some k ∈ PVa.blks ⟨q.p.addConst d, q.a3, .slice (some ⟨g9, 0, none⟩) (q.p.consts.n + 1) c9, q.a5⟩ → some k ∈ q.blks ∨ k = g9 := fun k hk => by
  simp only [PVa.blks, List.mem_cons, List.not_mem_nil, or_false, Value.ownBlock, Option.some.injEq] at hk ⊢;rcases hk with e | e | e
  ·exact .inl (by simp [e])
  ·exact .inr e
  ·exact .inl (by simp [e])
 refine ⟨⟨World.rowIs.of_block h.made (hlow _ h.l1 h.made.lt), World.rowIs.of_block h.mp (hlow _ h.l2 h.mp.lt), ?_, hmk, ?_, h.l1, h.l2, h.l3, h.n1⟩, ⟨hg'.os, hg'.tape, hg'.output, by rw [hsz]; exact hg'.size, fun k hk h1 h2 h3 => ?_⟩, fun k hk => ?_⟩
 ·have := World.rowIs.of_block h.p (hlow _ h.l3 h.p.lt);have e : (K ++ [(⟨q.p.addConst d, q.a3, .slice (some ⟨g9, 0, none⟩) (q.p.consts.n + 1) c9, q.a5⟩ : PVa)]).length = (K ++ [q]).length := by simp
  show RowL _ _ _ [lastP _ (K ++ [(⟨q.p.addConst d, q.a3, .slice (some ⟨g9, 0, none⟩) (q.p.consts.n + 1) c9, q.a5⟩ : PVa)]).length];rw [e];exact this
 ·rw [hsz];refine h.rg.last hg'.size fun k hk => ?_;rcases hbl k hk with e | rfl
  ·exact .inl e
  ·rcases hat with e | e
   ·exact .inl (by simp [PVa.blks, e])
   ·exact .inr ⟨by have := hb.size; omega, hlt⟩
 ·refine hkeep k hk (fun e => h3 (by simp [Value.ownBlock, e])) (fun e => h3 ?_);simp [List.flatMap_append, PVa.blks, e]
 ·rcases List.mem_cons.1 hk with e | hk
  ·exact .inl (by rw [e]; exact List.mem_cons_self ..)
  ·rw [List.flatMap_append] at hk;rcases List.mem_append.1 hk with hk | hk
   ·exact .inl (List.mem_cons_of_mem _ (by rw [List.flatMap_append]; exact List.mem_append_left _ hk))
   ·have hk' : some k ∈ PVa.blks ⟨q.p.addConst d, q.a3, .slice (some ⟨g9, 0, none⟩) (q.p.consts.n + 1) c9, q.a5⟩ := by simpa using hk
    rcases hbl k hk' with e | rfl
    ·exact .inl (List.mem_cons_of_mem _ (by rw [List.flatMap_append]; exact List.mem_append_right _ (by simpa using e)))
    ·rcases hat with e | e
     ·exact .inl (List.mem_cons_of_mem _ (by rw [List.flatMap_append]; exact List.mem_append_right _ (by simp [PVa.blks, e])))
     ·exact .inr (by have := hb.size; omega)
theorem Mw.up {w w0 w1 : World} {B mB xB pB : Nat} {K : List PVa} {q : PVa} {u : UD} {g cap g9 c9 : Nat} (h : Mw w B mB xB pB (.slice (some ⟨g, 0, none⟩) (K.length + 1) cap) (K ++ [q])) (hb : Below w.heap.size w w0) (hg : w0.grownBy w1 q.a5.ownBlock)
  (ho : w1.ownsRow B 99 2 (.slice (some ⟨g9, 0, none⟩) (q.p.ups.n + 1) c9) (q.p.ups.n + 1) (upC q.p.ups ++ [.bool u.stack, .int .i64 u.index])) (hat : q.a5.ownBlock = some g9 ∨ g9 = w0.heap.size) (hlt : g9 < w1.heap.size) :
  Mw (w1.setCell ⟨g, K.length * 10 + 5, none⟩ (.slice (some ⟨g9, 0, none⟩) (q.p.ups.n + 1) c9)) B mB xB pB (.slice (some ⟨g, 0, none⟩) (K.length + 1) cap) (K ++ [⟨q.p.addUp u, q.a3, q.a4, .slice (some ⟨g9, 0, none⟩) (q.p.ups.n + 1) c9⟩]) ∧ Chg w (w1.setCell ⟨g, K.length * 10 + 5, none⟩ (.slice (some ⟨g9, 0, none⟩) (q.p.ups.n + 1) c9)) mB pB (.slice (some ⟨g, 0, none⟩) (K.length + 1) cap) (K ++ [q]) ∧
   Foot w (.slice (some ⟨g, 0, none⟩) (K.length + 1) cap) (K ++ [q]) (.slice (some ⟨g, 0, none⟩) (K.length + 1) cap) (K ++ [⟨q.p.addUp u, q.a3, q.a4, .slice (some ⟨g9, 0, none⟩) (q.p.ups.n + 1) c9⟩]) := by
 have hg' := grown_pre hb hg;have hq := h.mem.each q (by simp);have hch : ∀ k, q.a5.ownBlock = some k → k < w.heap.size ∧ B ≤ k := fun k hk => hq.lt k (by simp [PVa.blks, hk]);have hgB := (h.mem.blkLt g (by simp [Value.ownBlock]))
 have hat' : (Value.ownBlock (.slice (some ⟨g9, 0, none⟩) (q.p.ups.n + 1) c9)) = q.a5.ownBlock ∨ ∃ k, (Value.ownBlock (.slice (some ⟨g9, 0, none⟩) (q.p.ups.n + 1) c9)) = some k ∧ w.heap.size ≤ k := by
  rcases hat with e | e
  ·exact .inl e.symm
  ·exact .inr ⟨g9, rfl, by have := hb.size; omega⟩
 have hmk := h.mem.addUp hg' ho hat' (Stored.one w1 B q ⟨q.p.addUp u, q.a3, q.a4, .slice (some ⟨g9, 0, none⟩) (q.p.ups.n + 1) c9⟩ rfl 5 (.slice (some ⟨g9, 0, none⟩) (q.p.ups.n + 1) c9) rfl);have hsz : (w1.setCell ⟨g, K.length * 10 + 5, none⟩ (.slice (some ⟨g9, 0, none⟩) (q.p.ups.n + 1) c9)).heap.size = w1.heap.size := World.size_setCell _ _ _
 have hkeep : ∀ k, k < w.heap.size → k ≠ g → q.a5.ownBlock ≠ some k → (w1.setCell ⟨g, K.length * 10 + 5, none⟩ (.slice (some ⟨g9, 0, none⟩) (q.p.ups.n + 1) c9)).heap[k]? = w.heap[k]? := fun k hk h1 h2 =>
  (heap_setCell_other w1 ⟨g, K.length * 10 + 5, none⟩ k (.slice (some ⟨g9, 0, none⟩) (q.p.ups.n + 1) c9) (fun e => h1 e)).trans (hg'.block k hk (fun e => h2 e.symm))
 have hlow : ∀ k, k < B → k < w.heap.size → (w1.setCell ⟨g, K.length * 10 + 5, none⟩ (.slice (some ⟨g9, 0, none⟩) (q.p.ups.n + 1) c9)).heap[k]? = w.heap[k]? := fun k hk hk2 => hkeep k hk2 (by omega) (fun e => by have := hch k e; omega)
 have hbl : ∀ k, some k ∈ PVa.blks ⟨q.p.addUp u, q.a3, q.a4, .slice (some ⟨g9, 0, none⟩) (q.p.ups.n + 1) c9⟩ → some k ∈ q.blks ∨ k = g9 := fun k hk => by
  simp only [PVa.blks, List.mem_cons, List.not_mem_nil, or_false, Value.ownBlock, Option.some.injEq] at hk ⊢;rcases hk with e | e | e
  ·exact .inl (by simp [e])
  ·exact .inl (by simp [e])
  ·exact .inr e
 refine ⟨⟨World.rowIs.of_block h.made (hlow _ h.l1 h.made.lt), World.rowIs.of_block h.mp (hlow _ h.l2 h.mp.lt), ?_, hmk, ?_, h.l1, h.l2, h.l3, h.n1⟩, ⟨hg'.os, hg'.tape, hg'.output, by rw [hsz]; exact hg'.size, fun k hk h1 h2 h3 => ?_⟩, fun k hk => ?_⟩
 ·have := World.rowIs.of_block h.p (hlow _ h.l3 h.p.lt);have e : (K ++ [(⟨q.p.addUp u, q.a3, q.a4, .slice (some ⟨g9, 0, none⟩) (q.p.ups.n + 1) c9⟩ : PVa)]).length = (K ++ [q]).length := by simp
  show RowL _ _ _ [lastP _ (K ++ [(⟨q.p.addUp u, q.a3, q.a4, .slice (some ⟨g9, 0, none⟩) (q.p.ups.n + 1) c9⟩ : PVa)]).length];rw [e];exact this
 ·rw [hsz];refine h.rg.last hg'.size fun k hk => ?_;rcases hbl k hk with e | rfl
  ·exact .inl e
  ·rcases hat with e | e
   ·exact .inl (by simp [PVa.blks, e])
   ·exact .inr ⟨by have := hb.size; omega, hlt⟩
 ·refine hkeep k hk (fun e => h3 (by simp [Value.ownBlock, e])) (fun e => h3 ?_);simp [List.flatMap_append, PVa.blks, e]
 ·rcases List.mem_cons.1 hk with e | hk
  ·exact .inl (by rw [e]; exact List.mem_cons_self ..)
  ·rw [List.flatMap_append] at hk;rcases List.mem_append.1 hk with hk | hk
   ·exact .inl (List.mem_cons_of_mem _ (by rw [List.flatMap_append]; exact List.mem_append_left _ hk))
   ·have hk' : some k ∈ PVa.blks ⟨q.p.addUp u, q.a3, q.a4, .slice (some ⟨g9, 0, none⟩) (q.p.ups.n + 1) c9⟩ := by simpa using hk
    rcases hbl k hk' with e | rfl
    ·exact .inl (List.mem_cons_of_mem _ (by rw [List.flatMap_append]; exact List.mem_append_right _ (by simpa using e)))
    ·rcases hat with e | e
     ·exact .inl (List.mem_cons_of_mem _ (by rw [List.flatMap_append]; exact List.mem_append_right _ (by simp [PVa.blks, e])))
     ·exact .inr (by have := hb.size; omega)
theorem Mw.head {w w0 w1 : World} {B mB xB pB : Nat} {sv : Value} {Q : List PVa} {a b c : Int} {v : Bool} {g9 c9 : Nat} (h : Mw w B mB xB pB sv Q) (hb : Below w.heap.size w w0) (hg : w0.grownBy w1 sv.ownBlock)
  (ho : w1.ownsRow B 63 10 (.slice (some ⟨g9, 0, none⟩) (Q.length + 1) c9) (Q.length + 1) (Q.flatMap PVa.cells ++ PVa.cells ⟨bareP a b c v, .slice none 0 0, .slice none 0 0, .slice none 0 0⟩)) (hat : sv.ownBlock = some g9 ∨ g9 = w0.heap.size) (hlt : g9 < w1.heap.size) :
  Mw ((w1.setCell ⟨mB, 0, none⟩ (.slice (some ⟨g9, 0, none⟩) (Q.length + 1) c9)).setCell ⟨pB, 0, none⟩ (.pointer (some ⟨g9, Q.length * 10, none⟩))) B mB xB pB (.slice (some ⟨g9, 0, none⟩) (Q.length + 1) c9) (Q ++ [⟨bareP a b c v, .slice none 0 0, .slice none 0 0, .slice none 0 0⟩]) ∧
   Chg w ((w1.setCell ⟨mB, 0, none⟩ (.slice (some ⟨g9, 0, none⟩) (Q.length + 1) c9)).setCell ⟨pB, 0, none⟩ (.pointer (some ⟨g9, Q.length * 10, none⟩))) mB pB sv Q ∧
   Foot w sv Q (.slice (some ⟨g9, 0, none⟩) (Q.length + 1) c9) (Q ++ [⟨bareP a b c v, .slice none 0 0, .slice none 0 0, .slice none 0 0⟩]) := by
 obtain ⟨q, hqe⟩ : ∃ q : PVa, q = ⟨bareP a b c v, .slice none 0 0, .slice none 0 0, .slice none 0 0⟩ := ⟨_, rfl⟩;rw [← hqe] at ho ⊢;have hqb : ∀ x ∈ q.blks, x = none := by subst hqe; intro x hx; simpa [PVa.blks, Value.ownBlock] using hx
 have hg' := grown_pre hb hg
 have hat' : (Value.ownBlock (.slice (some ⟨g9, 0, none⟩) (Q.length + 1) c9)) = sv.ownBlock ∨ ∃ k, (Value.ownBlock (.slice (some ⟨g9, 0, none⟩) (Q.length + 1) c9)) = some k ∧ w.heap.size ≤ k := by
  rcases hat with e | e
  ·exact .inl e.symm
  ·exact .inr ⟨g9, rfl, by have := hb.size; omega⟩
 have hmk : Mk w1 B (.slice (some ⟨g9, 0, none⟩) (Q.length + 1) c9) (Q ++ [q]) := h.mem.snoc ho hg' hat' hqb (by
  subst hqe;exact ⟨World.ownsRow_nil _ _ _ _, World.ownsRow_nil _ _ _ _, World.ownsRow_nil _ _ _ _, rfl, rfl, Nat.zero_le _, fun i hi => absurd hi (Nat.not_lt_zero _)⟩)
 generalize hw2 : w1.setCell ⟨mB, 0, none⟩ (.slice (some ⟨g9, 0, none⟩) (Q.length + 1) c9) = w2;generalize hw3 : w2.setCell ⟨pB, 0, none⟩ (.pointer (some ⟨g9, Q.length * 10, none⟩)) = w3;have h2 : ∀ k, k ≠ mB → w2.heap[k]? = w1.heap[k]? := fun k hk => by rw [← hw2]; exact heap_setCell_other w1 ⟨mB, 0, none⟩ k _ hk
 have h3 : ∀ k, k ≠ pB → w3.heap[k]? = w2.heap[k]? := fun k hk => by rw [← hw3]; exact heap_setCell_other w2 ⟨pB, 0, none⟩ k _ hk
 have hsz : w3.heap.size = w1.heap.size := by rw [← hw3, ← hw2, World.size_setCell, World.size_setCell]
 have e1 : w2.os = w1.os ∧ w2.tape = w1.tape ∧ w2.output = w1.output := by rw [← hw2]; exact ⟨rfl, rfl, rfl⟩
 have e2 : w3.os = w2.os ∧ w3.tape = w2.tape ∧ w3.output = w2.output := by rw [← hw3]; exact ⟨rfl, rfl, rfl⟩
 have hsb : ∀ k, sv.ownBlock = some k → k < w.heap.size ∧ B ≤ k := fun k hk => qe0 h.mem.row k hk;have hlow : ∀ k, k < B → k < w.heap.size → w1.heap[k]? = w.heap[k]? := fun k hk hk2 => hg'.block k hk2 (fun e => by have := hsb k e.symm; omega);have m1 : RowL w1 mB 25 [sv] := World.rowIs.of_block h.made (hlow _ h.l1 h.made.lt);have p1 : RowL w1 pB 85 [lastP sv Q.length] := World.rowIs.of_block h.p (hlow _ h.l3 h.p.lt);have x1 : RowL w1 xB 70 [.pointer (some ⟨mB, 0, none⟩)] := World.rowIs.of_block h.mp (hlow _ h.l2 h.mp.lt)
 have hne : ∀ {t t' : TypeId} {L L' : List Value} {x y : Nat}, RowL w1 x t L → RowL w1 y t' L' → t ≠ t' → x ≠ y := fun hx hy ht e => by
  subst e;obtain ⟨c, hc, _⟩ := hx;obtain ⟨c', hc', _⟩ := hy;rw [hc] at hc';simp only [Option.some.injEq, Obj.cells.injEq] at hc';exact ht hc'.2.1
 have hxm : xB ≠ mB := hne x1 m1 (by decide);have hxp : xB ≠ pB := hne x1 p1 (by decide);have m2 : RowL w2 mB 25 [.slice (some ⟨g9, 0, none⟩) (Q.length + 1) c9] := by rw [← hw2]; exact m1.set 0 _
 have p2 : RowL w2 pB 85 [lastP sv Q.length] := World.rowIs.of_block p1 (h2 _ (Ne.symm h.n1));have p3 : RowL w3 pB 85 [.pointer (some ⟨g9, Q.length * 10, none⟩)] := by rw [← hw3]; exact p2.set 0 _
 refine ⟨⟨World.rowIs.of_block m2 (h3 _ h.n1), World.rowIs.of_block x1 ((h3 _ hxp).trans (h2 _ hxm)), ?_, hmk.keep fun k hk hkB => (h3 k (by have := h.l3; omega)).trans (h2 k (by have := h.l1; omega)), ?_, h.l1, h.l2, h.l3, h.n1⟩,
  ⟨e2.1.trans (e1.1.trans hg'.os), e2.2.1.trans (e1.2.1.trans hg'.tape), e2.2.2.trans (e1.2.2.trans hg'.output), by rw [hsz]; exact hg'.size, fun k hk k1 k2 k3 => ?_⟩, fun k hk => ?_⟩
 ·have e : (Q ++ [q]).length = Q.length + 1 := by simp
  rw [e];exact p3
 ·rw [hsz];exact h.rg.head hg'.size hqb hat' (fun k e => by cases e; exact hlt)
 ·exact (h3 k k2).trans ((h2 k k1).trans (hg'.block k hk (fun e => k3 (by rw [← e]; exact List.mem_cons_self ..))))
 ·rcases List.mem_cons.1 hk with e | hk
  ·rcases hat' with e' | ⟨j, e', hj⟩
   ·exact .inl (by rw [e, e']; exact List.mem_cons_self ..)
   ·rw [e'] at e
    cases e
    exact .inr hj
  ·rw [List.flatMap_append] at hk;rcases List.mem_append.1 hk with hk | hk
   ·exact .inl (List.mem_cons_of_mem _ hk)
   ·have : some k ∈ q.blks := by simpa using hk
    exact absurd (hqb _ this) (by simp)
def ReadEnds (w : World) (B mB xB pB : Nat) (sv : Value) (Q : List PVa) (p0 : ByteArray) (r : List ByteArray) (e : Ending) (w' : World) : Prop :=
 ∃ (b : Bool) (R : Option (List PD)), e = .returned (.bool b) ∧ LStep (Q.map (·.p)) p0 r R ∧ (b = true → ∃ sv' Q', R = some (Q'.map (·.p)) ∧ Mw w' B mB xB pB sv' Q' ∧ Foot w sv Q sv' Q') ∧ (b = false → R = none) ∧ Chg w w' mB pB sv Q
end Go.Proofs.YtplijnfaiofckaaGreatDoor
namespace Go.Proofs.YtplijnfaiofckaaGreatDoor
open Go.RowKit Go.Shelf
set_option linter.unusedVariables false
set_option linter.unusedSimpArgs false
set_option maxRecDepth 100000
set_option maxHeartbeats 9000000
theorem infW32 : (Tryz.prog.info? 101).map (fun i => (i.zero, i.size, i.bytes)) = some (some (.int .u32 0), 1, 4) := by kernel_rfl
theorem infVal : (Tryz.prog.info? 96).map (fun i => (i.zero, i.size, i.bytes)) = some (some (.agg #[.int .i64 0, .int .i64 0, .string ⟨#[]⟩]), 3, 32) := by kernel_rfl
theorem infUp2 : (Tryz.prog.info? 99).map (fun i => (i.zero, i.size, i.bytes)) = some (some (.agg #[.bool false, .int .i64 0]), 2, 16) := by kernel_rfl
theorem addWord_no (x : Int) (w : World) (a : Value) : Calls Tryz.prog 63 #[.int .u32 x, .bool false, a] w fun e w' => e = .returned (.bool false) ∧ w = w' := by
 go_enter Tryz.func63, Tryz.ntmps63;go_wp2_with fail;exact bodyPost_ret (v := .bool false) (by simp [results, Tryz.results63, go_sem]) rfl ⟨rfl, rfl⟩
theorem addWord_nil (x : Int) (w : World) (pB : Nat) (hp : w.cell? ⟨pB, 0, none⟩ = some (.pointer none)) : Calls Tryz.prog 63 #[.int .u32 x, .bool true, .pointer (some ⟨pB, 0, none⟩)] w fun e w' => e = .returned (.bool false) ∧ w = w' := by
 go_enter Tryz.func63, Tryz.ntmps63;go_wp2_with fail;exact bodyPost_ret (v := .bool false) (by simp [results, Tryz.results63, go_sem]) rfl ⟨rfl, rfl⟩
theorem addWord_in (x : Int) (w : World) (B mB xB pB g cap : Nat) (K : List PVa) (q : PVa) (h : Mw w B mB xB pB (.slice (some ⟨g, 0, none⟩) (K.length + 1) cap) (K ++ [q])) (hK : K.length ≤ 100000) (hn : q.p.code.n ≤ 100000) :
  Calls Tryz.prog 63 #[.int .u32 x, .bool true, .pointer (some ⟨pB, 0, none⟩)] w fun e w' => e = .returned (.bool true) ∧ ∃ g9 c9, Mw w' B mB xB pB (.slice (some ⟨g, 0, none⟩) (K.length + 1) cap) (K ++ [⟨q.p.addWord x, .slice (some ⟨g9, 0, none⟩) (q.p.code.n + 1) c9, q.a4, q.a5⟩]) ∧ Chg w w' mB pB (.slice (some ⟨g, 0, none⟩) (K.length + 1) cap) (K ++ [q]) ∧ Foot w (.slice (some ⟨g, 0, none⟩) (K.length + 1) cap) (K ++ [q]) (.slice (some ⟨g, 0, none⟩) (K.length + 1) cap) (K ++ [⟨q.p.addWord x, .slice (some ⟨g9, 0, none⟩) (q.p.code.n + 1) c9, q.a4, q.a5⟩]) := by
 have hp0 : w.cell? ⟨pB, 0, none⟩ = some (.pointer (some ⟨g, K.length * 10, none⟩)) := by
  have := h.p.cell 0 rfl
  simpa [lastP] using this
 have hq := h.mem.each q (by simp);have hr0 : w.cell? ⟨g, K.length * 10 + 3, none⟩ = some q.a3 := h.mem.lastRange 3 q.a3 rfl;have hB : B ≤ w.heap.size := by have := h.rg.shut.choose_spec.base; exact this
 have hgl : g < w.heap.size := (h.mem.blkLt g (by simp [Value.ownBlock])).1;have hgB : B ≤ g := (h.mem.blkLt g (by simp [Value.ownBlock])).2;have hpl := h.p.lt;have hpB := h.l3
 have hfz : ∀ j, w.frozen? ⟨g, j, none⟩ = false := fun j => by
  have hr := h.mem.row;have e : (K ++ [q]).length = K.length + 1 := by simp
  rw [e] at hr;exact hr.frozenAt j
 have hne : q.a3.ownBlock ≠ some g := fun e => by
  have ha := h.mem.apart;rw [List.pairwise_cons] at ha;rcases ha.1 (some g) (by rw [List.flatMap_append]; exact List.mem_append_right _ (by simp [PVa.blks, e])) with e1 | e1
  ·cases e1
  ·exact e1 rfl
 have hch : ∀ k, q.a3.ownBlock = some k → k < w.heap.size ∧ B ≤ k := fun k hk => hq.lt k (by simp [PVa.blks, hk]);obtain ⟨i0, hi, hz0, hz1, hz2⟩ := info_parts infW32;have hend := hidR h;obtain ⟨N, hN⟩ : ∃ N, K.length = N := ⟨_, rfl⟩;rw [hN] at hp0 hr0;have hp1 := hp0;have hr1 := hr0;have hbw := hidR (Below.refl w.heap.size w);have hSk : Hid (∀ y : World, Below w.heap.size w y → (y.cell? ⟨pB, 0, none⟩ = some (.pointer (some ⟨g, N * 10, none⟩)))) := fun y hy => (hy.cell (p := ⟨pB, 0, none⟩) (show pB < w.heap.size by omega)).trans hp1;have hLk : Hid (∀ y : World, Below w.heap.size w y → y.cell? ⟨g, N * 10 + 3, none⟩ = some q.a3) := fun y hy => (hy.cell (p := ⟨g, N * 10 + 3, none⟩) (show g < w.heap.size by omega)).trans hr1;have hOk : Hid (∀ y : World, Below w.heap.size w y → y.ownsRow B 101 1 q.a3 q.p.code.n (codeC q.p.code)) := fun y hy => qc0 hq.code fun k hk => (hy.block k (by have := (hch k hk).1; have := hbw.out.size; omega)).trans (hbw.out.block k (hch k hk).1);have hSf : Hid (∀ y w1 : World, Below w.heap.size w y → y.grownBy w1 q.a3.ownBlock → (w1.cell? ⟨pB, 0, none⟩ = some (.pointer (some ⟨g, N * 10, none⟩)))) := fun y w1 hy hg => hg.cell (a := ⟨pB, 0, none⟩) (hSk.out y hy) (fun e => by have := hch pB e.symm; omega)
 have hCf : Hid (∀ y w1 : World, Below w.heap.size w y → y.grownBy w1 q.a3.ownBlock → (w1.cell? ⟨g, N * 10 + 3, none⟩ = some q.a3 ∧ w1.frozen? ⟨g, N * 10 + 3, none⟩ = false)) := fun y w1 hy hg => by
  have hb : w1.heap[g]? = w.heap[g]? := (hg.block g (by have := hy.size; omega) (fun e => hne e.symm)).trans ((hy.block g (by omega)).trans (hbw.out.block g hgl));exact ⟨(World.cell?_of_block (a := ⟨g, N * 10 + 3, none⟩) hb).trans hr0, (World.frozen?_of_block (a := ⟨g, N * 10 + 3, none⟩) hb).trans (hfz _)⟩
 have hSg : Hid (∀ (y w1 : World) (u : Value), Below w.heap.size w y → y.grownBy w1 q.a3.ownBlock → ((w1.setCell ⟨g, N * 10 + 3, none⟩ u).cell? ⟨pB, 0, none⟩ = some (.pointer (some ⟨g, N * 10, none⟩)))) := fun y w1 u hy hg => (World.cell?_of_block (a := ⟨pB, 0, none⟩) (heap_setCell_other w1 ⟨g, N * 10 + 3, none⟩ pB u (show pB ≠ g by omega))).trans (hSf.out y w1 hy hg);clear h;have hNl : N ≤ 100000 := by omega
 replace hN := hidR hN;go_enter Tryz.func63, Tryz.ntmps63;go_upto_region 3 with fail;clear hp0 hr0;have bY0 : Below w.heap.size w w.drew := (Below.refl _ _).drew;have hS0 := hSk.out _ bY0;refine wp_region_held_drew (S := fun y => y.cell? ⟨pB, 0, none⟩ = some (.pointer (some ⟨g, N * 10, none⟩))) (by kernel_rfl) hS0 (fun hH => ?_);clear hH;generalize w.drew = yd at bY0 hS0 ⊢;refine tkd 0 12 (.pointer (some ⟨g, N * 10, none⟩)) hS0 ?_;refine tkd 1 13 (.pointer (some ⟨g, N * 10, none⟩)) hS0 ?_;refine tkd 2 14 (.pointer (some ⟨g, N * 10, none⟩)) hS0 ?_;refine tkd 3 15 (.pointer (some ⟨g, N * 10 + 3, none⟩)) hS0 ?_;refine tkd 5 17 (.int .u32 x) hS0 ?_;have hL0 := hLk.out _ bY0;have bA : Below yd.heap.size yd (yd.alloc (.cells #[.int .u32 x] 101)) := (Below.refl _ _).alloc (Nat.le_refl _) _;have bY1 := bY0.trans (bA.mono bY0.size);have hS1 := hSk.out _ bY1;have hL1 := hLk.out _ bY1;have hO1 := hOk.out _ bY1;have hY1 := bY1.size;refine wpAnyH_ready (rs := [4, 6]) (by kernel_rfl) (by simp) ?_;refine (AllReadyH.cons rfl (fun K9 hK => ?_) (AllReadyH.cons rfl (fun K9 hK => ?_) AllReadyH.nil))
 ·
  go_simp;refine hK.out _ _ hS0 (fun _ => ?_);clear hK K9;try simp only [tK]
  refine wpAnyH_ready (rs := [6]) (by kernel_rfl) (by simp) ?_;refine AllReadyH.cons rfl (fun K9 hK => ?_) AllReadyH.nil;go_simp;refine hK.out _ _ hS1 (fun _ => ?_);clear hK K9;try simp only [tK]
  refine wpAnyH_ready (rs := [7]) (by kernel_rfl) (by simp) ?_;refine AllReadyH.cons rfl (fun K9 hK => ?_) AllReadyH.nil;refine step_append_lies _ rfl (.tmp 16) (.tmp 18) 57 rfl B 101 i0 (.int .u32 0) 1 4 Tryz.underlying57 hi hz0 hz1 hz2 rfl (by decide) (q.a3) (q.p.code.n) (codeC q.p.code) rfl hO1 ⟨yd.heap.size, 0, none⟩ 1 1 [.int .u32 x] rfl rfl (World.news_of_block (heap_alloc_new _ _)) (by intro u hu; simp only [List.mem_cons, List.not_mem_nil, or_false] at hu; subst hu; rfl) (by omega) (by simp only [maxLen]; omega) (by omega) (Nat.le_trans hB hY1) _ rfl ?_;intro g9 c9 w1 hrow hg hat hlt;have hfin := hidR (hend.out.word bY1 hg hrow hat hlt);have hS2 := hSf.out _ w1 bY1 hg;have cz := hCf.out _ w1 bY1 hg;have hS3 := hSg.out _ w1 (.slice (some ⟨g9, 0, none⟩) (q.p.code.n + 1) c9) bY1 hg;clear hrow hg hat hlt hi hz0 hz1 hz2 hO1;refine hK.out _ _ hS2 (fun _ => ?_);clear hK K9;try simp only [tK]
  refine tkd 8 20 (.pointer (some ⟨g, N * 10, none⟩)) hS2 ?_;refine tkd 9 21 (.pointer (some ⟨g, N * 10 + 3, none⟩)) hS2 ?_;refine wpAnyH_ready (rs := [10]) (by kernel_rfl) (by simp) ?_;refine AllReadyH.cons rfl (fun K9 hK => ?_) AllReadyH.nil;obtain ⟨cz1, cz2⟩ := cz;go_simp;refine hK.out _ _ hS3 (fun _ => ?_);clear hK K9;try simp only [tK]
  refine wpAnyH_done (by kernel_rfl) ?_ _;go_wp2_with fail;refine bodyPost_ret (v := .bool true) (by simp [results, Tryz.results63, go_sem]) rfl ⟨rfl, g9, c9, ?_⟩;rw [← hN.out];exact hfin.out
 ·
  go_simp;refine hK.out _ _ hS1 (fun _ => ?_);clear hK K9;try simp only [tK]
  refine wpAnyH_ready (rs := [4]) (by kernel_rfl) (by simp) ?_;refine AllReadyH.cons rfl (fun K9 hK => ?_) AllReadyH.nil;go_simp;refine hK.out _ _ hS1 (fun _ => ?_);clear hK K9;try simp only [tK]
  refine wpAnyH_ready (rs := [7]) (by kernel_rfl) (by simp) ?_;refine AllReadyH.cons rfl (fun K9 hK => ?_) AllReadyH.nil;refine step_append_lies _ rfl (.tmp 16) (.tmp 18) 57 rfl B 101 i0 (.int .u32 0) 1 4 Tryz.underlying57 hi hz0 hz1 hz2 rfl (by decide) (q.a3) (q.p.code.n) (codeC q.p.code) rfl hO1 ⟨yd.heap.size, 0, none⟩ 1 1 [.int .u32 x] rfl rfl (World.news_of_block (heap_alloc_new _ _)) (by intro u hu; simp only [List.mem_cons, List.not_mem_nil, or_false] at hu; subst hu; rfl) (by omega) (by simp only [maxLen]; omega) (by omega) (Nat.le_trans hB hY1) _ rfl ?_;intro g9 c9 w1 hrow hg hat hlt;have hfin := hidR (hend.out.word bY1 hg hrow hat hlt);have hS2 := hSf.out _ w1 bY1 hg;have cz := hCf.out _ w1 bY1 hg;have hS3 := hSg.out _ w1 (.slice (some ⟨g9, 0, none⟩) (q.p.code.n + 1) c9) bY1 hg;clear hrow hg hat hlt hi hz0 hz1 hz2 hO1;refine hK.out _ _ hS2 (fun _ => ?_);clear hK K9;try simp only [tK]
  refine tkd 8 20 (.pointer (some ⟨g, N * 10, none⟩)) hS2 ?_;refine tkd 9 21 (.pointer (some ⟨g, N * 10 + 3, none⟩)) hS2 ?_;refine wpAnyH_ready (rs := [10]) (by kernel_rfl) (by simp) ?_;refine AllReadyH.cons rfl (fun K9 hK => ?_) AllReadyH.nil;obtain ⟨cz1, cz2⟩ := cz;go_simp;refine hK.out _ _ hS3 (fun _ => ?_);clear hK K9;try simp only [tK]
  refine wpAnyH_done (by kernel_rfl) ?_ _;go_wp2_with fail;refine bodyPost_ret (v := .bool true) (by simp [results, Tryz.results63, go_sem]) rfl ⟨rfl, g9, c9, ?_⟩;rw [← hN.out];exact hfin.out
theorem ba_beq (a b : ByteArray) : (a == b) = decide (a = b) := by
 have h1 : (a == b) = (a.data == b.data) := by cases a; cases b; rfl
 rw [h1];by_cases h : a = b
 ·subst h; simp
 ·have h2 : a.data ≠ b.data := fun e => h (ByteArray.ext e);simp [h, h2]
theorem same_str (a b : ByteArray) : Instr.sameNow .string (.string a) (.string b) = some (a == b) := rfl
theorem find_miss (p : ByteArray) : ∀ (es : List MapEntry) (i : Nat), (∀ e ∈ es, ∃ s, e.key = .string s ∧ s ≠ p) → Instr.findNow .string (.string p) es i = some none
 | [], _, _ => rfl
 | e :: es, i, h => by
  obtain ⟨s, hs, hne⟩ := h e (List.mem_cons_self ..);unfold Instr.findNow;rw [hs, same_str, show (p == s) = false by rw [ba_beq]; simp [Ne.symm hne]];exact find_miss p es (i + 1) fun x hx => h x (List.mem_cons_of_mem _ hx)
theorem find_hit (p : ByteArray) : ∀ (pre : List MapEntry) (i : Nat) (e : MapEntry) (post : List MapEntry), (∀ x ∈ pre, ∃ s, x.key = .string s ∧ s ≠ p) → e.key = .string p → Instr.findNow .string (.string p) (pre ++ e :: post) i = some (some (i + pre.length, e.val))
 | [], i, e, post, _, he => by
  show Instr.findNow .string (.string p) (e :: post) i = _;unfold Instr.findNow;rw [he, same_str, show (p == p) = true by rw [ba_beq]; simp];rfl
 | x :: pre, i, e, post, h, he => by
  obtain ⟨s, hs, hne⟩ := h x (List.mem_cons_self ..);show Instr.findNow .string (.string p) (x :: (pre ++ e :: post)) i = _;unfold Instr.findNow;rw [hs, same_str, show (p == s) = false by rw [ba_beq]; simp [Ne.symm hne]];have := find_hit p pre (i + 1) e post (fun x hx => h x (List.mem_cons_of_mem _ hx)) he;rw [show i + (x :: pre).length = i + 1 + pre.length by simp; omega];exact this
section
variable {P : Program} {w : World} {T K E : TypeId} {M clk : Nat} {es : Array MapEntry} {p : ByteArray}
theorem qc7 {v : Value} {j : Nat} (hT : P.underlying T = some (.map K E)) (hK : P.underlying K = some .string) (hM : w.heap[M]? = some (.map es clk)) (hf : Instr.findNow .string (.string p) es.toList 0 = some (some (j, v))) :
  (Instr.lookup T (.map (some M)) (.string p) true).run P w = .ok (.tuple #[v, .bool true]) w := by
 simp [Instr.lookup, Sem.run_bind, run_underlying hT, MapKept.run_getObj_map hM, MapKept.run_checkKey hK (show MapKept.IsKey .string (.string p) by trivial), MapKept.run_findKey hK hf]
theorem run_lookup_miss {z : Value} (hT : P.underlying T = some (.map K E)) (hK : P.underlying K = some .string) (hz : (zeroValue E).run P w = .ok z w) (hM : w.heap[M]? = some (.map es clk)) (hf : Instr.findNow .string (.string p) es.toList 0 = some none) :
  (Instr.lookup T (.map (some M)) (.string p) true).run P w = .ok (.tuple #[z, .bool false]) w := by
 simp [Instr.lookup, Sem.run_bind, run_underlying hT, MapKept.run_getObj_map hM, MapKept.run_checkKey hK (show MapKept.IsKey .string (.string p) by trivial), MapKept.run_findKey hK hf, hz]
theorem run_mapPush {v : Value} (hT : P.underlying T = some (.map K E)) (hK : P.underlying K = some .string) (hM : w.heap[M]? = some (.map es clk)) (hf : Instr.findNow .string (.string p) es.toList 0 = some none) :
  (Instr.mapUpdate T (.map (some M)) (.string p) v).run P w = .ok () (w.putObj M (.map (es.push ⟨.string p, v, clk⟩) (clk + 1))) := by
 simp [Instr.mapUpdate, Sem.run_bind, run_underlying hT, MapKept.run_getObj_map hM, MapKept.run_checkKey hK (show MapKept.IsKey .string (.string p) by trivial), MapKept.run_findKey hK hf, MapKept.run_setObj_map _ hM, World.putObj]
end
def fP (xB pB : Nat) : Value := .func (.func 64) #[] #[.pointer (some ⟨xB, 0, none⟩), .pointer (some ⟨pB, 0, none⟩)]
def fC (pB : Nat) : Value := .func (.func 66) #[] #[.pointer (some ⟨pB, 0, none⟩)]
def fU (pB : Nat) : Value := .func (.func 68) #[] #[.pointer (some ⟨pB, 0, none⟩)]
def fW (aB : Nat) : Value := .func (.func 70) #[] #[.pointer (some ⟨aB, 0, none⟩)]
def fO (aB i o : Nat) : Value := .func (.func 74) #[] #[.pointer (some ⟨aB, 0, none⟩), .pointer (some ⟨i, 0, none⟩), .pointer (some ⟨o, 0, none⟩)]
def ents (xB pB aB : Nat) (ib ob : Nat → Nat) (n : Nat) : List MapEntry :=
 [⟨.string qb4, fP xB pB, 0⟩, ⟨.string qa8, fC pB, 1⟩, ⟨.string upB', fU pB, 2⟩, ⟨.string wordB, fW aB, 3⟩] ++ (List.range n).map fun k => ⟨.string (nm k), fO aB (ib k) (ob k), 4 + k⟩
theorem ents_succ (xB pB aB : Nat) (ib ob : Nat → Nat) (n : Nat) : ents xB pB aB ib ob (n + 1) = ents xB pB aB ib ob n ++ [⟨.string (nm n), fO aB (ib n) (ob n), 4 + n⟩] := by
 unfold ents;rw [List.range_succ, List.map_append, List.append_assoc];rfl
theorem ents_congr {xB pB aB : Nat} {ib ob ib' ob' : Nat → Nat} {n : Nat} (h : ∀ k, k < n → ib k = ib' k ∧ ob k = ob' k) : ents xB pB aB ib ob n = ents xB pB aB ib' ob' n := by
 unfold ents
 congr 1
 refine List.map_congr_left fun k hk => ?_;obtain ⟨h1, h2⟩ := h k (List.mem_range.1 hk);rw [h1, h2]
theorem nm_kw : ∀ k : Fin 34, nm k.val ≠ qb4 ∧ nm k.val ≠ qa8 ∧ nm k.val ≠ upB' ∧ nm k.val ≠ wordB := by decide +kernel
theorem kw_word : qb4 ≠ wordB ∧ qa8 ≠ wordB ∧ upB' ≠ wordB := by decide
theorem ents_fresh {xB pB aB : Nat} {ib ob : Nat → Nat} {n : Nat} (hn : n < 34) : Instr.findNow .string (.string (nm n)) (ents xB pB aB ib ob n).toArray.toList 0 = some none := by
 rw [List.toList_toArray];refine find_miss _ _ 0 fun e he => ?_;obtain ⟨k1, k2, k3, k4⟩ := nm_kw ⟨n, hn⟩;unfold ents at he;rcases List.mem_append.1 he with he | he
 ·simp only [List.mem_cons, List.not_mem_nil, or_false] at he;rcases he with rfl | rfl | rfl | rfl
  ·exact ⟨_, rfl, Ne.symm k1⟩
  ·exact ⟨_, rfl, Ne.symm k2⟩
  ·exact ⟨_, rfl, Ne.symm k3⟩
  ·exact ⟨_, rfl, Ne.symm k4⟩
 ·obtain ⟨k, hk, rfl⟩ := List.mem_map.1 he;have hk := List.mem_range.1 hk;exact ⟨_, rfl, fun e => by have := nm_inj (by omega) hn e; omega⟩
inductive RdOf (xB pB aB : Nat) (ib ob : Nat → Nat) : ByteArray → Option Value → Prop
 | proto : RdOf xB pB aB ib ob qb4 (some (fP xB pB))
 | const : RdOf xB pB aB ib ob qa8 (some (fC pB))
 | up : RdOf xB pB aB ib ob upB' (some (fU pB))
 | word : RdOf xB pB aB ib ob wordB (some (fW aB))
 | op {k : Nat} : k < 34 → RdOf xB pB aB ib ob (nm k) (some (fO aB (ib k) (ob k)))
 | none {p : ByteArray} : p ≠ qb4 → p ≠ qa8 → p ≠ upB' → p ≠ wordB → (∀ k, k < 34 → nm k ≠ p) → RdOf xB pB aB ib ob p none
theorem rdOf_any (xB pB aB : Nat) (ib ob : Nat → Nat) (p : ByteArray) : ∃ R, RdOf xB pB aB ib ob p R ∧ ((∃ v j, R = some v ∧ Instr.findNow .string (.string p) (ents xB pB aB ib ob 34) 0 = some (some (j, v))) ∨ (R = none ∧ Instr.findNow .string (.string p) (ents xB pB aB ib ob 34) 0 = some none)) := by
 obtain ⟨q1, q2, q3⟩ := kw_ne;obtain ⟨w1, w2, w3⟩ := kw_word;have hc : ents xB pB aB ib ob 34 = [⟨.string qb4, fP xB pB, 0⟩, ⟨.string qa8, fC pB, 1⟩, ⟨.string upB', fU pB, 2⟩, ⟨.string wordB, fW aB, 3⟩] ++ (List.range 34).map fun k => ⟨.string (nm k), fO aB (ib k) (ob k), 4 + k⟩ := rfl;by_cases h1 : p = qb4
 ·subst h1;exact ⟨_, .proto, .inl ⟨_, _, rfl, find_hit _ [] 0 ⟨.string qb4, fP xB pB, 0⟩ _ (by simp) rfl⟩⟩
 by_cases h2 : p = qa8
 ·subst h2
  exact ⟨_, .const, .inl ⟨_, _, rfl, find_hit _ [⟨.string qb4, fP xB pB, 0⟩] 0 ⟨.string qa8, fC pB, 1⟩ _ (by
   intro x hx;simp only [List.mem_cons, List.not_mem_nil, or_false] at hx;subst hx;exact ⟨_, rfl, q1⟩) rfl⟩⟩
 by_cases h3 : p = upB'
 ·subst h3
  exact ⟨_, .up, .inl ⟨_, _, rfl, find_hit _ [⟨.string qb4, fP xB pB, 0⟩, ⟨.string qa8, fC pB, 1⟩] 0 ⟨.string upB', fU pB, 2⟩ _ (by
   intro x hx;simp only [List.mem_cons, List.not_mem_nil, or_false] at hx;rcases hx with rfl | rfl
   ·exact ⟨_, rfl, q2⟩
   ·exact ⟨_, rfl, q3⟩) rfl⟩⟩
 by_cases h4 : p = wordB
 ·subst h4
  exact ⟨_, .word, .inl ⟨_, _, rfl, find_hit _ [⟨.string qb4, fP xB pB, 0⟩, ⟨.string qa8, fC pB, 1⟩, ⟨.string upB', fU pB, 2⟩] 0 ⟨.string wordB, fW aB, 3⟩ _ (by
   intro x hx;simp only [List.mem_cons, List.not_mem_nil, or_false] at hx;rcases hx with rfl | rfl | rfl
   ·exact ⟨_, rfl, w1⟩
   ·exact ⟨_, rfl, w2⟩
   ·exact ⟨_, rfl, w3⟩) rfl⟩⟩
 by_cases h5 : ∃ k, k < 34 ∧ nm k = p
 ·obtain ⟨k, hk, rfl⟩ := h5
  suffices hs : ∃ j, Instr.findNow .string (.string (nm k)) (ents xB pB aB ib ob 34) 0 = some (some (j, fO aB (ib k) (ob k))) from by
   obtain ⟨j, hj⟩ := hs;exact ⟨_, .op hk, .inl ⟨_, j, rfl, hj⟩⟩
  have e : (List.range 34).map (fun k => (⟨.string (nm k), fO aB (ib k) (ob k), 4 + k⟩ : MapEntry)) = (List.range k).map (fun k => ⟨.string (nm k), fO aB (ib k) (ob k), 4 + k⟩) ++ ⟨.string (nm k), fO aB (ib k) (ob k), 4 + k⟩ :: ((List.range 34).map (fun k => (⟨.string (nm k), fO aB (ib k) (ob k), 4 + k⟩ : MapEntry))).drop (k + 1) := by
   conv => lhs; rw [← List.take_append_drop k ((List.range 34).map _)]
   congr 1
   ·rw [← List.map_take, List.take_range, Nat.min_eq_left (by omega)]
   ·rw [List.drop_eq_getElem_cons (by simp; omega)];simp
  rw [hc, e, ← List.append_assoc];refine ⟨_, find_hit _ _ 0 ⟨.string (nm k), fO aB (ib k) (ob k), 4 + k⟩ _ (fun x hx => ?_) rfl⟩;obtain ⟨k1, k2, k3, k4⟩ := nm_kw ⟨k, hk⟩;rcases List.mem_append.1 hx with hx | hx
  ·simp only [List.mem_cons, List.not_mem_nil, or_false] at hx;rcases hx with rfl | rfl | rfl | rfl
   ·exact ⟨_, rfl, Ne.symm k1⟩
   ·exact ⟨_, rfl, Ne.symm k2⟩
   ·exact ⟨_, rfl, Ne.symm k3⟩
   ·exact ⟨_, rfl, Ne.symm k4⟩
  ·obtain ⟨j, hj, rfl⟩ := List.mem_map.1 hx;have hj := List.mem_range.1 hj;exact ⟨_, rfl, fun e => by have := nm_inj (by omega) hk e; omega⟩
 ·have h6 : ∀ k, k < 34 → nm k ≠ p := fun k hk e => h5 ⟨k, hk, e⟩;refine ⟨_, .none h1 h2 h3 h4 h6, .inr ⟨rfl, find_miss _ _ 0 fun e he => ?_⟩⟩;rw [hc] at he;rcases List.mem_append.1 he with he | he
  ·simp only [List.mem_cons, List.not_mem_nil, or_false] at he;rcases he with rfl | rfl | rfl | rfl
   ·exact ⟨_, rfl, Ne.symm h1⟩
   ·exact ⟨_, rfl, Ne.symm h2⟩
   ·exact ⟨_, rfl, Ne.symm h3⟩
   ·exact ⟨_, rfl, Ne.symm h4⟩
  ·obtain ⟨j, hj, rfl⟩ := List.mem_map.1 he;exact ⟨_, rfl, h6 j (List.mem_range.1 hj)⟩
end Go.Proofs.YtplijnfaiofckaaGreatDoor
