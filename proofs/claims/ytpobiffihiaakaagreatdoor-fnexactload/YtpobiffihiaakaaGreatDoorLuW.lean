import Derived.Test.YtpobiffihiaakaaGreatDoorLuU
namespace Go.Proofs.YtpobiffihiaakaaGreatDoor
open Go.RowKit
set_option linter.unusedVariables false
set_option linter.unusedSimpArgs false
set_option maxRecDepth 100000
set_option maxHeartbeats 1000000
/-- what the model's Load holds between two rounds. -/
structure LdW (w wr : World) (s : ByteArray) (r : RS) (c : List PR) (L : List Nat) (lv v : Value) (its : List MI) : Prop where
  hR : RowL wr (w.heap.size + 1) 31 (rC s r)
  hC : RowL wr (w.heap.size + 1 + 1) 24 [v]
  hO : RowL wr w.heap.size 24 [.slice none 0 0]
  left : wr.ownsRow (w.heap.size + 3) 3 1 lv L.length (lfC L)
  prot : wr.ownsRow (w.heap.size + 3) 38 10 v its.length (its.flatMap mC)
  ps : its.map (·.p) = c
  all : ∀ it ∈ its, MOk (w.heap.size + 3) wr it ∧ Off v.ownBlock it ∧ Off lv.ownBlock it
  apart : ∀ k, lv.ownBlock = some k → v.ownBlock ≠ some k
  bw : Below w.heap.size w wr
section
variable {w y y' : World} {s : ByteArray} {r : RS} {c : List PR} {L : List Nat} {lv v : Value} {its : List MI}
theorem LdW.big (h : LdW w y s r c L lv v its) : w.heap.size + 3 ≤ y.heap.size := by have := h.hC.lt; omega
theorem LdW.call (h : LdW w y s r c L lv v its) (hb : Below y.heap.size y y') : LdW w y' s r c L lv v its :=
  ⟨h.hR.call hb, h.hC.call hb, h.hO.call hb, own_below h.left hb, own_below h.prot hb, h.ps, fun it hi => ⟨(h.all it hi).1.below hb, (h.all it hi).2⟩, h.apart, h.bw.trans (hb.mono h.bw.size)⟩
theorem LdW.set1 (h : LdW w y s r c L lv v its) (k : Nat) (u : Value) : RowL (y.setCell ⟨w.heap.size + 1, k, none⟩ u) (w.heap.size + 1 + 1) 24 [v] ∧ RowL (y.setCell ⟨w.heap.size + 1, k, none⟩ u) w.heap.size 24 [.slice none 0 0] :=
  ⟨h.hC.other (a := ⟨w.heap.size + 1, k, none⟩) (by simp) u, h.hO.other (a := ⟨w.heap.size + 1, k, none⟩) (by simp) u⟩
theorem LdW.setR (h : LdW w y s r c L lv v its) (r1 : RS) : LdW w (((y.setCell ⟨w.heap.size + 1, 0, none⟩ (.string s)).setCell ⟨w.heap.size + 1, 1, none⟩ (.int .i64 (r1.pos : Int))).setCell ⟨w.heap.size + 1, 2, none⟩ (.int .i64 r1.bad)) s r1 c L lv v its := by
  refine ⟨rC_put h.hR r1, h.hC.put (by omega) _ _ _, h.hO.put (by omega) _ _ _, ?_, ?_, h.ps, fun it hi => ⟨?_, (h.all it hi).2⟩, h.apart, ?_⟩
  · exact own_set (own_set (own_set h.left (a := ⟨w.heap.size + 1, 0, none⟩) (by simp only []; omega) _) (a := ⟨w.heap.size + 1, 1, none⟩) (by simp only []; omega) _) (a := ⟨w.heap.size + 1, 2, none⟩) (by simp only []; omega) _
  · exact own_set (own_set (own_set h.prot (a := ⟨w.heap.size + 1, 0, none⟩) (by simp only []; omega) _) (a := ⟨w.heap.size + 1, 1, none⟩) (by simp only []; omega) _) (a := ⟨w.heap.size + 1, 2, none⟩) (by simp only []; omega) _
  · exact (((h.all it hi).1.set (a := ⟨w.heap.size + 1, 0, none⟩) (by simp only []; omega) _).set (a := ⟨w.heap.size + 1, 1, none⟩) (by simp only []; omega) _).set (a := ⟨w.heap.size + 1, 2, none⟩) (by simp only []; omega) _
  · exact Below.setCell (Below.setCell (Below.setCell h.bw (p := ⟨w.heap.size + 1, 0, none⟩) (by simp only []; omega) _) (p := ⟨w.heap.size + 1, 1, none⟩) (by simp only []; omega) _) (p := ⟨w.heap.size + 1, 2, none⟩) (by simp only []; omega) _
theorem below_grown {n : Nat} {a b b' : World} {q : Option Nat} (h : Below n a b) (hg : b.grownBy b' q) (hq : ∀ k, q = some k → n ≤ k) (hn : n ≤ b.heap.size) : Below n a b' :=
  ⟨hg.os.trans h.os, hg.tape.trans h.tape, hg.output.trans h.output, Nat.le_trans h.size hg.size, fun i hi => (hg.block i (by omega) (fun e => by have := hq i (by first | exact e | exact e.symm); omega)).trans (h.block i hi)⟩
theorem LdW.app (h : LdW w y s r c L lv v its) {it : MI} {v' : Value} (hm : MOk (w.heap.size + 3) y it) (o1 : Off v.ownBlock it) (o2 : Off lv.ownBlock it)
    (hown : y'.ownsRow (w.heap.size + 3) 38 10 v' (its.length + 1) (its.flatMap mC ++ mC it)) (hg : y.grownBy y' v.ownBlock) (hat : v'.ownBlock = v.ownBlock ∨ ∃ q, v'.ownBlock = some q ∧ y.heap.size ≤ q) :
    LdW w (y'.setCell ⟨w.heap.size + 1 + 1, 0, none⟩ v') s r (c ++ [it.p]) L lv v' (its ++ [it]) := by
  have hb := own_base h.prot
  have off : ∀ x, MOk (w.heap.size + 3) y x → Off v.ownBlock x → Off v'.ownBlock x := fun x hx ho => by
    rcases hat with e | ⟨q, e, hq⟩
    · rw [e]; exact ho
    · exact Off.new hx (fun k hk => by rw [e] at hk; cases hk; exact hq)
  have hall : ∀ x, MOk (w.heap.size + 3) y x → Off v.ownBlock x → Off lv.ownBlock x → MOk (w.heap.size + 3) (y'.setCell ⟨w.heap.size + 1 + 1, 0, none⟩ v') x ∧ Off v'.ownBlock x ∧ Off lv.ownBlock x := fun x hx ho hl =>
    ⟨(hx.grown hg ho).set (a := ⟨w.heap.size + 1 + 1, 0, none⟩) (by simp only []; omega) _, off x hx ho, hl⟩
  refine ⟨(row_grown h.hR hg (fun e => by have := hb _ e; omega)).other (a := ⟨w.heap.size + 1 + 1, 0, none⟩) (by simp) _, (row_grown h.hC hg (fun e => by have := hb _ e; omega)).set 0 v', (row_grown h.hO hg (fun e => by have := hb _ e; omega)).other (a := ⟨w.heap.size + 1 + 1, 0, none⟩) (show w.heap.size ≠ w.heap.size + 1 + 1 by omega) _, ?_, ?_, ?_, ?_, ?_, ?_⟩
  · exact own_set (own_grown h.left hg (fun k e e2 => h.apart k e2 e)) (a := ⟨w.heap.size + 1 + 1, 0, none⟩) (by simp only []; omega) _
  · rw [List.length_append, List.flatMap_append, List.flatMap_singleton]
    exact own_set hown (a := ⟨w.heap.size + 1 + 1, 0, none⟩) (by simp only []; omega) _
  · rw [List.map_append, h.ps]; rfl
  · intro x hx
    rcases List.mem_append.1 hx with hx | hx
    · exact hall x (h.all x hx).1 (h.all x hx).2.1 (h.all x hx).2.2
    · rw [List.mem_singleton.1 hx]
      exact hall it hm o1 o2
  · intro k hk
    rcases hat with e | ⟨q, e, hq⟩
    · rw [e]; exact h.apart k hk
    · rw [e]
      intro e2
      have e3 : q = k := Option.some.inj e2
      have := (h.left.lt k hk).2
      omega
  · exact Below.setCell (below_grown h.bw hg (fun k e => by have := hb k e; omega) (by have := h.big; omega)) (p := ⟨w.heap.size + 1 + 1, 0, none⟩) (by simp only []; omega) _
theorem LdW.turn (h : LdW w y s r c L lv v its) {L' : List Nat} {lv' : Value} (hown : y'.ownsRow (w.heap.size + 3) 3 1 lv' L'.length (lfC L')) (hg : y.grownBy y' lv.ownBlock) (hat : lv'.ownBlock = lv.ownBlock ∨ ∃ q, lv'.ownBlock = some q ∧ y.heap.size ≤ q) :
    LdW w y' s r c L' lv' v its := by
  have hb := own_base h.left
  refine ⟨row_grown h.hR hg (fun e => by have := hb _ e; omega), row_grown h.hC hg (fun e => by have := hb _ e; omega), row_grown h.hO hg (fun e => by have := hb _ e; omega), hown, own_grown h.prot hg (fun k e e2 => h.apart k e e2), h.ps, ?_, ?_, below_grown h.bw hg (fun k e => by have := hb k e; omega) (by have := h.big; omega)⟩
  · intro x hx
    obtain ⟨h1, h2, h3⟩ := h.all x hx
    refine ⟨h1.grown hg h3, h2, ?_⟩
    rcases hat with e | ⟨q, e, hq⟩
    · rw [e]; exact h3
    · exact Off.new h1 (fun k hk => by rw [e] at hk; cases hk; exact hq)
  · intro k hk e2
    rcases hat with e | ⟨q, e, hq⟩
    · rw [e] at hk; exact h.apart k hk e2
    · rw [e] at hk
      have e3 : q = k := Option.some.inj hk
      have := (h.prot.lt k e2).2
      omega
theorem LdW.offs (h : LdW w y s r c L lv v its) {it : MI} (hm : MOk y.heap.size y' it) : Off v.ownBlock it ∧ Off lv.ownBlock it :=
  ⟨Off.old hm (fun k e => (h.prot.lt k e).2), Off.old hm (fun k e => (h.left.lt k e).2)⟩
end
theorem LdW.start (w : World) (s : ByteArray) : LdW w ((((w.alloc (.cells #[.slice none 0 0] 24)).alloc (.cells #[.string s, .int .i64 6, .int .i64 0] 31)).alloc (.cells #[.slice none 0 0] 24)).alloc (.cells #[] 3)) s ⟨6, 0⟩ [] [] (.slice (some ⟨w.heap.size + 1 + 1 + 1, 0, none⟩) 0 0) (.slice none 0 0) [] := by
  refine ⟨?_, ?_, ?_, ?_, World.ownsRow_nil _ _ _ _, rfl, fun it h => by simp at h, fun k _ h => by simp [Value.ownBlock] at h, by go_grown⟩
  · have := ((RowL.new (w.alloc (.cells #[.slice none 0 0] 24)) (rC s ⟨6, 0⟩) 31).alloc (.cells #[.slice none 0 0] 24)).alloc (.cells #[] 3)
    rw [World.size_alloc] at this
    exact this
  · have := (RowL.new ((w.alloc (.cells #[.slice none 0 0] 24)).alloc (.cells #[.string s, .int .i64 6, .int .i64 0] 31)) [.slice none 0 0] 24).alloc (.cells #[] 3)
    simp only [World.size_alloc] at this
    exact this
  · exact (((RowL.new w [.slice none 0 0] 24).alloc _).alloc _).alloc _
  · refine ⟨rfl, .inr ⟨_, 0, #[], rfl, by omega, ?_, Nat.le_refl _, Nat.zero_le _, rfl, rfl⟩⟩
    have := heap_alloc_new (((w.alloc (.cells #[.slice none 0 0] 24)).alloc (.cells #[.string s, .int .i64 6, .int .i64 0] 31)).alloc (.cells #[.slice none 0 0] 24)) (.cells #[] 3)
    simp only [World.size_alloc] at this
    exact this
/-- how many prototypes are there. -/
def cLen (b : Nat) (w : World) : Nat := match w.cell? ⟨b, 0, none⟩ with | some (.slice _ n _) => n | _ => 0
theorem LdW.len {w y : World} {s : ByteArray} {r : RS} {c : List PR} {L : List Nat} {lv v : Value} {its : List MI} (h : LdW w y s r c L lv v its) : cLen (w.heap.size + 1 + 1) y = c.length ∧ its.length = c.length := by
  have e : its.length = c.length := by rw [← h.ps, List.length_map]
  obtain ⟨o, k, rfl⟩ := own_slice h.prot
  refine ⟨?_, e⟩
  unfold cLen
  rw [h.hC.cell 0 rfl]
  exact e
theorem infProto : (Tryz.prog.info? 38).map (fun i => (i.zero, i.size, i.bytes)) = some (some (.agg #[.int .i64 0, .bool false, .int .i64 0, .slice none 0 0, .slice none 0 0, .slice none 0 0, .int .i64 0, .string ⟨#[]⟩, .slice none 0 0, .slice none 0 0]), 10, 168) := by kernel_rfl
end Go.Proofs.YtpobiffihiaakaaGreatDoor
