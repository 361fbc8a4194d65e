import Derived.WalkKit
import Derived.ProofKit
import Derived.Handy
import Derived.OpenShut
import Derived.WalkLawsBesides
import Derived.WalkSpells
import Derived.Laws.BitsAllLaws
import Derived.Laws.BytesArg
import Derived.Laws.OwnMore
import Derived.Laws.Concat
import Derived.Deep.OwnRows
import Derived.Test.YtckapapejfnojaaGreatDoorPureA
namespace Go.Proofs.YtckapapejfnojaaGreatDoor
open Go.RowKit
set_option linter.unusedVariables false
set_option linter.unusedSimpArgs false

/-- a slice's content: so many things, by index. -/
structure Sl (α : Type) where
  n : Nat
  f : Nat → α
structure VD where
  kind : Int
  num : Int
  text : ByteArray
structure UD where
  stack : Bool
  index : Int
structure PD where
  params : Int
  vararg : Bool
  regs : Int
  code : Sl Int
  consts : Sl VD
  ups : Sl UD
  kids : Int
  name : ByteArray
  lines : Sl Int
  upNames : Sl ByteArray

/-- the slice value v: n elements of z cells each, in a block of which av holds; cell j of element i holds C i j. -/
def IsArr (av : Nat → Prop) (w : World) (v : Value) (z n : Nat) (C : Nat → Nat → Value) : Prop :=
  ∃ ao cap, v = .slice ao n cap ∧ n ≤ 9223372036854775807 ∧
    (0 < n → ∃ b o, ao = some ⟨b, o, none⟩ ∧ av b ∧ ∀ i, i < n → ∀ j, j < z → w.cell? ⟨b, o + i * z + j, none⟩ = some (C i j))

theorem IsArr.keep {av : Nat → Prop} {w w' : World} {v : Value} {z n : Nat} {C : Nat → Nat → Value} (h : IsArr av w v z n C) (hk : ∀ b, av b → w'.heap[b]? = w.heap[b]?) : IsArr av w' v z n C := by
  obtain ⟨ao, cap, rfl, h1, h2⟩ := h
  refine ⟨ao, cap, rfl, h1, fun hn => ?_⟩
  obtain ⟨b, o, rfl, hb, hc⟩ := h2 hn
  exact ⟨b, o, rfl, hb, fun i hi j hj => (World.cell?_of_block (w := w) (hk b hb)).trans (hc i hi j hj)⟩
theorem IsArr.mono {av av' : Nat → Prop} {w : World} {v : Value} {z n : Nat} {C : Nat → Nat → Value} (h : IsArr av w v z n C) (hm : ∀ b, av b → av' b) : IsArr av' w v z n C := by
  obtain ⟨ao, cap, rfl, h1, h2⟩ := h
  refine ⟨ao, cap, rfl, h1, fun hn => ?_⟩
  obtain ⟨b, o, rfl, hb, hc⟩ := h2 hn
  exact ⟨b, o, rfl, hm b hb, hc⟩

def iC (k : IntKind) (f : Nat → Int) : Nat → Nat → Value := fun i _ => .int k (f i)
def sC (f : Nat → ByteArray) : Nat → Nat → Value := fun i _ => .string (f i)
def vC (f : Nat → VD) : Nat → Nat → Value := fun i j => match j with
  | 0 => .int .i64 (f i).kind
  | 1 => .int .i64 (f i).num
  | _ => .string (f i).text
def uC (f : Nat → UD) : Nat → Nat → Value := fun i j => match j with
  | 0 => .bool (f i).stack
  | _ => .int .i64 (f i).index

def IsInts (k : IntKind) (av : Nat → Prop) (w : World) (v : Value) (s : Sl Int) : Prop := IsArr av w v 1 s.n (iC k s.f)
def IsStrs (av : Nat → Prop) (w : World) (v : Value) (s : Sl ByteArray) : Prop := IsArr av w v 1 s.n (sC s.f) ∧ ∀ i, i < s.n → (s.f i).size ≤ 9223372036854775807
def IsVals (av : Nat → Prop) (w : World) (v : Value) (s : Sl VD) : Prop := IsArr av w v 3 s.n (vC s.f) ∧ ∀ i, i < s.n → (s.f i).text.size ≤ 9223372036854775807
def IsUps (av : Nat → Prop) (w : World) (v : Value) (s : Sl UD) : Prop := IsArr av w v 2 s.n (uC s.f)

/-- a prototype's value. -/
structure IsProto (av : Nat → Prop) (w : World) (a3 a4 a5 a8 a9 : Value) (p : PD) : Prop where
  code : IsInts .u32 av w a3 p.code
  consts : IsVals av w a4 p.consts
  ups : IsUps av w a5 p.ups
  lines : IsInts .i64 av w a8 p.lines
  upNames : IsStrs av w a9 p.upNames
  name : p.name.size ≤ 9223372036854775807

theorem IsProto.keep {av : Nat → Prop} {w w' : World} {a3 a4 a5 a8 a9 : Value} {p : PD} (h : IsProto av w a3 a4 a5 a8 a9 p) (hk : ∀ b, av b → w'.heap[b]? = w.heap[b]?) : IsProto av w' a3 a4 a5 a8 a9 p :=
  ⟨IsArr.keep h.code hk, ⟨IsArr.keep h.consts.1 hk, h.consts.2⟩, IsArr.keep h.ups hk, IsArr.keep h.lines hk, ⟨IsArr.keep h.upNames.1 hk, h.upNames.2⟩, h.name⟩
theorem IsProto.mono {av av' : Nat → Prop} {w : World} {a3 a4 a5 a8 a9 : Value} {p : PD} (h : IsProto av w a3 a4 a5 a8 a9 p) (hm : ∀ b, av b → av' b) : IsProto av' w a3 a4 a5 a8 a9 p :=
  ⟨IsArr.mono h.code hm, ⟨IsArr.mono h.consts.1 hm, h.consts.2⟩, IsArr.mono h.ups hm, IsArr.mono h.lines hm, ⟨IsArr.mono h.upNames.1 hm, h.upNames.2⟩, h.name⟩

def pAgg (p : PD) (a3 a4 a5 a8 a9 : Value) : Value :=
  .agg #[.int .i64 p.params, .bool p.vararg, .int .i64 p.regs, a3, a4, a5, .int .i64 p.kids, .string p.name, a8, a9]

/-- cell j of a prototype. -/
def pC (p : Nat → PD) (a3 a4 a5 a8 a9 : Nat → Value) : Nat → Nat → Value := fun i j => match j with
  | 0 => .int .i64 (p i).params
  | 1 => .bool (p i).vararg
  | 2 => .int .i64 (p i).regs
  | 3 => a3 i
  | 4 => a4 i
  | 5 => a5 i
  | 6 => .int .i64 (p i).kids
  | 7 => .string (p i).name
  | 8 => a8 i
  | _ => a9 i

def IsProtos (av : Nat → Prop) (w : World) (v : Value) (ps : Sl PD) : Prop :=
  ∃ a3 a4 a5 a8 a9 : Nat → Value, IsArr av w v 10 ps.n (pC ps.f a3 a4 a5 a8 a9) ∧ ∀ i, i < ps.n → IsProto av w (a3 i) (a4 i) (a5 i) (a8 i) (a9 i) (ps.f i)

theorem IsProtos.keep {av : Nat → Prop} {w w' : World} {v : Value} {ps : Sl PD} (h : IsProtos av w v ps) (hk : ∀ b, av b → w'.heap[b]? = w.heap[b]?) : IsProtos av w' v ps := by
  obtain ⟨a3, a4, a5, a8, a9, h1, h2⟩ := h
  exact ⟨a3, a4, a5, a8, a9, h1.keep hk, fun i hi => (h2 i hi).keep hk⟩
theorem IsProtos.mono {av av' : Nat → Prop} {w : World} {v : Value} {ps : Sl PD} (h : IsProtos av w v ps) (hm : ∀ b, av b → av' b) : IsProtos av' w v ps := by
  obtain ⟨a3, a4, a5, a8, a9, h1, h2⟩ := h
  exact ⟨a3, a4, a5, a8, a9, h1.mono hm, fun i hi => (h2 i hi).mono hm⟩
theorem IsProtos.below {n : Nat} {w w' : World} {v : Value} {ps : Sl PD} (h : IsProtos (· < n) w v ps) (b : Below n w w') : IsProtos (· < n) w' v ps := h.keep fun k hk => b.block k hk
theorem IsProto.below {n : Nat} {w w' : World} {a3 a4 a5 a8 a9 : Value} {p : PD} (h : IsProto (· < n) w a3 a4 a5 a8 a9 p) (b : Below n w w') : IsProto (· < n) w' a3 a4 a5 a8 a9 p := h.keep fun k hk => b.block k hk
theorem IsArr.below {m : Nat} {w w' : World} {v : Value} {z n : Nat} {C : Nat → Nat → Value} (h : IsArr (· < m) w v z n C) (b : Below m w w') : IsArr (· < m) w' v z n C := h.keep fun k hk => b.block k hk
/-- the same, said of the later world's size. -/
theorem IsProtos.later {w w' : World} {v : Value} {ps : Sl PD} (h : IsProtos (· < w.heap.size) w v ps) (b : Below w.heap.size w w') : IsProtos (· < w'.heap.size) w' v ps :=
  (h.below b).mono fun k hk => Nat.lt_of_lt_of_le hk b.size
theorem IsProto.later {w w' : World} {a3 a4 a5 a8 a9 : Value} {p : PD} (h : IsProto (· < w.heap.size) w a3 a4 a5 a8 a9 p) (b : Below w.heap.size w w') : IsProto (· < w'.heap.size) w' a3 a4 a5 a8 a9 p :=
  (h.below b).mono fun k hk => Nat.lt_of_lt_of_le hk b.size
theorem IsArr.later {w w' : World} {v : Value} {z n : Nat} {C : Nat → Nat → Value} (h : IsArr (· < w.heap.size) w v z n C) (b : Below w.heap.size w w') : IsArr (· < w'.heap.size) w' v z n C :=
  (h.below b).mono fun k hk => Nat.lt_of_lt_of_le hk b.size

/-- how long lists may be: what the size test leaves. -/
structure SmallP (p : PD) : Prop where
  code : p.code.n ≤ 1048576
  consts : p.consts.n ≤ 1048576
  ups : p.ups.n ≤ 1048576
  lines : p.lines.n ≤ 1048576
  upNames : p.upNames.n ≤ 1048576
def SmallC (ps : Sl PD) : Prop := ps.n ≤ 1048576 ∧ ∀ i, i < ps.n → SmallP (ps.f i)
end Go.Proofs.YtckapapejfnojaaGreatDoor
