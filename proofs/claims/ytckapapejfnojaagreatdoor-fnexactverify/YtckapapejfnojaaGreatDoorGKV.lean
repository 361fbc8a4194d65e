import Derived.Test.YtckapapejfnojaaGreatDoorGAV
import Derived.Deep.Slices
import Derived.WideShapes
import Derived.Test.YtckapapejfnojaaGreatDoorGBV
import Derived.WalkKit
import Derived.ProofKit
import Derived.OpenShut
import Derived.LaidMore
import Derived.WalkSmall
import Derived.Stop.Joined
namespace Go.Proofs.YtckapapejfnojaaGreatDoor
section
open Go.RowKit Go.ChangeShapes Go.WideShapes Go.ChangeAt
set_option linter.unusedVariables false
set_option linter.unusedSimpArgs false

section
variable {H : Type} {enc : TypeId × Value → H} {w : World} {base : Nat} {spare : Nat → Bool} {held : Bool}

theorem addr_plain (b o i j : Nat) : ((⟨b, o, none⟩ : Addr).add i).add j = ⟨b, o + i + j, none⟩ := by
  rw [Go.Deep.add_add]
  unfold Addr.add
  split <;> simp <;> omega

/-- a slice that came in: its elements' cells, and that each of them reads. -/
theorem arr_of {t e : TypeId} {z : Nat} (hz : 0 < z) (ht : Tryz.prog.underlying t = some (.slice e)) (hc : Tryz.prog.cellsOf e = z) {fuel : Nat} {cs : List Value} {x : DataW H × List MemPlace} (h : DataW.trod enc Tryz.prog w base spare held fuel t cs = some x) :
    ∃ (ao : Option Addr) (n cap : Nat) (C : Nat → List Value), cs = [.slice ao n cap] ∧ n ≤ 9223372036854775807 ∧
      (0 < n → ∃ b o, ao = some ⟨b, o, none⟩ ∧ b < w.heap.size ∧ ∀ i, i < n → ∀ j, j < z → w.cell? ⟨b, o + i * z + j, none⟩ = (C i)[j]?) ∧
      ∀ i, i < n → (C i).length = z ∧ ∃ m y, DataW.trod enc Tryz.prog w base spare held m e (C i) = some y := by
  rcases Go.Deep.open_slice ht h with ⟨rfl, _⟩ | ⟨a, len, cap, m, k, D, Pl, rfl, hb, hl, hm, hmm, _, hx⟩
  · exact ⟨none, 0, 0, fun _ => [], rfl, by omega, fun h => by omega, fun i hi => by omega⟩
  · rw [hc] at hx
    have hlm : len ≤ m := by rw [hmm]; split <;> omega
    obtain ⟨C, hC⟩ := Go.Deep.choose_lt (α := List Value) (p := fun i cs' => w.cells? base (a.add (i * z)) z = some cs' ∧ DataW.trod enc Tryz.prog w base spare held k e cs' = some (D i, Pl i)) hx
    refine ⟨some a, len, cap, C, rfl, by simp only [maxLen] at hm; omega, fun hpos => ?_, fun i hi => ?_⟩
    · obtain ⟨b, o, spot⟩ := a
      have h0 := (World.cells?_some (hC 0 (by omega)).1).2.2 0 hz
      have hlen0 := (World.cells?_some (hC 0 (by omega)).1).2.1
      obtain ⟨v0, hv0⟩ : ∃ v, (C 0)[0]? = some v := ⟨_, List.getElem?_eq_getElem (by omega)⟩
      rw [hv0] at h0
      have hspot : spot = none := by simpa [Addr.add] using World.cell?_spot h0
      subst hspot
      refine ⟨b, o, rfl, ?_, fun i hi j hj => ?_⟩
      · have hh : w.cell? ⟨b, o, none⟩ = some v0 := by simpa [Addr.add] using h0
        unfold World.cell? at hh
        cases hbk : w.heap[b]? with
        | none => simp [hbk] at hh
        | some ob => exact (Array.getElem?_eq_some_iff.1 hbk).1
      · have := (World.cells?_some (hC i (by omega)).1).2.2 j hj
        rw [addr_plain] at this
        exact this
    · exact ⟨(World.cells?_some (hC i (by omega)).1).2.1, k, _, (hC i (by omega)).2⟩

theorem ints_of {t e : TypeId} {k : IntKind} (ht : Tryz.prog.underlying t = some (.slice e)) (he : Tryz.prog.underlying e = some (.int k)) (hc : Tryz.prog.cellsOf e = 1) {fuel : Nat} {cs : List Value} {x : DataW H × List MemPlace} (h : DataW.trod enc Tryz.prog w base spare held fuel t cs = some x) :
    ∃ v s, cs = [v] ∧ IsInts k (· < w.heap.size) w v s ∧ ∀ i, i < s.n → (Lit.int k (s.f i)).wf = true := by
  obtain ⟨ao, n, cap, C, rfl, hn, h1, h2⟩ := arr_of (by omega) ht hc h
  obtain ⟨f, hf⟩ := Go.Deep.choose_lt (α := Int) (p := fun i x => C i = [.int k x] ∧ (Lit.int k x).wf = true) (n := n) (fun i hi => by
    obtain ⟨_, m, y, hy⟩ := h2 i hi
    obtain ⟨q, hq, _, hw⟩ := DataW.trod_int he hy
    exact ⟨q, hq, hw⟩)
  refine ⟨_, ⟨n, f⟩, rfl, ⟨ao, cap, rfl, hn, fun hp => ?_⟩, fun i hi => (hf i hi).2⟩
  obtain ⟨b, o, rfl, hb, hcc⟩ := h1 hp
  refine ⟨b, o, rfl, hb, fun i hi j hj => ?_⟩
  have hi' : i < n := hi
  rw [hcc i hi' j hj, (hf i hi').1]
  obtain rfl : j = 0 := by omega
  rfl
theorem strs_of {t e : TypeId} (ht : Tryz.prog.underlying t = some (.slice e)) (he : Tryz.prog.underlying e = some .string) (hc : Tryz.prog.cellsOf e = 1) {fuel : Nat} {cs : List Value} {x : DataW H × List MemPlace} (h : DataW.trod enc Tryz.prog w base spare held fuel t cs = some x) :
    ∃ v s, cs = [v] ∧ IsStrs (· < w.heap.size) w v s := by
  obtain ⟨ao, n, cap, C, rfl, hn, h1, h2⟩ := arr_of (by omega) ht hc h
  obtain ⟨f, hf⟩ := Go.Deep.choose_lt (α := ByteArray) (p := fun i x => C i = [.string x] ∧ x.size ≤ maxLen) (n := n) (fun i hi => by
    obtain ⟨_, m, y, hy⟩ := h2 i hi
    obtain ⟨q, hq, _, hl⟩ := DataW.trod_string he hy
    exact ⟨q, hq, hl⟩)
  refine ⟨_, ⟨n, f⟩, rfl, ⟨ao, cap, rfl, hn, fun hp => ?_⟩, fun i hi => by have := (hf i hi).2; simpa [maxLen] using this⟩
  obtain ⟨b, o, rfl, hb, hcc⟩ := h1 hp
  refine ⟨b, o, rfl, hb, fun i hi j hj => ?_⟩
  have hi' : i < n := hi
  rw [hcc i hi' j hj, (hf i hi').1]
  obtain rfl : j = 0 := by omega
  rfl
theorem cells2 : Tryz.prog.cellsOf 2 = 1 := by kernel_rfl
theorem cells3 : Tryz.prog.cellsOf 3 = 1 := by kernel_rfl
theorem cells4 : Tryz.prog.cellsOf 4 = 1 := by kernel_rfl
theorem cells9 : Tryz.prog.cellsOf 9 = 1 := by kernel_rfl
theorem cells31 : Tryz.prog.cellsOf 30 = 1 := by kernel_rfl
theorem cells49 : Tryz.prog.cellsOf 90 = 1 := by kernel_rfl
theorem cells55 : Tryz.prog.cellsOf 47 = 1 := by kernel_rfl
theorem cells58 : Tryz.prog.cellsOf 34 = 1 := by kernel_rfl
theorem cells59 : Tryz.prog.cellsOf 50 = 1 := by kernel_rfl
theorem cells77 : Tryz.prog.cellsOf 134 = 1 := by kernel_rfl
theorem cells78 : Tryz.prog.cellsOf 135 = 1 := by kernel_rfl
theorem cells80 : Tryz.prog.cellsOf 137 = 10 := by kernel_rfl
theorem cells113 : Tryz.prog.cellsOf 228 = 3 := by kernel_rfl
theorem cells116 : Tryz.prog.cellsOf 231 = 2 := by kernel_rfl

theorem value_of {fuel : Nat} {cs : List Value} {x : DataW H × List MemPlace} (hl : cs.length = 3) (h : DataW.trod enc Tryz.prog w base spare held fuel 228 cs = some x) :
    ∃ d : VD, cs = [.int .i64 d.kind, .int .i64 d.num, .string d.text] ∧ d.text.size ≤ 9223372036854775807 ∧ (Lit.int .i64 d.num).wf = true := by
  match cs, hl with
  | [c0, c1, c2], _ =>
    obtain ⟨xs, n, _, _, _, hlen, hfd⟩ := DataW.trod_struct Tryz.underlying228 h
    match xs, hlen, hfd with
    | [x0, x1, x2], _, hfd =>
      obtain ⟨k0, i0, _, _⟩ := DataW.trod_int Tryz.underlying3 (hfd 0 _ rfl)
      obtain ⟨k1, i1, _, hw⟩ := DataW.trod_int Tryz.underlying2 (hfd 1 _ rfl)
      obtain ⟨k2, i2, _, hs⟩ := DataW.trod_string Tryz.underlying9 (hfd 2 _ rfl)
      simp [cells2, cells3, cells9] at i0 i1 i2
      subst i0 i1 i2
      exact ⟨⟨k0, k1, k2⟩, rfl, by simpa [maxLen] using hs, hw⟩
theorem up_of {fuel : Nat} {cs : List Value} {x : DataW H × List MemPlace} (hl : cs.length = 2) (h : DataW.trod enc Tryz.prog w base spare held fuel 231 cs = some x) :
    ∃ d : UD, cs = [.bool d.stack, .int .i64 d.index] := by
  match cs, hl with
  | [c0, c1], _ =>
    obtain ⟨xs, n, _, _, _, hlen, hfd⟩ := DataW.trod_struct Tryz.underlying231 h
    match xs, hlen, hfd with
    | [x0, x1], _, hfd =>
      obtain ⟨k0, i0, _⟩ := DataW.trod_bool Tryz.underlying4 (hfd 0 _ rfl)
      obtain ⟨k1, i1, _, _⟩ := DataW.trod_int Tryz.underlying3 (hfd 1 _ rfl)
      simp [cells3, cells4] at i0 i1
      subst i0 i1
      exact ⟨⟨k0, k1⟩, rfl⟩
theorem vals_of {fuel : Nat} {cs : List Value} {x : DataW H × List MemPlace} (h : DataW.trod enc Tryz.prog w base spare held fuel 134 cs = some x) :
    ∃ v s, cs = [v] ∧ IsVals (· < w.heap.size) w v s ∧ ∀ i, i < s.n → (Lit.int .i64 (s.f i).num).wf = true := by
  obtain ⟨ao, n, cap, C, rfl, hn, h1, h2⟩ := arr_of (by omega) Tryz.underlying134 cells113 h
  have : Inhabited VD := ⟨⟨0, 0, ByteArray.empty⟩⟩
  obtain ⟨f, hf⟩ := Go.Deep.choose_lt (α := VD) (p := fun i d => C i = [.int .i64 d.kind, .int .i64 d.num, .string d.text] ∧ d.text.size ≤ 9223372036854775807 ∧ (Lit.int .i64 d.num).wf = true) (n := n) (fun i hi => by
    obtain ⟨hl, m, y, hy⟩ := h2 i hi
    exact value_of hl hy)
  refine ⟨_, ⟨n, f⟩, rfl, ⟨⟨ao, cap, rfl, hn, fun hp => ?_⟩, fun i hi => (hf i hi).2.1⟩, fun i hi => (hf i hi).2.2⟩
  obtain ⟨b, o, rfl, hb, hcc⟩ := h1 hp
  refine ⟨b, o, rfl, hb, fun i hi j hj => ?_⟩
  have hi' : i < n := hi
  rw [hcc i hi' j hj, (hf i hi').1]
  rcases (show j = 0 ∨ j = 1 ∨ j = 2 by omega) with rfl | rfl | rfl <;> rfl
theorem ups_of {fuel : Nat} {cs : List Value} {x : DataW H × List MemPlace} (h : DataW.trod enc Tryz.prog w base spare held fuel 135 cs = some x) :
    ∃ v s, cs = [v] ∧ IsUps (· < w.heap.size) w v s := by
  obtain ⟨ao, n, cap, C, rfl, hn, h1, h2⟩ := arr_of (by omega) Tryz.underlying135 cells116 h
  have : Inhabited UD := ⟨⟨false, 0⟩⟩
  obtain ⟨f, hf⟩ := Go.Deep.choose_lt (α := UD) (p := fun i d => C i = [.bool d.stack, .int .i64 d.index]) (n := n) (fun i hi => by
    obtain ⟨hl, m, y, hy⟩ := h2 i hi
    exact up_of hl hy)
  refine ⟨_, ⟨n, f⟩, rfl, ao, cap, rfl, hn, fun hp => ?_⟩
  obtain ⟨b, o, rfl, hb, hcc⟩ := h1 hp
  refine ⟨b, o, rfl, hb, fun i hi j hj => ?_⟩
  have hi' : i < n := hi
  rw [hcc i hi' j hj, hf i hi']
  rcases (show j = 0 ∨ j = 1 by omega) with rfl | rfl <;> rfl

/-- that the numbers are numbers of their kinds. -/
structure Bnd (s : Sl PD) : Prop where
  code : ∀ i, i < s.n → ∀ j, j < (s.f i).code.n → (Lit.int .u32 ((s.f i).code.f j)).wf = true
  nums : ∀ i, i < s.n → ∀ j, j < (s.f i).consts.n → (Lit.int .i64 ((s.f i).consts.f j).num).wf = true
/-- a prototype that came in. -/
structure Got (w : World) (cs : List Value) (a : Value × Value × Value × Value × Value) (p : PD) : Prop where
  form : cs = [.int .i64 p.params, .bool p.vararg, .int .i64 p.regs, a.1, a.2.1, a.2.2.1, .int .i64 p.kids, .string p.name, a.2.2.2.1, a.2.2.2.2]
  is : IsProto (· < w.heap.size) w a.1 a.2.1 a.2.2.1 a.2.2.2.1 a.2.2.2.2 p
  code : ∀ i, i < p.code.n → (Lit.int .u32 (p.code.f i)).wf = true
  nums : ∀ i, i < p.consts.n → (Lit.int .i64 (p.consts.f i).num).wf = true
theorem proto_of {fuel : Nat} {cs : List Value} {x : DataW H × List MemPlace} (hl : cs.length = 10) (h : DataW.trod enc Tryz.prog w base spare held fuel 137 cs = some x) :
    ∃ q : (Value × Value × Value × Value × Value) × PD, Got w cs q.1 q.2 := by
  match cs, hl with
  | [c0, c1, c2, c3, c4, c5, c6, c7, c8, c9], _ =>
    obtain ⟨xs, n, _, _, _, hlen, hfd⟩ := DataW.trod_struct Tryz.underlying137 h
    match xs, hlen, hfd with
    | [x0, x1, x2, x3, x4, x5, x6, x7, x8, x9], _, hfd =>
      obtain ⟨k0, i0, _, _⟩ := DataW.trod_int Tryz.underlying3 (hfd 0 _ rfl)
      obtain ⟨k1, i1, _⟩ := DataW.trod_bool Tryz.underlying4 (hfd 1 _ rfl)
      obtain ⟨k2, i2, _, _⟩ := DataW.trod_int Tryz.underlying3 (hfd 2 _ rfl)
      obtain ⟨v3, s3, i3, j3, l3⟩ := ints_of Tryz.underlying47 Tryz.underlying90 cells49 (hfd 3 _ rfl)
      obtain ⟨v4, s4, i4, j4, l4⟩ := vals_of (hfd 4 _ rfl)
      obtain ⟨v5, s5, i5, j5⟩ := ups_of (hfd 5 _ rfl)
      obtain ⟨k6, i6, _, _⟩ := DataW.trod_int Tryz.underlying3 (hfd 6 _ rfl)
      obtain ⟨k7, i7, _, hs⟩ := DataW.trod_string Tryz.underlying9 (hfd 7 _ rfl)
      obtain ⟨v8, s8, i8, j8, -⟩ := ints_of Tryz.underlying34 Tryz.underlying3 cells3 (hfd 8 _ rfl)
      obtain ⟨v9, s9, i9, j9⟩ := strs_of Tryz.underlying50 Tryz.underlying9 cells9 (hfd 9 _ rfl)
      simp [cells3, cells4, cells9, cells55, cells58, cells59, cells77, cells78] at i0 i1 i2 i3 i4 i5 i6 i7 i8 i9
      subst i0 i1 i2 i3 i4 i5 i6 i7 i8 i9
      exact ⟨((c3, c4, c5, c8, c9), ⟨k0, k1, k2, s3, s4, s5, k6, k7, s8, s9⟩), rfl, ⟨j3, j4, j5, j8, j9, by simpa [maxLen] using hs⟩, l3, l4⟩
theorem protos_of {fuel : Nat} {cs : List Value} {x : DataW H × List MemPlace} (h : DataW.trod enc Tryz.prog w base spare held fuel 30 cs = some x) :
    ∃ v s, cs = [v] ∧ IsProtos (· < w.heap.size) w v s ∧ Bnd s := by
  obtain ⟨ao, n, cap, C, rfl, hn, h1, h2⟩ := arr_of (by omega) Tryz.underlying30 cells80 h
  have : Inhabited ((Value × Value × Value × Value × Value) × PD) := ⟨((undef, undef, undef, undef, undef), ⟨0, false, 0, ⟨0, fun _ => 0⟩, ⟨0, fun _ => ⟨0, 0, ByteArray.empty⟩⟩, ⟨0, fun _ => ⟨false, 0⟩⟩, 0, ByteArray.empty, ⟨0, fun _ => 0⟩, ⟨0, fun _ => ByteArray.empty⟩⟩)⟩
  obtain ⟨f, hf⟩ := Go.Deep.choose_lt (α := (Value × Value × Value × Value × Value) × PD) (p := fun i q => Got w (C i) q.1 q.2) (n := n) (fun i hi => by
    obtain ⟨hl, m, y, hy⟩ := h2 i hi
    exact proto_of hl hy)
  refine ⟨_, ⟨n, fun i => (f i).2⟩, rfl, ⟨fun i => (f i).1.1, fun i => (f i).1.2.1, fun i => (f i).1.2.2.1, fun i => (f i).1.2.2.2.1, fun i => (f i).1.2.2.2.2, ⟨ao, cap, rfl, hn, fun hp => ?_⟩, fun i hi => (hf i hi).is⟩, fun i hi => (hf i hi).code, fun i hi => (hf i hi).nums⟩
  obtain ⟨b, o, rfl, hb, hcc⟩ := h1 hp
  refine ⟨b, o, rfl, hb, fun i hi j hj => ?_⟩
  have hi' : i < n := hi
  rw [hcc i hi' j hj, (hf i hi').form]
  rcases (show j = 0 ∨ j = 1 ∨ j = 2 ∨ j = 3 ∨ j = 4 ∨ j = 5 ∨ j = 6 ∨ j = 7 ∨ j = 8 ∨ j = 9 by omega) with rfl | rfl | rfl | rfl | rfl | rfl | rfl | rfl | rfl | rfl <;> rfl
end

theorem cells33 : Tryz.prog.cellsOf 32 = 1 := by kernel_rfl
set_option maxRecDepth 100000 in
theorem open_chunk {H : Type} {enc : TypeId × Value → H} {W : World} {base : Nat} {r : Reach} {sp : Nat → Bool} {v : Value} {d : DataW H} {p : List MemPlace}
    (hv : Value.okWide Tryz.prog W r base 32 v) (h : DataW.Trod enc Tryz.prog W 0 sp true 32 v d p) : ∃ u s, v = .agg #[u] ∧ IsProtos (· < W.heap.size) W u s ∧ Bnd s := by
  obtain ⟨⟨l⟩, rfl, hsz⟩ := okWide_struct Tryz.underlying32 hv
  rw [cells33] at hsz
  match l, hsz with
  | [c0], _ =>
    obtain ⟨fuel, hf⟩ := h
    obtain ⟨xs, n, _, hx, hl, hlen, hfd⟩ := DataW.trod_struct Tryz.underlying32 hf
    match xs, hlen, hfd with
    | [x0], _, hfd =>
      have e0 := hfd 0 _ rfl
      simp only [Value.cells] at e0
      obtain ⟨u, s, hu, hs, hbd⟩ := protos_of e0
      simp [cells31] at hu
      subst hu
      exact ⟨c0, s, rfl, hs, hbd⟩
end
section
open Go.ChangeShapes Go.WideShapes Go.ChangeAt Go.RowKit
set_option linter.unusedVariables false
set_option linter.unusedSimpArgs false
set_option maxRecDepth 100000
theorem own : ownKnob Tryz.prog.godebug = none := by kernel_rfl
theorem gSpans : Tryz.prog.globalNamed "loop.example/s02979/impl.spans" = some 1 := by kernel_rfl
theorem tSpans : (Tryz.prog.globals[1]?).map (·.type) = some 236 := by kernel_rfl
theorem cellsI : Tryz.prog.cellsOf 3 = 1 := by kernel_rfl
theorem cells38 : Tryz.prog.cellsOf 235 = 2 := by kernel_rfl
theorem cells39 : Tryz.prog.cellsOf 236 = 8 := by kernel_rfl
def cells8 : Array Value := #[.int .i64 0, .int .i64 6, .int .i64 6, .int .i64 8, .int .i64 14, .int .i64 9, .int .i64 23, .int .i64 9]
abbrev tableH {H : Type} : DataW H := Rows.laid_loop_example_s02979_impl_spans
/-- One row of the table: two integers. -/
theorem pair_of {H : Type} {enc : TypeId × Value → H} {w : World} {base : Nat} {sp : Nat → Bool} {held : Bool} {fuel : Nat} {a b : Value} {m n : Int} {p : List MemPlace}
    (h : DataW.trod enc Tryz.prog w base sp held fuel 235 [a, b] = some (.agg [.lit (.int .i64 m), .lit (.int .i64 n)], p)) : a = .int .i64 m ∧ b = .int .i64 n := by
  obtain ⟨y0, y1, k, hx, _, e0, e1⟩ := trod_struct2 Tryz.underlying235 h
  simp only [Prod.mk.injEq, DataW.agg.injEq, List.cons.injEq, and_true] at hx
  obtain ⟨⟨i0, i1⟩, _⟩ := hx
  simp only [cellsI] at e0 e1
  obtain ⟨k0, f0, g0, _⟩ := DataW.trod_int Tryz.underlying3 e0
  obtain ⟨k1, f1, g1, _⟩ := DataW.trod_int Tryz.underlying3 e1
  rw [g0] at i0
  rw [g1] at i1
  simp at i0 i1 f0 f1
  subst i0 i1 f0 f1
  exact ⟨rfl, rfl⟩
theorem cells_of_laid {W : World} (h : laidMetH Tryz.prog [("loop.example/s02979/impl.spans", Rows.laid_loop_example_s02979_impl_spans)] W) : W.var? Tryz.prog "loop.example/s02979/impl.spans" = some cells8 := by
  rw [MakeChecks.laidMetH_plain _ _ _ (by kernel_rfl)] at h
  obtain ⟨ps, ⟨g, t, cs, fuel, p, q, hg, ht, hvar, hd, _, _⟩, _⟩ := h
  obtain rfl := Option.some.inj (gSpans.symm.trans hg)
  obtain rfl := Option.some.inj (tSpans.symm.trans ht)
  rw [hvar]
  congr 1
  obtain ⟨l⟩ := cs
  obtain ⟨xs, m, rfl, hx, hlen, hn, hel⟩ := DataW.trod_array Tryz.underlying236 hd
  rw [cells39] at hlen
  rw [cells38] at hel
  obtain ⟨a0, a1, a2, a3, a4, a5, a6, a7, rfl⟩ : ∃ a0 a1 a2 a3 a4 a5 a6 a7, l = [a0, a1, a2, a3, a4, a5, a6, a7] := by
    match l, hlen with
    | [a0, a1, a2, a3, a4, a5, a6, a7], _ => exact ⟨a0, a1, a2, a3, a4, a5, a6, a7, rfl⟩
  match xs, hn, hx, hel with
  | [x0, x1, x2, x3], _, hx, hel =>
    simp only [Rows.laid_loop_example_s02979_impl_spans, List.map_cons, List.map_nil, Prod.mk.injEq, DataW.agg.injEq, List.cons.injEq, and_true] at hx
    obtain ⟨⟨i0, i1, i2, i3⟩, _⟩ := hx
    obtain ⟨x0, p0⟩ := x0
    obtain ⟨x1, p1⟩ := x1
    obtain ⟨x2, p2⟩ := x2
    obtain ⟨x3, p3⟩ := x3
    simp only at i0 i1 i2 i3
    subst i0 i1 i2 i3
    obtain ⟨rfl, rfl⟩ := pair_of (hel 0 (by decide))
    obtain ⟨rfl, rfl⟩ := pair_of (hel 1 (by decide))
    obtain ⟨rfl, rfl⟩ := pair_of (hel 2 (by decide))
    obtain ⟨rfl, rfl⟩ := pair_of (hel 3 (by decide))
    rfl
theorem spans_of_var {W : World} (h : W.var? Tryz.prog "loop.example/s02979/impl.spans" = some cells8) : Spans W := by
  have c0 : W.cell? ⟨1, 0, none⟩ = some (.int .i64 0) := World.var?_cell gSpans h 0
  exact ⟨c0, World.var?_cell gSpans h 1, World.var?_cell gSpans h 2, World.var?_cell gSpans h 3, World.var?_cell gSpans h 4, World.var?_cell gSpans h 5, World.var?_cell gSpans h 6, World.var?_cell gSpans h 7, World.block_lt_of_cell? _ _ c0⟩
theorem reads_table {H : Type} (enc : TypeId × Value → H) (W : World) (sp : Nat → Bool) : DataW.trod enc Tryz.prog W 0 sp true 4 236 cells8.toList = some (tableH, []) := by kernel_rfl
theorem vars_again {H : Type} (enc : TypeId × Value → H) {W : World} (h : W.var? Tryz.prog "loop.example/s02979/impl.spans" = some cells8) (sp : Nat → Bool) :
    DataW.TrodVars enc Tryz.prog W sp ["loop.example/s02979/impl.spans"] [tableH] (MemPlace.row ⟨1, 0, none⟩ cells8.size ++ [] ++ []) :=
  ⟨1, 236, cells8, 4, [], [], gSpans, tSpans, h, reads_table enc W sp, rfl, rfl⟩
/-- The door's own heap meets the condition. -/
theorem door_met (os : Os) (args : Array Value) : laidMetH Tryz.prog [("loop.example/s02979/impl.spans", Rows.laid_loop_example_s02979_impl_spans)] ((World.doorLaid Tryz.prog 400 os).forCall (fun _ _ => 0) ⟨#[], args, []⟩).memory :=
  laidMetH_of_parts3 (fuel := 8) (laidMet_of_run' 8 (by kernel_rfl) (by kernel_rfl)) (by kernel_rfl) (by kernel_rfl)
end
end Go.Proofs.YtckapapejfnojaaGreatDoor
