import Derived.Test.YtebjplogpngeaaaGreatDoorGl
import Derived.Test.YtebjplogpngeaaaGreatDoorChK
import Derived.Test.YtebjplogpngeaaaGreatDoorRows
import Derived.OpenShut
import Derived.WalkLawsBesides
import Derived.WalkSpells
import Derived.Laws.BitsAllLaws
import Derived.Laws.Concat
import Derived.Test.YtebjplogpngeaaaGreatDoorGg
import Derived.Test.YtebjplogpngeaaaGreatDoorGa
import Derived.Deep.Slices
import Derived.WideShapes
namespace Go.Proofs.YtebjplogpngeaaaGreatDoor
open Go.RowKit
set_option linter.unusedVariables false
set_option linter.unusedSimpArgs false
theorem protoB_size (p : PD) (h : ProtoOk p) : (protoB p).size ≤ 1000000 := by
  have h1 : (codeB p).size ≤ p.code.n * 4 := cat_size _ fun i _ => Nat.le_of_eq (u4_size _)
  have h2 : (constsB p).size ≤ p.consts.n * 1010 := cat_size _ fun i hi => constB_size _ (by
    have := h.allConsts i hi
    unfold Plain at this
    omega)
  have h3 : (upsB p).size ≤ p.ups.n * 6 := cat_size _ fun i _ => upB_size _
  have h4 : (linesB p).size ≤ p.lines.n * 5 := cat_size _ fun i _ => pv_size _
  have h5 : (upNamesB p).size ≤ p.upNames.n * 1005 := cat_size _ fun i hi => by
    have := h.allUpNames i hi
    have := sizedB_size (p.upNames.f i)
    omega
  have h6 : (debugB p).size ≤ 200000 := by
    by_cases hb : Bare p
    · rw [debugB_bare hb, flagB_size]; omega
    · rw [debugB_full hb]
      simp only [ByteArray.size_append, flagB_size]
      have k1 := sizedB_size p.name
      have k2 := pvN_size p.lines.n
      have k3 := pvN_size p.upNames.n
      have := h.name
      have := h.lines
      have := h.upNames
      have := h.code2
      have := h.ups
      omega
  have k1 := pv_size p.params
  have k2 := pv_size p.regs
  have k3 := pvN_size p.code.n
  have k4 := pvN_size p.consts.n
  have k5 := pvN_size p.ups.n
  have k6 := pv_size p.kids
  have := h.code2
  have := h.consts
  have := h.ups
  unfold protoB
  simp only [ByteArray.size_append, flagB_size]
  omega
theorem chunkB_size (s : Sl PD) (h : Wf s) : (chunkB s).size ≤ 1000000000 := by
  have h1 : (cat (fun i => protoB (s.f i)) s.n).size ≤ s.n * 1000000 := cat_size _ fun i hi => protoB_size _ (h.each i hi)
  have := h.high
  unfold chunkB headB
  rw [ByteArray.size_append, strOfNums_size]
  simp only [List.length_cons, List.length_nil]
  omega
end Go.Proofs.YtebjplogpngeaaaGreatDoor
namespace Go.Proofs.YtebjplogpngeaaaGreatDoor
open Go.RowKit Go.Lib
set_option linter.unusedVariables false
set_option linter.unusedSimpArgs false
theorem info8 : (Tryz.prog.info? 5).map (fun i => (i.zero, i.size, i.bytes)) = some (some (.int .u8 0), 1, 1) := by kernel_rfl
theorem strCells_byte (b : UInt8) : strCells (strOfNums [(b.toNat : Int)]) = [.int .u8 (b.toNat : Int)] := by simp [strCells, strOfNums]
theorem ext_step (s : ByteArray) (i : Nat) (hi : i < s.size) : s.extract 0 i ++ strOfNums [((s[i]'hi).toNat : Int)] = s.extract 0 (i + 1) := by
  apply ByteArray.ext
  apply Array.ext'
  simp [strOfNums]
  rw [List.take_add_one]
  simp [hi]
  rfl
end Go.Proofs.YtebjplogpngeaaaGreatDoor
namespace Go.Proofs.YtebjplogpngeaaaGreatDoor
open Go.RowKit Go.Lib
set_option linter.unusedVariables false
set_option linter.unusedSimpArgs false
end Go.Proofs.YtebjplogpngeaaaGreatDoor
namespace Go.Proofs.YtebjplogpngeaaaGreatDoor
open Go.RowKit Go.Lib
set_option linter.unusedVariables false
set_option linter.unusedSimpArgs false
/-- what a constant must be, to be written. -/
structure Cst (d : VD) : Prop where
  kind : d.kind = 0 ∨ (d.kind = 1 ∧ 0 ≤ d.num ∧ d.num ≤ 1) ∨ d.kind = 2 ∨ (d.kind = 3 ∧ d.text.size ≤ 1000)
  low : -9223372036854775808 ≤ d.num
  high : d.num ≤ 9223372036854775807
theorem u64i8 (z : Int) : strOfNums (WPut.leL 8 (IntKind.u64.wrap z)) = i8 z := by rw [IntKind.wrap_u64]; rfl
end Go.Proofs.YtebjplogpngeaaaGreatDoor
namespace Go.Proofs.YtebjplogpngeaaaGreatDoor
open Go.RowKit Go.Lib Go.Shelf
set_option linter.unusedVariables false
set_option linter.unusedSimpArgs false
/-- what a prototype must be, to be written. -/
structure PW (p : PD) : Prop where
  code : ∀ i, i < p.code.n → 0 ≤ p.code.f i ∧ p.code.f i ≤ 4294967295
  consts : ∀ i, i < p.consts.n → Cst (p.consts.f i)
  name : p.name.size ≤ 1000
  upNames : ∀ i, i < p.upNames.n → (p.upNames.f i).size ≤ 1000
/-- the buffer's state, since w0 and v0. -/
structure St (Q : Nat → Prop) (w0 : World) (v0 : Value) (y : World) (v : Value) (X : ByteArray) : Prop where
  buf : Buf y 5 v X
  fr : Fr Q w0 v0 y v
theorem St.later {Q : Nat → Prop} {w0 y y' : World} {v0 v : Value} {X : ByteArray} (h : St Q w0 v0 y v X) (hb : Below y.heap.size y y') : St Q w0 v0 y' v X :=
  ⟨h.buf.keep fun k hk => hb.block k (h.buf.lt k hk), h.fr.trans (Fr.of_below _ _ hb)⟩
theorem St.next {Q : Nat → Prop} {w0 y y' : World} {v0 v v' : Value} {X X' : ByteArray} (h : St Q w0 v0 y v X) (hb : Buf y' 5 v' X') (hf : Fr Q y v y' v') : St Q w0 v0 y' v' X' := ⟨hb, h.fr.trans hf⟩
theorem St.drew {Q : Nat → Prop} {w0 y : World} {v0 v : Value} {X : ByteArray} (h : St Q w0 v0 y v X) : St Q w0 v0 y.drew v X := h.later (Below.refl _ _).drew
/-- a list that came in. -/
theorem arr_cells {lo : Nat} {w : World} {ao : Option Addr} {z n cap : Nat} {C : Nat → Nat → Value} (h : IsArr (· < lo) w (.slice ao n cap) z n C) (hn : 0 < n) :
    ∃ b o, ao = some ⟨b, o, none⟩ ∧ b < lo ∧ ∀ y : World, (∀ k, k < lo → y.heap[k]? = w.heap[k]?) → ∀ i, i < n → ∀ j, j < z → y.cell? ⟨b, o + i * z + j, none⟩ = some (C i j) := by
  obtain ⟨ao', cap', he, h1, h2⟩ := h
  simp only [Value.slice.injEq] at he
  obtain ⟨rfl, _, rfl⟩ := he
  obtain ⟨b, o, rfl, hb, hc⟩ := h2 hn
  exact ⟨b, o, rfl, hb, fun y hy i hi j hj => (World.cell?_of_block (hy b hb)).trans (hc i hi j hj)⟩
noncomputable def pre1 (p : PD) : ByteArray := flagB p.vararg ++ WPut.pv p.params ++ WPut.pv p.regs ++ pvN p.code.n
noncomputable def pre3 (p : PD) : ByteArray := pre1 p ++ codeB p ++ pvN p.consts.n
noncomputable def pre5 (p : PD) : ByteArray := pre3 p ++ constsB p ++ pvN p.ups.n
noncomputable def pre7 (p : PD) : ByteArray := pre5 p ++ upsB p ++ WPut.pv p.kids
noncomputable def pre8 (p : PD) : ByteArray := pre7 p ++ (flagB true ++ sizedB p.name ++ pvN p.lines.n)
noncomputable def pre9 (p : PD) : ByteArray := pre8 p ++ linesB p ++ pvN p.upNames.n
theorem protoB_eq (p : PD) : protoB p = pre7 p ++ debugB p := rfl
theorem protoB_bare {p : PD} (h : Bare p) : protoB p = pre7 p ++ flagB false := by rw [protoB_eq, debugB_bare h]
theorem protoB_full {p : PD} (h : ¬ Bare p) : protoB p = pre9 p ++ upNamesB p := by
  rw [protoB_eq, debugB_full h]
  simp only [pre9, pre8, ByteArray.append_assoc]
theorem pre7_le (p : PD) : (pre7 p).size ≤ (protoB p).size := by rw [protoB_eq, ByteArray.size_append]; omega
theorem pre5_le (p : PD) : (pre5 p).size + (upsB p).size + (WPut.pv p.kids).size ≤ (protoB p).size := by
  have h := pre7_le p
  unfold pre7 at h
  simp only [ByteArray.size_append] at h
  omega
theorem pre3_le (p : PD) : (pre3 p).size + (constsB p).size + (pvN p.ups.n).size ≤ (protoB p).size := by
  have h := pre5_le p
  unfold pre5 at h
  simp only [ByteArray.size_append] at h
  omega
theorem pre1_le (p : PD) : (pre1 p).size + (codeB p).size + (pvN p.consts.n).size ≤ (protoB p).size := by
  have h := pre3_le p
  unfold pre3 at h
  simp only [ByteArray.size_append] at h
  omega
theorem pre9_le {p : PD} (h : ¬ Bare p) : (pre9 p).size + (upNamesB p).size ≤ (protoB p).size := by rw [protoB_full h, ByteArray.size_append]; omega
theorem pre8_le {p : PD} (h : ¬ Bare p) : (pre8 p).size + (linesB p).size + (pvN p.upNames.n).size ≤ (protoB p).size := by
  have h := pre9_le h
  unfold pre9 at h
  simp only [ByteArray.size_append] at h
  omega
theorem pv_nat (n : Nat) : WPut.pv (n : Int) = pvN n := rfl
theorem flag_true : (⟨#[1]⟩ : ByteArray) = flagB true := rfl
theorem flag_false : strOfNums [0] = flagB false := rfl
theorem u4_cells (n : Int) : strCells (u4 n) = [.int .u8 (n % 256), .int .u8 (n / 256 % 256), .int .u8 (n / 65536 % 256), .int .u8 (n / 16777216 % 256)] := by
  unfold u4
  rw [strCells_nums]
  · rfl
  · intro x hx
    simp only [List.mem_cons, List.not_mem_nil, or_false] at hx
    omega
attribute [local go_sem] Oper.semAt_some
end Go.Proofs.YtebjplogpngeaaaGreatDoor
namespace Go.Proofs.YtebjplogpngeaaaGreatDoor
open Go.RowKit Go.ChangeShapes Go.WideShapes Go.ChangeAt
set_option linter.unusedVariables false
set_option linter.unusedSimpArgs false

section
variable {H : Type} {enc : TypeId × Value → H} {w : World} {base : Nat} {spare : Nat → Bool} {held : Bool}

theorem addr_plain (b o i j : Nat) : ((⟨b, o, none⟩ : Addr).add i).add j = ⟨b, o + i + j, none⟩ := by
  rw [Go.Deep.add_add]
  unfold Addr.add
  split <;> simp <;> omega

/-- a slice that came in: its elements' cells, and that each of them reads. -/
theorem arr_of {t e : TypeId} {z : Nat} (hz : 0 < z) (ht : Tryz.prog.underlying t = some (.slice e)) (hc : Tryz.prog.cellsOf e = z) {fuel : Nat} {cs : List Value} {x : DataW H × List MemPlace} (h : DataW.trod enc Tryz.prog w base spare held fuel t cs = some x) :
    ∃ (ao : Option Addr) (n cap : Nat) (C : Nat → List Value), cs = [.slice ao n cap] ∧ n ≤ 9223372036854775807 ∧
      (0 < n → ∃ b o, ao = some ⟨b, o, none⟩ ∧ b < w.heap.size ∧ ∀ i, i < n → ∀ j, j < z → w.cell? ⟨b, o + i * z + j, none⟩ = (C i)[j]?) ∧
      ∀ i, i < n → (C i).length = z ∧ ∃ m y, DataW.trod enc Tryz.prog w base spare held m e (C i) = some y := by
  rcases Go.Deep.open_slice ht h with ⟨rfl, _⟩ | ⟨a, len, cap, m, k, D, Pl, rfl, hb, hl, hm, hmm, _, hx⟩
  · exact ⟨none, 0, 0, fun _ => [], rfl, by omega, fun h => by omega, fun i hi => by omega⟩
  · rw [hc] at hx
    have hlm : len ≤ m := by rw [hmm]; split <;> omega
    obtain ⟨C, hC⟩ := Go.Deep.choose_lt (α := List Value) (p := fun i cs' => w.cells? base (a.add (i * z)) z = some cs' ∧ DataW.trod enc Tryz.prog w base spare held k e cs' = some (D i, Pl i)) hx
    refine ⟨some a, len, cap, C, rfl, by simp only [maxLen] at hm; omega, fun hpos => ?_, fun i hi => ?_⟩
    · obtain ⟨b, o, spot⟩ := a
      have h0 := (World.cells?_some (hC 0 (by omega)).1).2.2 0 hz
      have hlen0 := (World.cells?_some (hC 0 (by omega)).1).2.1
      obtain ⟨v0, hv0⟩ : ∃ v, (C 0)[0]? = some v := ⟨_, List.getElem?_eq_getElem (by omega)⟩
      rw [hv0] at h0
      have hspot : spot = none := by simpa [Addr.add] using World.cell?_spot h0
      subst hspot
      refine ⟨b, o, rfl, ?_, fun i hi j hj => ?_⟩
      · have hh : w.cell? ⟨b, o, none⟩ = some v0 := by simpa [Addr.add] using h0
        unfold World.cell? at hh
        cases hbk : w.heap[b]? with
        | none => simp [hbk] at hh
        | some ob => exact (Array.getElem?_eq_some_iff.1 hbk).1
      · have := (World.cells?_some (hC i (by omega)).1).2.2 j hj
        rw [addr_plain] at this
        exact this
    · exact ⟨(World.cells?_some (hC i (by omega)).1).2.1, k, _, (hC i (by omega)).2⟩

theorem ints_of {t e : TypeId} {k : IntKind} (ht : Tryz.prog.underlying t = some (.slice e)) (he : Tryz.prog.underlying e = some (.int k)) (hc : Tryz.prog.cellsOf e = 1) {fuel : Nat} {cs : List Value} {x : DataW H × List MemPlace} (h : DataW.trod enc Tryz.prog w base spare held fuel t cs = some x) :
    ∃ v s, cs = [v] ∧ IsInts k (· < w.heap.size) w v s ∧ ∀ i, i < s.n → (Lit.int k (s.f i)).wf = true := by
  obtain ⟨ao, n, cap, C, rfl, hn, h1, h2⟩ := arr_of (by omega) ht hc h
  obtain ⟨f, hf⟩ := Go.Deep.choose_lt (α := Int) (p := fun i x => C i = [.int k x] ∧ (Lit.int k x).wf = true) (n := n) (fun i hi => by
    obtain ⟨_, m, y, hy⟩ := h2 i hi
    obtain ⟨q, hq, _, hw⟩ := DataW.trod_int he hy
    exact ⟨q, hq, hw⟩)
  refine ⟨_, ⟨n, f⟩, rfl, ⟨ao, cap, rfl, hn, fun hp => ?_⟩, fun i hi => (hf i hi).2⟩
  obtain ⟨b, o, rfl, hb, hcc⟩ := h1 hp
  refine ⟨b, o, rfl, hb, fun i hi j hj => ?_⟩
  have hi' : i < n := hi
  rw [hcc i hi' j hj, (hf i hi').1]
  obtain rfl : j = 0 := by omega
  rfl
theorem strs_of {t e : TypeId} (ht : Tryz.prog.underlying t = some (.slice e)) (he : Tryz.prog.underlying e = some .string) (hc : Tryz.prog.cellsOf e = 1) {fuel : Nat} {cs : List Value} {x : DataW H × List MemPlace} (h : DataW.trod enc Tryz.prog w base spare held fuel t cs = some x) :
    ∃ v s, cs = [v] ∧ IsStrs (· < w.heap.size) w v s := by
  obtain ⟨ao, n, cap, C, rfl, hn, h1, h2⟩ := arr_of (by omega) ht hc h
  obtain ⟨f, hf⟩ := Go.Deep.choose_lt (α := ByteArray) (p := fun i x => C i = [.string x] ∧ x.size ≤ maxLen) (n := n) (fun i hi => by
    obtain ⟨_, m, y, hy⟩ := h2 i hi
    obtain ⟨q, hq, _, hl⟩ := DataW.trod_string he hy
    exact ⟨q, hq, hl⟩)
  refine ⟨_, ⟨n, f⟩, rfl, ⟨ao, cap, rfl, hn, fun hp => ?_⟩, fun i hi => by have := (hf i hi).2; simpa [maxLen] using this⟩
  obtain ⟨b, o, rfl, hb, hcc⟩ := h1 hp
  refine ⟨b, o, rfl, hb, fun i hi j hj => ?_⟩
  have hi' : i < n := hi
  rw [hcc i hi' j hj, (hf i hi').1]
  obtain rfl : j = 0 := by omega
  rfl
theorem cells2 : Tryz.prog.cellsOf 2 = 1 := by kernel_rfl
theorem cells3 : Tryz.prog.cellsOf 3 = 1 := by kernel_rfl
theorem cells4 : Tryz.prog.cellsOf 4 = 1 := by kernel_rfl
theorem cells9 : Tryz.prog.cellsOf 9 = 1 := by kernel_rfl
theorem cells49 : Tryz.prog.cellsOf 70 = 1 := by kernel_rfl
theorem cells55 : Tryz.prog.cellsOf 48 = 1 := by kernel_rfl
theorem cells58 : Tryz.prog.cellsOf 51 = 1 := by kernel_rfl
theorem cells59 : Tryz.prog.cellsOf 52 = 1 := by kernel_rfl
/-- that the numbers are numbers of their kinds. -/
structure Bnd (s : Sl PD) : Prop where
  code : ∀ i, i < s.n → ∀ j, j < (s.f i).code.n → (Lit.int .u32 ((s.f i).code.f j)).wf = true
  nums : ∀ i, i < s.n → ∀ j, j < (s.f i).consts.n → (Lit.int .i64 ((s.f i).consts.f j).num).wf = true
/-- a prototype that came in. -/
structure Got (w : World) (cs : List Value) (a : Value × Value × Value × Value × Value) (p : PD) : Prop where
  form : cs = [.int .i64 p.params, .bool p.vararg, .int .i64 p.regs, a.1, a.2.1, a.2.2.1, .int .i64 p.kids, .string p.name, a.2.2.2.1, a.2.2.2.2]
  is : IsProto (· < w.heap.size) w a.1 a.2.1 a.2.2.1 a.2.2.2.1 a.2.2.2.2 p
  code : ∀ i, i < p.code.n → (Lit.int .u32 (p.code.f i)).wf = true
  nums : ∀ i, i < p.consts.n → (Lit.int .i64 (p.consts.f i).num).wf = true
end

end Go.Proofs.YtebjplogpngeaaaGreatDoor
namespace Go.Proofs.YtebjplogpngeaaaGreatDoor
open Go.RowKit Go.Lib Go.Shelf
set_option linter.unusedVariables false
set_option linter.unusedSimpArgs false
theorem pw_of {s : Sl PD} (hwf : Wf s) (hbd : Bnd s) (i : Nat) (hi : i < s.n) : PW (s.f i) := by
  have ok := hwf.each i hi
  refine ⟨fun j hj => bounds_u32 (hbd.code i hi j hj), fun j hj => ?_, ok.name, ok.allUpNames⟩
  obtain ⟨h1, h2⟩ := bounds_i64 (hbd.nums i hi j hj)
  have := ok.allConsts j hj
  unfold Plain at this
  exact ⟨by omega, h1, h2⟩
theorem cat_sz {s : Sl PD} (hwf : Wf s) {i : Nat} (hi : i < s.n) : headB.size + (cat (fun i => protoB (s.f i)) i).size + (protoB (s.f i)).size ≤ 70368744177664 := by
  have h1 := chunkB_size s hwf
  have h2 := cat_lt (fun i => protoB (s.f i)) hi
  unfold chunkB at h1
  rw [ByteArray.size_append] at h1
  omega
end Go.Proofs.YtebjplogpngeaaaGreatDoor
