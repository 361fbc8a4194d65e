import Derived.Test.YtenonpajjlppjaaGreatDoorLjH
import Derived.Test.YtenonpajjlppjaaGreatDoorGL
import Derived.Test.YtenonpajjlppjaaGreatDoorLjL
import Derived.Test.YtenonpajjlppjaaGreatDoorUgB
import Derived.Test.YtenonpajjlppjaaGreatDoorOpn
import Derived.Test.YtenonpajjlppjaaGreatDoorChK
namespace Go.Proofs.YtenonpajjlppjaaGreatDoor
section
open Go.RowKit
set_option linter.unusedVariables false
set_option linter.unusedSimpArgs false
set_option maxRecDepth 100000
set_option maxHeartbeats 1000000
theorem tx0 {t : ByteArray} (h : t.size = 0) : t = ⟨#[]⟩ := ByteArray.ext (Array.eq_empty_of_size_eq_zero h)
theorem l6Const_in (d : VD) (hp : Plain d) (h0 : -9223372036854775808 ≤ d.num) (h1 : d.num ≤ 9223372036854775807) (w : World) :
    Calls Tryz.prog 24 #[.agg #[.int .i64 d.kind, .int .i64 d.num, .string d.text]] w fun e w' => e = .returned (.string (constT d)) ∧ Below w.heap.size w w' := by
  obtain ⟨k, n, t⟩ := d
  unfold Plain at hp
  dsimp only at hp h0 h1 ⊢
  rcases hp with ⟨rfl, rfl, ht⟩ | ⟨rfl, hn, ht⟩ | ⟨rfl, ht⟩ | ⟨rfl, rfl, ht⟩
  · obtain rfl := tx0 ht
    exact l6Const_nil w
  · obtain rfl := tx0 ht
    rcases hn with rfl | rfl
    · exact l6Const_false w
    · exact l6Const_true w
  · obtain rfl := tx0 ht
    exact l6Const_int n h0 h1 w
  · exact l6Const_text t ht w
theorem lval_in (P : Nat) (U : List Value) (hU : U.length = 640) (d : VD) (hp : Plain d) (h0 : -9223372036854775808 ≤ d.num) (h1 : d.num ≤ 9223372036854775807) (w0 : World) (v0 : Value) (y : World) (v : Value) (X : ByteArray) (h : Lw P U w0 v0 y v X) (ht : PowTab y) (hs : X.size ≤ 70368744177664) :
    Calls Tryz.prog 53 #[.pointer (some ⟨P, 0, none⟩), .agg #[.int .i64 d.kind, .int .i64 d.num, .string d.text]] y fun e w' => ∃ v', e = .returned (.tuple #[]) ∧ Lw P U w0 v0 w' v' (X ++ (constT d ++ ⟨#[10]⟩)) := by
  obtain ⟨k, n, t⟩ := d
  unfold Plain at hp
  dsimp only at hp h0 h1 ⊢
  rcases hp with ⟨rfl, rfl, hx⟩ | ⟨rfl, hn, hx⟩ | ⟨rfl, hx⟩ | ⟨rfl, rfl, hx⟩
  · obtain rfl := tx0 hx
    exact lval_nil P U hU w0 v0 y v X h ht hs
  · obtain rfl := tx0 hx
    rcases hn with rfl | rfl
    · exact lval_false P U hU w0 v0 y v X h ht hs
    · exact lval_true P U hU w0 v0 y v X h ht hs
  · obtain rfl := tx0 hx
    exact lval_int P U hU n h0 h1 w0 v0 y v X h ht hs
  · exact lval_text P U hU t hx w0 v0 y v X h ht hs
/-- pieces one behind the other. -/
def catL (f : Nat → ByteArray) : Nat → ByteArray
  | 0 => ⟨#[]⟩
  | n + 1 => catL f n ++ f n
theorem catL_size {f : Nat → ByteArray} {b : Nat} : ∀ (n : Nat), (∀ i, i < n → (f i).size ≤ b) → (catL f n).size ≤ n * b
  | 0, _ => by show (⟨#[]⟩ : ByteArray).size ≤ _; exact Nat.zero_le _
  | n + 1, h => by
    have h1 := catL_size n fun i hi => h i (by omega)
    have h2 := h n (by omega)
    rw [catL, ByteArray.size_append, Nat.add_mul, Nat.one_mul]
    omega
/-- the lines of a prototype. -/
noncomputable def protoT (p : PD) : ByteArray :=
  headT p ++ ⟨#[10]⟩ ++ catL (fun i => constT (p.consts.f i) ++ ⟨#[10]⟩) p.consts.n ++ catL (fun i => upT (p.ups.f i) ++ ⟨#[10]⟩) p.ups.n ++ catL (fun i => wordT (p.code.f i) ++ ⟨#[10]⟩) p.code.n
/-- the listing of a chunk. -/
noncomputable def listT (s : Sl PD) : ByteArray := catL (fun i => protoT (s.f i)) s.n
end
section
open Go.RowKit
set_option linter.unusedVariables false
set_option linter.unusedSimpArgs false
set_option maxRecDepth 100000
set_option maxHeartbeats 1000000
/-- what the listing asks of a prototype. -/
structure LP (p : PD) : Prop where
  par : 0 ≤ p.params ∧ p.params ≤ 1000
  regs : 0 ≤ p.regs ∧ p.regs ≤ 1000
  kids : 0 ≤ p.kids ∧ p.kids ≤ 1000
  nc : p.consts.n ≤ 500
  nu : p.ups.n ≤ 60
  nw : p.code.n ≤ 2000
  plain : ∀ i, i < p.consts.n → Plain (p.consts.f i)
  nums : ∀ i, i < p.consts.n → -9223372036854775808 ≤ (p.consts.f i).num ∧ (p.consts.f i).num ≤ 9223372036854775807
  upx : ∀ i, i < p.ups.n → NumOk (p.ups.f i).index
  words : ∀ i, i < p.code.n → 0 ≤ p.code.f i ∧ p.code.f i ≤ 4294967295
theorem b_u32 {z : Int} (h : (Lit.int .u32 z).wf = true) : 0 ≤ z ∧ z ≤ 4294967295 := by
  simp [Lit.wf, IntKind.min, IntKind.max, IntKind.signed, IntKind.bits] at h
  omega
theorem b_i64 {z : Int} (h : (Lit.int .i64 z).wf = true) : -9223372036854775808 ≤ z ∧ z ≤ 9223372036854775807 := by
  simp [Lit.wf, IntKind.min, IntKind.max, IntKind.signed, IntKind.bits] at h
  omega
theorem lp_of {s : Sl PD} (hwf : Wf s) (hbd : Bnd s) (i : Nat) (hi : i < s.n) : LP (s.f i) := by
  have ok := hwf.each i hi
  have h1 := ok.regs1
  have h2 := ok.regs2
  have h3 := ok.par1
  have h4 := ok.par2
  obtain ⟨h, ht, _⟩ := hwf.tree
  obtain ⟨e, g, ho⟩ := Fo.within ht i (Nat.zero_le _) hi
  obtain ⟨g', _, _, hk0, hk⟩ := Fo.one ho
  have hle := Fo.le hk
  have hhi := hwf.high
  have hk1 : kidsOf s i ≤ 1000 := by
    by_cases hz : 0 < (kidsOf s i).toNat
    · have := hle.2 hz
      omega
    · omega
  exact ⟨by omega, by omega, ⟨hk0, hk1⟩, ok.consts, ok.ups, ok.code2, ok.allConsts, fun j hj => b_i64 (hbd.nums i hi j hj), ok.allUps, fun j hj => b_u32 (hbd.code i hi j hj)⟩
theorem constT_size {d : VD} (h : Plain d) (h0 : -9223372036854775808 ≤ d.num) (h1 : d.num ≤ 9223372036854775807) : (constT d ++ ⟨#[10]⟩).size ≤ 2100 := by
  have hd := dec_size d.num h0 h1
  have hx := hexB_size d.text
  have ht : d.text.size ≤ 1000 := by unfold Plain at h; omega
  unfold constT
  repeat' split
  all_goals simp only [ByteArray.size_append]
  all_goals first | decide | skip
  all_goals
    have e1 : (⟨#[99, 111, 110, 115, 116, 32, 105, 110, 116, 32]⟩ : ByteArray).size = 10 := rfl
    have e2 : (⟨#[99, 111, 110, 115, 116, 32, 116, 101, 120, 116, 32]⟩ : ByteArray).size = 11 := rfl
    have e3 : (⟨#[10]⟩ : ByteArray).size = 1 := rfl
    omega
theorem upT_size {u : UD} (h : NumOk u.index) : (upT u ++ ⟨#[10]⟩).size ≤ 100 := by
  unfold NumOk at h
  have hd := dec_size u.index (by omega) (by omega)
  unfold upT
  simp only [ByteArray.size_append]
  have e1 : (⟨#[117, 112, 32, 115, 116, 97, 99, 107, 32]⟩ : ByteArray).size = 9 := rfl
  have e2 : (⟨#[117, 112, 32, 99, 101, 108, 108, 32]⟩ : ByteArray).size = 8 := rfl
  have e3 : (⟨#[10]⟩ : ByteArray).size = 1 := rfl
  split <;> omega
theorem wordT_size {z : Int} (h1 : 0 ≤ z) (h2 : z ≤ 4294967295) : (wordT z ++ ⟨#[10]⟩).size ≤ 200 := by
  have hz := dec_size z (by omega) (by omega)
  have ha := dec_size (aW z) (by unfold aW; omega) (by unfold aW; omega)
  have hb := dec_size (bW z) (by unfold bW; omega) (by unfold bW; omega)
  have hc := dec_size (cW z) (by unfold cW; omega) (by unfold cW; omega)
  have hs := dec_size (sW z) (by unfold sW bW cW; omega) (by unfold sW bW cW; omega)
  have ho : 0 ≤ opW z := by unfold opW; omega
  have e0 : spB.size = 1 := rfl
  have e1 : (⟨#[119, 111, 114, 100, 32]⟩ : ByteArray).size = 5 := rfl
  have e3 : (⟨#[10]⟩ : ByteArray).size = 1 := rfl
  unfold wordT
  by_cases hop : 33 < opW z
  · rw [if_pos hop]
    simp only [ByteArray.size_append]
    omega
  · have hn := nm_size (k := (opW z).toNat) (by omega)
    rw [if_neg hop]
    split
    · simp only [ByteArray.size_append]
      omega
    · simp only [ByteArray.size_append]
      omega
theorem headT_size {p : PD} (h : LP p) : (headT p ++ ⟨#[10]⟩).size ≤ 200 := by
  have h1 := h.par
  have h2 := h.regs
  have h3 := h.kids
  have ha := dec_size p.params (by omega) (by omega)
  have hb := dec_size p.regs (by omega) (by omega)
  have hc := dec_size p.kids (by omega) (by omega)
  have e0 : spB.size = 1 := rfl
  have e1 : (⟨#[112, 114, 111, 116, 111, 32]⟩ : ByteArray).size = 6 := rfl
  have e2 : (⟨#[32, 118, 97, 114, 97, 114, 103]⟩ : ByteArray).size = 7 := rfl
  have e3 : (⟨#[10]⟩ : ByteArray).size = 1 := rfl
  have e4 : (⟨#[]⟩ : ByteArray).size = 0 := rfl
  unfold headT
  simp only [ByteArray.size_append]
  split <;> omega
/-- the words of a prototype's first line. -/
def headW (p : PD) : List ByteArray := if p.vararg then [⟨#[112, 114, 111, 116, 111]⟩, joinB [dec p.params, dec p.regs, dec p.kids], ⟨#[118, 97, 114, 97, 114, 103]⟩] else [⟨#[112, 114, 111, 116, 111]⟩, joinB [dec p.params, dec p.regs, dec p.kids]]
theorem headW_line (p : PD) : lineB (headW p) = headT p ++ ⟨#[10]⟩ := by
  unfold lineB headW headT
  congr 1
  have e1 : (⟨#[112, 114, 111, 116, 111]⟩ : ByteArray) ++ spB = ⟨#[112, 114, 111, 116, 111, 32]⟩ := rfl
  have e2 : spB ++ (⟨#[118, 97, 114, 97, 114, 103]⟩ : ByteArray) = ⟨#[32, 118, 97, 114, 97, 114, 103]⟩ := rfl
  have e3 : (⟨#[]⟩ : ByteArray) = ByteArray.empty := rfl
  cases p.vararg
  · simp only [joinB_more, joinB_one, Bool.false_eq_true, if_false, e1, e3, ByteArray.append_empty]
    simp only [← ByteArray.append_assoc]
  · simp only [joinB_more, joinB_one, if_true, e1, ← e2]
    simp only [← ByteArray.append_assoc]
theorem headW_size {p : PD} (h : LP p) : (joinB (headW p)).size ≤ 100000 := by
  have h1 := headT_size h
  rw [← headW_line, lineB_size] at h1
  omega
theorem catL_zero (f : Nat → ByteArray) : catL f 0 = ByteArray.empty := rfl
theorem catL_succ (f : Nat → ByteArray) (n : Nat) : catL f (n + 1) = catL f n ++ f n := rfl
theorem catC_size {p : PD} (h : LP p) {k : Nat} (hk : k ≤ p.consts.n) : (catL (fun i => constT (p.consts.f i) ++ ⟨#[10]⟩) k).size ≤ 1050000 := by
  have := h.nc
  have h1 := catL_size (f := fun i => constT (p.consts.f i) ++ ⟨#[10]⟩) (b := 2100) k fun i hi => constT_size (h.plain i (by omega)) (h.nums i (by omega)).1 (h.nums i (by omega)).2
  omega
theorem catU_size {p : PD} (h : LP p) {k : Nat} (hk : k ≤ p.ups.n) : (catL (fun i => upT (p.ups.f i) ++ ⟨#[10]⟩) k).size ≤ 6000 := by
  have := h.nu
  have h1 := catL_size (f := fun i => upT (p.ups.f i) ++ ⟨#[10]⟩) (b := 100) k fun i hi => upT_size (h.upx i (by omega))
  omega
theorem catW_size {p : PD} (h : LP p) {k : Nat} (hk : k ≤ p.code.n) : (catL (fun i => wordT (p.code.f i) ++ ⟨#[10]⟩) k).size ≤ 400000 := by
  have := h.nw
  have h1 := catL_size (f := fun i => wordT (p.code.f i) ++ ⟨#[10]⟩) (b := 200) k fun i hi => wordT_size (h.words i (by omega)).1 (h.words i (by omega)).2
  omega
theorem protoT_size {p : PD} (h : LP p) : (protoT p).size ≤ 2000000 := by
  have h1 := headT_size h
  have h2 := catC_size h (Nat.le_refl _)
  have h3 := catU_size h (Nat.le_refl _)
  have h4 := catW_size h (Nat.le_refl _)
  unfold protoT
  simp only [ByteArray.size_append] at *
  omega
theorem arr_at {lo : Nat} {y : World} {ao : Option Addr} {n cap z : Nat} {C : Nat → Nat → Value} (h : IsArr (· < lo) y (.slice ao n cap) z n C) (hn : 0 < n) :
    ∃ b o, ao = some ⟨b, o, none⟩ ∧ b < lo ∧ ∀ w : World, Below lo y w → ∀ i, i < n → ∀ j, j < z → w.cell? ⟨b, o + i * z + j, none⟩ = some (C i j) := by
  obtain ⟨ao', cap', he, _, hc⟩ := h
  simp only [Value.slice.injEq] at he
  obtain ⟨rfl, _, rfl⟩ := he
  obtain ⟨b, o, rfl, hb, hcc⟩ := hc hn
  exact ⟨b, o, rfl, hb, fun w hw i hi j hj => (hw.cell (p := ⟨b, _, none⟩) hb).trans (hcc i hi j hj)⟩
end
end Go.Proofs.YtenonpajjlppjaaGreatDoor
