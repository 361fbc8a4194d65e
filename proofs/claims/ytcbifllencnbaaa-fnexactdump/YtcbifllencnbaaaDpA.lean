import Derived.Test.YtcbifllencnbaaaChA
import Derived.Test.YtcbifllencnbaaaVarA
import Derived.Test.YtcbifllencnbaaaBufB
namespace Go.Proofs.Ytcbifllencnbaaa
open Go.RowKit
set_option linter.unusedVariables false
set_option linter.unusedSimpArgs false
/-- pieces one behind the other. -/
def cat (f : Nat → ByteArray) : Nat → ByteArray
  | 0 => ByteArray.empty
  | n + 1 => cat f n ++ f n
theorem cat_succ (f : Nat → ByteArray) (n : Nat) : cat f (n + 1) = cat f n ++ f n := rfl
theorem cat_size {f : Nat → ByteArray} {b : Nat} : ∀ (n : Nat), (∀ i, i < n → (f i).size ≤ b) → (cat f n).size ≤ n * b
  | 0, _ => by simp [cat]
  | n + 1, h => by
    have h1 := cat_size n fun i hi => h i (by omega)
    have h2 := h n (by omega)
    rw [cat_succ, ByteArray.size_append, Nat.add_mul, Nat.one_mul]
    omega
theorem cat_mono (f : Nat → ByteArray) {i : Nat} : ∀ {n : Nat}, i ≤ n → (cat f i).size ≤ (cat f n).size
  | 0, h => by obtain rfl : i = 0 := by omega
               exact Nat.le_refl _
  | n + 1, h => by
    by_cases e : i = n + 1
    · subst e; exact Nat.le_refl _
    · have := cat_mono f (i := i) (n := n) (by omega)
      rw [cat_succ, ByteArray.size_append]
      omega
theorem cat_lt (f : Nat → ByteArray) {i n : Nat} (h : i < n) : (cat f i).size + (f i).size ≤ (cat f n).size := by
  have := cat_mono f (i := i + 1) (n := n) h
  rw [cat_succ, ByteArray.size_append] at this
  exact this
theorem cat_congr {f g : Nat → ByteArray} : ∀ (n : Nat), (∀ i, i < n → f i = g i) → cat f n = cat g n
  | 0, _ => rfl
  | n + 1, h => by rw [cat_succ, cat_succ, cat_congr n fun i hi => h i (by omega), h n (by omega)]
/-- a byte. -/
def by1 (n : Int) : ByteArray := strOfNums [n]
theorem by1_size (n : Int) : (by1 n).size = 1 := strOfNums_size _
def flagB (b : Bool) : ByteArray := by1 (if b then 1 else 0)
theorem flagB_size (b : Bool) : (flagB b).size = 1 := strOfNums_size _
def u4 (n : Int) : ByteArray := strOfNums [n % 256, n / 256 % 256, n / 65536 % 256, n / 16777216 % 256]
theorem u4_size (n : Int) : (u4 n).size = 4 := strOfNums_size _
open WPut in
theorem pv_size (n : Int) : (pv n).size ≤ 5 := by
  unfold pv
  split
  · simp
  · rw [strOfNums_size]; exact pvL_len 5 n
def i8 (z : Int) : ByteArray := strOfNums (WPut.leL 8 (z % 18446744073709551616))
theorem leL_len (k : Nat) : ∀ n, (WPut.leL k n).length = k := by
  induction k with
  | zero => intro n; rfl
  | succ k ih => intro n; simp [WPut.leL, ih]
theorem i8_size (z : Int) : (i8 z).size = 8 := by unfold i8; rw [strOfNums_size, leL_len]
def pvN (n : Nat) : ByteArray := WPut.pv (n : Int)
theorem pvN_size (n : Nat) : (pvN n).size ≤ 5 := pv_size _
def sizedB (s : ByteArray) : ByteArray := pvN s.size ++ s
theorem sizedB_size (s : ByteArray) : (sizedB s).size ≤ 5 + s.size := by
  unfold sizedB
  rw [ByteArray.size_append]
  have := pvN_size s.size
  omega
/-- what stands behind a constant's first byte. -/
def constB (v : VD) : ByteArray :=
  if v.kind = 0 then by1 0 else if v.kind = 1 then by1 (1 + v.num) else if v.kind = 2 then by1 3 ++ i8 v.num else by1 4 ++ sizedB v.text
theorem constB_size (v : VD) (h : v.text.size ≤ 1000) : (constB v).size ≤ 1010 := by
  unfold constB
  have h1 := sizedB_size v.text
  split
  · rw [by1_size]; omega
  · split
    · rw [by1_size]; omega
    · split
      · rw [ByteArray.size_append, by1_size, i8_size]; omega
      · rw [ByteArray.size_append, by1_size]; omega
def upB (u : UD) : ByteArray := flagB u.stack ++ WPut.pv u.index
theorem upB_size (u : UD) : (upB u).size ≤ 6 := by
  have := pv_size u.index
  unfold upB
  rw [ByteArray.size_append, flagB_size]
  omega
def codeB (p : PD) : ByteArray := cat (fun i => u4 (p.code.f i)) p.code.n
def constsB (p : PD) : ByteArray := cat (fun i => constB (p.consts.f i)) p.consts.n
def upsB (p : PD) : ByteArray := cat (fun i => upB (p.ups.f i)) p.ups.n
def linesB (p : PD) : ByteArray := cat (fun i => WPut.pv (p.lines.f i)) p.lines.n
def upNamesB (p : PD) : ByteArray := cat (fun i => sizedB (p.upNames.f i)) p.upNames.n
def Bare (p : PD) : Prop := p.name.size = 0 ∧ p.lines.n = 0 ∧ p.upNames.n = 0
noncomputable def debugB (p : PD) : ByteArray :=
  open Classical in if Bare p then flagB false else flagB true ++ sizedB p.name ++ pvN p.lines.n ++ linesB p ++ pvN p.upNames.n ++ upNamesB p
noncomputable def protoB (p : PD) : ByteArray :=
  flagB p.vararg ++ WPut.pv p.params ++ WPut.pv p.regs ++ pvN p.code.n ++ codeB p ++ pvN p.consts.n ++ constsB p ++ pvN p.ups.n ++ upsB p ++ WPut.pv p.kids ++ debugB p
theorem debugB_bare {p : PD} (h : Bare p) : debugB p = flagB false := if_pos h
theorem debugB_full {p : PD} (h : ¬ Bare p) : debugB p = flagB true ++ sizedB p.name ++ pvN p.lines.n ++ linesB p ++ pvN p.upNames.n ++ upNamesB p := if_neg h
def headB : ByteArray := strOfNums [27, 76, 82, 86, 1, 0]
noncomputable def chunkB (s : Sl PD) : ByteArray := headB ++ cat (fun i => protoB (s.f i)) s.n
end Go.Proofs.Ytcbifllencnbaaa
