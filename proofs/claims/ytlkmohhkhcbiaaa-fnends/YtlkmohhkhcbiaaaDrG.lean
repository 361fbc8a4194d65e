import Derived.Test.YtlkmohhkhcbiaaaDrE
import Derived.Test.YtlkmohhkhcbiaaaDrF
namespace Go.Proofs.Ytlkmohhkhcbiaaa
open Go.RowKit
set_option linter.unusedVariables false
set_option linter.unusedSimpArgs false
/-- whatever is drawn. -/
theorem l4Block_in (c : Sl Int) (p : Nat) (kids ups : Int) (va inn : Bool) (k1 : 0 ≤ kids) (k2 : kids ≤ 3) (u1 : 0 ≤ ups) (u2 : ups ≤ 3) (hp : p ≤ 100000) : BlkOk c p kids ups va inn := by
  obtain ⟨a, ha⟩ : ∃ a, tk c p 30 = a := ⟨_, rfl⟩
  obtain ⟨x, hx⟩ : ∃ x, tk c (p + 1) 4 = x := ⟨_, rfl⟩
  obtain ⟨y, hy⟩ : ∃ y, tk c (p + 2) 4 = y := ⟨_, rfl⟩
  obtain ⟨z, hz⟩ : ∃ z, tk c (p + 3) 16 = z := ⟨_, rfl⟩
  have ba := tk_bd c p 30
  have bx := tk_bd c (p + 1) 4
  have bY := tk_bd c (p + 2) 4
  have bz := tk_bd c (p + 3) 16
  rw [ha] at ba
  rw [hx] at bx
  rw [hy] at bY
  rw [hz] at bz
  have a1 := ba.1
  have a2 := ba.2 (by omega)
  have x1 := bx.1
  have x2 : x ≤ 3 := by have := bx.2 (by omega); omega
  have y1 := bY.1
  have y2 : y ≤ 3 := by have := bY.2 (by omega); omega
  have z1 := bz.1
  have z2 : z ≤ 15 := by have := bz.2 (by omega); omega
  have hd : Dr c p a x y z := ⟨ha, hx, hy, hz⟩
  clear ba bx bY bz ha hx hy hz
  by_cases c6 : a < 6
  · by_cases cz : z ≤ 13
    · exact blk1 c p kids ups va inn a x y z hd x1 x2 y1 y2 z1 z2 k1 k2 u1 u2 hp c6 cz
    · exact blk1b c p kids ups va inn a x y z hd x1 x2 y1 y2 z1 z2 k1 k2 u1 u2 hp c6 (by omega)
  by_cases c9 : a < 9
  · exact blk2 c p kids ups va inn a x y z hd x1 x2 y1 y2 z1 z2 k1 k2 u1 u2 hp (by omega) c9
  by_cases e9 : a = 9
  · exact blk3 c p kids ups va inn a x y z hd x1 x2 y1 y2 z1 z2 k1 k2 u1 u2 hp e9
  by_cases c12 : a < 12
  · exact blk4 c p kids ups va inn a x y z hd x1 x2 y1 y2 z1 z2 k1 k2 u1 u2 hp (by omega) c12
  by_cases e12 : a = 12
  · exact blk5 c p kids ups va inn a x y z hd x1 x2 y1 y2 z1 z2 k1 k2 u1 u2 hp e12
  by_cases c15 : a < 15
  · by_cases ck : kids = 0
    · exact blk6b c p kids ups va inn a x y z hd x1 x2 y1 y2 z1 z2 k1 k2 u1 u2 hp (by omega) c15 ck
    · by_cases cz : z % 2 = 0
      · exact blk6a c p kids ups va inn a x y z hd x1 x2 y1 y2 z1 z2 k1 k2 u1 u2 hp (by omega) c15 (by omega) cz
      · exact blk6c c p kids ups va inn a x y z hd x1 x2 y1 y2 z1 z2 k1 k2 u1 u2 hp (by omega) c15 (by omega) cz
  by_cases c19 : a < 19
  · by_cases cu : ups = 0
    · by_cases e15 : a = 15
      · by_cases ck : kids = 0
        · exact blkD1 c p kids ups va inn a x y z hd x1 x2 y1 y2 z1 z2 k1 k2 u1 u2 hp e15 cu ck
        · exact blk9a c p kids ups va inn a x y z hd x1 x2 y1 y2 z1 z2 k1 k2 u1 u2 hp e15 cu (by omega)
      · by_cases ck : kids = 0
        · exact blkD2 c p kids ups va inn a x y z hd x1 x2 y1 y2 z1 z2 k1 k2 u1 u2 hp (by omega) c19 cu ck
        · exact blk9b c p kids ups va inn a x y z hd x1 x2 y1 y2 z1 z2 k1 k2 u1 u2 hp (by omega) c19 cu (by omega)
    · by_cases e15 : a = 15
      · exact blk7 c p kids ups va inn a x y z hd x1 x2 y1 y2 z1 z2 k1 k2 u1 u2 hp e15 (by omega)
      · exact blk8 c p kids ups va inn a x y z hd x1 x2 y1 y2 z1 z2 k1 k2 u1 u2 hp (by omega) c19 (by omega)
  by_cases c23 : a < 23
  · by_cases ck : kids = 0
    · exact blkD3 c p kids ups va inn a x y z hd x1 x2 y1 y2 z1 z2 k1 k2 u1 u2 hp (by omega) c23 ck
    · exact blk9c c p kids ups va inn a x y z hd x1 x2 y1 y2 z1 z2 k1 k2 u1 u2 hp (by omega) c23 (by omega)
  by_cases c27 : a < 27
  · by_cases ck : kids = 0
    · exact blkD4 c p kids ups va inn a x y z hd x1 x2 y1 y2 z1 z2 k1 k2 u1 u2 hp (by omega) c27 ck
    · exact blk10 c p kids ups va inn a x y z hd x1 x2 y1 y2 z1 z2 k1 k2 u1 u2 hp (by omega) c27 (by omega)
  by_cases e27 : a = 27
  · cases inn with
    | false => exact blkD5 c p kids ups va a x y z hd x1 x2 y1 y2 z1 z2 k1 k2 u1 u2 hp e27
    | true => exact blk11 c p kids ups va a x y z hd x1 x2 y1 y2 z1 z2 k1 k2 u1 u2 hp e27
  by_cases e28 : a = 28
  · cases inn with
    | false =>
      cases va with
      | false => exact blkD7 c p kids ups a x y z hd x1 x2 y1 y2 z1 z2 k1 k2 u1 u2 hp e28
      | true => exact blk13b c p kids ups a x y z hd x1 x2 y1 y2 z1 z2 k1 k2 u1 u2 hp e28
    | true =>
      by_cases cz : z < 4
      · exact blk12 c p kids ups va a x y z hd x1 x2 y1 y2 z1 z2 k1 k2 u1 u2 hp e28 cz
      · cases va with
        | false => exact blkD6 c p kids ups a x y z hd x1 x2 y1 y2 z1 z2 k1 k2 u1 u2 hp e28 (by omega)
        | true => exact blk13a c p kids ups a x y z hd x1 x2 y1 y2 z1 z2 k1 k2 u1 u2 hp e28 (by omega)
  have e29 : a = 29 := by omega
  by_cases cz : z = 0
  · exact blk14 c p kids ups va inn a x y z hd x1 x2 y1 y2 z1 z2 k1 k2 u1 u2 hp e29 cz
  · exact blk15 c p kids ups va inn a x y z hd x1 x2 y1 y2 z1 z2 k1 k2 u1 u2 hp e29 cz
end Go.Proofs.Ytlkmohhkhcbiaaa
