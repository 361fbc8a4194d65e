import Derived.Test.YtenonpajjlppjaaGreatDoorGC
import Derived.Test.YtenonpajjlppjaaGreatDoorShelb
import Derived.Test.YtenonpajjlppjaaGreatDoorLjJ
namespace Go.Proofs.YtenonpajjlppjaaGreatDoor
section
open Go.RowKit Go.Shelf
set_option linter.unusedVariables false
set_option linter.unusedSimpArgs false
set_option maxRecDepth 100000
set_option maxHeartbeats 2000000
theorem formatUint0_small (u : Nat) (hu : u < 100) (w : World) :
    Calls Tryz.prog 113 #[.int .u64 (u : Int), .int .i64 10] w fun e w' => e = .returned (.string (dec (u : Int))) ∧ Below w.heap.size w w' := by
  have hs := show Hid _ from Any.internal_strconv_small Tryz.lays283 u hu w
  have hI : (u : Int) < 100 := by omega
  have hd : Hid (dec (u : Int) = ⟨(Lib.decDigits u).toArray⟩) := by
    show dec (u : Int) = _
    rw [dec_pos (by omega), Int.toNat_natCast]
  have hw64 : wrap64 (u : Int) = (u : Int) := by unfold wrap64; omega
  go_enter Tryz.func113, Tryz.ntmps113
  go_wp2_with fail
  refine Calls.mono hs.out ?_
  rintro e y ⟨rfl, rfl⟩
  clear hs
  go_wp2_with fail
  go_ret
  exact ⟨by rw [hd.out]; rfl, Below.refl _ _⟩
theorem formatUint0_big (u : Nat) (hu : ¬ u < 100) (hu2 : u ≤ 4294967295) (w : World) (ht : PowTab w) :
    Calls Tryz.prog 113 #[.int .u64 (u : Int), .int .i64 10] w fun e w' => e = .returned (.string (dec (u : Int))) ∧ Below w.heap.size w w' := by
  have hI : ¬ (u : Int) < 100 := by omega
  have hd : Hid (dec (u : Int) = ⟨(Lib.decDigits u).toArray⟩) := by
    show dec (u : Int) = _
    rw [dec_pos (by omega), Int.toNat_natCast]
  have hu64 : u < 18446744073709551616 := by omega
  have hnd20 : Lib.nDigits u ≤ 20 := by have := Lib.numDigits_eq u (by omega) hu64; split at this <;> omega
  have hn := show Hid (∀ y, PowTab y → Calls Tryz.prog 121 #[.int .u64 (u : Int)] y fun e w' => e = .returned (.int .i64 (Lib.nDigits u)) ∧ w' = y) from fun y hy => Any.internal_strconv_numDigits Tryz.laysM284 u (by omega) hu64 y hy
  have ht' := show Hid _ from Lib.tabBelow_of_tabIs ht
  have hH0 := Lib.holds_zero0 w 165 (Lib.nDigits u) (by omega)
  have hfmt := Any.internal_strconv_formatBase10 Tryz.lays285 w.heap.size 0 24 u (Array.replicate (Lib.nDigits u) 0) (w.alloc (.cells Lib.zeros24 165)) hH0 (by rw [Array.size_replicate]; exact Lib.lt_pow_nDigits u) hu64 (by rw [Array.size_replicate]; omega)
  rw [Array.size_replicate] at hfmt
  replace hfmt := show Hid _ from hfmt
  have HH0 := show Hid _ from hH0
  have b0 := show Hid (Below w.heap.size w (w.alloc (.cells Lib.zeros24 165))) from (Below.refl _ _).alloc (Nat.le_refl _) _
  have hndI : ((Lib.nDigits u : Nat) : Int) ≤ 24 := by omega
  clear hH0
  go_enter Tryz.func113, Tryz.ntmps113
  go_wp2_with fail
  refine Calls.mono (hn.out _ (ht'.out _ b0.out)) ?_
  rintro e y ⟨rfl, rfl⟩
  clear hn ht'
  go_wp2_with fail
  refine Calls.mono hfmt.out ?_
  rintro e y ⟨rfl, k, v', dk, rfl, hF⟩
  have hcv : (convert 35 9 (.slice (some ⟨w.heap.size, 0, none⟩) (Lib.nDigits u) 24)).run Tryz.prog ((Sort.putRow (fun (b : UInt8) => Value.int .u8 (b.toNat : Int)) (w.alloc (.cells Lib.zeros24 165)) w.heap.size 0 dk).drewN k) = .ok (.string ⟨(Lib.decDigits u).toArray⟩) ((Sort.putRow (fun (b : UInt8) => Value.int .u8 (b.toNat : Int)) (w.alloc (.cells Lib.zeros24 165)) w.heap.size 0 dk).drewN k) := by
    have h := run_convert_bytes_back (P := Tryz.prog) ((Sort.putRow (fun (b : UInt8) => Value.int .u8 (b.toNat : Int)) (w.alloc (.cells Lib.zeros24 165)) w.heap.size 0 dk).drewN k) 35 9 5 ⟨w.heap.size, 0, none⟩ 24 (Lib.decDigits u) Tryz.underlying35 Tryz.underlying5 Tryz.underlying9 (fun j hj => by
      rw [Lib.row_is_numeral hF j hj, Lib.add_plain, World.cell?_drewN]
      exact Sort.cell?_putRow (fun (b : UInt8) => Value.int .u8 (b.toNat : Int)) _ w.heap.size 0 _ dk HH0.out (by rw [hF.size, Array.size_replicate]) j (by rw [hF.size]; rw [Lib.decDigits_length] at hj; exact hj))
    rw [Lib.decDigits_length] at h
    exact h
  obtain ⟨os, eo⟩ := Lib.fin_at w (.cells Lib.zeros24 165) dk k 0
  have bf : Hid (Below w.heap.size w ((Sort.putRow (fun (b : UInt8) => Value.int .u8 (b.toNat : Int)) (w.alloc (.cells Lib.zeros24 165)) w.heap.size 0 dk).drewN k)) := by
    rw [eo]
    exact Lib.below_grow _ _ (Nat.le_refl _) _ _
  clear hfmt HH0 b0 hF eo
  generalize ((Sort.putRow (fun (b : UInt8) => Value.int .u8 (b.toNat : Int)) (w.alloc (.cells Lib.zeros24 165)) w.heap.size 0 dk).drewN k) = yz at hcv bf ⊢
  go_wp2_with fail
  go_ret
  exact ⟨by rw [hd.out]; rfl, bf.out⟩
theorem formatUint_in (u : Nat) (hu2 : u ≤ 4294967295) (w : World) (ht : PowTab w) :
    Calls Tryz.prog 94 #[.int .u64 (u : Int), .int .i64 10] w fun e w' => e = .returned (.string (dec (u : Int))) ∧ Below w.heap.size w w' := by
  have h : Hid (Calls Tryz.prog 113 #[.int .u64 (u : Int), .int .i64 10] w fun e w' => e = .returned (.string (dec (u : Int))) ∧ Below w.heap.size w w') := by
    by_cases hu : u < 100
    · exact formatUint0_small u hu w
    · exact formatUint0_big u hu hu2 w ht
  generalize dec (u : Int) = d at h ⊢
  go_enter Tryz.func94, Tryz.ntmps94
  go_wp2_with fail
  refine Calls.mono h.out ?_
  rintro e y ⟨rfl, hb⟩
  go_wp2_with fail
  go_ret
  exact ⟨rfl, hb⟩
end
section
open Go.RowKit
set_option linter.unusedVariables false
set_option linter.unusedSimpArgs false
set_option maxRecDepth 100000
set_option maxHeartbeats 2000000
theorem lword_big (P : Nat) (op a b c s : Int) (hop : 33 < op) (x : Nat) (hx : x ≤ 4294967295) (w0 : World) (v0 : Value) (y : World) (v : Value) (X : ByteArray) (h : Lw P usTab.toList w0 v0 y v X) (hS : Spans y) (ht : PowTab y) (hs : X.size ≤ 70368744177664)
    (hU : ∀ y, Spans y → Calls Tryz.prog 93 #[.int .u32 (x : Int)] y fun e w' => e = .returned (.agg #[.int .i64 op, .int .i64 a, .int .i64 b, .int .i64 c, .int .i64 s]) ∧ Below y.heap.size y w') :
    Calls Tryz.prog 55 #[.pointer (some ⟨P, 0, none⟩), .int .u32 (x : Int)] y fun e w' => ∃ v', e = .returned (.tuple #[]) ∧ Lw P usTab.toList w0 v0 w' v' (X ++ (⟨#[119, 111, 114, 100, 32]⟩ ++ dec (x : Int) ++ ⟨#[10]⟩)) := by
  have hopI : op > 33 := hop
  have hun := hidR (hU y hS)
  have hL := hidR h
  have hw64 : IntKind.u64.wrap (x : Int) = (x : Int) := by rw [IntKind.wrap_u64]; omega
  have zd := dec_size (x : Int) (by omega) (by omega)
  have hfu := hidR (fun (y1 : World) (hp : PowTab y1) => formatUint_in x hx y1 hp)
  have hup : lineB [⟨#[119, 111, 114, 100]⟩, dec (x : Int)] = ((⟨#[119, 111, 114, 100, 32]⟩ ++ dec (x : Int) : ByteArray) ++ ⟨#[10]⟩ : ByteArray) := by
    unfold lineB
    rw [joinB_more, joinB_one]
    rfl
  have hjs : (joinB [⟨#[119, 111, 114, 100]⟩, dec (x : Int)]).size ≤ 100000 := by
    rw [joinB_size2]
    have e0 : (⟨#[119, 111, 114, 100]⟩ : ByteArray).size = 4 := rfl
    omega
  generalize (⟨#[119, 111, 114, 100, 32]⟩ ++ dec (x : Int) ++ ⟨#[10]⟩ : ByteArray) = Z at hup ⊢
  generalize dec (x : Int) = D at zd hfu hup hjs
  have hln := hidR (show ∀ (y1 : World) (bk : Nat), Lw P usTab.toList w0 v0 y1 v X → bk < y1.heap.size → (∀ (j : Nat) x, ([⟨#[119, 111, 114, 100]⟩, D] : List ByteArray)[j]? = some x → y1.cell? ⟨bk, 0 + j, none⟩ = some (.string x)) → Calls Tryz.prog 52 #[.pointer (some ⟨P, 0, none⟩), .slice (some ⟨bk, 0, none⟩) 2 2] y1 fun e w' => ∃ v', e = .returned (.tuple #[]) ∧ Lw P usTab.toList w0 v0 w' v' (X ++ lineB [⟨#[119, 111, 114, 100]⟩, D]) from
    fun y1 bk hl hbk hc => line_in P usTab.toList (by rw [Array.length_toList, usTab_size]) bk 0 2 [⟨#[119, 111, 114, 100]⟩, D] w0 v0 y1 v X hl hc hbk (by simp) (by simp) hjs hs)
  rw [hup] at hln
  replace ht := hidR ht
  clear hU h hup hjs hS
  go_enter Tryz.func55, Tryz.ntmps55
  go_wp2_with fail
  refine Calls.mono hun.out ?_
  rintro e y1 ⟨rfl, b1⟩
  have b2 := hidR (show Below y.heap.size y (y1.alloc (.cells #[.int .i64 op, .int .i64 a, .int .i64 b, .int .i64 c, .int .i64 s] 93)) from b1.alloc b1.size _)
  have hf9 := hidR (hfu.out _ (powTab_below ht.out b2.out))
  clear hun b1 hfu
  go_wp2_with fail
  refine Calls.mono hf9.out ?_
  rintro e y3 ⟨rfl, b3⟩
  have B3 := b2.out.trans (b3.mono b2.out.size)
  have B4 : Below y.heap.size y (y3.alloc (.cells #[.string ⟨#[119, 111, 114, 100]⟩, .string D] 9)) := B3.alloc B3.size _
  have hl9 := hidR (hln.out _ y3.heap.size (hL.out.later B4) (by rw [World.size_alloc]; omega) (fun j x hx => by
    refine cellsOf (L := [.string ⟨#[119, 111, 114, 100]⟩, .string D]) ?_
    rcases j with _ | _ | j
    · simp at hx; simp [hx]
    · simp at hx; simp [hx]
    · simp at hx))
  clear hf9 b3 b2 B3 B4 hln hL
  go_wp2_with fail
  refine Calls.mono hl9.out ?_
  rintro e y5 ⟨v5, rfl, h5⟩
  replace h5 := hidR h5
  clear hl9
  go_wp2_with fail
  go_end0
  exact ⟨_, rfl, h5.out⟩
theorem lword_in (P : Nat) (z : Int) (h1 : 0 ≤ z) (h2 : z ≤ 4294967295) (w0 : World) (v0 : Value) (y : World) (v : Value) (X : ByteArray) (h : Lw P usTab.toList w0 v0 y v X) (hS : Spans y) (hN : Named y) (ht : PowTab y) (hs : X.size ≤ 70368744177664) :
    Calls Tryz.prog 55 #[.pointer (some ⟨P, 0, none⟩), .int .u32 z] y fun e w' => ∃ v', e = .returned (.tuple #[]) ∧ Lw P usTab.toList w0 v0 w' v' (X ++ (wordT z ++ ⟨#[10]⟩)) := by
  obtain ⟨x, rfl⟩ := Int.eq_ofNat_of_zero_le h1
  unfold wordT
  by_cases hop : 33 < opW (x : Int)
  · rw [if_pos hop]
    exact lword_big P _ _ _ _ _ hop x (by omega) w0 v0 y v X h hS ht hs (fun y1 hy => unpackI (x : Int) y1 hy (by omega) (by omega))
  · rw [if_neg hop]
    have ho : 0 ≤ opW (x : Int) := by unfold opW; omega
    have da : -9223372036854775808 ≤ aW (x : Int) ∧ aW (x : Int) ≤ 9223372036854775807 := by unfold aW; omega
    have db : -9223372036854775808 ≤ bW (x : Int) ∧ bW (x : Int) ≤ 9223372036854775807 := by unfold bW; omega
    have dc : -9223372036854775808 ≤ cW (x : Int) ∧ cW (x : Int) ≤ 9223372036854775807 := by unfold cW; omega
    have ds : -9223372036854775808 ≤ sW (x : Int) ∧ sW (x : Int) ≤ 9223372036854775807 := by unfold sW bW cW; omega
    have hk : ((opW (x : Int)).toNat : Int) = opW (x : Int) := by omega
    have hU : ∀ y, Spans y → Calls Tryz.prog 93 #[.int .u32 (x : Int)] y fun e w' => e = .returned (.agg #[.int .i64 (((opW (x : Int)).toNat : Nat) : Int), .int .i64 (aW (x : Int)), .int .i64 (bW (x : Int)), .int .i64 (cW (x : Int)), .int .i64 (sW (x : Int))]) ∧ Below y.heap.size y w' := fun y hy => by
      rw [hk]
      exact unpackI (x : Int) y hy (by omega) (by omega)
    by_cases hw : WideOp (opW (x : Int)).toNat
    · rw [if_pos hw]
      exact lword_wide P (opW (x : Int)).toNat (by omega) _ (bW (x : Int)) (cW (x : Int)) _ da db dc ds (x : Int) w0 v0 y v X h hS hN ht hs hU hw
    · rw [if_neg hw]
      exact lword_abc P (opW (x : Int)).toNat (by omega) _ _ _ (sW (x : Int)) da db dc ds (x : Int) w0 v0 y v X h hS hN ht hs hU hw
end
end Go.Proofs.YtenonpajjlppjaaGreatDoor
