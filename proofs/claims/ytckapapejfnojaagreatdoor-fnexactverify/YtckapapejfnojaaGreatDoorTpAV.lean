import Derived.Test.YtckapapejfnojaaGreatDoorGAV
namespace Go.Proofs.YtckapapejfnojaaGreatDoor
open Go.RowKit
set_option linter.unusedVariables false
set_option linter.unusedSimpArgs false
def slI (L : List Int) : Sl Int := ⟨L.length, fun i => L.getD i 0⟩
abbrev insV (op a b c s : Int) : Value := .agg #[.int .i64 op, .int .i64 a, .int .i64 b, .int .i64 c, .int .i64 s]
set_option maxRecDepth 100000 in
set_option maxHeartbeats 1000000 in
theorem unpack_spec (x : Nat) (w : World) (h2 : x ≤ 4294967295) :
    Calls Tryz.prog 38 #[.int .u32 x] w fun e w' => e = .returned (.agg #[.int .i64 (x % 64), .int .i64 (x / 64 % 256), .int .i64 (x / 16384 % 512), .int .i64 (x / 8388608), .int .i64 (x / 16384 % 512 + 512 * (x / 8388608) - 131072)]) ∧ Below w.heap.size w w' := by
  go_enter Tryz.func38, Tryz.ntmps38
  go_wp2
  exact bodyPost_ret (v := .agg #[.int .i64 (x % 64), .int .i64 (x / 64 % 256), .int .i64 (x / 16384 % 512), .int .i64 (x / 8388608), .int .i64 (x / 16384 % 512 + 512 * (x / 8388608) - 131072)]) (by simp [results, Tryz.results38, go_sem]) rfl ⟨rfl, by go_grown⟩
theorem unpackS (z : Int) (w : World) (h1 : 0 ≤ z) (h2 : z ≤ 4294967295) :
    Calls Tryz.prog 38 #[.int .u32 z] w fun e w' => e = .returned (insV (opW z) (aW z) (bW z) (cW z) (sW z)) ∧ Below w.heap.size w w' := by
  obtain ⟨x, rfl⟩ := Int.eq_ofNat_of_zero_le h1
  exact unpack_spec x w (by omega)
/-- what each operation uses, letter by letter. -/
def useTab : List Value := [.string ⟨#[114, 115]⟩, .string ⟨#[114, 107]⟩, .string ⟨#[110]⟩, .string ⟨#[114, 48]⟩, .string ⟨#[114, 117]⟩, .string ⟨#[114, 117]⟩, .string ⟨#[114]⟩, .string ⟨#[114, 115, 116]⟩, .string ⟨#[114, 115, 116]⟩, .string ⟨#[114, 115, 116]⟩, .string ⟨#[114, 115, 116]⟩, .string ⟨#[114, 115, 116]⟩, .string ⟨#[114, 115, 116]⟩, .string ⟨#[114, 115, 116]⟩, .string ⟨#[114, 115, 116]⟩, .string ⟨#[114, 115]⟩, .string ⟨#[114, 115]⟩, .string ⟨#[114, 115]⟩, .string ⟨#[106]⟩, .string ⟨#[49, 115, 116, 112]⟩, .string ⟨#[49, 115, 116, 112]⟩, .string ⟨#[114, 50, 112]⟩, .string ⟨#[114, 118, 119]⟩, .string ⟨#[114, 118]⟩, .string ⟨#[114, 118, 86]⟩, .string ⟨#[114, 99]⟩, .string ⟨#[114]⟩, .string ⟨#[52, 106, 104]⟩, .string ⟨#[52, 106]⟩, .string ⟨#[114, 115]⟩, .string ⟨#[114, 118, 119]⟩, .string ⟨#[114, 118, 119]⟩, .string ⟨#[114, 115]⟩, .string ⟨#[114]⟩]
def useS (op : Nat) : ByteArray := match useTab[op]? with
  | some (.string b) => b
  | _ => ⟨#[]⟩
theorem useTab_get : ∀ n, n < 34 → useTab[n]? = some (.string (useS n)) := by
  intro n h
  match n, h with
  | 0, _ => rfl
  | 1, _ => rfl
  | 2, _ => rfl
  | 3, _ => rfl
  | 4, _ => rfl
  | 5, _ => rfl
  | 6, _ => rfl
  | 7, _ => rfl
  | 8, _ => rfl
  | 9, _ => rfl
  | 10, _ => rfl
  | 11, _ => rfl
  | 12, _ => rfl
  | 13, _ => rfl
  | 14, _ => rfl
  | 15, _ => rfl
  | 16, _ => rfl
  | 17, _ => rfl
  | 18, _ => rfl
  | 19, _ => rfl
  | 20, _ => rfl
  | 21, _ => rfl
  | 22, _ => rfl
  | 23, _ => rfl
  | 24, _ => rfl
  | 25, _ => rfl
  | 26, _ => rfl
  | 27, _ => rfl
  | 28, _ => rfl
  | 29, _ => rfl
  | 30, _ => rfl
  | 31, _ => rfl
  | 32, _ => rfl
  | 33, _ => rfl
  | (n + 34), h => exact absurd h (by omega)
set_option maxRecDepth 100000 in
set_option maxHeartbeats 1000000 in
theorem l4Use_in (n : Nat) (w : World) (h : n ≤ 63) : Calls Tryz.prog 105 #[.int .i64 n] w fun e w' => e = .returned (.string (useS n)) ∧ Below w.heap.size w w' := by
  by_cases hn : n < 34
  · have hI : (n : Int) < 34 := by omega
    have hr := (RowL.new w useTab 9).cell n (useTab_get n hn)
    unfold useTab at hr
    generalize useS n = b at hr
    go_enter Tryz.func105, Tryz.ntmps105
    go_wp2
    go_ret
    exact ⟨rfl, by go_grown⟩
  · have hI : ¬ ((n : Int) < 34) := by omega
    have hu : useS n = ⟨#[]⟩ := by
      unfold useS
      rw [List.getElem?_eq_none (by show 34 ≤ n; omega)]
    rw [hu]
    go_enter Tryz.func105, Tryz.ntmps105
    go_wp2
    go_ret
    exact ⟨rfl, by go_grown⟩
/-- a byte is in a text. -/
def hasB (s : ByteArray) (b : Nat) : Bool := s.data.toList.any fun x => x.toNat == b
set_option maxRecDepth 100000 in
set_option maxHeartbeats 1000000 in
theorem l4Has_in (s : ByteArray) (b : Nat) (w : World) (hs : s.size ≤ 1000) : Calls Tryz.prog 104 #[.string s, .int .u8 b] w fun e w' => e = .returned (.bool (hasB s b)) ∧ w = w' := by
  go_enter Tryz.func104, Tryz.ntmps104
  go_wp2_with fail
  go_loopw [5] (fun iv wr => ∃ k : Nat, iv = .int .i64 (k : Int) ∧ k ≤ s.size ∧ w = wr ∧ Hid (∀ j, (h : j < s.size) → j < k → (s[j]'h).toNat ≠ b)) (fun iv _ => s.size - (intOf iv).toNat)
  case atStart => exact ⟨0, rfl, by omega, rfl, fun j _ h => absurd h (by omega)⟩
  case round =>
    obtain ⟨k, rfl, hk, rfl, hT⟩ := hrel
    by_cases hlt : k < s.size
    · have hkI : (k : Int) < (s.size : Int) := by omega
      by_cases hq : (s[k]'hlt).toNat = b
      · have hqI : (((s[k]'hlt).toNat : Int) == (b : Int)) = true := by simp; omega
        have hyes : hasB s b = true := by
          unfold hasB
          rw [List.any_eq_true]
          exact ⟨s[k]'hlt, by show s.data[k] ∈ s.data.toList; simp, by simpa using hq⟩
        clear hT
        go_wp2_with fail
        go_ret
        exact ⟨by rw [hyes]; rfl, rfl⟩
      · have hqI : (((s[k]'hlt).toNat : Int) == (b : Int)) = false := by simp; omega
        have hT1 : Hid (∀ j, (h : j < s.size) → j < k + 1 → (s[j]'h).toNat ≠ b) := fun j h1 h2 => by
          by_cases e : j = k
          · subst e; exact hq
          · exact hT.out j h1 (by omega)
        clear hT
        go_wp2_with fail
        go_roundw
        case rel => exact ⟨k + 1, by go_num, by omega, trivial, hT1.out⟩
        case measure => simp [intOf]; omega
    · obtain rfl : k = s.size := by omega
      have hno : hasB s b = false := by
        unfold hasB
        rw [List.any_eq_false]
        intro x hx
        obtain ⟨j, hj, rfl⟩ := List.getElem_of_mem hx
        have := hT.out j hj hj
        simpa using (show (s.data[j]'hj).toNat ≠ b from this)
      clear hT
      go_wp2_with fail
      go_ret
      exact ⟨by rw [hno]; rfl, rfl⟩

/-- the places that can follow, by the operation. -/
def folO (pc op s : Int) : List Int :=
  if op = 23 ∨ op = 33 then [] else if op = 18 then [pc + 1 + s] else if op = 27 ∨ op = 28 then [pc + 1, pc + 1 + s] else if op = 19 ∨ op = 20 ∨ op = 21 then [pc + 1, pc + 2] else [pc + 1]
theorem folW_eq (pc z : Int) : folW pc z = folO pc (opW z) (sW z) := rfl
set_option maxRecDepth 100000 in
set_option maxHeartbeats 1000000 in
theorem l4Target_in (pc op a b c s : Int) (w : World) (h1 : 0 ≤ pc) (h2 : pc ≤ 100000) (h3 : -1000000 ≤ s) (h4 : s ≤ 1000000) : Calls Tryz.prog 103 #[.int .i64 pc, insV op a b c s] w fun e w' => e = .returned (.int .i64 (pc + 1 + s)) ∧ Below w.heap.size w w' := by
  go_enter Tryz.func103, Tryz.ntmps103
  go_wp2
  go_ret
  exact ⟨rfl, by go_grown⟩
theorem noP : ∀ n, n < 64 → n ≠ 19 → n ≠ 20 → n ≠ 21 → hasB (useS n) 112 = false := by decide
theorem yesP : ∀ n, n < 64 → (n = 19 ∨ n = 20 ∨ n = 21) → hasB (useS n) 112 = true := by decide
theorem useS_size : ∀ n, n < 64 → (useS n).size ≤ 1000 := by decide
/-- a list of integers that was built. -/
theorem built_ints {w w1 : World} (hb : Below w.heap.size w w1) (L : List Int) (hl : L.length ≤ 1000) : Below w.heap.size w (w1.alloc (.cells (L.map (Value.int .i64)).toArray 3)) ∧ IsInts .i64 (fun b => w.heap.size ≤ b ∧ b < (w1.alloc (.cells (L.map (Value.int .i64)).toArray 3)).heap.size) (w1.alloc (.cells (L.map (Value.int .i64)).toArray 3)) (.slice (some ⟨w1.heap.size, 0, none⟩) L.length L.length) (slI L) := by
  refine ⟨hb.alloc hb.size _, ⟨_, _, rfl, by show L.length ≤ _; omega, fun _ => ⟨w1.heap.size, 0, rfl, ⟨hb.size, by rw [World.size_alloc]; omega⟩, fun i hi j hj => ?_⟩⟩⟩
  have hi' : i < L.length := hi
  obtain rfl : j = 0 := by omega
  have := (RowL.new w1 (L.map (Value.int .i64)) 3).cell i (v := .int .i64 (L.getD i 0)) (by simp [hi'])
  rw [Nat.zero_add, Nat.mul_one, Nat.add_zero]
  exact this
set_option maxRecDepth 100000 in
set_option maxHeartbeats 1000000 in
theorem fol23 (pc op a b c s : Int) (w : World) (h1 : 0 ≤ pc) (h2 : pc ≤ 100000) (h3 : -1000000 ≤ s) (h4 : s ≤ 1000000) (o1 : 0 ≤ op) (o2 : op ≤ 63) (hop : op = 23 ∨ op = 33) :
    Calls Tryz.prog 70 #[.int .i64 pc, insV op a b c s] w fun e w' => ∃ u, e = .returned u ∧ Below w.heap.size w w' ∧ IsInts .i64 (fun b => w.heap.size ≤ b ∧ b < w'.heap.size) w' u (slI []) := by
  rcases hop with rfl | rfl
  · have hb0 : Below w.heap.size w (w.alloc (.cells #[.int .i64 23, .int .i64 a, .int .i64 b, .int .i64 c, .int .i64 s] 88)) := (Below.refl _ _).alloc (Nat.le_refl _) _
    have h := built_ints hb0 [] (by simp)
    rw [show (w.alloc (.cells #[.int .i64 23, .int .i64 a, .int .i64 b, .int .i64 c, .int .i64 s] 88)).heap.size = w.heap.size + 1 from World.size_alloc _ _] at h
    go_enter Tryz.func70, Tryz.ntmps70
    go_wp2_with fail
    go_ret
    exact ⟨_, rfl, h.1, h.2⟩
  · have hb0 : Below w.heap.size w (w.alloc (.cells #[.int .i64 33, .int .i64 a, .int .i64 b, .int .i64 c, .int .i64 s] 88)) := (Below.refl _ _).alloc (Nat.le_refl _) _
    have h := built_ints hb0 [] (by simp)
    rw [show (w.alloc (.cells #[.int .i64 33, .int .i64 a, .int .i64 b, .int .i64 c, .int .i64 s] 88)).heap.size = w.heap.size + 1 from World.size_alloc _ _] at h
    go_enter Tryz.func70, Tryz.ntmps70
    go_wp2_with fail
    go_ret
    exact ⟨_, rfl, h.1, h.2⟩
set_option maxRecDepth 100000 in
set_option maxHeartbeats 1000000 in
theorem fol18 (pc op a b c s : Int) (w : World) (h1 : 0 ≤ pc) (h2 : pc ≤ 100000) (h3 : -1000000 ≤ s) (h4 : s ≤ 1000000) (o1 : 0 ≤ op) (o2 : op ≤ 63) (hop : op = 18) :
    Calls Tryz.prog 70 #[.int .i64 pc, insV op a b c s] w fun e w' => ∃ u, e = .returned u ∧ Below w.heap.size w w' ∧ IsInts .i64 (fun b => w.heap.size ≤ b ∧ b < w'.heap.size) w' u (slI [pc + 1 + s]) := by
  subst hop
  have hb0 : Below w.heap.size w (w.alloc (.cells #[.int .i64 18, .int .i64 a, .int .i64 b, .int .i64 c, .int .i64 s] 88)) := (Below.refl _ _).alloc (Nat.le_refl _) _
  go_enter Tryz.func70, Tryz.ntmps70
  go_wp2_with fail
  refine (l4Target_in pc 18 a b c s _ h1 h2 h3 h4).mono ?_
  rintro e y ⟨rfl, b1⟩
  have h := built_ints (hb0.trans (b1.mono hb0.size)) [pc + 1 + s] (by simp)
  go_wp2_with fail
  go_ret
  exact ⟨_, rfl, h.1, h.2⟩
set_option maxRecDepth 100000 in
set_option maxHeartbeats 1000000 in
theorem fol27 (pc op a b c s : Int) (w : World) (h1 : 0 ≤ pc) (h2 : pc ≤ 100000) (h3 : -1000000 ≤ s) (h4 : s ≤ 1000000) (o1 : 0 ≤ op) (o2 : op ≤ 63) (hop : op = 27 ∨ op = 28) :
    Calls Tryz.prog 70 #[.int .i64 pc, insV op a b c s] w fun e w' => ∃ u, e = .returned u ∧ Below w.heap.size w w' ∧ IsInts .i64 (fun b => w.heap.size ≤ b ∧ b < w'.heap.size) w' u (slI [pc + 1, pc + 1 + s]) := by
  have hw1 : IntKind.i64.wrap (pc + 1) = pc + 1 := by simp [IntKind.wrap, IntKind.bits, IntKind.signed]; omega
  have hw2 : IntKind.i64.wrap (pc + 2) = pc + 2 := by simp [IntKind.wrap, IntKind.bits, IntKind.signed]; omega
  rcases hop with rfl | rfl
  · have hb0 : Below w.heap.size w (w.alloc (.cells #[.int .i64 27, .int .i64 a, .int .i64 b, .int .i64 c, .int .i64 s] 88)) := (Below.refl _ _).alloc (Nat.le_refl _) _
    go_enter Tryz.func70, Tryz.ntmps70
    go_wp2_with fail
    refine (l4Target_in pc 27 a b c s _ h1 h2 h3 h4).mono ?_
    rintro e y ⟨rfl, b1⟩
    have h := built_ints (hb0.trans (b1.mono hb0.size)) [pc + 1, pc + 1 + s] (by simp)
    go_wp2_with fail
    go_ret
    exact ⟨_, rfl, h.1, h.2⟩
  · have hb0 : Below w.heap.size w (w.alloc (.cells #[.int .i64 28, .int .i64 a, .int .i64 b, .int .i64 c, .int .i64 s] 88)) := (Below.refl _ _).alloc (Nat.le_refl _) _
    go_enter Tryz.func70, Tryz.ntmps70
    go_wp2_with fail
    refine (l4Target_in pc 28 a b c s _ h1 h2 h3 h4).mono ?_
    rintro e y ⟨rfl, b1⟩
    have h := built_ints (hb0.trans (b1.mono hb0.size)) [pc + 1, pc + 1 + s] (by simp)
    go_wp2_with fail
    go_ret
    exact ⟨_, rfl, h.1, h.2⟩
set_option maxRecDepth 100000 in
set_option maxHeartbeats 1000000 in
theorem fol19 (pc op a b c s : Int) (w : World) (h1 : 0 ≤ pc) (h2 : pc ≤ 100000) (h3 : -1000000 ≤ s) (h4 : s ≤ 1000000) (o1 : 0 ≤ op) (o2 : op ≤ 63) (hop : op = 19 ∨ op = 20 ∨ op = 21) :
    Calls Tryz.prog 70 #[.int .i64 pc, insV op a b c s] w fun e w' => ∃ u, e = .returned u ∧ Below w.heap.size w w' ∧ IsInts .i64 (fun b => w.heap.size ≤ b ∧ b < w'.heap.size) w' u (slI [pc + 1, pc + 2]) := by
  have hw1 : IntKind.i64.wrap (pc + 1) = pc + 1 := by simp [IntKind.wrap, IntKind.bits, IntKind.signed]; omega
  have hw2 : IntKind.i64.wrap (pc + 2) = pc + 2 := by simp [IntKind.wrap, IntKind.bits, IntKind.signed]; omega
  obtain ⟨n, rfl⟩ := Int.eq_ofNat_of_zero_le o1
  have n23 : ((n : Int) == 23) = false := by simp; omega
  have n33 : ((n : Int) == 33) = false := by simp; omega
  have n18 : ((n : Int) == 18) = false := by simp; omega
  have n27 : ((n : Int) == 27) = false := by simp; omega
  have n28 : ((n : Int) == 28) = false := by simp; omega
  have hb0 : Below w.heap.size w (w.alloc (.cells #[.int .i64 (n : Int), .int .i64 a, .int .i64 b, .int .i64 c, .int .i64 s] 88)) := (Below.refl _ _).alloc (Nat.le_refl _) _
  go_enter Tryz.func70, Tryz.ntmps70
  go_wp2_with fail
  refine (l4Use_in n _ (by omega)).mono ?_
  rintro e y ⟨rfl, b1⟩
  have hU : hasB (useS n) 112 = true := yesP n (by omega) (by omega)
  have hz := useS_size n (by omega)
  go_wp2_with fail
  refine (l4Has_in (useS n) 112 _ hz).mono ?_
  rintro e y' ⟨rfl, rfl⟩
  have h := built_ints (hb0.trans (b1.mono hb0.size)) [pc + 1, pc + 2] (by simp)
  rw [hU]
  go_wp2_with fail
  go_ret
  exact ⟨_, rfl, h.1, h.2⟩
set_option maxRecDepth 100000 in
set_option maxHeartbeats 1000000 in
theorem folE (pc op a b c s : Int) (w : World) (h1 : 0 ≤ pc) (h2 : pc ≤ 100000) (h3 : -1000000 ≤ s) (h4 : s ≤ 1000000) (o1 : 0 ≤ op) (o2 : op ≤ 63) (hop : op ≠ 23 ∧ op ≠ 33 ∧ op ≠ 18 ∧ op ≠ 27 ∧ op ≠ 28 ∧ op ≠ 19 ∧ op ≠ 20 ∧ op ≠ 21) :
    Calls Tryz.prog 70 #[.int .i64 pc, insV op a b c s] w fun e w' => ∃ u, e = .returned u ∧ Below w.heap.size w w' ∧ IsInts .i64 (fun b => w.heap.size ≤ b ∧ b < w'.heap.size) w' u (slI [pc + 1]) := by
  have hw1 : IntKind.i64.wrap (pc + 1) = pc + 1 := by simp [IntKind.wrap, IntKind.bits, IntKind.signed]; omega
  have hw2 : IntKind.i64.wrap (pc + 2) = pc + 2 := by simp [IntKind.wrap, IntKind.bits, IntKind.signed]; omega
  obtain ⟨n, rfl⟩ := Int.eq_ofNat_of_zero_le o1
  have n23 : ((n : Int) == 23) = false := by simp; omega
  have n33 : ((n : Int) == 33) = false := by simp; omega
  have n18 : ((n : Int) == 18) = false := by simp; omega
  have n27 : ((n : Int) == 27) = false := by simp; omega
  have n28 : ((n : Int) == 28) = false := by simp; omega
  have hb0 : Below w.heap.size w (w.alloc (.cells #[.int .i64 (n : Int), .int .i64 a, .int .i64 b, .int .i64 c, .int .i64 s] 88)) := (Below.refl _ _).alloc (Nat.le_refl _) _
  go_enter Tryz.func70, Tryz.ntmps70
  go_wp2_with fail
  refine (l4Use_in n _ (by omega)).mono ?_
  rintro e y ⟨rfl, b1⟩
  have hU : hasB (useS n) 112 = false := noP n (by omega) (by omega) (by omega) (by omega)
  have hz := useS_size n (by omega)
  go_wp2_with fail
  refine (l4Has_in (useS n) 112 _ hz).mono ?_
  rintro e y' ⟨rfl, rfl⟩
  have h := built_ints (hb0.trans (b1.mono hb0.size)) [pc + 1] (by simp)
  rw [hU]
  go_wp2_with fail
  go_ret
  exact ⟨_, rfl, h.1, h.2⟩
theorem l4Follow_in (pc op a b c s : Int) (w : World) (h1 : 0 ≤ pc) (h2 : pc ≤ 100000) (h3 : -1000000 ≤ s) (h4 : s ≤ 1000000) (o1 : 0 ≤ op) (o2 : op ≤ 63) :
    Calls Tryz.prog 70 #[.int .i64 pc, insV op a b c s] w fun e w' => ∃ u, e = .returned u ∧ Below w.heap.size w w' ∧ IsInts .i64 (fun b => w.heap.size ≤ b ∧ b < w'.heap.size) w' u (slI (folO pc op s)) := by
  unfold folO
  split
  · next h => exact fol23 pc op a b c s w h1 h2 h3 h4 o1 o2 h
  · split
    · next h => exact fol18 pc op a b c s w h1 h2 h3 h4 o1 o2 h
    · split
      · next h => exact fol27 pc op a b c s w h1 h2 h3 h4 o1 o2 h
      · split
        · next h => exact fol19 pc op a b c s w h1 h2 h3 h4 o1 o2 h
        · exact folE pc op a b c s w h1 h2 h3 h4 o1 o2 (by omega)
set_option maxRecDepth 100000 in
set_option maxHeartbeats 1000000 in
theorem opn22 (op a b c s : Int) (w : World) (hop : op = 22 ∨ op = 30 ∨ op = 31) (hc : c = 511) : Calls Tryz.prog 72 #[insV op a b c s] w fun e w' => e = .returned (.int .i64 (a)) ∧ Below w.heap.size w w' := by
  subst hc
  rcases hop with rfl | rfl | rfl
  · go_enter Tryz.func72, Tryz.ntmps72
    go_wp2
    go_ret
    exact ⟨rfl, by go_grown⟩
  · go_enter Tryz.func72, Tryz.ntmps72
    go_wp2
    go_ret
    exact ⟨rfl, by go_grown⟩
  · go_enter Tryz.func72, Tryz.ntmps72
    go_wp2
    go_ret
    exact ⟨rfl, by go_grown⟩
set_option maxRecDepth 100000 in
set_option maxHeartbeats 1000000 in
theorem opn22n (op a b c s : Int) (w : World) (hop : op = 22 ∨ op = 30 ∨ op = 31) (hc : c ≠ 511) : Calls Tryz.prog 72 #[insV op a b c s] w fun e w' => e = .returned (.int .i64 (-1)) ∧ Below w.heap.size w w' := by
  have nc : (c == 511) = false := by simp; omega
  rcases hop with rfl | rfl | rfl
  · go_enter Tryz.func72, Tryz.ntmps72
    go_wp2
    go_ret
    exact ⟨rfl, by go_grown⟩
  · go_enter Tryz.func72, Tryz.ntmps72
    go_wp2
    go_ret
    exact ⟨rfl, by go_grown⟩
  · go_enter Tryz.func72, Tryz.ntmps72
    go_wp2
    go_ret
    exact ⟨rfl, by go_grown⟩
set_option maxRecDepth 100000 in
set_option maxHeartbeats 1000000 in
theorem opn24 (op a b c s : Int) (w : World) (hop : op = 24) (hb : b = 511) : Calls Tryz.prog 72 #[insV op a b c s] w fun e w' => e = .returned (.int .i64 (a)) ∧ Below w.heap.size w w' := by
  subst hop hb
  go_enter Tryz.func72, Tryz.ntmps72
  go_wp2
  go_ret
  exact ⟨rfl, by go_grown⟩
set_option maxRecDepth 100000 in
set_option maxHeartbeats 1000000 in
theorem opn24n (op a b c s : Int) (w : World) (hop : op = 24) (hb : b ≠ 511) : Calls Tryz.prog 72 #[insV op a b c s] w fun e w' => e = .returned (.int .i64 (-1)) ∧ Below w.heap.size w w' := by
  subst hop
  have nb : (b == 511) = false := by simp; omega
  go_enter Tryz.func72, Tryz.ntmps72
  go_wp2
  go_ret
  exact ⟨rfl, by go_grown⟩
set_option maxRecDepth 100000 in
set_option maxHeartbeats 1000000 in
theorem opnE (op a b c s : Int) (w : World) (hop : op ≠ 22 ∧ op ≠ 30 ∧ op ≠ 31 ∧ op ≠ 24) : Calls Tryz.prog 72 #[insV op a b c s] w fun e w' => e = .returned (.int .i64 (-1)) ∧ Below w.heap.size w w' := by
  have n22 : (op == 22) = false := by simp; omega
  have n30 : (op == 30) = false := by simp; omega
  have n31 : (op == 31) = false := by simp; omega
  have n24 : (op == 24) = false := by simp; omega
  go_enter Tryz.func72, Tryz.ntmps72
  go_wp2
  go_ret
  exact ⟨rfl, by go_grown⟩
/-- how a place that follows is come to, by the parts. -/
def wayO (op a b c : Int) : Int := if (op = 22 ∨ op = 30 ∨ op = 31) ∧ c = 511 then a else if op = 24 ∧ b = 511 then a else -1
theorem wayW_eq (z : Int) : wayW z = wayO (opW z) (aW z) (bW z) (cW z) := rfl
theorem l4Opens_in (op a b c s : Int) (w : World) : Calls Tryz.prog 72 #[insV op a b c s] w fun e w' => e = .returned (.int .i64 (wayO op a b c)) ∧ Below w.heap.size w w' := by
  unfold wayO
  split
  · next h => exact opn22 op a b c s w h.1 h.2
  · next h =>
    split
    · next h' => exact opn24 op a b c s w h'.1 h'.2
    · next h' =>
      by_cases c1 : op = 22 ∨ op = 30 ∨ op = 31
      · exact opn22n op a b c s w c1 fun e => h ⟨c1, e⟩
      · by_cases c2 : op = 24
        · exact opn24n op a b c s w c2 fun e => h' ⟨c2, e⟩
        · exact opnE op a b c s w (by omega)
set_option maxRecDepth 100000 in
set_option maxHeartbeats 1000000 in
theorem l4Meet_in (v y : Int) (w : World) : Calls Tryz.prog 71 #[.int .i64 v, .int .i64 y] w fun e w' => e = .returned (.int .i64 (meet v y)) ∧ w = w' := by
  unfold meet
  split
  · next h =>
    subst h
    go_enter Tryz.func71, Tryz.ntmps71
    go_wp2
    go_ret
    exact ⟨rfl, rfl⟩
  · next h =>
    have n2 : (v == -2) = false := by simp; omega
    by_cases h3 : v = -3
    · subst h3
      rw [if_pos (by omega)]
      go_enter Tryz.func71, Tryz.ntmps71
      go_wp2
      go_ret
      exact ⟨rfl, rfl⟩
    · have n3 : (v == -3) = false := by simp; omega
      by_cases hv : v = -1
      · subst hv
        by_cases hy : y = -1
        · subst hy
          rw [if_neg (by omega)]
          go_enter Tryz.func71, Tryz.ntmps71
          go_wp2
          go_ret
          exact ⟨rfl, rfl⟩
        · have ny : (y == -1) = false := by simp; omega
          rw [if_pos (by omega)]
          go_enter Tryz.func71, Tryz.ntmps71
          go_wp2
          go_ret
          exact ⟨rfl, rfl⟩
      · have nv : (v == -1) = false := by simp; omega
        by_cases hy : y = -1
        · subst hy
          rw [if_pos (by omega)]
          go_enter Tryz.func71, Tryz.ntmps71
          go_wp2
          go_ret
          exact ⟨rfl, rfl⟩
        · have ny : (y == -1) = false := by simp; omega
          rw [if_neg (by omega)]
          by_cases hlt : v < y
          · rw [if_pos hlt]
            go_enter Tryz.func71, Tryz.ntmps71
            go_wp2
            go_ret
            exact ⟨rfl, rfl⟩
          · rw [if_neg hlt]
            go_enter Tryz.func71, Tryz.ntmps71
            go_wp2
            go_ret
            exact ⟨rfl, rfl⟩
end Go.Proofs.YtckapapejfnojaaGreatDoor
