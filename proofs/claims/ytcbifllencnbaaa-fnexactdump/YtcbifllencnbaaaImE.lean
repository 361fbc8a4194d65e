import Derived.Test.YtcbifllencnbaaaImD
namespace Go.Proofs.Ytcbifllencnbaaa
open Go.RowKit Go.Lib Go.Shelf
set_option linter.unusedVariables false
set_option linter.unusedSimpArgs false
theorem Fr.low {P lo : Nat} {y z : World} {v u : Value} (h : Fr (fun k => k = P) y v z u) (hP : lo ≤ P) (hlo : lo ≤ y.heap.size) (hv : ∀ k, v.ownBlock = some k → lo ≤ k) : ∀ k, k < lo → z.heap[k]? = y.heap[k]? := fun k hk =>
  h.block k (by omega) (by omega) fun e => by have := hv k e; omega
set_option maxRecDepth 100000 in
set_option maxHeartbeats 1000000 in
theorem putWords_in (P lo n cap : Nat) (ao : Option Addr) (f : Nat → Int) (w0 : World) (v0 : Value) (y : World) (v : Value) (X : ByteArray) (h : Wt P w0 v0 y v X) (hn : n ≤ 9223372036854775807) (ha : IsArr (· < lo) y (.slice ao n cap) 1 n (iC .u32 f)) (hP : lo ≤ P) (hlo : lo ≤ y.heap.size) (hv : ∀ k, v.ownBlock = some k → lo ≤ k) (hf : ∀ i, i < n → 0 ≤ f i ∧ f i ≤ 4294967295) (hs : X.size + ((pvN n).size + (cat (fun i => u4 (f i)) n).size) ≤ 70368744177664) :
    Calls Try.prog 33 #[.pointer (some ⟨P, 0, none⟩), .slice ao n cap, .func (.func 34) #[.pointer (some ⟨P, 0, none⟩)] #[]] y fun e w' => (∃ v', e = .returned (.tuple #[]) ∧ Wt P w0 v0 w' v' (X ++ pvN n ++ cat (fun i => u4 (f i)) n)) := by
  replace hs : Hid (X.size + ((pvN n).size + (cat (fun i => u4 (f i)) n).size) ≤ 70368744177664) := hs
  replace ha : Hid (IsArr (· < lo) y (.slice ao n cap) 1 n (iC .u32 f)) := ha
  have hlow : Hid (∀ z u, Fr (fun k => k = P) y v z u → ∀ k, k < lo → z.heap[k]? = y.heap[k]?) := fun z u hf => hf.low hP hlo hv
  
  go_enter Try.func33, Try.ntmps33
  go_wp2_with fail
  refine (wNumber_in P n y v y v X h.fresh (by have := hs.out; rw [pv_nat]; omega)).mono ?_
  rintro e y1 ⟨v1, rfl, h1⟩
  rw [pv_nat] at h1
  have T0 : Hid (∃ vv, Wt P y v y1 vv (X ++ pvN n)) := ⟨v1, h1⟩
  have hW : Hid (Wt P w0 v0 y v X) := h
  clear h1 h hv
  go_wp2_with fail
  go_loopw [14] (fun i wr => ∃ i' : Nat, i = .int .i64 (i' : Int) ∧ i' ≤ n ∧ Hid (∃ vv, Wt P y v wr vv (X ++ pvN n ++ cat (fun i => u4 (f i)) i')))
    (fun i _ => n - (intOf i).toNat)
  case atStart => exact ⟨0, rfl, by omega, (by show ∃ vv, Wt P y v _ vv (X ++ pvN n ++ ByteArray.empty); rw [ByteArray.append_empty]; exact T0.out)⟩
  case round =>
    obtain ⟨i', rfl, hin, hT⟩ := hrel
    obtain ⟨wz, hwz⟩ : ∃ x, x = wr := ⟨_, rfl⟩
    subst hwz
    by_cases hlt : i' < n
    · have hii : (i' : Int) < (n : Int) := by omega
      have hsm : (i' : Int) + 1 ≤ 9223372036854775807 := by omega
      obtain ⟨bb, oo, rfl, hbb, hcc⟩ := arr_cells ha.out (by omega)
      obtain ⟨vv, hT'⟩ := hT.out
      have hd := hcc wz (hlow.out wz vv hT'.fr) i' hlt
      replace hcc : Hid _ := hcc
      replace hT' : Hid (Wt P y v wz vv (X ++ pvN n ++ cat (fun i => u4 (f i)) i')) := hT'
      have hsz : Hid ((X ++ pvN n ++ cat (fun i => u4 (f i)) i').size + (u4 (f i')).size ≤ 70368744177664) := by
        have k1 := hs.out
        have k2 := cat_lt (fun i => u4 (f i)) hlt
        show _ ≤ _
        simp only [ByteArray.size_append]
        omega
      have d0 : wz.cell? ⟨bb, oo + i', none⟩ = some (.int .u32 (f i')) := by simpa [iC] using hd 0 (by omega)
      clear hd
      go_wp2_with fail
      refine (wWord_in P (f i') y v _ vv _ hT'.out (hf i' hlt).1 (hf i' hlt).2 hsz.out).mono ?_
      rintro e y2 ⟨v2, rfl, h2⟩
      have hT1 : Hid (∃ vv, Wt P y v y2 vv (X ++ pvN n ++ cat (fun i => u4 (f i)) (i' + 1))) := by
        refine ⟨v2, ?_⟩
        show Wt P y v y2 v2 (X ++ pvN n ++ (cat (fun i => u4 (f i)) i' ++ u4 (f i')))
        rw [← ByteArray.append_assoc]
        exact h2
      clear hT hT' h2 hcc hsz
      go_wp2_with fail
      go_roundw
      case rel => exact ⟨i' + 1, by go_num, by omega, hT1.out⟩
      case measure => simp [intOf]; omega
    · obtain rfl : i' = n := by omega
      clear T0 ha hs
      go_wp2_with fail
      obtain ⟨vv, hT'⟩ := hT.out
      exact bodyPost_end (results_none rfl _ _ _) rfl ⟨vv, rfl, hW.out.trans hT'⟩
set_option maxRecDepth 100000 in
set_option maxHeartbeats 1000000 in
theorem putVals_in (P lo n cap : Nat) (ao : Option Addr) (f : Nat → VD) (w0 : World) (v0 : Value) (y : World) (v : Value) (X : ByteArray) (h : Wt P w0 v0 y v X) (hn : n ≤ 9223372036854775807) (ha : IsArr (· < lo) y (.slice ao n cap) 3 n (vC f)) (hP : lo ≤ P) (hlo : lo ≤ y.heap.size) (hv : ∀ k, v.ownBlock = some k → lo ≤ k) (hf : ∀ i, i < n → Cst (f i)) (hs : X.size + ((pvN n).size + (cat (fun i => constB (f i)) n).size) ≤ 70368744177664) :
    Calls Try.prog 35 #[.pointer (some ⟨P, 0, none⟩), .slice ao n cap, .func (.func 36) #[.pointer (some ⟨P, 0, none⟩)] #[]] y fun e w' => (∃ v', e = .returned (.tuple #[]) ∧ Wt P w0 v0 w' v' (X ++ pvN n ++ cat (fun i => constB (f i)) n)) := by
  replace hs : Hid (X.size + ((pvN n).size + (cat (fun i => constB (f i)) n).size) ≤ 70368744177664) := hs
  replace ha : Hid (IsArr (· < lo) y (.slice ao n cap) 3 n (vC f)) := ha
  have hlow : Hid (∀ z u, Fr (fun k => k = P) y v z u → ∀ k, k < lo → z.heap[k]? = y.heap[k]?) := fun z u hf => hf.low hP hlo hv
  
  go_enter Try.func35, Try.ntmps35
  go_wp2_with fail
  refine (wNumber_in P n y v y v X h.fresh (by have := hs.out; rw [pv_nat]; omega)).mono ?_
  rintro e y1 ⟨v1, rfl, h1⟩
  rw [pv_nat] at h1
  have T0 : Hid (∃ vv, Wt P y v y1 vv (X ++ pvN n)) := ⟨v1, h1⟩
  have hW : Hid (Wt P w0 v0 y v X) := h
  clear h1 h hv
  go_wp2_with fail
  go_loopw [14] (fun i wr => ∃ i' : Nat, i = .int .i64 (i' : Int) ∧ i' ≤ n ∧ Hid (∃ vv, Wt P y v wr vv (X ++ pvN n ++ cat (fun i => constB (f i)) i')))
    (fun i _ => n - (intOf i).toNat)
  case atStart => exact ⟨0, rfl, by omega, (by show ∃ vv, Wt P y v _ vv (X ++ pvN n ++ ByteArray.empty); rw [ByteArray.append_empty]; exact T0.out)⟩
  case round =>
    obtain ⟨i', rfl, hin, hT⟩ := hrel
    obtain ⟨wz, hwz⟩ : ∃ x, x = wr := ⟨_, rfl⟩
    subst hwz
    by_cases hlt : i' < n
    · have hii : (i' : Int) < (n : Int) := by omega
      have hsm : (i' : Int) + 1 ≤ 9223372036854775807 := by omega
      obtain ⟨bb, oo, rfl, hbb, hcc⟩ := arr_cells ha.out (by omega)
      obtain ⟨vv, hT'⟩ := hT.out
      have hd := hcc wz (hlow.out wz vv hT'.fr) i' hlt
      replace hcc : Hid _ := hcc
      replace hT' : Hid (Wt P y v wz vv (X ++ pvN n ++ cat (fun i => constB (f i)) i')) := hT'
      have hsz : Hid ((X ++ pvN n ++ cat (fun i => constB (f i)) i').size + (constB (f i')).size ≤ 70368744177664) := by
        have k1 := hs.out
        have k2 := cat_lt (fun i => constB (f i)) hlt
        show _ ≤ _
        simp only [ByteArray.size_append]
        omega
      have d0 : wz.cell? ⟨bb, oo + i' * 3, none⟩ = some (.int .i64 (f i').kind) := by simpa [vC] using hd 0 (by omega)
      have d1 : wz.cell? ⟨bb, oo + i' * 3 + 1, none⟩ = some (.int .i64 (f i').num) := by simpa [vC] using hd 1 (by omega)
      have d2 : wz.cell? ⟨bb, oo + i' * 3 + 2, none⟩ = some (.string (f i').text) := by simpa [vC] using hd 2 (by omega)
      clear hd
      go_wp2_with fail
      refine (wValue_in P (f i') y v _ vv _ (hT'.out.later (by go_grown)) (hf i' hlt) hsz.out).mono ?_
      rintro e y2 ⟨v2, rfl, h2⟩
      have hT1 : Hid (∃ vv, Wt P y v y2 vv (X ++ pvN n ++ cat (fun i => constB (f i)) (i' + 1))) := by
        refine ⟨v2, ?_⟩
        show Wt P y v y2 v2 (X ++ pvN n ++ (cat (fun i => constB (f i)) i' ++ constB (f i')))
        rw [← ByteArray.append_assoc]
        exact h2
      clear hT hT' h2 hcc hsz
      go_wp2_with fail
      go_roundw
      case rel => exact ⟨i' + 1, by go_num, by omega, hT1.out⟩
      case measure => simp [intOf]; omega
    · obtain rfl : i' = n := by omega
      clear T0 ha hs
      go_wp2_with fail
      obtain ⟨vv, hT'⟩ := hT.out
      exact bodyPost_end (results_none rfl _ _ _) rfl ⟨vv, rfl, hW.out.trans hT'⟩
set_option maxRecDepth 100000 in
set_option maxHeartbeats 1000000 in
theorem putUps_in (P lo n cap : Nat) (ao : Option Addr) (f : Nat → UD) (w0 : World) (v0 : Value) (y : World) (v : Value) (X : ByteArray) (h : Wt P w0 v0 y v X) (hn : n ≤ 9223372036854775807) (ha : IsArr (· < lo) y (.slice ao n cap) 2 n (uC f)) (hP : lo ≤ P) (hlo : lo ≤ y.heap.size) (hv : ∀ k, v.ownBlock = some k → lo ≤ k) (hs : X.size + ((pvN n).size + (cat (fun i => upB (f i)) n).size) ≤ 70368744177664) :
    Calls Try.prog 37 #[.pointer (some ⟨P, 0, none⟩), .slice ao n cap, .func (.func 38) #[.pointer (some ⟨P, 0, none⟩)] #[]] y fun e w' => (∃ v', e = .returned (.tuple #[]) ∧ Wt P w0 v0 w' v' (X ++ pvN n ++ cat (fun i => upB (f i)) n)) := by
  replace hs : Hid (X.size + ((pvN n).size + (cat (fun i => upB (f i)) n).size) ≤ 70368744177664) := hs
  replace ha : Hid (IsArr (· < lo) y (.slice ao n cap) 2 n (uC f)) := ha
  have hlow : Hid (∀ z u, Fr (fun k => k = P) y v z u → ∀ k, k < lo → z.heap[k]? = y.heap[k]?) := fun z u hf => hf.low hP hlo hv
  
  go_enter Try.func37, Try.ntmps37
  go_wp2_with fail
  refine (wNumber_in P n y v y v X h.fresh (by have := hs.out; rw [pv_nat]; omega)).mono ?_
  rintro e y1 ⟨v1, rfl, h1⟩
  rw [pv_nat] at h1
  have T0 : Hid (∃ vv, Wt P y v y1 vv (X ++ pvN n)) := ⟨v1, h1⟩
  have hW : Hid (Wt P w0 v0 y v X) := h
  clear h1 h hv
  go_wp2_with fail
  go_loopw [14] (fun i wr => ∃ i' : Nat, i = .int .i64 (i' : Int) ∧ i' ≤ n ∧ Hid (∃ vv, Wt P y v wr vv (X ++ pvN n ++ cat (fun i => upB (f i)) i')))
    (fun i _ => n - (intOf i).toNat)
  case atStart => exact ⟨0, rfl, by omega, (by show ∃ vv, Wt P y v _ vv (X ++ pvN n ++ ByteArray.empty); rw [ByteArray.append_empty]; exact T0.out)⟩
  case round =>
    obtain ⟨i', rfl, hin, hT⟩ := hrel
    obtain ⟨wz, hwz⟩ : ∃ x, x = wr := ⟨_, rfl⟩
    subst hwz
    by_cases hlt : i' < n
    · have hii : (i' : Int) < (n : Int) := by omega
      have hsm : (i' : Int) + 1 ≤ 9223372036854775807 := by omega
      obtain ⟨bb, oo, rfl, hbb, hcc⟩ := arr_cells ha.out (by omega)
      obtain ⟨vv, hT'⟩ := hT.out
      have hd := hcc wz (hlow.out wz vv hT'.fr) i' hlt
      replace hcc : Hid _ := hcc
      replace hT' : Hid (Wt P y v wz vv (X ++ pvN n ++ cat (fun i => upB (f i)) i')) := hT'
      have hsz : Hid ((X ++ pvN n ++ cat (fun i => upB (f i)) i').size + (upB (f i')).size ≤ 70368744177664) := by
        have k1 := hs.out
        have k2 := cat_lt (fun i => upB (f i)) hlt
        show _ ≤ _
        simp only [ByteArray.size_append]
        omega
      have d0 : wz.cell? ⟨bb, oo + i' * 2, none⟩ = some (.bool (f i').stack) := by simpa [uC] using hd 0 (by omega)
      have d1 : wz.cell? ⟨bb, oo + i' * 2 + 1, none⟩ = some (.int .i64 (f i').index) := by simpa [uC] using hd 1 (by omega)
      clear hd
      go_wp2_with fail
      refine (wUp_in P (f i') y v _ vv _ (hT'.out.later (by go_grown)) hsz.out).mono ?_
      rintro e y2 ⟨v2, rfl, h2⟩
      have hT1 : Hid (∃ vv, Wt P y v y2 vv (X ++ pvN n ++ cat (fun i => upB (f i)) (i' + 1))) := by
        refine ⟨v2, ?_⟩
        show Wt P y v y2 v2 (X ++ pvN n ++ (cat (fun i => upB (f i)) i' ++ upB (f i')))
        rw [← ByteArray.append_assoc]
        exact h2
      clear hT hT' h2 hcc hsz
      go_wp2_with fail
      go_roundw
      case rel => exact ⟨i' + 1, by go_num, by omega, hT1.out⟩
      case measure => simp [intOf]; omega
    · obtain rfl : i' = n := by omega
      clear T0 ha hs
      go_wp2_with fail
      obtain ⟨vv, hT'⟩ := hT.out
      exact bodyPost_end (results_none rfl _ _ _) rfl ⟨vv, rfl, hW.out.trans hT'⟩
set_option maxRecDepth 100000 in
set_option maxHeartbeats 1000000 in
theorem putInts_in (P lo n cap : Nat) (ao : Option Addr) (f : Nat → Int) (w0 : World) (v0 : Value) (y : World) (v : Value) (X : ByteArray) (h : Wt P w0 v0 y v X) (hn : n ≤ 9223372036854775807) (ha : IsArr (· < lo) y (.slice ao n cap) 1 n (iC .i64 f)) (hP : lo ≤ P) (hlo : lo ≤ y.heap.size) (hv : ∀ k, v.ownBlock = some k → lo ≤ k) (hs : X.size + ((pvN n).size + (cat (fun i => WPut.pv (f i)) n).size) ≤ 70368744177664) :
    Calls Try.prog 41 #[.pointer (some ⟨P, 0, none⟩), .slice ao n cap, .func (.func 32) #[.pointer (some ⟨P, 0, none⟩)] #[]] y fun e w' => (∃ v', e = .returned (.tuple #[]) ∧ Wt P w0 v0 w' v' (X ++ pvN n ++ cat (fun i => WPut.pv (f i)) n)) := by
  replace hs : Hid (X.size + ((pvN n).size + (cat (fun i => WPut.pv (f i)) n).size) ≤ 70368744177664) := hs
  replace ha : Hid (IsArr (· < lo) y (.slice ao n cap) 1 n (iC .i64 f)) := ha
  have hlow : Hid (∀ z u, Fr (fun k => k = P) y v z u → ∀ k, k < lo → z.heap[k]? = y.heap[k]?) := fun z u hf => hf.low hP hlo hv
  
  go_enter Try.func41, Try.ntmps41
  go_wp2_with fail
  refine (wNumber_in P n y v y v X h.fresh (by have := hs.out; rw [pv_nat]; omega)).mono ?_
  rintro e y1 ⟨v1, rfl, h1⟩
  rw [pv_nat] at h1
  have T0 : Hid (∃ vv, Wt P y v y1 vv (X ++ pvN n)) := ⟨v1, h1⟩
  have hW : Hid (Wt P w0 v0 y v X) := h
  clear h1 h hv
  go_wp2_with fail
  go_loopw [14] (fun i wr => ∃ i' : Nat, i = .int .i64 (i' : Int) ∧ i' ≤ n ∧ Hid (∃ vv, Wt P y v wr vv (X ++ pvN n ++ cat (fun i => WPut.pv (f i)) i')))
    (fun i _ => n - (intOf i).toNat)
  case atStart => exact ⟨0, rfl, by omega, (by show ∃ vv, Wt P y v _ vv (X ++ pvN n ++ ByteArray.empty); rw [ByteArray.append_empty]; exact T0.out)⟩
  case round =>
    obtain ⟨i', rfl, hin, hT⟩ := hrel
    obtain ⟨wz, hwz⟩ : ∃ x, x = wr := ⟨_, rfl⟩
    subst hwz
    by_cases hlt : i' < n
    · have hii : (i' : Int) < (n : Int) := by omega
      have hsm : (i' : Int) + 1 ≤ 9223372036854775807 := by omega
      obtain ⟨bb, oo, rfl, hbb, hcc⟩ := arr_cells ha.out (by omega)
      obtain ⟨vv, hT'⟩ := hT.out
      have hd := hcc wz (hlow.out wz vv hT'.fr) i' hlt
      replace hcc : Hid _ := hcc
      replace hT' : Hid (Wt P y v wz vv (X ++ pvN n ++ cat (fun i => WPut.pv (f i)) i')) := hT'
      have hsz : Hid ((X ++ pvN n ++ cat (fun i => WPut.pv (f i)) i').size + (WPut.pv (f i')).size ≤ 70368744177664) := by
        have k1 := hs.out
        have k2 := cat_lt (fun i => WPut.pv (f i)) hlt
        show _ ≤ _
        simp only [ByteArray.size_append]
        omega
      have d0 : wz.cell? ⟨bb, oo + i', none⟩ = some (.int .i64 (f i')) := by simpa [iC] using hd 0 (by omega)
      clear hd
      go_wp2_with fail
      refine (wNumber_in P (f i') y v _ vv _ hT'.out hsz.out).mono ?_
      rintro e y2 ⟨v2, rfl, h2⟩
      have hT1 : Hid (∃ vv, Wt P y v y2 vv (X ++ pvN n ++ cat (fun i => WPut.pv (f i)) (i' + 1))) := by
        refine ⟨v2, ?_⟩
        show Wt P y v y2 v2 (X ++ pvN n ++ (cat (fun i => WPut.pv (f i)) i' ++ WPut.pv (f i')))
        rw [← ByteArray.append_assoc]
        exact h2
      clear hT hT' h2 hcc hsz
      go_wp2_with fail
      go_roundw
      case rel => exact ⟨i' + 1, by go_num, by omega, hT1.out⟩
      case measure => simp [intOf]; omega
    · obtain rfl : i' = n := by omega
      clear T0 ha hs
      go_wp2_with fail
      obtain ⟨vv, hT'⟩ := hT.out
      exact bodyPost_end (results_none rfl _ _ _) rfl ⟨vv, rfl, hW.out.trans hT'⟩
set_option maxRecDepth 100000 in
set_option maxHeartbeats 1000000 in
theorem putTexts_in (P lo n cap : Nat) (ao : Option Addr) (f : Nat → ByteArray) (w0 : World) (v0 : Value) (y : World) (v : Value) (X : ByteArray) (h : Wt P w0 v0 y v X) (hn : n ≤ 9223372036854775807) (ha : IsArr (· < lo) y (.slice ao n cap) 1 n (sC f)) (hP : lo ≤ P) (hlo : lo ≤ y.heap.size) (hv : ∀ k, v.ownBlock = some k → lo ≤ k) (hf : ∀ i, i < n → (f i).size ≤ 1000) (hs : X.size + ((pvN n).size + (cat (fun i => sizedB (f i)) n).size) ≤ 70368744177664) :
    Calls Try.prog 42 #[.pointer (some ⟨P, 0, none⟩), .slice ao n cap, .func (.func 40) #[.pointer (some ⟨P, 0, none⟩)] #[]] y fun e w' => (∃ v', e = .returned (.tuple #[]) ∧ Wt P w0 v0 w' v' (X ++ pvN n ++ cat (fun i => sizedB (f i)) n)) := by
  replace hs : Hid (X.size + ((pvN n).size + (cat (fun i => sizedB (f i)) n).size) ≤ 70368744177664) := hs
  replace ha : Hid (IsArr (· < lo) y (.slice ao n cap) 1 n (sC f)) := ha
  have hlow : Hid (∀ z u, Fr (fun k => k = P) y v z u → ∀ k, k < lo → z.heap[k]? = y.heap[k]?) := fun z u hf => hf.low hP hlo hv
  
  go_enter Try.func42, Try.ntmps42
  go_wp2_with fail
  refine (wNumber_in P n y v y v X h.fresh (by have := hs.out; rw [pv_nat]; omega)).mono ?_
  rintro e y1 ⟨v1, rfl, h1⟩
  rw [pv_nat] at h1
  have T0 : Hid (∃ vv, Wt P y v y1 vv (X ++ pvN n)) := ⟨v1, h1⟩
  have hW : Hid (Wt P w0 v0 y v X) := h
  clear h1 h hv
  go_wp2_with fail
  go_loopw [14] (fun i wr => ∃ i' : Nat, i = .int .i64 (i' : Int) ∧ i' ≤ n ∧ Hid (∃ vv, Wt P y v wr vv (X ++ pvN n ++ cat (fun i => sizedB (f i)) i')))
    (fun i _ => n - (intOf i).toNat)
  case atStart => exact ⟨0, rfl, by omega, (by show ∃ vv, Wt P y v _ vv (X ++ pvN n ++ ByteArray.empty); rw [ByteArray.append_empty]; exact T0.out)⟩
  case round =>
    obtain ⟨i', rfl, hin, hT⟩ := hrel
    obtain ⟨wz, hwz⟩ : ∃ x, x = wr := ⟨_, rfl⟩
    subst hwz
    by_cases hlt : i' < n
    · have hii : (i' : Int) < (n : Int) := by omega
      have hsm : (i' : Int) + 1 ≤ 9223372036854775807 := by omega
      obtain ⟨bb, oo, rfl, hbb, hcc⟩ := arr_cells ha.out (by omega)
      obtain ⟨vv, hT'⟩ := hT.out
      have hd := hcc wz (hlow.out wz vv hT'.fr) i' hlt
      replace hcc : Hid _ := hcc
      replace hT' : Hid (Wt P y v wz vv (X ++ pvN n ++ cat (fun i => sizedB (f i)) i')) := hT'
      have hsz : Hid ((X ++ pvN n ++ cat (fun i => sizedB (f i)) i').size + (sizedB (f i')).size ≤ 70368744177664) := by
        have k1 := hs.out
        have k2 := cat_lt (fun i => sizedB (f i)) hlt
        show _ ≤ _
        simp only [ByteArray.size_append]
        omega
      have d0 : wz.cell? ⟨bb, oo + i', none⟩ = some (.string (f i')) := by simpa [sC] using hd 0 (by omega)
      clear hd
      go_wp2_with fail
      refine (wText_in P (f i') y v _ vv _ hT'.out (by have := hf i' hlt; omega) hsz.out).mono ?_
      rintro e y2 ⟨v2, rfl, h2⟩
      have hT1 : Hid (∃ vv, Wt P y v y2 vv (X ++ pvN n ++ cat (fun i => sizedB (f i)) (i' + 1))) := by
        refine ⟨v2, ?_⟩
        show Wt P y v y2 v2 (X ++ pvN n ++ (cat (fun i => sizedB (f i)) i' ++ sizedB (f i')))
        rw [← ByteArray.append_assoc]
        exact h2
      clear hT hT' h2 hcc hsz
      go_wp2_with fail
      go_roundw
      case rel => exact ⟨i' + 1, by go_num, by omega, hT1.out⟩
      case measure => simp [intOf]; omega
    · obtain rfl : i' = n := by omega
      clear T0 ha hs
      go_wp2_with fail
      obtain ⟨vv, hT'⟩ := hT.out
      exact bodyPost_end (results_none rfl _ _ _) rfl ⟨vv, rfl, hW.out.trans hT'⟩
end Go.Proofs.Ytcbifllencnbaaa
