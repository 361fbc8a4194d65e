import Derived.Test.YtpobiffihiaakaaGreatDoorLuX
namespace Go.Proofs.YtpobiffihiaakaaGreatDoor
open Go.RowKit
set_option linter.unusedVariables false
set_option linter.unusedSimpArgs false
set_option maxRecDepth 100000
set_option maxHeartbeats 4000000
theorem rdSev_stay {α : Type} {rd : RS → α × RS} (hb : ∀ r, r.bad ≠ 0 → (rd r).2 = r) (m : Nat) {r : RS} (h : r.bad ≠ 0) : (rdSev rd m r []).2 = r := (SevAt.start hb m r).2.1 h
theorem rdSev_zero {α : Type} {rd : RS → α × RS} (hb : ∀ r, r.bad ≠ 0 → (rd r).2 = r) {m : Nat} {r : RS} (h : (rdSev rd m r []).2.bad = 0) : r.bad = 0 := by
  apply Classical.byContradiction
  intro h1
  rw [rdSev_stay hb m h1] at h
  exact h1 h
theorem rdCnt_zero {s : ByteArray} {V : Nat → Option (Int × Nat)} {all : Int} {r : RS} (h : (rdCnt s V all r).2.bad = 0) : r.bad = 0 := by
  apply Classical.byContradiction
  intro h1
  have e2 : rdCnt s V all r = (0, r) := by simp [rdCnt, rdAny, h1]
  rw [e2] at h
  exact h1 h
theorem Below.of_ex2 {w a b : World} {R P : Nat} (h : Below w.heap.size w a) (k : Ex2 R P a b) (hR : w.heap.size ≤ R) (hP : w.heap.size ≤ P) : Below w.heap.size w b :=
  ⟨k.os.trans h.os, k.tape.trans h.tape, k.output.trans h.output, Nat.le_trans h.size k.size, fun i hi => (k.block i (Nat.lt_of_lt_of_le hi h.size) (by omega) (by omega)).trans (h.block i hi)⟩
/-- the debug texts as the model reads them. -/
theorem rdDbg_mod {s : ByteArray} {V : Nat → Option (Int × Nat)} {nc nu na nb : Nat} {xc xd : Int} {r r1 r2 q3 r4 q5 : RS} {t : ByteArray} {M : List Int} {N : List ByteArray}
    (et : rdText s V r = (t, r1)) (ea : rdCnt s V nc r1 = (xc, r2)) (ea3 : r2.bad = 0 → xc = (na : Int)) (e3 : (rdSev (rdAny s V) na r2 []).2 = q3) (l3 : q3.bad = 0 → (rdSev (rdAny s V) na r2 []).1 = M)
    (eb : rdCnt s V nu q3 = (xd, r4)) (eb3 : r4.bad = 0 → xd = (nb : Int)) (e5 : (rdSev (rdText s V) nb r4 []).2 = q5) (l5 : q5.bad = 0 → (rdSev (rdText s V) nb r4 []).1 = N) :
    (rdDbg s V nc nu r).2 = (if t.size = 0 ∧ M.length = 0 ∧ N.length = 0 then q5.fail 3 else q5) ∧ ((rdDbg s V nc nu r).2.bad = 0 → (rdDbg s V nc nu r).1 = (t, M, N)) := by
  have sA : ∀ r : RS, r.bad ≠ 0 → (rdAny s V r).2 = r := fun q h => by rw [rdAny_b h]
  have sT : ∀ r : RS, r.bad ≠ 0 → (rdText s V r).2 = r := fun q h => rdText_b h
  have k3 : (rdSev (rdAny s V) xc.toNat r2 []).2 = q3 := by
    by_cases h : r2.bad = 0
    · rw [ea3 h, Int.toNat_natCast]; exact e3
    · rw [rdSev_stay sA _ h]; rw [rdSev_stay sA _ h] at e3; exact e3
  have k5 : (rdSev (rdText s V) xd.toNat r4 []).2 = q5 := by
    by_cases h : r4.bad = 0
    · rw [eb3 h, Int.toNat_natCast]; exact e5
    · rw [rdSev_stay sT _ h]; rw [rdSev_stay sT _ h] at e5; exact e5
  have hd : rdDbg s V nc nu r = ((t, (rdSev (rdAny s V) xc.toNat r2 []).1, (rdSev (rdText s V) xd.toNat r4 []).1), if t.size = 0 ∧ (rdSev (rdAny s V) xc.toNat r2 []).1.length = 0 ∧ (rdSev (rdText s V) xd.toNat r4 []).1.length = 0 then q5.fail 3 else q5) := by
    simp only [rdDbg, et, ea, k3, eb, k5]
  by_cases h : q5.bad = 0
  · have h4 : r4.bad = 0 := rdSev_zero sT (m := nb) (by rw [e5]; exact h)
    have h3 : q3.bad = 0 := rdCnt_zero (s := s) (V := V) (all := (nu : Int)) (by rw [eb]; exact h4)
    have h2 : r2.bad = 0 := rdSev_zero sA (m := na) (by rw [e3]; exact h3)
    rw [ea3 h2, eb3 h4, Int.toNat_natCast, Int.toNat_natCast, l3 h3, l5 h] at hd
    rw [hd]
    exact ⟨rfl, fun _ => rfl⟩
  · rw [hd]
    dsimp only
    rw [RS.fail_bad h, ite_self, ite_self]
    exact ⟨rfl, fun h1 => absurd h1 h⟩
theorem l3ReadDebug_in (s : ByteArray) (V : Nat → Option (Int × Nat)) (hV : VrOk s V) (r : RS) (w : World) (hs : s.size ≤ 1048576) (hp : r.pos ≤ s.size) (i0 i2 i6 : Int) (b1 : Bool) (o3 o4 o5 : Option Addr) (nc k3 n4 k4 nu k5 : Nat) (hnc : nc ≤ 2000) (hnu : nu ≤ 60) :
    Calls Tryz.prog 20 #[rV s r, .agg #[.int .i64 i0, .bool b1, .int .i64 i2, .slice o3 nc k3, .slice o4 n4 k4, .slice o5 nu k5, .int .i64 i6, .string ⟨#[]⟩, .slice none 0 0, .slice none 0 0]] w fun e w' => (∃ t o8 n8 k8 o9 n9 k9, e = .returned (.tuple #[.agg #[.int .i64 i0, .bool b1, .int .i64 i2, .slice o3 nc k3, .slice o4 n4 k4, .slice o5 nu k5, .int .i64 i6, .string t, .slice o8 n8 k8, .slice o9 n9 k9], rV s (rdDbg s V nc nu r).2]) ∧
      ((rdDbg s V nc nu r).2.bad = 0 → t = (rdDbg s V nc nu r).1.1 ∧ w'.ownsRow w.heap.size 3 1 (.slice o8 n8 k8) (rdDbg s V nc nu r).1.2.1.length ((rdDbg s V nc nu r).1.2.1.flatMap cLines) ∧ w'.ownsRow w.heap.size 9 1 (.slice o9 n9 k9) (rdDbg s V nc nu r).1.2.2.length ((rdDbg s V nc nu r).1.2.2.flatMap cNames))) ∧ Below w.heap.size w w' := by
  have h1 : Hid (∀ y, Calls Tryz.prog 43 #[rV s r] y fun e w' => e = .returned (.tuple #[.string (rdText s V r).1, rV s (rdText s V r).2]) ∧ Below y.heap.size y w') := fun y => l3Text_in s V hV r y hs hp
  have hp1 := rdText_pos hV hp
  obtain ⟨x, et⟩ : ∃ x, rdText s V r = x := ⟨_, rfl⟩
  rw [et] at h1 hp1
  obtain ⟨t, r1⟩ := x
  dsimp only at h1 hp1
  replace et := hidR et
  unfold rV at h1
  unfold rV
  generalize hD : rdDbg s V nc nu r = D
  replace hD := hidR hD
  go_enter Tryz.func20, Tryz.ntmps20
  go_upto_region 1 with fail
  have hR : RowL ((((w.alloc (.cells #[.string s, .int .i64 (r.pos : Int), .int .i64 r.bad] 31)).alloc (.cells #[.int .i64 i0, .bool b1, .int .i64 i2, .slice o3 nc k3, .slice o4 n4 k4, .slice o5 nu k5, .int .i64 i6, .string ⟨#[]⟩, .slice none 0 0, .slice none 0 0] 38)).alloc (.cells #[.int .i64 0, .bool false, .int .i64 0, .slice none 0 0, .slice none 0 0, .slice none 0 0, .int .i64 0, .string ⟨#[]⟩, .slice none 0 0, .slice none 0 0] 38)).alloc (.cells #[.string ⟨#[]⟩, .int .i64 0, .int .i64 0] 31)) w.heap.size 31 (rC s r) := (((RowL.new w (rC s r) 31).alloc _).alloc _).alloc _
  have hP : RowL ((((w.alloc (.cells #[.string s, .int .i64 (r.pos : Int), .int .i64 r.bad] 31)).alloc (.cells #[.int .i64 i0, .bool b1, .int .i64 i2, .slice o3 nc k3, .slice o4 n4 k4, .slice o5 nu k5, .int .i64 i6, .string ⟨#[]⟩, .slice none 0 0, .slice none 0 0] 38)).alloc (.cells #[.int .i64 0, .bool false, .int .i64 0, .slice none 0 0, .slice none 0 0, .slice none 0 0, .int .i64 0, .string ⟨#[]⟩, .slice none 0 0, .slice none 0 0] 38)).alloc (.cells #[.string ⟨#[]⟩, .int .i64 0, .int .i64 0] 31)) (w.heap.size + 1) 38 [.int .i64 i0, .bool b1, .int .i64 i2, .slice o3 nc k3, .slice o4 n4 k4, .slice o5 nu k5, .int .i64 i6, .string ⟨#[]⟩, .slice none 0 0, .slice none 0 0] := by
    have := ((RowL.new (w.alloc (.cells #[.string s, .int .i64 (r.pos : Int), .int .i64 r.bad] 31)) [.int .i64 i0, .bool b1, .int .i64 i2, .slice o3 nc k3, .slice o4 n4 k4, .slice o5 nu k5, .int .i64 i6, .string ⟨#[]⟩, .slice none 0 0, .slice none 0 0] 38).alloc (.cells #[.int .i64 0, .bool false, .int .i64 0, .slice none 0 0, .slice none 0 0, .slice none 0 0, .int .i64 0, .string ⟨#[]⟩, .slice none 0 0, .slice none 0 0] 38)).alloc (.cells #[.string ⟨#[]⟩, .int .i64 0, .int .i64 0] 31)
    rw [World.size_alloc] at this
    exact this
  have hA : RowL ((((w.alloc (.cells #[.string s, .int .i64 (r.pos : Int), .int .i64 r.bad] 31)).alloc (.cells #[.int .i64 i0, .bool b1, .int .i64 i2, .slice o3 nc k3, .slice o4 n4 k4, .slice o5 nu k5, .int .i64 i6, .string ⟨#[]⟩, .slice none 0 0, .slice none 0 0] 38)).alloc (.cells #[.int .i64 0, .bool false, .int .i64 0, .slice none 0 0, .slice none 0 0, .slice none 0 0, .int .i64 0, .string ⟨#[]⟩, .slice none 0 0, .slice none 0 0] 38)).alloc (.cells #[.string ⟨#[]⟩, .int .i64 0, .int .i64 0] 31)) (w.heap.size + 1 + 1) 38 [.int .i64 0, .bool false, .int .i64 0, .slice none 0 0, .slice none 0 0, .slice none 0 0, .int .i64 0, .string ⟨#[]⟩, .slice none 0 0, .slice none 0 0] := by
    have := (RowL.new ((w.alloc (.cells #[.string s, .int .i64 (r.pos : Int), .int .i64 r.bad] 31)).alloc (.cells #[.int .i64 i0, .bool b1, .int .i64 i2, .slice o3 nc k3, .slice o4 n4 k4, .slice o5 nu k5, .int .i64 i6, .string ⟨#[]⟩, .slice none 0 0, .slice none 0 0] 38)) [.int .i64 0, .bool false, .int .i64 0, .slice none 0 0, .slice none 0 0, .slice none 0 0, .int .i64 0, .string ⟨#[]⟩, .slice none 0 0, .slice none 0 0] 38).alloc (.cells #[.string ⟨#[]⟩, .int .i64 0, .int .i64 0] 31)
    simp only [World.size_alloc] at this
    exact this
  have hB : RowL ((((w.alloc (.cells #[.string s, .int .i64 (r.pos : Int), .int .i64 r.bad] 31)).alloc (.cells #[.int .i64 i0, .bool b1, .int .i64 i2, .slice o3 nc k3, .slice o4 n4 k4, .slice o5 nu k5, .int .i64 i6, .string ⟨#[]⟩, .slice none 0 0, .slice none 0 0] 38)).alloc (.cells #[.int .i64 0, .bool false, .int .i64 0, .slice none 0 0, .slice none 0 0, .slice none 0 0, .int .i64 0, .string ⟨#[]⟩, .slice none 0 0, .slice none 0 0] 38)).alloc (.cells #[.string ⟨#[]⟩, .int .i64 0, .int .i64 0] 31)) (w.heap.size + 1 + 1 + 1) 31 (rC ⟨#[]⟩ ⟨0, 0⟩) := by
    have := RowL.new (((w.alloc (.cells #[.string s, .int .i64 (r.pos : Int), .int .i64 r.bad] 31)).alloc (.cells #[.int .i64 i0, .bool b1, .int .i64 i2, .slice o3 nc k3, .slice o4 n4 k4, .slice o5 nu k5, .int .i64 i6, .string ⟨#[]⟩, .slice none 0 0, .slice none 0 0] 38)).alloc (.cells #[.int .i64 0, .bool false, .int .i64 0, .slice none 0 0, .slice none 0 0, .slice none 0 0, .int .i64 0, .string ⟨#[]⟩, .slice none 0 0, .slice none 0 0] 38)) (rC ⟨#[]⟩ ⟨0, 0⟩) 31
    simp only [World.size_alloc] at this
    exact this
  have bw : Below w.heap.size w ((((w.alloc (.cells #[.string s, .int .i64 (r.pos : Int), .int .i64 r.bad] 31)).alloc (.cells #[.int .i64 i0, .bool b1, .int .i64 i2, .slice o3 nc k3, .slice o4 n4 k4, .slice o5 nu k5, .int .i64 i6, .string ⟨#[]⟩, .slice none 0 0, .slice none 0 0] 38)).alloc (.cells #[.int .i64 0, .bool false, .int .i64 0, .slice none 0 0, .slice none 0 0, .slice none 0 0, .int .i64 0, .string ⟨#[]⟩, .slice none 0 0, .slice none 0 0] 38)).alloc (.cells #[.string ⟨#[]⟩, .int .i64 0, .int .i64 0] 31)) := by go_grown
  have hz : ((((w.alloc (.cells #[.string s, .int .i64 (r.pos : Int), .int .i64 r.bad] 31)).alloc (.cells #[.int .i64 i0, .bool b1, .int .i64 i2, .slice o3 nc k3, .slice o4 n4 k4, .slice o5 nu k5, .int .i64 i6, .string ⟨#[]⟩, .slice none 0 0, .slice none 0 0] 38)).alloc (.cells #[.int .i64 0, .bool false, .int .i64 0, .slice none 0 0, .slice none 0 0, .slice none 0 0, .int .i64 0, .string ⟨#[]⟩, .slice none 0 0, .slice none 0 0] 38)).alloc (.cells #[.string ⟨#[]⟩, .int .i64 0, .int .i64 0] 31)).heap.size = w.heap.size + 4 := by simp only [World.size_alloc]
  generalize ((((w.alloc (.cells #[.string s, .int .i64 (r.pos : Int), .int .i64 r.bad] 31)).alloc (.cells #[.int .i64 i0, .bool b1, .int .i64 i2, .slice o3 nc k3, .slice o4 n4 k4, .slice o5 nu k5, .int .i64 i6, .string ⟨#[]⟩, .slice none 0 0, .slice none 0 0] 38)).alloc (.cells #[.int .i64 0, .bool false, .int .i64 0, .slice none 0 0, .slice none 0 0, .slice none 0 0, .int .i64 0, .string ⟨#[]⟩, .slice none 0 0, .slice none 0 0] 38)).alloc (.cells #[.string ⟨#[]⟩, .int .i64 0, .int .i64 0] 31)) = y0 at hR hP hA hB bw hz ⊢
  replace hA := hidR hA
  replace hB := hidR hB
  replace bw := hidR bw
  have X := Ex2.refl w.heap.size (w.heap.size + 1) y0
  have c0 := hR.cell 0 rfl
  have c1 := hR.cell 1 rfl
  have c2 := hR.cell 2 rfl
  have cf := hR.frozen
  have hq1 := hR.lt
  replace hR := hidR hR
  replace hP := hidR hP
  go_wp2_with fail
  refine Calls.mono (h1.out y0) ?_
  rintro e y1 ⟨rfl, b9⟩
  replace hR := hR.out.call b9
  replace hP := hP.out.call b9
  replace X := X.trans (Ex2.below b9)
  clear b9 c0 c1 c2 cf hq1
  have c0 := hR.cell 0 rfl
  have c1 := hR.cell 1 rfl
  have c2 := hR.cell 2 rfl
  have cf := hR.frozen
  have hq1 := hR.lt
  replace hR := hidR (rC_put hR r1)
  replace hP := hidR (hP.put (R := w.heap.size) (by omega) (.string s) (.int .i64 (r1.pos : Int)) (.int .i64 r1.bad))
  replace X := X.put (.string s) (.int .i64 (r1.pos : Int)) (.int .i64 r1.bad)
  go_upto_region 4 with fail
  clear c0 c1 c2 cf hq1 h1
  generalize ((y1.setCell ⟨w.heap.size, 0, none⟩ (.string s)).setCell ⟨w.heap.size, 1, none⟩ (.int .i64 (r1.pos : Int))).setCell ⟨w.heap.size, 2, none⟩ (.int .i64 r1.bad) = y2 at hR hP X  ⊢
  replace hR := hR.out
  replace hP := hP.out
  have f7 := hP.frozen 7
  have e7 := hP.cell 7 rfl
  have hq2 := hP.lt
  replace hP := hidR (hP.set 7 (.string t))
  replace hR := hidR (hR.other (a := ⟨(w.heap.size + 1), 7, none⟩) (show w.heap.size ≠ (w.heap.size + 1) by omega) (.string t))
  replace X := X.set 7 (.string t)
  go_upto_region 5 with fail
  clear f7 e7 hq2
  generalize y2.setCell ⟨(w.heap.size + 1), 7, none⟩ (.string t) = y3 at hR hP X  ⊢
  replace hR := hR.out
  replace hP : RowL y3 (w.heap.size + 1) 38 [.int .i64 i0, .bool b1, .int .i64 i2, .slice o3 nc k3, .slice o4 n4 k4, .slice o5 nu k5, .int .i64 i6, .string t, .slice none 0 0, .slice none 0 0] := hP.out
  have h2 : Hid (∀ y, Calls Tryz.prog 17 #[rV s r1, .int .i64 0, .int .i64 (nc : Int)] y fun e w' => e = .returned (.tuple #[.int .i64 (rdNum s V 0 nc r1).1, rV s (rdNum s V 0 nc r1).2]) ∧ Below y.heap.size y w') := fun y => l3Number_in s V hV 0 nc r1 y hs hp1
  have hpa := rdNum_pos (lo := 0) (hi := (nc : Int)) hV hp1
  have hp2 := rdCnt_pos (all := (nc : Int)) hV hp1
  obtain ⟨na, hna, ea1, ea2, ea3⟩ := rdCnt_num hV nc r1
  obtain ⟨x, ea⟩ : ∃ x, rdCnt s V nc r1 = x := ⟨_, rfl⟩
  obtain ⟨xa, ra⟩ : ∃ x, (rdNum s V 0 nc r1).2 = x := ⟨_, rfl⟩
  rw [ea1] at h2
  rw [ra] at h2 ea2 hpa
  rw [ea] at ea2 ea3 hp2
  obtain ⟨xc, r2⟩ := x
  dsimp only at ea2 ea3 hp2
  replace ea := hidR ea
  replace ea3 := hidR ea3
  clear ea1 ra
  unfold rV at h2
  have e3 := hP.cell 3 rfl
  have c0 := hR.cell 0 rfl
  have c1 := hR.cell 1 rfl
  have c2 := hR.cell 2 rfl
  have cf := hR.frozen
  have hq1 := hR.lt
  replace hR := hidR hR
  replace hP := hidR hP
  go_wp2_with fail
  refine Calls.mono (h2.out y3) ?_
  rintro e y4 ⟨rfl, b9⟩
  replace hR := hR.out.call b9
  replace hP := hP.out.call b9
  replace X := X.trans (Ex2.below b9)
  clear b9 c0 c1 c2 cf hq1
  have c0 := hR.cell 0 rfl
  have c1 := hR.cell 1 rfl
  have c2 := hR.cell 2 rfl
  have cf := hR.frozen
  have hq1 := hR.lt
  replace hR := hidR (rC_put hR xa)
  replace hP := hidR (hP.put (R := w.heap.size) (by omega) (.string s) (.int .i64 (xa.pos : Int)) (.int .i64 xa.bad))
  replace X := X.put (.string s) (.int .i64 (xa.pos : Int)) (.int .i64 xa.bad)
  go_upto_region 6 with fail
  clear c0 c1 c2 cf hq1 h2
  generalize ((y4.setCell ⟨w.heap.size, 0, none⟩ (.string s)).setCell ⟨w.heap.size, 1, none⟩ (.int .i64 (xa.pos : Int))).setCell ⟨w.heap.size, 2, none⟩ (.int .i64 xa.bad) = y5 at hR hP X  ⊢
  replace hR := hR.out
  replace hP := hP.out
  clear e3
  have ec := hP.cell 3 rfl
  replace hR := hidR hR
  replace hP := hidR hP
  go_cut [34] from 11 (fun sx wr => y5 = wr ∧ sx = .bool (decide (0 < na ∧ na ≠ nc)))
  case first =>
    by_cases h0 : 0 < na
    · have h0I : (0 : Int) < (na : Int) := by omega
      go_wp2_with fail
      go_meet
      case rel =>
        refine ⟨rfl, ?_⟩
        congr 1
        by_cases h1 : na = nc
        · simp [h0, h1]
        · have : (na : Int) ≠ (nc : Int) := by omega
          simp [h0, h1, this]
    · have h0I : ¬ (0 : Int) < (na : Int) := by omega
      go_wp2_with fail
      go_meet
      case rel => exact ⟨rfl, by simp [h0]⟩
  clear ec
  obtain ⟨hw9, hs9⟩ := hcut
  subst hw9
  subst hs9
  go_upto_if 34 with fail
  go_cut [] from 11 (fun wr => Hid (RowL wr w.heap.size 31 (rC s r2) ∧ RowL wr (w.heap.size + 1) 38 [.int .i64 i0, .bool b1, .int .i64 i2, .slice o3 nc k3, .slice o4 n4 k4, .slice o5 nu k5, .int .i64 i6, .string t, .slice none 0 0, .slice none 0 0] ∧ Ex2 w.heap.size (w.heap.size + 1) y0 wr))
  case first =>
    by_cases hc : 0 < na ∧ na ≠ nc
    · have hd : decide (0 < na ∧ na ≠ nc) = true := decide_eq_true hc
      rw [if_pos hc] at ea2
      rw [hd]
      have hf : Hid (∀ y, Calls Tryz.prog 40 #[rV s xa, .int .i64 4] y fun e w' => e = .returned (rV s r2) ∧ Below y.heap.size y w') := fun y => by rw [ea2]; exact l3Fail_in s xa 4 y
      unfold rV at hf
      clear ea2
      replace hR := hR.out
      replace hP := hP.out
      have c0 := hR.cell 0 rfl
      have c1 := hR.cell 1 rfl
      have c2 := hR.cell 2 rfl
      have cf := hR.frozen
      have hq1 := hR.lt
      replace hR := hidR hR
      replace hP := hidR hP
      go_wp2_with fail
      refine Calls.mono (hf.out y5) ?_
      rintro e y9 ⟨rfl, b9⟩
      replace hR := hR.out.call b9
      replace hP := hP.out.call b9
      replace X := X.trans (Ex2.below b9)
      clear b9 c0 c1 c2 cf hq1
      have c0 := hR.cell 0 rfl
      have c1 := hR.cell 1 rfl
      have c2 := hR.cell 2 rfl
      have cf := hR.frozen
      have hq1 := hR.lt
      replace hR := hidR (rC_put hR r2)
      replace hP := hidR (hP.put (R := w.heap.size) (by omega) (.string s) (.int .i64 (r2.pos : Int)) (.int .i64 r2.bad))
      replace X := X.put (.string s) (.int .i64 (r2.pos : Int)) (.int .i64 r2.bad)
      go_wp2_with fail
      go_meet
      case rel => exact ⟨hR.out, hP.out, X⟩
    · have hd : decide (0 < na ∧ na ≠ nc) = false := decide_eq_false hc
      rw [if_neg hc] at ea2
      rw [hd]
      subst ea2
      go_wp2_with fail
      go_meet
      case rel => exact ⟨hR.out, hP.out, X⟩
  clear hR hP X 
  have hR := hcut.out.1
  have hP := hcut.out.2.1
  have X := hcut.out.2.2
  clear hcut ea2
  generalize wc = y6 at hR hP X  ⊢
  obtain ⟨i9, hi, hz0, hz1, hz2⟩ := info_of infLines
  have hzy := X.size
  have hone : Hid (∀ q : RS, q.pos ≤ s.size → ∀ y, Calls Tryz.prog 17 #[.agg #[.string s, .int .i64 (q.pos : Int), .int .i64 q.bad], .int .i64 0, .int .i64 16777215] y fun e w' => e = .returned (.tuple #[.int .i64 (rdAny s V q).1, .agg #[.string s, .int .i64 ((rdAny s V q).2.pos : Int), .int .i64 (rdAny s V q).2.bad]]) ∧ Below y.heap.size y w') := fun q hq y => by
    have := l3Number_in s V hV 0 16777215 q y hs hq
    rw [rdNum_any hV] at this
    exact this
  have hpos : Hid (∀ q : RS, q.pos ≤ s.size → (rdAny s V q).2.pos ≤ s.size) := fun q hq => rdAny_pos hV hq
  replace hR := hidR hR
  replace hP := hidR hP
  go_upto_region 8 with fail
  go_cut [9] from 11 (fun sx wr => y6 = wr ∧ sx = .int .i64 0)
  case first =>
    go_wp2_with fail
    go_meet
    case rel => exact ⟨rfl, rfl⟩
  obtain ⟨hw9, hs9⟩ := hcut
  subst hw9
  subst hs9
  first | go_upon | go_back | go_step
  go_cut [] from 11 (fun wr => ∃ (M : List Int) (q : RS) (v : Value), Hid (q.pos ≤ s.size ∧ RowL wr w.heap.size 31 (rC s q) ∧ RowL wr (w.heap.size + 1) 38 [.int .i64 i0, .bool b1, .int .i64 i2, .slice o3 nc k3, .slice o4 n4 k4, .slice o5 nu k5, .int .i64 i6, .string t, v, .slice none 0 0] ∧ wr.ownsRow y6.heap.size 3 1 v M.length (M.flatMap cLines) ∧ Ex2 w.heap.size (w.heap.size + 1) y6 wr ∧ (rdSev (rdAny s V) na r2 []).2 = q ∧ (q.bad = 0 → (rdSev (rdAny s V) na r2 []).1 = M) ∧ M.length ≤ na))
  case first =>
    go_wp2_with fail
    go_loopw [9] (fun iv wr => ∃ (k : Nat) (M : List Int) (q : RS) (v : Value), iv = .int .i64 (k : Int) ∧ k ≤ na ∧ Hid (q.pos ≤ s.size ∧ RowL wr w.heap.size 31 (rC s q) ∧ RowL wr (w.heap.size + 1) 38 [.int .i64 i0, .bool b1, .int .i64 i2, .slice o3 nc k3, .slice o4 n4 k4, .slice o5 nu k5, .int .i64 i6, .string t, v, .slice none 0 0] ∧ wr.ownsRow y6.heap.size 3 1 v M.length (M.flatMap cLines) ∧ Ex2 w.heap.size (w.heap.size + 1) y6 wr ∧ SevAt (rdAny s V) na r2 k q M)) (fun iv _ => na - (intOf iv).toNat)
    case atStart => exact ⟨0, [], r2, .slice none 0 0, rfl, Nat.zero_le _, hp2, hR.out, hP.out, World.ownsRow_nil _ _ _ _, Ex2.refl _ _ _, SevAt.start (fun q h => by rw [rdAny_b h]) _ _⟩
    case round =>
      obtain ⟨k, M, q, v, rfl, hk, hq⟩ := hrel
      clear hR hP
      by_cases hkn : k < na
      · have hkI : (k : Int) < (na : Int) := by omega
        by_cases hb : q.bad = 0
        · obtain ⟨qp, qb⟩ := q
          dsimp only at hb
          subst hb
          have hc := hidR (hone.out ⟨qp, 0⟩ hq.out.1)
          have hp9 := hpos.out ⟨qp, 0⟩ hq.out.1
          obtain ⟨xx, hx⟩ : ∃ x, rdAny s V ⟨qp, 0⟩ = x := ⟨_, rfl⟩
          rw [hx] at hc hp9
          obtain ⟨x, q1⟩ := xx
          dsimp only at hc hp9
          replace hx := hidR hx
          have hR := hq.out.2.1
          have hP := hq.out.2.2.1
          obtain ⟨oa9, ka9, rfl⟩ := own_slice hq.out.2.2.2.1
          have hown := hidR hq.out.2.2.2.1
          have X2 := hq.out.2.2.2.2.1
          have hsv := hidR hq.out.2.2.2.2.2
          have hMk : M.length ≤ k := hsv.out.2.2
          have hMn : M.length ≤ 16777215 := by omega
          clear hq hone hpos
          have c0 := hR.cell 0 rfl
          have c1 := hR.cell 1 rfl
          have c2 := hR.cell 2 rfl
          have cf := hR.frozen
          have hq1 := hR.lt
          replace hR := hidR hR
          replace hP := hidR hP
          go_wp2_with fail
          refine Calls.mono (hc.out _) ?_
          rintro e y8 ⟨rfl, b9⟩
          replace hR := hR.out.call b9
          replace hP := hP.out.call b9
          replace X2 := X2.trans (Ex2.below b9)
          replace hown := hidR (own_ex2 (R := w.heap.size) (P := (w.heap.size + 1)) hown.out (by omega) (by omega) (Ex2.below b9))
          clear b9 c0 c1 c2 cf hq1
          have c0 := hR.cell 0 rfl
          have c1 := hR.cell 1 rfl
          have c2 := hR.cell 2 rfl
          have cf := hR.frozen
          have hq1 := hR.lt
          replace hR := hidR (rC_put hR q1)
          replace hP := hidR (hP.put (R := w.heap.size) (by omega) (.string s) (.int .i64 (q1.pos : Int)) (.int .i64 q1.bad))
          replace X2 := X2.put (.string s) (.int .i64 (q1.pos : Int)) (.int .i64 q1.bad)
          replace hown := hidR (own_ex2 (R := w.heap.size) (P := (w.heap.size + 1)) hown.out (by omega) (by omega) ((Ex2.refl _ _ _).put (.string s) (.int .i64 (q1.pos : Int)) (.int .i64 q1.bad)))
          go_upto_region 12 with fail
          clear c0 c1 c2 cf hq1 hc
          generalize ((y8.setCell ⟨w.heap.size, 0, none⟩ (.string s)).setCell ⟨w.heap.size, 1, none⟩ (.int .i64 (q1.pos : Int))).setCell ⟨w.heap.size, 2, none⟩ (.int .i64 q1.bad) = y9 at hR hP X2 hown ⊢
          have e8 := hP.out.cell 8 rfl
          have f8 := hP.out.frozen 8
          go_wp2_with (at_builtin; refine wpList_append_own_at _ rfl (.tmp 53) (.tmp 55) 32 rfl y6.heap.size 3 i9 (.int .i64 0) 1 8 Tryz.underlying32 hi hz0 hz1 hz2 rfl (by decide) (.slice oa9 M.length ka9) M.length _ rfl (hown.out.alloc _) ⟨y9.heap.size, 0, none⟩ 1 1 (cLines x) rfl rfl ?c1 ?c2 ?c3 ?c4 ?c5 ?_)
          case c1 => exact World.news_of_block (heap_alloc_new _ _)
          case c2 => intro u hu; simp only [cLines, List.mem_cons, List.not_mem_nil, or_false] at hu; subst hu; rfl
          case c3 => simp only [maxLen]; omega
          case c4 => omega
          case c5 => have := X2.size; simp only [World.size_alloc]; omega
          intro v' w' hown2 hg _ hat
          have hbase := own_base hown.out
          have hyz := X2.size
          have hR2 := row_grown (hR.out.alloc _) hg (fun e => by have := hbase _ e; omega)
          have hP2 := row_grown (hP.out.alloc _) hg (fun e => by have := hbase _ e; omega)
          have X3 := (X2.alloc _).grown hg hbase
          clear hat hown hg X2 hP hR e8 f8 hbase
          obtain ⟨ob9, kb9, rfl⟩ := own_slice hown2
          have e8 := hP2.cell 8 rfl
          have f8 := hP2.frozen 8
          have hq2 := hP2.lt
          have hown3 := own_ex2 (R := w.heap.size) (P := (w.heap.size + 1)) hown2 (by omega) (by omega) ((Ex2.refl _ _ _).set 8 (.slice ob9 (M.length + 1) kb9))
          have hrel : Hid (q1.pos ≤ s.size ∧ RowL (w'.setCell ⟨(w.heap.size + 1), 8, none⟩ (.slice ob9 (M.length + 1) kb9)) w.heap.size 31 (rC s q1) ∧ RowL (w'.setCell ⟨(w.heap.size + 1), 8, none⟩ (.slice ob9 (M.length + 1) kb9)) (w.heap.size + 1) 38 [.int .i64 i0, .bool b1, .int .i64 i2, .slice o3 nc k3, .slice o4 n4 k4, .slice o5 nu k5, .int .i64 i6, .string t, .slice ob9 (M.length + 1) kb9, .slice none 0 0] ∧ (w'.setCell ⟨(w.heap.size + 1), 8, none⟩ (.slice ob9 (M.length + 1) kb9)).ownsRow y6.heap.size 3 1 (.slice ob9 (M.length + 1) kb9) (M ++ [x]).length ((M ++ [x]).flatMap cLines) ∧ Ex2 w.heap.size (w.heap.size + 1) y6 (w'.setCell ⟨(w.heap.size + 1), 8, none⟩ (.slice ob9 (M.length + 1) kb9)) ∧ SevAt (rdAny s V) na r2 (k + 1) q1 (M ++ [x])) := by
            refine ⟨hp9, hR2.other (a := ⟨(w.heap.size + 1), 8, none⟩) (show w.heap.size ≠ (w.heap.size + 1) by omega) _, hP2.set 8 _, ?_, X3.set 8 _, hsv.out.step rfl hkn hx.out⟩
            rw [List.length_append, List.flatMap_append]
            simpa using hown3
          clear hown2 hown3 hR2 hP2 X3 hsv hx hi hz0 hz1 hz2 hyz
          go_wp2_with fail
          go_roundw
          case rel => exact ⟨k + 1, M ++ [x], q1, .slice ob9 (M.length + 1) kb9, by go_num, hkn, hrel.out⟩
          case measure => clear hrel; simp only [intOf]; omega
        · have hR := hq.out.2.1
          have c2 := hR.cell 2 rfl
          have cf := hR.frozen
          clear hR hone hpos
          have hbI : (q.bad == 0) = false := by simpa using hb
          go_wp2_with fail
          go_meet
          case rel =>
            have hd := hq.out.2.2.2.2.2.done (.inr hb) hk
            exact ⟨M, q, v, hq.out.1, hq.out.2.1, hq.out.2.2.1, hq.out.2.2.2.1, hq.out.2.2.2.2.1, hd.1, hd.2, Nat.le_trans hq.out.2.2.2.2.2.2.2 hk⟩
      · have hkI : ¬ (k : Int) < (na : Int) := by omega
        clear hone hpos
        go_wp2_with fail
        go_meet
        case rel =>
          have hd := hq.out.2.2.2.2.2.done (.inl (by omega)) hk
          exact ⟨M, q, v, hq.out.1, hq.out.2.1, hq.out.2.2.1, hq.out.2.2.2.1, hq.out.2.2.2.2.1, hd.1, hd.2, Nat.le_trans hq.out.2.2.2.2.2.2.2 hk⟩
  clear hi hz0 hz1 hz2 hone hpos hR hP
  obtain ⟨M1, q3, v9, hq⟩ := hcut
  have pq3 := hq.out.1
  have hR := hq.out.2.1
  have hP := hq.out.2.2.1
  have hl : Hid _ := own_low hq.out.2.2.2.1 (show (w.heap.size + 4) ≤ y6.heap.size by omega)
  obtain ⟨o8, k8, rfl⟩ := own_slice hl.out
  have eq3 := hidR hq.out.2.2.2.2.2.1
  have lq3 := hidR hq.out.2.2.2.2.2.2.1
  have nM1 := hq.out.2.2.2.2.2.2.2
  replace X := X.trans hq.out.2.2.2.2.1
  clear hq hzy
  generalize wc = y7 at hR hP X hl  ⊢
  have h2 : Hid (∀ y, Calls Tryz.prog 17 #[rV s q3, .int .i64 0, .int .i64 (nu : Int)] y fun e w' => e = .returned (.tuple #[.int .i64 (rdNum s V 0 nu q3).1, rV s (rdNum s V 0 nu q3).2]) ∧ Below y.heap.size y w') := fun y => l3Number_in s V hV 0 nu q3 y hs pq3
  have hpa := rdNum_pos (lo := 0) (hi := (nu : Int)) hV pq3
  have hp4 := rdCnt_pos (all := (nu : Int)) hV pq3
  obtain ⟨nb, hnb, ea1, eb2, eb3⟩ := rdCnt_num hV nu q3
  obtain ⟨x, eb⟩ : ∃ x, rdCnt s V nu q3 = x := ⟨_, rfl⟩
  obtain ⟨xb, ra⟩ : ∃ x, (rdNum s V 0 nu q3).2 = x := ⟨_, rfl⟩
  rw [ea1] at h2
  rw [ra] at h2 eb2 hpa
  rw [eb] at eb2 eb3 hp4
  obtain ⟨xd, r4⟩ := x
  dsimp only at eb2 eb3 hp4
  replace eb := hidR eb
  replace eb3 := hidR eb3
  clear ea1 ra
  unfold rV at h2
  go_upto_region 13 with fail
  have e3 := hP.cell 5 rfl
  have c0 := hR.cell 0 rfl
  have c1 := hR.cell 1 rfl
  have c2 := hR.cell 2 rfl
  have cf := hR.frozen
  have hq1 := hR.lt
  replace hR := hidR hR
  replace hP := hidR hP
  go_wp2_with fail
  refine Calls.mono (h2.out y7) ?_
  rintro e y8 ⟨rfl, b9⟩
  replace hR := hR.out.call b9
  replace hP := hP.out.call b9
  replace X := X.trans (Ex2.below b9)
  replace hl := hidR (own_ex2 (R := w.heap.size) (P := (w.heap.size + 1)) hl.out (by omega) (by omega) (Ex2.below b9))
  clear b9 c0 c1 c2 cf hq1
  have c0 := hR.cell 0 rfl
  have c1 := hR.cell 1 rfl
  have c2 := hR.cell 2 rfl
  have cf := hR.frozen
  have hq1 := hR.lt
  replace hR := hidR (rC_put hR xb)
  replace hP := hidR (hP.put (R := w.heap.size) (by omega) (.string s) (.int .i64 (xb.pos : Int)) (.int .i64 xb.bad))
  replace X := X.put (.string s) (.int .i64 (xb.pos : Int)) (.int .i64 xb.bad)
  replace hl := hidR (own_ex2 (R := w.heap.size) (P := (w.heap.size + 1)) hl.out (by omega) (by omega) ((Ex2.refl _ _ _).put (.string s) (.int .i64 (xb.pos : Int)) (.int .i64 xb.bad)))
  go_upto_region 14 with fail
  clear c0 c1 c2 cf hq1 h2
  generalize ((y8.setCell ⟨w.heap.size, 0, none⟩ (.string s)).setCell ⟨w.heap.size, 1, none⟩ (.int .i64 (xb.pos : Int))).setCell ⟨w.heap.size, 2, none⟩ (.int .i64 xb.bad) = y9 at hR hP X hl ⊢
  replace hR := hR.out
  replace hP := hP.out
  clear e3
  have ec := hP.cell 5 rfl
  replace hR := hidR hR
  replace hP := hidR hP
  go_cut [74] from 11 (fun sx wr => y9 = wr ∧ sx = .bool (decide (0 < nb ∧ nb ≠ nu)))
  case first =>
    by_cases h0 : 0 < nb
    · have h0I : (0 : Int) < (nb : Int) := by omega
      go_wp2_with fail
      go_meet
      case rel =>
        refine ⟨rfl, ?_⟩
        congr 1
        by_cases h1 : nb = nu
        · simp [h0, h1]
        · have : (nb : Int) ≠ (nu : Int) := by omega
          simp [h0, h1, this]
    · have h0I : ¬ (0 : Int) < (nb : Int) := by omega
      go_wp2_with fail
      go_meet
      case rel => exact ⟨rfl, by simp [h0]⟩
  clear ec
  obtain ⟨hw9, hs9⟩ := hcut
  subst hw9
  subst hs9
  go_upto_if 74 with fail
  go_cut [] from 11 (fun wr => Hid (RowL wr w.heap.size 31 (rC s r4) ∧ RowL wr (w.heap.size + 1) 38 [.int .i64 i0, .bool b1, .int .i64 i2, .slice o3 nc k3, .slice o4 n4 k4, .slice o5 nu k5, .int .i64 i6, .string t, .slice o8 M1.length k8, .slice none 0 0] ∧ Ex2 w.heap.size (w.heap.size + 1) y0 wr ∧ wr.ownsRow (w.heap.size + 4) 3 1 (.slice o8 M1.length k8) M1.length (M1.flatMap cLines)))
  case first =>
    by_cases hc : 0 < nb ∧ nb ≠ nu
    · have hd : decide (0 < nb ∧ nb ≠ nu) = true := decide_eq_true hc
      rw [if_pos hc] at eb2
      rw [hd]
      have hf : Hid (∀ y, Calls Tryz.prog 40 #[rV s xb, .int .i64 4] y fun e w' => e = .returned (rV s r4) ∧ Below y.heap.size y w') := fun y => by rw [eb2]; exact l3Fail_in s xb 4 y
      unfold rV at hf
      clear eb2
      replace hR := hR.out
      replace hP := hP.out
      have c0 := hR.cell 0 rfl
      have c1 := hR.cell 1 rfl
      have c2 := hR.cell 2 rfl
      have cf := hR.frozen
      have hq1 := hR.lt
      replace hR := hidR hR
      replace hP := hidR hP
      go_wp2_with fail
      refine Calls.mono (hf.out y9) ?_
      rintro e y9 ⟨rfl, b9⟩
      replace hR := hR.out.call b9
      replace hP := hP.out.call b9
      replace X := X.trans (Ex2.below b9)
      replace hl := hidR (own_ex2 (R := w.heap.size) (P := (w.heap.size + 1)) hl.out (by omega) (by omega) (Ex2.below b9))
      clear b9 c0 c1 c2 cf hq1
      have c0 := hR.cell 0 rfl
      have c1 := hR.cell 1 rfl
      have c2 := hR.cell 2 rfl
      have cf := hR.frozen
      have hq1 := hR.lt
      replace hR := hidR (rC_put hR r4)
      replace hP := hidR (hP.put (R := w.heap.size) (by omega) (.string s) (.int .i64 (r4.pos : Int)) (.int .i64 r4.bad))
      replace X := X.put (.string s) (.int .i64 (r4.pos : Int)) (.int .i64 r4.bad)
      replace hl := hidR (own_ex2 (R := w.heap.size) (P := (w.heap.size + 1)) hl.out (by omega) (by omega) ((Ex2.refl _ _ _).put (.string s) (.int .i64 (r4.pos : Int)) (.int .i64 r4.bad)))
      go_wp2_with fail
      go_meet
      case rel => exact ⟨hR.out, hP.out, X, hl.out⟩
    · have hd : decide (0 < nb ∧ nb ≠ nu) = false := decide_eq_false hc
      rw [if_neg hc] at eb2
      rw [hd]
      subst eb2
      go_wp2_with fail
      go_meet
      case rel => exact ⟨hR.out, hP.out, X, hl.out⟩
  clear hR hP X hl
  have hR := hcut.out.1
  have hP := hcut.out.2.1
  have X := hcut.out.2.2.1
  have hl := hidR hcut.out.2.2.2
  clear hcut eb2
  generalize wc = y10 at hR hP X hl ⊢
  obtain ⟨i9, hi, hz0, hz1, hz2⟩ := info_of infNames
  have hzy := X.size
  have hone : Hid (∀ q : RS, q.pos ≤ s.size → ∀ y, Calls Tryz.prog 43 #[.agg #[.string s, .int .i64 (q.pos : Int), .int .i64 q.bad]] y fun e w' => e = .returned (.tuple #[.string (rdText s V q).1, .agg #[.string s, .int .i64 ((rdText s V q).2.pos : Int), .int .i64 (rdText s V q).2.bad]]) ∧ Below y.heap.size y w') := fun q hq y => l3Text_in s V hV q y hs hq
  have hpos : Hid (∀ q : RS, q.pos ≤ s.size → (rdText s V q).2.pos ≤ s.size) := fun q hq => rdText_pos hV hq
  replace hR := hidR hR
  replace hP := hidR hP
  go_upto_region 16 with fail
  go_cut [10] from 11 (fun sx wr => y10 = wr ∧ sx = .int .i64 0)
  case first =>
    go_wp2_with fail
    go_meet
    case rel => exact ⟨rfl, rfl⟩
  obtain ⟨hw9, hs9⟩ := hcut
  subst hw9
  subst hs9
  first | go_upon | go_back | go_step
  go_cut [] from 11 (fun wr => ∃ (M : List ByteArray) (q : RS) (v : Value), Hid (q.pos ≤ s.size ∧ RowL wr w.heap.size 31 (rC s q) ∧ RowL wr (w.heap.size + 1) 38 [.int .i64 i0, .bool b1, .int .i64 i2, .slice o3 nc k3, .slice o4 n4 k4, .slice o5 nu k5, .int .i64 i6, .string t, .slice o8 M1.length k8, v] ∧ wr.ownsRow y10.heap.size 9 1 v M.length (M.flatMap cNames) ∧ Ex2 w.heap.size (w.heap.size + 1) y10 wr ∧ (rdSev (rdText s V) nb r4 []).2 = q ∧ (q.bad = 0 → (rdSev (rdText s V) nb r4 []).1 = M) ∧ M.length ≤ nb))
  case first =>
    go_wp2_with fail
    go_loopw [10] (fun iv wr => ∃ (k : Nat) (M : List ByteArray) (q : RS) (v : Value), iv = .int .i64 (k : Int) ∧ k ≤ nb ∧ Hid (q.pos ≤ s.size ∧ RowL wr w.heap.size 31 (rC s q) ∧ RowL wr (w.heap.size + 1) 38 [.int .i64 i0, .bool b1, .int .i64 i2, .slice o3 nc k3, .slice o4 n4 k4, .slice o5 nu k5, .int .i64 i6, .string t, .slice o8 M1.length k8, v] ∧ wr.ownsRow y10.heap.size 9 1 v M.length (M.flatMap cNames) ∧ Ex2 w.heap.size (w.heap.size + 1) y10 wr ∧ SevAt (rdText s V) nb r4 k q M)) (fun iv _ => nb - (intOf iv).toNat)
    case atStart => exact ⟨0, [], r4, .slice none 0 0, rfl, Nat.zero_le _, hp4, hR.out, hP.out, World.ownsRow_nil _ _ _ _, Ex2.refl _ _ _, SevAt.start (fun q h => rdText_b h) _ _⟩
    case round =>
      obtain ⟨k, M, q, v, rfl, hk, hq⟩ := hrel
      clear hR hP
      by_cases hkn : k < nb
      · have hkI : (k : Int) < (nb : Int) := by omega
        by_cases hb : q.bad = 0
        · obtain ⟨qp, qb⟩ := q
          dsimp only at hb
          subst hb
          have hc := hidR (hone.out ⟨qp, 0⟩ hq.out.1)
          have hp9 := hpos.out ⟨qp, 0⟩ hq.out.1
          obtain ⟨xx, hx⟩ : ∃ x, rdText s V ⟨qp, 0⟩ = x := ⟨_, rfl⟩
          rw [hx] at hc hp9
          obtain ⟨x, q1⟩ := xx
          dsimp only at hc hp9
          replace hx := hidR hx
          have hR := hq.out.2.1
          have hP := hq.out.2.2.1
          obtain ⟨oa9, ka9, rfl⟩ := own_slice hq.out.2.2.2.1
          have hown := hidR hq.out.2.2.2.1
          have X2 := hq.out.2.2.2.2.1
          have hsv := hidR hq.out.2.2.2.2.2
          have hMk : M.length ≤ k := hsv.out.2.2
          have hMn : M.length ≤ 16777215 := by omega
          clear hq hone hpos
          have c0 := hR.cell 0 rfl
          have c1 := hR.cell 1 rfl
          have c2 := hR.cell 2 rfl
          have cf := hR.frozen
          have hq1 := hR.lt
          replace hR := hidR hR
          replace hP := hidR hP
          go_wp2_with fail
          refine Calls.mono (hc.out _) ?_
          rintro e y8 ⟨rfl, b9⟩
          replace hR := hR.out.call b9
          replace hP := hP.out.call b9
          replace X2 := X2.trans (Ex2.below b9)
          replace hown := hidR (own_ex2 (R := w.heap.size) (P := (w.heap.size + 1)) hown.out (by omega) (by omega) (Ex2.below b9))
          clear b9 c0 c1 c2 cf hq1
          have c0 := hR.cell 0 rfl
          have c1 := hR.cell 1 rfl
          have c2 := hR.cell 2 rfl
          have cf := hR.frozen
          have hq1 := hR.lt
          replace hR := hidR (rC_put hR q1)
          replace hP := hidR (hP.put (R := w.heap.size) (by omega) (.string s) (.int .i64 (q1.pos : Int)) (.int .i64 q1.bad))
          replace X2 := X2.put (.string s) (.int .i64 (q1.pos : Int)) (.int .i64 q1.bad)
          replace hown := hidR (own_ex2 (R := w.heap.size) (P := (w.heap.size + 1)) hown.out (by omega) (by omega) ((Ex2.refl _ _ _).put (.string s) (.int .i64 (q1.pos : Int)) (.int .i64 q1.bad)))
          go_upto_region 20 with fail
          clear c0 c1 c2 cf hq1 hc
          generalize ((y8.setCell ⟨w.heap.size, 0, none⟩ (.string s)).setCell ⟨w.heap.size, 1, none⟩ (.int .i64 (q1.pos : Int))).setCell ⟨w.heap.size, 2, none⟩ (.int .i64 q1.bad) = y9 at hR hP X2 hown ⊢
          have e8 := hP.out.cell 9 rfl
          have f8 := hP.out.frozen 9
          go_wp2_with (at_builtin; refine wpList_append_own_at _ rfl (.tmp 93) (.tmp 95) 36 rfl y10.heap.size 9 i9 (.string ⟨#[]⟩) 1 16 Tryz.underlying36 hi hz0 hz1 hz2 rfl (by decide) (.slice oa9 M.length ka9) M.length _ rfl (hown.out.alloc _) ⟨y9.heap.size, 0, none⟩ 1 1 (cNames x) rfl rfl ?c1 ?c2 ?c3 ?c4 ?c5 ?_)
          case c1 => exact World.news_of_block (heap_alloc_new _ _)
          case c2 => intro u hu; simp only [cNames, List.mem_cons, List.not_mem_nil, or_false] at hu; subst hu; rfl
          case c3 => simp only [maxLen]; omega
          case c4 => omega
          case c5 => have := X2.size; simp only [World.size_alloc]; omega
          intro v' w' hown2 hg _ hat
          have hbase := own_base hown.out
          have hyz := X2.size
          have hR2 := row_grown (hR.out.alloc _) hg (fun e => by have := hbase _ e; omega)
          have hP2 := row_grown (hP.out.alloc _) hg (fun e => by have := hbase _ e; omega)
          have X3 := (X2.alloc _).grown hg hbase
          clear hat hown hg X2 hP hR e8 f8 hbase
          obtain ⟨ob9, kb9, rfl⟩ := own_slice hown2
          have e8 := hP2.cell 9 rfl
          have f8 := hP2.frozen 9
          have hq2 := hP2.lt
          have hown3 := own_ex2 (R := w.heap.size) (P := (w.heap.size + 1)) hown2 (by omega) (by omega) ((Ex2.refl _ _ _).set 9 (.slice ob9 (M.length + 1) kb9))
          have hrel : Hid (q1.pos ≤ s.size ∧ RowL (w'.setCell ⟨(w.heap.size + 1), 9, none⟩ (.slice ob9 (M.length + 1) kb9)) w.heap.size 31 (rC s q1) ∧ RowL (w'.setCell ⟨(w.heap.size + 1), 9, none⟩ (.slice ob9 (M.length + 1) kb9)) (w.heap.size + 1) 38 [.int .i64 i0, .bool b1, .int .i64 i2, .slice o3 nc k3, .slice o4 n4 k4, .slice o5 nu k5, .int .i64 i6, .string t, .slice o8 M1.length k8, .slice ob9 (M.length + 1) kb9] ∧ (w'.setCell ⟨(w.heap.size + 1), 9, none⟩ (.slice ob9 (M.length + 1) kb9)).ownsRow y10.heap.size 9 1 (.slice ob9 (M.length + 1) kb9) (M ++ [x]).length ((M ++ [x]).flatMap cNames) ∧ Ex2 w.heap.size (w.heap.size + 1) y10 (w'.setCell ⟨(w.heap.size + 1), 9, none⟩ (.slice ob9 (M.length + 1) kb9)) ∧ SevAt (rdText s V) nb r4 (k + 1) q1 (M ++ [x])) := by
            refine ⟨hp9, hR2.other (a := ⟨(w.heap.size + 1), 9, none⟩) (show w.heap.size ≠ (w.heap.size + 1) by omega) _, hP2.set 9 _, ?_, X3.set 9 _, hsv.out.step rfl hkn hx.out⟩
            rw [List.length_append, List.flatMap_append]
            simpa using hown3
          clear hown2 hown3 hR2 hP2 X3 hsv hx hi hz0 hz1 hz2 hyz
          go_wp2_with fail
          go_roundw
          case rel => exact ⟨k + 1, M ++ [x], q1, .slice ob9 (M.length + 1) kb9, by go_num, hkn, hrel.out⟩
          case measure => clear hrel; simp only [intOf]; omega
        · have hR := hq.out.2.1
          have c2 := hR.cell 2 rfl
          have cf := hR.frozen
          clear hR hone hpos
          have hbI : (q.bad == 0) = false := by simpa using hb
          go_wp2_with fail
          go_meet
          case rel =>
            have hd := hq.out.2.2.2.2.2.done (.inr hb) hk
            exact ⟨M, q, v, hq.out.1, hq.out.2.1, hq.out.2.2.1, hq.out.2.2.2.1, hq.out.2.2.2.2.1, hd.1, hd.2, Nat.le_trans hq.out.2.2.2.2.2.2.2 hk⟩
      · have hkI : ¬ (k : Int) < (nb : Int) := by omega
        clear hone hpos
        go_wp2_with fail
        go_meet
        case rel =>
          have hd := hq.out.2.2.2.2.2.done (.inl (by omega)) hk
          exact ⟨M, q, v, hq.out.1, hq.out.2.1, hq.out.2.2.1, hq.out.2.2.2.1, hq.out.2.2.2.2.1, hd.1, hd.2, Nat.le_trans hq.out.2.2.2.2.2.2.2 hk⟩
  clear hi hz0 hz1 hz2 hone hpos hR hP
  obtain ⟨M2, q5, v9, hq⟩ := hcut
  have pq5 := hq.out.1
  have hR := hq.out.2.1
  have hP := hq.out.2.2.1
  have hn : Hid _ := own_low hq.out.2.2.2.1 (show (w.heap.size + 4) ≤ y10.heap.size by omega)
  obtain ⟨o9, k9, rfl⟩ := own_slice hn.out
  have eq5 := hidR hq.out.2.2.2.2.2.1
  have lq5 := hidR hq.out.2.2.2.2.2.2.1
  have nM2 := hq.out.2.2.2.2.2.2.2
  replace hl := hidR (own_ex2 (R := w.heap.size) (P := (w.heap.size + 1)) hl.out (by omega) (by omega) hq.out.2.2.2.2.1)
  replace X := X.trans hq.out.2.2.2.2.1
  clear hq hzy
  generalize wc = y11 at hR hP X hn hl ⊢
  have hD2 := rdDbg_mod et.out ea.out ea3.out eq3.out lq3.out eb.out eb3.out eq5.out lq5.out
  rw [hD.out] at hD2
  obtain ⟨d1, d2⟩ := D
  dsimp only at hD2 ⊢
  have hD3 := hidR hD2.2
  have hD4 := hD2.1
  clear hD2 hD et ea ea3 eq3 lq3 eb eb3 eq5 lq5
  have hb : Hid _ := fun y => l3Bare_is i0 b1 i2 i6 t o3 o4 o5 o8 o9 nc n4 nu M1.length M2.length k3 k4 k5 k8 k9 y
  have g0 := hP.cell 0 rfl
  have g1 := hP.cell 1 rfl
  have g2 := hP.cell 2 rfl
  have g3 := hP.cell 3 rfl
  have g4 := hP.cell 4 rfl
  have g5 := hP.cell 5 rfl
  have g6 := hP.cell 6 rfl
  have g7 := hP.cell 7 rfl
  have g8 := hP.cell 8 rfl
  have g9 := hP.cell 9 rfl
  replace hR := hidR hR
  replace hP := hidR hP
  go_upto_region 21 with fail
  go_wp2_with fail
  refine Calls.mono (hb.out _) ?_
  rintro e y12 ⟨⟨rb, rfl, hrb⟩, b9⟩
  clear hb
  replace hR := hR.out.call b9
  replace hP := hP.out.call b9
  replace X := X.trans (Ex2.below b9)
  replace hl := hidR (own_ex2 (R := w.heap.size) (P := (w.heap.size + 1)) hl.out (by omega) (by omega) (Ex2.below b9))
  replace hn := hidR (own_ex2 (R := w.heap.size) (P := (w.heap.size + 1)) hn.out (by omega) (by omega) (Ex2.below b9))
  clear b9 g0 g1 g2 g3 g4 g5 g6 g7 g8 g9
  replace hR := hidR hR
  replace hP := hidR hP
  go_upto_if 99 with fail
  go_cut [] from 11 (fun wr => Hid (RowL wr w.heap.size 31 (rC s d2) ∧ RowL wr (w.heap.size + 1) 38 [.int .i64 i0, .bool b1, .int .i64 i2, .slice o3 nc k3, .slice o4 n4 k4, .slice o5 nu k5, .int .i64 i6, .string t, .slice o8 M1.length k8, .slice o9 M2.length k9] ∧ Ex2 w.heap.size (w.heap.size + 1) y0 wr ∧ wr.ownsRow (w.heap.size + 4) 3 1 (.slice o8 M1.length k8) M1.length (M1.flatMap cLines) ∧ wr.ownsRow (w.heap.size + 4) 9 1 (.slice o9 M2.length k9) M2.length (M2.flatMap cNames)))
  case first =>
    cases rb with
    | true =>
      rw [if_pos (hrb.1 rfl)] at hD4
      have hf : Hid (∀ y, Calls Tryz.prog 40 #[rV s q5, .int .i64 3] y fun e w' => e = .returned (rV s d2) ∧ Below y.heap.size y w') := fun y => by rw [hD4]; exact l3Fail_in s q5 3 y
      unfold rV at hf
      clear hD4 hrb
      replace hR := hR.out
      replace hP := hP.out
      have c0 := hR.cell 0 rfl
      have c1 := hR.cell 1 rfl
      have c2 := hR.cell 2 rfl
      have cf := hR.frozen
      have hq1 := hR.lt
      replace hR := hidR hR
      replace hP := hidR hP
      go_wp2_with fail
      refine Calls.mono (hf.out _) ?_
      rintro e y9 ⟨rfl, b9⟩
      replace hR := hR.out.call b9
      replace hP := hP.out.call b9
      replace X := X.trans (Ex2.below b9)
      replace hl := hidR (own_ex2 (R := w.heap.size) (P := (w.heap.size + 1)) hl.out (by omega) (by omega) (Ex2.below b9))
      replace hn := hidR (own_ex2 (R := w.heap.size) (P := (w.heap.size + 1)) hn.out (by omega) (by omega) (Ex2.below b9))
      clear b9 c0 c1 c2 cf hq1
      have c0 := hR.cell 0 rfl
      have c1 := hR.cell 1 rfl
      have c2 := hR.cell 2 rfl
      have cf := hR.frozen
      have hq1 := hR.lt
      replace hR := hidR (rC_put hR d2)
      replace hP := hidR (hP.put (R := w.heap.size) (by omega) (.string s) (.int .i64 (d2.pos : Int)) (.int .i64 d2.bad))
      replace X := X.put (.string s) (.int .i64 (d2.pos : Int)) (.int .i64 d2.bad)
      replace hl := hidR (own_ex2 (R := w.heap.size) (P := (w.heap.size + 1)) hl.out (by omega) (by omega) ((Ex2.refl _ _ _).put (.string s) (.int .i64 (d2.pos : Int)) (.int .i64 d2.bad)))
      replace hn := hidR (own_ex2 (R := w.heap.size) (P := (w.heap.size + 1)) hn.out (by omega) (by omega) ((Ex2.refl _ _ _).put (.string s) (.int .i64 (d2.pos : Int)) (.int .i64 d2.bad)))
      go_wp2_with fail
      go_meet
      case rel => exact ⟨hR.out, hP.out, X, hl.out, hn.out⟩
    | false =>
      rw [if_neg (fun h => Bool.noConfusion (hrb.2 h))] at hD4
      subst hD4
      go_wp2_with fail
      go_meet
      case rel => exact ⟨hR.out, hP.out, X, hl.out, hn.out⟩
  clear hR hP X hl hn hrb hD4
  have hR := hcut.out.1
  have hP := hcut.out.2.1
  have X := hcut.out.2.2.1
  have hl := hidR hcut.out.2.2.2.1
  have hn := hidR hcut.out.2.2.2.2
  clear hcut
  generalize wc = y13 at hR hP X hl hn ⊢
  go_upto_region 23 with fail
  have kA := X.row hA.out (show (w.heap.size + 1 + 1) ≠ w.heap.size by omega) (show (w.heap.size + 1 + 1) ≠ (w.heap.size + 1) by omega)
  have kB := X.row hB.out (show (w.heap.size + 1 + 1 + 1) ≠ w.heap.size by omega) (show (w.heap.size + 1 + 1 + 1) ≠ (w.heap.size + 1) by omega)
  have bf := Below.of_ex2 bw.out X (Nat.le_refl _) (show w.heap.size ≤ (w.heap.size + 1) by omega)
  replace hR := hR.call (Below.refl _ _).drew
  replace hP := hP.call (Below.refl _ _).drew
  replace kA := kA.call (Below.refl _ _).drew
  replace kB := kB.call (Below.refl _ _).drew
  replace bf := bf.drew
  replace hR := hidR (show RowL y13.drew w.heap.size 31 [.string s, .int .i64 (d2.pos : Int), .int .i64 d2.bad] from hR)
  replace hP := hidR hP
  replace kA := hidR kA
  replace kB := hidR kB
  replace bf := hidR bf
  clear X
  replace hl := hidR (own_ex2 (R := (w.heap.size + 1 + 1)) (P := (w.heap.size + 1 + 1 + 1)) hl.out (by omega) (by omega) (Ex2.below (Below.refl _ _).drew))
  replace hn := hidR (own_ex2 (R := (w.heap.size + 1 + 1)) (P := (w.heap.size + 1 + 1 + 1)) hn.out (by omega) (by omega) (Ex2.below (Below.refl _ _).drew))
  refine wp_region_held_drew (S := fun wv => RowL wv w.heap.size 31 [.string s, .int .i64 (d2.pos : Int), .int .i64 d2.bad] ∧ RowL wv (w.heap.size + 1) 38 [.int .i64 i0, .bool b1, .int .i64 i2, .slice o3 nc k3, .slice o4 n4 k4, .slice o5 nu k5, .int .i64 i6, .string t, .slice o8 M1.length k8, .slice o9 M2.length k9]) (by kernel_rfl) ⟨hR.out, hP.out⟩ (fun hH => ?_)
  generalize y13.drew = yz at *
  refine take_dst 0 102 (.agg #[.int .i64 i0, .bool b1, .int .i64 i2, .slice o3 nc k3, .slice o4 n4 k4, .slice o5 nu k5, .int .i64 i6, .string t, .slice o8 M1.length k8, .slice o9 M2.length k9]) rfl (by kernel_rfl) (by kernel_rfl) (by kernel_rfl) (fun _ _ _ h => h) (Or.inl ⟨by rfl, by intro wv hSv; have g0 := hSv.2.cell 0 rfl; have g1 := hSv.2.cell 1 rfl; have g2 := hSv.2.cell 2 rfl; have g3 := hSv.2.cell 3 rfl; have g4 := hSv.2.cell 4 rfl; have g5 := hSv.2.cell 5 rfl; have g6 := hSv.2.cell 6 rfl; have g7 := hSv.2.cell 7 rfl; have g8 := hSv.2.cell 8 rfl; have g9 := hSv.2.cell 9 rfl; clear hSv; go_simp⟩) hH rfl ?_
  try simp only [Act.put, List.setIfInBounds_toArray, List.set_cons_zero, List.set_cons_succ]
  refine take_dst 1 103 (.agg #[.string s, .int .i64 (d2.pos : Int), .int .i64 d2.bad]) rfl (by kernel_rfl) (by kernel_rfl) (by kernel_rfl) (fun _ _ _ h => h) (Or.inl ⟨by rfl, by intro wv hSv; have g0 := hSv.1.cell 0 rfl; have g1 := hSv.1.cell 1 rfl; have g2 := hSv.1.cell 2 rfl; clear hSv; go_simp⟩) hH rfl ?_
  try simp only [Act.put, List.setIfInBounds_toArray, List.set_cons_zero, List.set_cons_succ]
  have s1 := hidR (show RowL (yz.setRow (w.heap.size + 1 + 1) ([.int .i64 i0, .bool b1, .int .i64 i2, .slice o3 nc k3, .slice o4 n4 k4, .slice o5 nu k5, .int .i64 i6, .string t, .slice o8 M1.length k8, .slice o9 M2.length k9] : List Value).toArray) w.heap.size 31 [.string s, .int .i64 (d2.pos : Int), .int .i64 d2.bad] ∧ RowL (yz.setRow (w.heap.size + 1 + 1) ([.int .i64 i0, .bool b1, .int .i64 i2, .slice o3 nc k3, .slice o4 n4 k4, .slice o5 nu k5, .int .i64 i6, .string t, .slice o8 M1.length k8, .slice o9 M2.length k9] : List Value).toArray) (w.heap.size + 1) 38 [.int .i64 i0, .bool b1, .int .i64 i2, .slice o3 nc k3, .slice o4 n4 k4, .slice o5 nu k5, .int .i64 i6, .string t, .slice o8 M1.length k8, .slice o9 M2.length k9] from ⟨hR.out.rowOther (by omega) _, hP.out.rowOther (by omega) _⟩)
  refine ready_storeL 2 (by kernel_rfl) rfl 38 (.tmp 4) (.tmp 102) rfl rfl rfl (w.heap.size + 1 + 1) _ [.int .i64 i0, .bool b1, .int .i64 i2, .slice o3 nc k3, .slice o4 n4 k4, .slice o5 nu k5, .int .i64 i6, .string t, .slice o8 M1.length k8, .slice o9 M2.length k9] rfl rfl _ kA.out infP1 rfl (by simp [Value.oneCell']) s1.out ?_
  have s2 := hidR (show RowL ((yz.setRow (w.heap.size + 1 + 1) ([.int .i64 i0, .bool b1, .int .i64 i2, .slice o3 nc k3, .slice o4 n4 k4, .slice o5 nu k5, .int .i64 i6, .string t, .slice o8 M1.length k8, .slice o9 M2.length k9] : List Value).toArray).setRow (w.heap.size + 1 + 1 + 1) ([.string s, .int .i64 (d2.pos : Int), .int .i64 d2.bad] : List Value).toArray) w.heap.size 31 [.string s, .int .i64 (d2.pos : Int), .int .i64 d2.bad] ∧ RowL ((yz.setRow (w.heap.size + 1 + 1) ([.int .i64 i0, .bool b1, .int .i64 i2, .slice o3 nc k3, .slice o4 n4 k4, .slice o5 nu k5, .int .i64 i6, .string t, .slice o8 M1.length k8, .slice o9 M2.length k9] : List Value).toArray).setRow (w.heap.size + 1 + 1 + 1) ([.string s, .int .i64 (d2.pos : Int), .int .i64 d2.bad] : List Value).toArray) (w.heap.size + 1) 38 [.int .i64 i0, .bool b1, .int .i64 i2, .slice o3 nc k3, .slice o4 n4 k4, .slice o5 nu k5, .int .i64 i6, .string t, .slice o8 M1.length k8, .slice o9 M2.length k9] from ⟨s1.out.1.rowOther (by omega) _, s1.out.2.rowOther (by omega) _⟩)
  refine ready_storeL 3 (by kernel_rfl) rfl 31 (.tmp 5) (.tmp 103) rfl rfl rfl (w.heap.size + 1 + 1 + 1) _ [.string s, .int .i64 (d2.pos : Int), .int .i64 d2.bad] rfl rfl _ (kB.out.rowOther (show (w.heap.size + 1 + 1 + 1) ≠ (w.heap.size + 1 + 1) by omega) _) infR1 rfl (by simp [Value.oneCell']) s2.out ?_
  have L := (kA.out.setRow [.int .i64 i0, .bool b1, .int .i64 i2, .slice o3 nc k3, .slice o4 n4 k4, .slice o5 nu k5, .int .i64 i6, .string t, .slice o8 M1.length k8, .slice o9 M2.length k9] rfl).rowOther (show (w.heap.size + 1 + 1) ≠ (w.heap.size + 1 + 1 + 1) by omega) ([.string s, .int .i64 (d2.pos : Int), .int .i64 d2.bad] : List Value).toArray
  have M := (kB.out.rowOther (show (w.heap.size + 1 + 1 + 1) ≠ (w.heap.size + 1 + 1) by omega) ([.int .i64 i0, .bool b1, .int .i64 i2, .slice o3 nc k3, .slice o4 n4 k4, .slice o5 nu k5, .int .i64 i6, .string t, .slice o8 M1.length k8, .slice o9 M2.length k9] : List Value).toArray).setRow [.string s, .int .i64 (d2.pos : Int), .int .i64 d2.bad] rfl
  replace bf := hidR (below_row (below_row bf.out (show w.heap.size ≤ (w.heap.size + 1 + 1) by omega) ([.int .i64 i0, .bool b1, .int .i64 i2, .slice o3 nc k3, .slice o4 n4 k4, .slice o5 nu k5, .int .i64 i6, .string t, .slice o8 M1.length k8, .slice o9 M2.length k9] : List Value).toArray) (show w.heap.size ≤ (w.heap.size + 1 + 1 + 1) by omega) ([.string s, .int .i64 (d2.pos : Int), .int .i64 d2.bad] : List Value).toArray)
  replace hl := hidR (own_ex2 (R := (w.heap.size + 1 + 1)) (P := (w.heap.size + 1 + 1 + 1)) hl.out (by omega) (by omega) (((Ex2.refl _ _ _).rowR ([.int .i64 i0, .bool b1, .int .i64 i2, .slice o3 nc k3, .slice o4 n4 k4, .slice o5 nu k5, .int .i64 i6, .string t, .slice o8 M1.length k8, .slice o9 M2.length k9] : List Value).toArray).rowP ([.string s, .int .i64 (d2.pos : Int), .int .i64 d2.bad] : List Value).toArray))
  replace hn := hidR (own_ex2 (R := (w.heap.size + 1 + 1)) (P := (w.heap.size + 1 + 1 + 1)) hn.out (by omega) (by omega) (((Ex2.refl _ _ _).rowR ([.int .i64 i0, .bool b1, .int .i64 i2, .slice o3 nc k3, .slice o4 n4 k4, .slice o5 nu k5, .int .i64 i6, .string t, .slice o8 M1.length k8, .slice o9 M2.length k9] : List Value).toArray).rowP ([.string s, .int .i64 (d2.pos : Int), .int .i64 d2.bad] : List Value).toArray))
  clear hR hP kA kB s1 s2 hH
  generalize (yz.setRow (w.heap.size + 1 + 1) ([.int .i64 i0, .bool b1, .int .i64 i2, .slice o3 nc k3, .slice o4 n4 k4, .slice o5 nu k5, .int .i64 i6, .string t, .slice o8 M1.length k8, .slice o9 M2.length k9] : List Value).toArray).setRow (w.heap.size + 1 + 1 + 1) ([.string s, .int .i64 (d2.pos : Int), .int .i64 d2.bad] : List Value).toArray = y19 at L M bf hl hn ⊢
  refine wpAnyH_done (by kernel_rfl) ?_ _
  simp only [Exit.then]
  rename_i K hK
  refine hK _ _ (wp_ret ?_)
  clear hK
  have l0 := L.cell 0 rfl
  have l1 := L.cell 1 rfl
  have l2 := L.cell 2 rfl
  have l3 := L.cell 3 rfl
  have l4 := L.cell 4 rfl
  have l5 := L.cell 5 rfl
  have l6 := L.cell 6 rfl
  have l7 := L.cell 7 rfl
  have l8 := L.cell 8 rfl
  have l9 := L.cell 9 rfl
  have m0 := M.cell 0 rfl
  have m1 := M.cell 1 rfl
  have m2 := M.cell 2 rfl
  clear L M
  refine bodyPost_ret (v := .tuple #[.agg #[.int .i64 i0, .bool b1, .int .i64 i2, .slice o3 nc k3, .slice o4 n4 k4, .slice o5 nu k5, .int .i64 i6, .string t, .slice o8 M1.length k8, .slice o9 M2.length k9], .agg #[.string s, .int .i64 (d2.pos : Int), .int .i64 d2.bad]]) ?_ rfl ?_
  · simp [results, Tryz.results20, go_sem, l0, l1, l2, l3, l4, l5, l6, l7, l8, l9, m0, m1, m2]
  · refine ⟨⟨t, _, _, _, _, _, _, rfl, fun h0 => ?_⟩, bf.out⟩
    rw [hD3.out h0]
    exact ⟨rfl, own_low hl.out (by omega), own_low hn.out (by omega)⟩
end Go.Proofs.YtpobiffihiaakaaGreatDoor
