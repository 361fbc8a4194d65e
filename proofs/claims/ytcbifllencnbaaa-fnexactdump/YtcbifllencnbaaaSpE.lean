import Derived.Test.YtcbifllencnbaaaSpD
import Derived.Test.YtcbifllencnbaaaDpB
import Derived.Test.YtcbifllencnbaaaOpn
namespace Go.Proofs.Ytcbifllencnbaaa
open Go.RowKit Go.Lib Go.Shelf
set_option linter.unusedVariables false
set_option linter.unusedSimpArgs false
theorem pw_of {s : Sl PD} (hwf : Wf s) (hbd : Bnd s) (i : Nat) (hi : i < s.n) : PW (s.f i) := by
  have ok := hwf.each i hi
  refine ⟨fun j hj => bounds_u32 (hbd.code i hi j hj), fun j hj => ?_, ok.name, ok.allUpNames⟩
  obtain ⟨h1, h2⟩ := bounds_i64 (hbd.nums i hi j hj)
  have := ok.allConsts j hj
  unfold Plain at this
  exact ⟨by omega, h1, h2⟩
theorem cat_sz {s : Sl PD} (hwf : Wf s) {i : Nat} (hi : i < s.n) : headB.size + (cat (fun i => protoB (s.f i)) i).size + (protoB (s.f i)).size ≤ 70368744177664 := by
  have h1 := chunkB_size s hwf
  have h2 := cat_lt (fun i => protoB (s.f i)) hi
  unfold chunkB at h1
  rw [ByteArray.size_append] at h1
  omega
set_option maxRecDepth 100000 in
set_option maxHeartbeats 4000000 in
theorem specDump_in (s : Sl PD) (v : Value) (w : World) (hv : IsProtos (· < w.heap.size) w v s) (hbd : Bnd s) :
    Calls Try.prog 5 #[.agg #[v]] w fun e w' => ((Wf s ∧ e = .returned (.tuple #[.string (chunkB s), .bool true])) ∨ (¬ Wf s ∧ e = .returned (.tuple #[.string ⟨#[]⟩, .bool false]))) ∧ Below w.heap.size w w' := by
  have hv' : Hid (IsProtos (· < w.heap.size) w v s) := hv
  obtain ⟨a3, a4, a5, a8, a9, ⟨ao, cap, rfl, hn, hc⟩, ht⟩ := hv
  replace hc : Hid (0 < s.n → ∃ b o, ao = some ⟨b, o, none⟩ ∧ b < w.heap.size ∧ ∀ i, i < s.n → ∀ j, j < 10 → w.cell? ⟨b, o + i * 10 + j, none⟩ = some (pC s.f a3 a4 a5 a8 a9 i j)) := hc
  replace ht : Hid (∀ i, i < s.n → IsProto (· < w.heap.size) w (a3 i) (a4 i) (a5 i) (a8 i) (a9 i) (s.f i)) := ht
  replace hbd : Hid (Bnd s) := hbd
  go_enter Try.func5, Try.ntmps5
  go_wp2_with fail
  have R0 := RowL.new w [.slice ao s.n cap] 30
  have bw : Below w.heap.size w (w.alloc (.cells #[.slice ao s.n cap] 30)) := by go_grown
  generalize w.alloc (.cells #[.slice ao s.n cap] 30) = w0 at R0 bw ⊢
  refine (specWF_in s _ _ (hv'.out.later bw)).mono ?_
  rintro e w1 ⟨⟨r, rfl, hr⟩, b1⟩
  replace R0 := R0.call b1
  replace bw := bw.trans (b1.mono bw.size)
  clear b1
  cases r with
  | false =>
    have hno : Hid (¬ Wf s) := fun h => by simpa using hr.2 h
    clear hr hv' R0
    go_wp2_with fail
    exact bodyPost_ret (v := .tuple #[.string ⟨#[]⟩, .bool false]) (by simp [results, Try.results5, go_sem]) rfl ⟨.inr ⟨hno.out, rfl⟩, bw⟩
  | true =>
    have hwf : Hid (Wf s) := hr.1 rfl
    clear hr hv'
    have hlow := hwf.out.low
    have hhigh := hwf.out.high
    go_wp2_with fail
    have sA : Hid (Buf (w1.alloc (.cells #[] 5)) 5 (.slice (some ⟨w1.heap.size, 0, none⟩) 0 0) ByteArray.empty) := buf_made w1 _
    have bA : Below w1.heap.size w1 (w1.alloc (.cells #[] 5)) := by go_grown
    have szA : (w1.alloc (.cells #[] 5)).heap.size = w1.heap.size + 1 := by simp
    generalize w1.alloc (.cells #[] 5) = wA at sA bA szA ⊢
    have hpl := l3Put_in _ ByteArray.empty headB wA sA.out (by unfold headB; rw [strOfNums_size]; simp)
    rw [ByteArray.empty_append] at hpl
    refine hpl.mono ?_
    rintro e y ⟨v1, rfl, hB1, hF1⟩
    have T0 : Hid (St (fun _ => False) wA (.slice (some ⟨w1.heap.size, 0, none⟩) 0 0) y v1 headB) := ⟨hB1, hF1⟩
    have hown : Hid (∀ y v' X, St (fun _ => False) wA (.slice (some ⟨w1.heap.size, 0, none⟩) 0 0) y v' X → ∀ k, v'.ownBlock = some k → w1.heap.size ≤ k) := fun y v' X h k hk => by
      rcases h.fr.own with e | e
      · rw [hk] at e
        simp only [Value.ownBlock, Option.some.injEq] at e
        omega
      · have := e k hk
        omega
    have hbel : Hid (∀ y v' X, St (fun _ => False) wA (.slice (some ⟨w1.heap.size, 0, none⟩) 0 0) y v' X → Below w1.heap.size w1 y) := fun y v' X h =>
      bA.trans (h.fr.below (by omega) (fun _ h => h.elim) (fun k hk => by simp only [Value.ownBlock, Option.some.injEq] at hk; omega))
    clear hB1 hF1 hpl sA bA szA
    replace R0 : Hid (RowL w1 w.heap.size 30 [.slice ao s.n cap]) := R0
    go_wp2_with fail
    go_loopw [4, 5] (fun o i wr => ∃ i' : Nat, i = .int .i64 (i' : Int) ∧ i' ≤ s.n ∧ Hid (St (fun _ => False) wA (.slice (some ⟨w1.heap.size, 0, none⟩) 0 0) wr o (headB ++ cat (fun i => protoB (s.f i)) i')))
      (fun _ i _ => s.n - (intOf i).toNat)
    case atStart => exact ⟨0, rfl, by omega, (by show St _ _ _ _ _ (headB ++ ByteArray.empty); rw [ByteArray.append_empty]; exact T0.out)⟩
    case round =>
      obtain ⟨i', rfl, hin, hT⟩ := hrel
      obtain ⟨wz, hwz⟩ : ∃ x, x = wr := ⟨_, rfl⟩
      subst hwz
      have hby := hbel.out wz _ _ hT.out
      have r0 := (R0.out.call hby).cell 0 rfl
      have q4 := bw.trans (hby.mono bw.size)
      by_cases hlt : i' < s.n
      · have hii : (i' : Int) < (s.n : Int) := by omega
        obtain ⟨b, o, rfl, hb, hcc⟩ := hc.out (by omega)
        have c0 := hcc i' hlt 0 (by omega)
        have c1 := hcc i' hlt 1 (by omega)
        have c2 := hcc i' hlt 2 (by omega)
        have c3 := hcc i' hlt 3 (by omega)
        have c4 := hcc i' hlt 4 (by omega)
        have c5 := hcc i' hlt 5 (by omega)
        have c6 := hcc i' hlt 6 (by omega)
        have c7 := hcc i' hlt 7 (by omega)
        have c8 := hcc i' hlt 8 (by omega)
        have c9 := hcc i' hlt 9 (by omega)
        rw [← q4.cell (p := ⟨b, _, none⟩) hb] at c0 c1 c2 c3 c4 c5 c6 c7 c8 c9
        simp only [Nat.add_zero, pC] at c0 c1 c2 c3 c4 c5 c6 c7 c8 c9
        have hpr := l3Proto_in w.heap.size (s.f i') _ (a3 i') (a4 i') (a5 i') (a8 i') (a9 i') _ wz ((ht.out i' hlt).below q4) (pw_of hwf.out hbd.out i' hlt) hT.out.buf q4.size (fun k hk => Nat.le_trans bw.size (hown.out _ _ _ hT.out k hk)) (by rw [ByteArray.size_append]; exact cat_sz hwf.out hlt)
        unfold pAgg at hpr
        replace hpr : Hid _ := hpr
        clear hcc
        go_wp2_with fail
        refine (Calls.mono hpr.out ?_)
        rintro e y2 ⟨v2, rfl, s2⟩
        have hT1 : Hid (St (fun _ => False) wA (.slice (some ⟨w1.heap.size, 0, none⟩) 0 0) y2 v2 (headB ++ cat (fun i => protoB (s.f i)) (i' + 1))) := by
          show St _ _ _ _ _ (headB ++ (cat (fun i => protoB (s.f i)) i' ++ protoB (s.f i')))
          rw [← ByteArray.append_assoc]
          exact hT.out.next s2.buf s2.fr
        clear c0 c1 c2 c3 c4 c5 c6 c7 c8 c9 r0 hT s2 hpr hby q4
        go_wp2_with fail
        go_roundw
        case rel => exact ⟨i' + 1, by go_num, by omega, hT1.out⟩
        case measure => simp [intOf]; omega
      · obtain rfl : i' = s.n := by omega
        have hcv : (convert 36 9 u4).run Try.prog wz = .ok (.string (chunkB s)) wz := conv_buf _ _ _ Try.underlying36 Try.underlying5 Try.underlying9 hT.out.buf
        clear hT
        go_wp2_with fail
        exact bodyPost_ret (v := .tuple #[.string (chunkB s), .bool true]) (by simp [results, Try.results5, go_sem]) rfl ⟨.inl ⟨hwf.out, rfl⟩, q4⟩
end Go.Proofs.Ytcbifllencnbaaa
