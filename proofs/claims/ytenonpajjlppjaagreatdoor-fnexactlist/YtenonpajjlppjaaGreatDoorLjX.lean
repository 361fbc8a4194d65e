import Derived.Test.YtenonpajjlppjaaGreatDoorLjW
namespace Go.Proofs.YtenonpajjlppjaaGreatDoor
open Go.RowKit
set_option linter.unusedVariables false
set_option linter.unusedSimpArgs false
set_option maxRecDepth 100000
set_option maxHeartbeats 2000000
theorem ba_nil (X : ByteArray) : X ++ (⟨#[]⟩ : ByteArray) = X := by
  apply ByteArray.ext
  simp [ByteArray.data_append]
theorem l6Word_big (z : Int) (h1 : 0 ≤ z) (h2 : z ≤ 4294967295) (hop : 33 < opW z) (w : World) :
    Calls Tryz.prog 26 #[.int .u32 z] w fun e w' => e = .returned (.string (⟨#[119, 111, 114, 100, 32]⟩ ++ dec z)) ∧ Below w.heap.size w w' := by
  have hU := hidR (fun y => unpackS z y h1 h2)
  have hn := hidR (fun y => l6Num_in z (by omega) (by omega) y)
  have zd := dec_size z (by omega) (by omega)
  have z5 : (⟨#[119, 111, 114, 100, 32]⟩ : ByteArray).size = 5 := rfl
  generalize dec z = D at hn zd ⊢
  have hz : (⟨#[119, 111, 114, 100, 32]⟩ : ByteArray).size + D.size ≤ 9223372036854775807 := by omega
  have hwz : wrap64 z = z := by unfold wrap64; omega
  have hwz2 : IntKind.i64.wrap z = z := by simp [IntKind.wrap, IntKind.bits, IntKind.signed]; omega
  generalize opW z = op at hop hU
  generalize aW z = a at hU
  generalize bW z = b at hU
  generalize cW z = c at hU
  generalize sW z = s at hU
  unfold insV at hU
  have hopI : op > 33 := hop
  go_enter Tryz.func26, Tryz.ntmps26
  go_wp2_with fail
  refine Calls.mono (hU.out _) ?_
  rintro e y1 ⟨rfl, b1⟩
  have b2 := hidR (show Below w.heap.size w (y1.alloc (.cells #[.int .i64 op, .int .i64 a, .int .i64 b, .int .i64 c, .int .i64 s] 93)) from b1.alloc b1.size _)
  clear hU b1
  go_wp2_with fail
  refine Calls.mono (hn.out _) ?_
  rintro e y3 ⟨rfl, b3⟩
  have b4 := hidR (b2.out.trans (b3.mono b2.out.size))
  clear hn b2 b3
  go_wp2_with fail
  go_ret
  exact ⟨rfl, b4.out⟩
theorem l6Word_in (z : Int) (h1 : 0 ≤ z) (h2 : z ≤ 4294967295) (w : World) :
    Calls Tryz.prog 26 #[.int .u32 z] w fun e w' => e = .returned (.string (wordT z)) ∧ Below w.heap.size w w' := by
  unfold wordT
  by_cases hop : 33 < opW z
  · rw [if_pos hop]
    exact l6Word_big z h1 h2 hop w
  · rw [if_neg hop]
    have ho : 0 ≤ opW z := by unfold opW; omega
    have da : -9223372036854775808 ≤ aW z ∧ aW z ≤ 9223372036854775807 := by unfold aW; omega
    have db : -9223372036854775808 ≤ bW z ∧ bW z ≤ 9223372036854775807 := by unfold bW; omega
    have dc : -9223372036854775808 ≤ cW z ∧ cW z ≤ 9223372036854775807 := by unfold cW; omega
    have ds : -9223372036854775808 ≤ sW z ∧ sW z ≤ 9223372036854775807 := by unfold sW bW cW; omega
    have hk : ((opW z).toNat : Int) = opW z := by omega
    have hU : ∀ y, Calls Tryz.prog 67 #[.int .u32 z] y fun e w' => e = .returned (.agg #[.int .i64 (((opW z).toNat : Nat) : Int), .int .i64 (aW z), .int .i64 (bW z), .int .i64 (cW z), .int .i64 (sW z)]) ∧ Below y.heap.size y w' := fun y => by
      rw [hk]
      exact unpackS z y h1 h2
    by_cases hw : WideOp (opW z).toNat
    · rw [if_pos hw]
      exact l6Word_wide (opW z).toNat (by omega) _ (bW z) (cW z) _ da db dc ds z hU hw w
    · rw [if_neg hw]
      exact l6Word_abc (opW z).toNat (by omega) _ _ _ (sW z) da db dc ds z hU hw w
/-- the first line of a prototype. -/
def headT (p : PD) : ByteArray := ⟨#[112, 114, 111, 116, 111, 32]⟩ ++ dec p.params ++ spB ++ dec p.regs ++ spB ++ dec p.kids ++ (if p.vararg then ⟨#[32, 118, 97, 114, 97, 114, 103]⟩ else ⟨#[]⟩)
theorem l6Head_in (a b c : Int) (vb : Bool) (nme : ByteArray) (o3 o4 o5 o8 o9 : Option Addr) (n3 n4 n5 n8 n9 c3 c4 c5 c8 c9 : Nat) (da : (-9223372036854775808 ≤ a ∧ a ≤ 9223372036854775807)) (db : (-9223372036854775808 ≤ b ∧ b ≤ 9223372036854775807)) (dc : (-9223372036854775808 ≤ c ∧ c ≤ 9223372036854775807)) (w : World) :
    Calls Tryz.prog 23 #[.agg #[.int .i64 a, .bool vb, .int .i64 b, .slice o3 n3 c3, .slice o4 n4 c4, .slice o5 n5 c5, .int .i64 c, .string nme, .slice o8 n8 c8, .slice o9 n9 c9]] w fun e w' => e = .returned (.string (⟨#[112, 114, 111, 116, 111, 32]⟩ ++ dec a ++ ⟨#[32]⟩ ++ dec b ++ ⟨#[32]⟩ ++ dec c ++ (if vb then ⟨#[32, 118, 97, 114, 97, 114, 103]⟩ else ⟨#[]⟩))) ∧ Below w.heap.size w w' := by
  have za := dec_size a da.1 da.2
  have zb := dec_size b db.1 db.2
  have zc := dec_size c dc.1 dc.2
  have ha := hidR (fun y => l6Num_in a da.1 da.2 y)
  have hb := hidR (fun y => l6Num_in b db.1 db.2 y)
  have hc := hidR (fun y => l6Num_in c dc.1 dc.2 y)
  clear da db dc
  generalize dec a = A at ha za ⊢
  generalize dec b = B at hb zb ⊢
  generalize dec c = C at hc zc ⊢
  have R0 := RowL.new w [.int .i64 a, .bool vb, .int .i64 b, .slice o3 n3 c3, .slice o4 n4 c4, .slice o5 n5 c5, .int .i64 c, .string nme, .slice o8 n8 c8, .slice o9 n9 c9] 67
  have b0 : Below w.heap.size w (w.alloc (.cells #[.int .i64 a, .bool vb, .int .i64 b, .slice o3 n3 c3, .slice o4 n4 c4, .slice o5 n5 c5, .int .i64 c, .string nme, .slice o8 n8 c8, .slice o9 n9 c9] 67)) := (Below.refl _ _).alloc (Nat.le_refl _) _
  replace R0 := hidR (R0.call (Below.refl _ _).drew)
  have b4 := hidR b0.drew
  clear b0
  obtain ⟨G, hG⟩ : ∃ G : ByteArray, ⟨#[112, 114, 111, 116, 111, 32]⟩ ++ A ++ ⟨#[32]⟩ ++ B ++ ⟨#[32]⟩ ++ C ++ (if vb then ⟨#[32, 118, 97, 114, 97, 114, 103]⟩ else ⟨#[]⟩) = G := ⟨_, rfl⟩
  rw [hG]
  replace hG := hidR hG
  go_enter Tryz.func23, Tryz.ntmps23
  go_upto_region 1 with fail
  replace R0 : Hid (RowL (w.alloc (.cells #[.int .i64 a, .bool vb, .int .i64 b, .slice o3 n3 c3, .slice o4 n4 c4, .slice o5 n5 c5, .int .i64 c, .string nme, .slice o8 n8 c8, .slice o9 n9 c9] 67)).drew w.heap.size 67 [.int .i64 a, .bool vb, .int .i64 b, .slice o3 n3 c3, .slice o4 n4 c4, .slice o5 n5 c5, .int .i64 c, .string nme, .slice o8 n8 c8, .slice o9 n9 c9]) := R0
  refine wp_region_held_drew (S := fun wv => RowL wv w.heap.size 67 [.int .i64 a, .bool vb, .int .i64 b, .slice o3 n3 c3, .slice o4 n4 c4, .slice o5 n5 c5, .int .i64 c, .string nme, .slice o8 n8 c8, .slice o9 n9 c9]) (by kernel_rfl) R0.out (fun hH => ?_)
  clear hH
  generalize (w.alloc (.cells #[.int .i64 a, .bool vb, .int .i64 b, .slice o3 n3 c3, .slice o4 n4 c4, .slice o5 n5 c5, .int .i64 c, .string nme, .slice o8 n8 c8, .slice o9 n9 c9] 67)).drew = y4 at R0 b4 ⊢
  refine take_dst 0 4 (.pointer (some ⟨w.heap.size, 0, none⟩)) rfl (by kernel_rfl) (by kernel_rfl) (by kernel_rfl) (fun _ _ _ h => h) (Or.inl ⟨by rfl, by intro wv hSv; clear hSv; go_simp⟩) R0.out rfl ?_
  try simp only [Act.put, List.setIfInBounds_toArray, List.set_cons_zero, List.set_cons_succ]
  refine take_dst 1 5 (.int .i64 a) rfl (by kernel_rfl) (by kernel_rfl) (by kernel_rfl) (fun _ _ _ h => h) (Or.inl ⟨by rfl, by intro wv hSv; have g0 := hSv.cell 0 rfl; clear hSv; go_simp⟩) R0.out rfl ?_
  try simp only [Act.put, List.setIfInBounds_toArray, List.set_cons_zero, List.set_cons_succ]
  refine take_dst 5 9 (.pointer (some ⟨w.heap.size, 2, none⟩)) rfl (by kernel_rfl) (by kernel_rfl) (by kernel_rfl) (fun _ _ _ h => h) (Or.inl ⟨by rfl, by intro wv hSv; clear hSv; go_simp⟩) R0.out rfl ?_
  try simp only [Act.put, List.setIfInBounds_toArray, List.set_cons_zero, List.set_cons_succ]
  refine take_dst 6 10 (.int .i64 b) rfl (by kernel_rfl) (by kernel_rfl) (by kernel_rfl) (fun _ _ _ h => h) (Or.inl ⟨by rfl, by intro wv hSv; have g0 := hSv.cell 2 rfl; clear hSv; go_simp⟩) R0.out rfl ?_
  try simp only [Act.put, List.setIfInBounds_toArray, List.set_cons_zero, List.set_cons_succ]
  refine take_dst 10 14 (.pointer (some ⟨w.heap.size, 6, none⟩)) rfl (by kernel_rfl) (by kernel_rfl) (by kernel_rfl) (fun _ _ _ h => h) (Or.inl ⟨by rfl, by intro wv hSv; clear hSv; go_simp⟩) R0.out rfl ?_
  try simp only [Act.put, List.setIfInBounds_toArray, List.set_cons_zero, List.set_cons_succ]
  refine take_dst 11 15 (.int .i64 c) rfl (by kernel_rfl) (by kernel_rfl) (by kernel_rfl) (fun _ _ _ h => h) (Or.inl ⟨by rfl, by intro wv hSv; have g0 := hSv.cell 6 rfl; clear hSv; go_simp⟩) R0.out rfl ?_
  try simp only [Act.put, List.setIfInBounds_toArray, List.set_cons_zero, List.set_cons_succ]
  refine wpAnyH_ready (rs := [2]) (by kernel_rfl) (by simp) ?_
  refine AllReadyH.cons rfl (fun K hK => ?_) AllReadyH.nil
  go_simp
  refine Calls.mono (ha.out _) ?_
  rintro e y5 ⟨rfl, bq⟩
  have R5 := hidR (R0.out.call bq)
  have b5 := hidR (b4.out.trans (bq.mono b4.out.size))
  clear bq R0 b4 ha
  go_wp2_with fail
  refine hK.out _ _ R5.out (fun hzz => ?_)
  clear hK K hzz
  try simp only [Act.put, List.setIfInBounds_toArray, List.set_cons_zero, List.set_cons_succ]
  refine take_dst 3 7 (.string (⟨#[112, 114, 111, 116, 111, 32]⟩ ++ A)) rfl (by kernel_rfl) (by kernel_rfl) (by kernel_rfl) (fun _ _ _ h => h) (Or.inl ⟨by rfl, by intro wv hSv; clear hSv; go_simp <;> omega⟩) R5.out rfl ?_
  try simp only [Act.put, List.setIfInBounds_toArray, List.set_cons_zero, List.set_cons_succ]
  refine take_dst 4 8 (.string (⟨#[112, 114, 111, 116, 111, 32]⟩ ++ A ++ ⟨#[32]⟩)) rfl (by kernel_rfl) (by kernel_rfl) (by kernel_rfl) (fun _ _ _ h => h) (Or.inl ⟨by rfl, by intro wv hSv; clear hSv; go_simp <;> omega⟩) R5.out rfl ?_
  try simp only [Act.put, List.setIfInBounds_toArray, List.set_cons_zero, List.set_cons_succ]
  refine wpAnyH_ready (rs := [7]) (by kernel_rfl) (by simp) ?_
  refine AllReadyH.cons rfl (fun K hK => ?_) AllReadyH.nil
  go_simp
  refine Calls.mono (hb.out _) ?_
  rintro e y6 ⟨rfl, bq⟩
  have R6 := hidR (R5.out.call bq)
  have b6 := hidR (b5.out.trans (bq.mono b5.out.size))
  clear bq R5 b5 hb
  go_wp2_with fail
  refine hK.out _ _ R6.out (fun hzz => ?_)
  clear hK K hzz
  try simp only [Act.put, List.setIfInBounds_toArray, List.set_cons_zero, List.set_cons_succ]
  refine take_dst 8 12 (.string (⟨#[112, 114, 111, 116, 111, 32]⟩ ++ A ++ ⟨#[32]⟩ ++ B)) rfl (by kernel_rfl) (by kernel_rfl) (by kernel_rfl) (fun _ _ _ h => h) (Or.inl ⟨by rfl, by intro wv hSv; clear hSv; go_simp <;> omega⟩) R6.out rfl ?_
  try simp only [Act.put, List.setIfInBounds_toArray, List.set_cons_zero, List.set_cons_succ]
  refine take_dst 9 13 (.string (⟨#[112, 114, 111, 116, 111, 32]⟩ ++ A ++ ⟨#[32]⟩ ++ B ++ ⟨#[32]⟩)) rfl (by kernel_rfl) (by kernel_rfl) (by kernel_rfl) (fun _ _ _ h => h) (Or.inl ⟨by rfl, by intro wv hSv; clear hSv; go_simp <;> omega⟩) R6.out rfl ?_
  try simp only [Act.put, List.setIfInBounds_toArray, List.set_cons_zero, List.set_cons_succ]
  refine wpAnyH_ready (rs := [12]) (by kernel_rfl) (by simp) ?_
  refine AllReadyH.cons rfl (fun K hK => ?_) AllReadyH.nil
  go_simp
  refine Calls.mono (hc.out _) ?_
  rintro e y7 ⟨rfl, bq⟩
  have R7 := hidR (R6.out.call bq)
  have b7 := hidR (b6.out.trans (bq.mono b6.out.size))
  clear bq R6 b6 hc
  go_wp2_with fail
  refine hK.out _ _ R7.out (fun hzz => ?_)
  clear hK K hzz
  try simp only [Act.put, List.setIfInBounds_toArray, List.set_cons_zero, List.set_cons_succ]
  refine take_dst 13 17 (.string (⟨#[112, 114, 111, 116, 111, 32]⟩ ++ A ++ ⟨#[32]⟩ ++ B ++ ⟨#[32]⟩ ++ C)) rfl (by kernel_rfl) (by kernel_rfl) (by kernel_rfl) (fun _ _ _ h => h) (Or.inl ⟨by rfl, by intro wv hSv; clear hSv; go_simp <;> omega⟩) R7.out rfl ?_
  try simp only [Act.put, List.setIfInBounds_toArray, List.set_cons_zero, List.set_cons_succ]
  refine wpAnyH_ready (rs := [14]) (by kernel_rfl) (by simp) ?_
  refine AllReadyH.cons rfl (fun K hK => ?_) AllReadyH.nil
  go_simp
  refine hK.out _ _ R7.out (fun hzz => ?_)
  clear hK K hzz
  try simp only [Act.put, List.setIfInBounds_toArray, List.set_cons_zero, List.set_cons_succ]
  refine wpAnyH_done (by kernel_rfl) ?_ _
  have c1 := R7.out.cell 1 rfl
  have cl := R7.out.lt
  cases vb with
  | true =>
    have hz : (⟨#[112, 114, 111, 116, 111, 32]⟩ ++ A ++ ⟨#[32]⟩ ++ B ++ ⟨#[32]⟩ ++ C : ByteArray).size + (⟨#[32, 118, 97, 114, 97, 114, 103]⟩ : ByteArray).size ≤ 9223372036854775807 := by simp only [ByteArray.size_append]; have e1 : (⟨#[112, 114, 111, 116, 111, 32]⟩ : ByteArray).size = 6 := rfl; have e2 : (⟨#[32]⟩ : ByteArray).size = 1 := rfl; have e3 : (⟨#[32, 118, 97, 114, 97, 114, 103]⟩ : ByteArray).size = 7 := rfl; omega
    go_wp2_with fail
    go_ret
    exact ⟨by rw [← hG.out]; rfl, b7.out⟩
  | false =>
    have hn := hidR (ba_nil (⟨#[112, 114, 111, 116, 111, 32]⟩ ++ A ++ ⟨#[32]⟩ ++ B ++ ⟨#[32]⟩ ++ C))
    go_wp2_with fail
    go_ret
    exact ⟨by rw [← hG.out, if_neg (by simp), hn.out]; rfl, b7.out⟩
end Go.Proofs.YtenonpajjlppjaaGreatDoor
