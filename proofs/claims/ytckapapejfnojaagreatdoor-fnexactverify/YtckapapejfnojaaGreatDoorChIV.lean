import Derived.Test.YtckapapejfnojaaGreatDoorGEV
namespace Go.Proofs.YtckapapejfnojaaGreatDoor
open Go.RowKit
set_option linter.unusedVariables false
set_option linter.unusedSimpArgs false

set_option maxRecDepth 100000 in
set_option maxHeartbeats 8000000 in
theorem l2ProtoOk_no0 (p : PD) (a3 a4 a5 a8 a9 : Value) (w : World) (hp : IsProto (· < w.heap.size) w a3 a4 a5 a8 a9 p) (hno : p.regs < 1 ∨ 250 < p.regs ∨ p.params < 0 ∨ p.regs < p.params ∨ p.code.n < 1) :
    Calls Tryz.prog 69 #[pAgg p a3 a4 a5 a8 a9] w fun e w' => Says e (ProtoOk p) ∧ Below w.heap.size w w' := by
  obtain ⟨p3, p4, p5, p8, p9, -⟩ := hp
  obtain ⟨o3, c3, rfl, n3, -⟩ := p3
  obtain ⟨o5, c5, rfl, n5, k5⟩ := p5
  obtain ⟨o8, c8, rfl, n8, k8⟩ := p8
  obtain ⟨⟨o4, c4, rfl, n4, k4⟩, -⟩ := p4
  obtain ⟨⟨o9, c9, rfl, n9, k9⟩, -⟩ := p9
  unfold pAgg
  clear k4 k5 k8 k9
  by_cases g0 : p.regs < 1
  · clear hno
    go_enter Tryz.func69, Tryz.ntmps69
    go_wp2_with fail
    go_ret
    exact ⟨Says.no rfl (fun h => by have := h.regs1; omega), by go_grown⟩
  by_cases g1 : 250 < p.regs
  · clear hno
    go_enter Tryz.func69, Tryz.ntmps69
    go_wp2_with fail
    go_ret
    exact ⟨Says.no rfl (fun h => by have := h.regs2; omega), by go_grown⟩
  by_cases g2 : p.params < 0
  · clear hno
    go_enter Tryz.func69, Tryz.ntmps69
    go_wp2_with fail
    go_ret
    exact ⟨Says.no rfl (fun h => by have := h.par1; omega), by go_grown⟩
  by_cases g3 : p.regs < p.params
  · clear hno
    go_enter Tryz.func69, Tryz.ntmps69
    go_wp2_with fail
    go_ret
    exact ⟨Says.no rfl (fun h => by have := h.par2; omega), by go_grown⟩
  by_cases g4 : p.code.n < 1
  · clear hno
    go_enter Tryz.func69, Tryz.ntmps69
    go_wp2_with fail
    go_ret
    exact ⟨Says.no rfl (fun h => by have := h.code1; omega), by go_grown⟩
  omega

set_option maxRecDepth 100000 in
set_option maxHeartbeats 8000000 in
theorem l2ProtoOk_no1 (p : PD) (a3 a4 a5 a8 a9 : Value) (w : World) (hp : IsProto (· < w.heap.size) w a3 a4 a5 a8 a9 p) (g0 : ¬ p.regs < 1) (g1 : ¬ 250 < p.regs) (g2 : ¬ p.params < 0) (g3 : ¬ p.regs < p.params) (g4 : ¬ p.code.n < 1) (hno : 2000 < p.code.n ∨ 500 < p.consts.n ∨ 60 < p.ups.n ∨ 1000 < p.name.size) :
    Calls Tryz.prog 69 #[pAgg p a3 a4 a5 a8 a9] w fun e w' => Says e (ProtoOk p) ∧ Below w.heap.size w w' := by
  obtain ⟨p3, p4, p5, p8, p9, -⟩ := hp
  obtain ⟨o3, c3, rfl, n3, -⟩ := p3
  obtain ⟨o5, c5, rfl, n5, k5⟩ := p5
  obtain ⟨o8, c8, rfl, n8, k8⟩ := p8
  obtain ⟨⟨o4, c4, rfl, n4, k4⟩, -⟩ := p4
  obtain ⟨⟨o9, c9, rfl, n9, k9⟩, -⟩ := p9
  unfold pAgg
  clear k4 k5 k8 k9
  by_cases g5 : 2000 < p.code.n
  · clear hno
    go_enter Tryz.func69, Tryz.ntmps69
    go_wp2_with fail
    go_ret
    exact ⟨Says.no rfl (fun h => by have := h.code2; omega), by go_grown⟩
  by_cases g6 : 500 < p.consts.n
  · clear hno
    go_enter Tryz.func69, Tryz.ntmps69
    go_wp2_with fail
    go_ret
    exact ⟨Says.no rfl (fun h => by have := h.consts; omega), by go_grown⟩
  by_cases g7 : 60 < p.ups.n
  · clear hno
    go_enter Tryz.func69, Tryz.ntmps69
    go_wp2_with fail
    go_ret
    exact ⟨Says.no rfl (fun h => by have := h.ups; omega), by go_grown⟩
  by_cases g8 : 1000 < p.name.size
  · clear hno
    go_enter Tryz.func69, Tryz.ntmps69
    go_wp2_with fail
    go_ret
    exact ⟨Says.no rfl (fun h => by have := h.name; omega), by go_grown⟩
  omega

set_option maxRecDepth 100000 in
set_option maxHeartbeats 8000000 in
theorem l2ProtoOk_no2 (p : PD) (a3 a4 a5 a8 a9 : Value) (w : World) (hp : IsProto (· < w.heap.size) w a3 a4 a5 a8 a9 p) (g0 : ¬ p.regs < 1) (g1 : ¬ 250 < p.regs) (g2 : ¬ p.params < 0) (g3 : ¬ p.regs < p.params) (g4 : ¬ p.code.n < 1) (g5 : ¬ 2000 < p.code.n) (g6 : ¬ 500 < p.consts.n) (g7 : ¬ 60 < p.ups.n) (g8 : ¬ 1000 < p.name.size) (gl1 : 0 < p.lines.n) (gl2 : ¬ (p.lines.n : Int) = (p.code.n : Int)) :
    Calls Tryz.prog 69 #[pAgg p a3 a4 a5 a8 a9] w fun e w' => Says e (ProtoOk p) ∧ Below w.heap.size w w' := by
  obtain ⟨p3, p4, p5, p8, p9, -⟩ := hp
  obtain ⟨o3, c3, rfl, n3, -⟩ := p3
  obtain ⟨o5, c5, rfl, n5, k5⟩ := p5
  obtain ⟨o8, c8, rfl, n8, k8⟩ := p8
  obtain ⟨⟨o4, c4, rfl, n4, k4⟩, -⟩ := p4
  obtain ⟨⟨o9, c9, rfl, n9, k9⟩, -⟩ := p9
  unfold pAgg
  clear k4 k5 k8 k9
  go_enter Tryz.func69, Tryz.ntmps69
  go_wp2_with fail
  go_ret
  exact ⟨Says.no rfl (fun h => by have := h.lines; omega), by go_grown⟩

set_option maxRecDepth 100000 in
set_option maxHeartbeats 8000000 in
theorem l2ProtoOk_no3 (p : PD) (a3 a4 a5 a8 a9 : Value) (w : World) (hp : IsProto (· < w.heap.size) w a3 a4 a5 a8 a9 p) (g0 : ¬ p.regs < 1) (g1 : ¬ 250 < p.regs) (g2 : ¬ p.params < 0) (g3 : ¬ p.regs < p.params) (g4 : ¬ p.code.n < 1) (g5 : ¬ 2000 < p.code.n) (g6 : ¬ 500 < p.consts.n) (g7 : ¬ 60 < p.ups.n) (g8 : ¬ 1000 < p.name.size) (gl1 : 0 < p.lines.n) (gl2 : (p.lines.n : Int) = (p.code.n : Int)) (gu1 : 0 < p.upNames.n) (gu2 : ¬ (p.upNames.n : Int) = (p.ups.n : Int)) :
    Calls Tryz.prog 69 #[pAgg p a3 a4 a5 a8 a9] w fun e w' => Says e (ProtoOk p) ∧ Below w.heap.size w w' := by
  obtain ⟨p3, p4, p5, p8, p9, -⟩ := hp
  obtain ⟨o3, c3, rfl, n3, -⟩ := p3
  obtain ⟨o5, c5, rfl, n5, k5⟩ := p5
  obtain ⟨o8, c8, rfl, n8, k8⟩ := p8
  obtain ⟨⟨o4, c4, rfl, n4, k4⟩, -⟩ := p4
  obtain ⟨⟨o9, c9, rfl, n9, k9⟩, -⟩ := p9
  unfold pAgg
  clear k4 k5 k8 k9
  go_enter Tryz.func69, Tryz.ntmps69
  go_wp2_with fail
  go_ret
  exact ⟨Says.no rfl (fun h => by have := h.upNames; omega), by go_grown⟩

set_option maxRecDepth 100000 in
set_option maxHeartbeats 8000000 in
theorem l2ProtoOk_no4 (p : PD) (a3 a4 a5 a8 a9 : Value) (w : World) (hp : IsProto (· < w.heap.size) w a3 a4 a5 a8 a9 p) (g0 : ¬ p.regs < 1) (g1 : ¬ 250 < p.regs) (g2 : ¬ p.params < 0) (g3 : ¬ p.regs < p.params) (g4 : ¬ p.code.n < 1) (g5 : ¬ 2000 < p.code.n) (g6 : ¬ 500 < p.consts.n) (g7 : ¬ 60 < p.ups.n) (g8 : ¬ 1000 < p.name.size) (gl1 : ¬ 0 < p.lines.n) (gu1 : 0 < p.upNames.n) (gu2 : ¬ (p.upNames.n : Int) = (p.ups.n : Int)) :
    Calls Tryz.prog 69 #[pAgg p a3 a4 a5 a8 a9] w fun e w' => Says e (ProtoOk p) ∧ Below w.heap.size w w' := by
  obtain ⟨p3, p4, p5, p8, p9, -⟩ := hp
  obtain ⟨o3, c3, rfl, n3, -⟩ := p3
  obtain ⟨o5, c5, rfl, n5, k5⟩ := p5
  obtain ⟨o8, c8, rfl, n8, k8⟩ := p8
  obtain ⟨⟨o4, c4, rfl, n4, k4⟩, -⟩ := p4
  obtain ⟨⟨o9, c9, rfl, n9, k9⟩, -⟩ := p9
  unfold pAgg
  clear k4 k5 k8 k9
  go_enter Tryz.func69, Tryz.ntmps69
  go_wp2_with fail
  go_ret
  exact ⟨Says.no rfl (fun h => by have := h.upNames; omega), by go_grown⟩
end Go.Proofs.YtckapapejfnojaaGreatDoor
