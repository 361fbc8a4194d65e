import Derived.Test.YtckapapejfnojaaGreatDoorGHV
namespace Go.Proofs.YtckapapejfnojaaGreatDoor
section
open Go.RowKit Go.Shelf
set_option linter.unusedVariables false
set_option linter.unusedSimpArgs false
set_option maxRecDepth 100000
set_option maxHeartbeats 2000000
/-- the function of the check with this number. -/
def ckF : Nat → Nat
  | 0 => 109
  | 1 => 110
  | 2 => 111
  | 3 => 112
  | 4 => 113
  | 5 => 114
  | 6 => 115
  | 7 => 116
  | 8 => 117
  | _ => 0
theorem ck_code {w : World} {cb : Nat} (h : RowL w cb 162 ckL) {i : Nat} (hi : i < 9) : w.cell? ⟨cb, i * 2, none⟩ = some (.int .i64 ((i : Int) + 1)) := by
  match i, hi with
  | 0, _ => exact h.cell 0 rfl
  | 1, _ => exact h.cell 2 rfl
  | 2, _ => exact h.cell 4 rfl
  | 3, _ => exact h.cell 6 rfl
  | 4, _ => exact h.cell 8 rfl
  | 5, _ => exact h.cell 10 rfl
  | 6, _ => exact h.cell 12 rfl
  | 7, _ => exact h.cell 14 rfl
  | 8, _ => exact h.cell 16 rfl
theorem ck_func {w : World} {cb : Nat} (h : RowL w cb 162 ckL) {i : Nat} (hi : i < 9) : w.cell? ⟨cb, i * 2 + 1, none⟩ = some (.func (.func (ckF i)) #[] #[]) := by
  match i, hi with
  | 0, _ => exact h.cell 1 rfl
  | 1, _ => exact h.cell 3 rfl
  | 2, _ => exact h.cell 5 rfl
  | 3, _ => exact h.cell 7 rfl
  | 4, _ => exact h.cell 9 rfl
  | 5, _ => exact h.cell 11 rfl
  | 6, _ => exact h.cell 13 rfl
  | 7, _ => exact h.cell 15 rfl
  | 8, _ => exact h.cell 17 rfl
theorem ck_call {i : Nat} (hi : i < 9) (args : Array Value) (w : World) : (callFunc (ckF i) args).run Tryz.prog w = .ok (.enter (ckF i) args) w := by
  match i, hi with
  | 0, _ => show (callFunc 109 args).run Tryz.prog w = .ok (.enter 109 args) w; kernel_rfl
  | 1, _ => show (callFunc 110 args).run Tryz.prog w = .ok (.enter 110 args) w; kernel_rfl
  | 2, _ => show (callFunc 111 args).run Tryz.prog w = .ok (.enter 111 args) w; kernel_rfl
  | 3, _ => show (callFunc 112 args).run Tryz.prog w = .ok (.enter 112 args) w; kernel_rfl
  | 4, _ => show (callFunc 113 args).run Tryz.prog w = .ok (.enter 113 args) w; kernel_rfl
  | 5, _ => show (callFunc 114 args).run Tryz.prog w = .ok (.enter 114 args) w; kernel_rfl
  | 6, _ => show (callFunc 115 args).run Tryz.prog w = .ok (.enter 115 args) w; kernel_rfl
  | 7, _ => show (callFunc 116 args).run Tryz.prog w = .ok (.enter 116 args) w; kernel_rfl
  | 8, _ => show (callFunc 117 args).run Tryz.prog w = .ok (.enter 117 args) w; kernel_rfl
theorem chk_any {w : World} {pb po B uo q : Nat} {z : Int} {n : Nat} {a b c s : Int} {p : PD} {a3 a4 a5 : Value} (C : Ctx w pb po B uo q z n a b c s p a3 a4 a5) (i : Nat) (hi : i < 9) (h1 : 1 ≤ i → n ≤ 33) (h7 : 7 ≤ i → JumpOk p q z) :
    ∃ P : Prop, (chainOf p q z).drop i = ((i : Int) + 1, P) :: (chainOf p q z).drop (i + 1) ∧ (i = 0 → P → n ≤ 33) ∧ (i = 6 → P → JumpOk p q z) ∧
      Calls Tryz.prog (ckF i) #[plN pb po B uo (q : Int) n a b c s] w fun e w' => Says e P ∧ Below w.heap.size w w' := by
  match i, hi, h1, h7 with
  | 0, _, h1, h7 => exact ⟨_, rfl, fun _ h => by have := C.hp.n; omega, fun h => absurd h (by decide), chk1 C⟩
  | 1, _, h1, h7 => exact ⟨_, rfl, fun h => absurd h (by decide), fun h => absurd h (by decide), chk2 C (h1 (by decide))⟩
  | 2, _, h1, h7 => exact ⟨_, rfl, fun h => absurd h (by decide), fun h => absurd h (by decide), chk3 C (h1 (by decide))⟩
  | 3, _, h1, h7 => exact ⟨_, rfl, fun h => absurd h (by decide), fun h => absurd h (by decide), chk4 C (h1 (by decide))⟩
  | 4, _, h1, h7 => exact ⟨_, rfl, fun h => absurd h (by decide), fun h => absurd h (by decide), chk5 C (h1 (by decide))⟩
  | 5, _, h1, h7 => exact ⟨_, rfl, fun h => absurd h (by decide), fun h => absurd h (by decide), chk6 C (h1 (by decide))⟩
  | 6, _, h1, h7 => exact ⟨_, rfl, fun h => absurd h (by decide), fun _ h => h, chk7 C (h1 (by decide))⟩
  | 7, _, h1, h7 => exact ⟨_, rfl, fun h => absurd h (by decide), fun h => absurd h (by decide), chk8 C (h1 (by decide))⟩
  | 8, _, h1, h7 => exact ⟨_, rfl, fun h => absurd h (by decide), fun h => absurd h (by decide), chk9 C (h7 (by decide))⟩
end
section
open Go.RowKit Go.Shelf
set_option linter.unusedVariables false
set_option linter.unusedSimpArgs false
set_option maxRecDepth 100000
set_option maxHeartbeats 2000000
set_option maxHeartbeats 16000000 in
theorem first_in (w : World) (VB : Nat) (s : Sl PD) (b o cap be oe ce : Nat) (hV : Ver w VB s b o cap be oe ce) (hw : Wf s) (hU : UsO w VB 2) (hS : Spans w) (hC : CodeB s) (cb : Nat) (hK : w.cell? ⟨VB, 642, none⟩ = some (.slice (some ⟨cb, 0, none⟩) 9 9)) (hCk : RowL w cb 162 ckL) (k : Nat) (hk : k < s.n) :
    Calls Tryz.prog 43 #[.pointer (some ⟨VB, 0, none⟩), .int .i64 (k : Int)] w fun e w' => SaysR e (Rep1 (EE (kidsOf s) s.n) s k) ∧ Below w.heap.size w w' := by
  obtain ⟨ac, cc, o4, c4, o5, c5, o8, c8, o9, c9, hp⟩ := hV.pr k hk
  have v0 := hV.c0
  have hl := hV.lt
  have hlcb := hCk.lt
  have hkI : (k : Int) < (s.n : Int) := by omega
  have hpo := hw.each k hk
  have hk0 := (kids_of hw hk).1
  have hk1 := kids_le hw hk
  obtain ⟨-, hco, hn2, hn0⟩ := SmallP.of hpo
  have hr0 := hpo.regs1
  have hcb : Hid (∀ i, i < (s.f k).code.n → 0 ≤ (s.f k).code.f i ∧ (s.f k).code.f i ≤ 4294967295) := hC k hk
  have hn := hw.high
  obtain ⟨p, hpd⟩ : ∃ p, s.f k = p := ⟨_, rfl⟩
  rw [hpd] at hp hn2 hn0 hcb hco hr0 hk0 hk1
  replace hpd : Hid (s.f k = p) := hpd
  have hpp : Hid (PtrP w b (o + k * 10) p (.slice ac p.code.n cc) (.slice o4 p.consts.n c4) (.slice o5 p.ups.n c5)) := hp.ptr
  have p3 := hp.f3
  have hlb := hp.lt
  replace hV : Hid (Ver w VB s b o cap be oe ce) := hV
  replace hw : Hid (Wf s) := hw
  replace hU : Hid (UsO w VB 2) := hU
  replace hS : Hid (Spans w) := hS
  replace hK : Hid (w.cell? ⟨VB, 642, none⟩ = some (.slice (some ⟨cb, 0, none⟩) 9 9)) := hK
  replace hCk : Hid (RowL w cb 162 ckL) := hCk
  clear hC hp hpo
  go_enter Tryz.func43, Tryz.ntmps43
  go_wp2_with fail
  have R0 := RowL.new w [.int .i64 0, .int .i64 0, .int .i64 0] 41
  have bw : Below w.heap.size w (w.alloc (.cells #[.int .i64 0, .int .i64 0, .int .i64 0] 41)) := (Below.refl _ _).alloc (Nat.le_refl _) _
  generalize w.alloc (.cells #[.int .i64 0, .int .i64 0, .int .i64 0] 41) = w0 at R0 bw ⊢
  have s0 : Hid (RowL w0 w.heap.size 41 [.int .i64 0, .int .i64 0, .int .i64 0] ∧ Below w.heap.size w w0 ∧ ∀ j, j < 0 → Flt p j 0) := ⟨R0, bw, fun i h => absurd h (by omega)⟩
  clear R0 bw v0 p3
  go_loopw [6, 7, 9, 21] (fun _ _ _ kv wr => ∃ q : Nat, kv = .int .i64 (q : Int) ∧ q ≤ p.code.n ∧ Hid (RowL wr w.heap.size 41 [.int .i64 0, .int .i64 0, .int .i64 0] ∧ Below w.heap.size w wr ∧ ∀ j, j < q → Flt p j 0)) (fun _ _ _ kv _ => p.code.n - (intOf kv).toNat)
  case atStart => exact ⟨0, rfl, by omega, s0.out⟩
  case round =>
    obtain ⟨q, rfl, hq, hT9⟩ := hrel
    obtain ⟨wA, hwA⟩ : ∃ x, x = wr := ⟨_, rfl⟩
    subst hwA
    clear s0
    obtain ⟨hR, hB, hG⟩ := hT9.out
    by_cases hlt : q < p.code.n
    · have hqI : (q : Int) < (p.code.n : Int) := by omega
      obtain ⟨z, hz⟩ : ∃ z, p.code.f q = z := ⟨_, rfl⟩
      have hcz := hcb.out q hlt
      rw [hz] at hcz
      have hpl := placeAt_in wA b (o + k * 10) VB 2 p _ _ _ q z (hpp.out.later hB) (hS.out.below hB) hlt hn2 hz hcz.1 hcz.2
      have C : Ctx wA b (o + k * 10) VB 2 q z (opW z).toNat (aW z) (bW z) (cW z) (sW z) p _ _ _ := ⟨hpp.out.later hB, hU.out.later hl hB, Nat.lt_of_lt_of_le hl hB.size, hS.out.below hB, prt_self hcz.1, hz, hlt, hn2, hcb.out, by have h : opW z < 64 := (by unfold opW; omega); omega, by unfold aW; omega, by unfold aW; omega, by unfold bW; omega, by unfold bW; omega, by unfold cW; omega, by unfold cW; omega, by unfold sW bW cW; omega, by unfold sW bW cW; omega, hco, hk0, hk1, by omega⟩
      have hopn : opW z = ((opW z).toNat : Int) := (prt_self hcz.1).n
      replace hopn : Hid (opW z = ((opW z).toNat : Int)) := hopn
      have hps : Hid (∀ c, Chain ((chainOf p q z).drop 0) c → Flt p q c) := fun c h => by unfold Flt; rw [hz]; exact h
      replace hz : Hid (p.code.f q = z) := hz
      have hlV := Nat.lt_of_lt_of_le hl hB.size
      have hKA := (hB.cell (p := ⟨VB, 642, none⟩) hl).trans hK.out
      have CB := hCk.out.below hB hlcb
      have hlA := hR.lt
      replace C : Hid (Ctx wA b (o + k * 10) VB 2 q z (opW z).toNat (aW z) (bW z) (cW z) (sW z) p _ _ _) := C
      go_wp2_with fail
      refine hpl.mono ?_
      rintro e y1 ⟨rfl, b1⟩
      replace hKA := (b1.cell (p := ⟨VB, 642, none⟩) hlV).trans hKA
      replace hlV := Nat.lt_of_lt_of_le hlV b1.size
      replace CB := CB.call b1
      replace hR := hR.call b1
      replace C : Hid (Ctx y1 b (o + k * 10) VB 2 q z (opW z).toNat (aW z) (bW z) (cW z) (sW z) p _ _ _) := C.out.later b1
      replace hB := hB.trans (b1.mono hB.size)
      clear b1 hpl hT9
      replace CB : Hid (RowL y1 cb 162 ckL) := CB
      replace hR : Hid (RowL y1 w.heap.size 41 [.int .i64 0, .int .i64 0, .int .i64 0]) := hR
      go_wp2_with fail
      have PB := RowL.new y1 [.pointer (some ⟨b, o + k * 10, none⟩), .pointer (some ⟨VB, 2 + (opW z).toNat * 10, none⟩), .int .i64 (q : Int), .int .i64 (opW z), .int .i64 (aW z), .int .i64 (bW z), .int .i64 (cW z), .int .i64 (sW z)] 150
      have b2 : Below y1.heap.size y1 (y1.alloc (.cells #[.pointer (some ⟨b, o + k * 10, none⟩), .pointer (some ⟨VB, 2 + (opW z).toNat * 10, none⟩), .int .i64 (q : Int), .int .i64 (opW z), .int .i64 (aW z), .int .i64 (bW z), .int .i64 (cW z), .int .i64 (sW z)] 150)) := (Below.refl _ _).alloc (Nat.le_refl _) _
      generalize y1.alloc (.cells #[.pointer (some ⟨b, o + k * 10, none⟩), .pointer (some ⟨VB, 2 + (opW z).toNat * 10, none⟩), .int .i64 (q : Int), .int .i64 (opW z), .int .i64 (aW z), .int .i64 (bW z), .int .i64 (cW z), .int .i64 (sW z)] 150) = v0 at PB b2 ⊢
      generalize y1.heap.size = PK at PB ⊢
      replace CB := CB.out.call b2
      replace hR := hR.out.call b2
      replace C := C.out.later b2
      replace hB := hB.trans (b2.mono hB.size)
      clear b2 hKA hlV hlA
      replace hG : Hid (∀ j, j < q → Flt p j 0) := hG
      have s1 : Hid (RowL v0 cb 162 ckL ∧ RowL v0 PK 150 [.pointer (some ⟨b, o + k * 10, none⟩), .pointer (some ⟨VB, 2 + (opW z).toNat * 10, none⟩), .int .i64 (q : Int), .int .i64 (opW z), .int .i64 (aW z), .int .i64 (bW z), .int .i64 (cW z), .int .i64 (sW z)] ∧ RowL v0 w.heap.size 41 [.int .i64 0, .int .i64 0, .int .i64 0] ∧ Below w.heap.size w v0 ∧ Ctx v0 b (o + k * 10) VB 2 q z (opW z).toNat (aW z) (bW z) (cW z) (sW z) p (.slice ac p.code.n cc) (.slice o4 p.consts.n c4) (.slice o5 p.ups.n c5) ∧ (∀ c, Chain ((chainOf p q z).drop 0) c → Flt p q c) ∧ (1 ≤ 0 → (opW z).toNat ≤ 33) ∧ (7 ≤ 0 → JumpOk p q z)) := ⟨CB, PB, hR, hB, C, hps.out, fun h => absurd h (by decide), fun h => absurd h (by decide)⟩
      clear CB PB hR hB C hps
      go_loopw [9, 35] (fun _ iv wq => ∃ i : Nat, iv = .int .i64 (i : Int) ∧ i ≤ 9 ∧ Hid (RowL wq cb 162 ckL ∧ RowL wq PK 150 [.pointer (some ⟨b, o + k * 10, none⟩), .pointer (some ⟨VB, 2 + (opW z).toNat * 10, none⟩), .int .i64 (q : Int), .int .i64 (opW z), .int .i64 (aW z), .int .i64 (bW z), .int .i64 (cW z), .int .i64 (sW z)] ∧ RowL wq w.heap.size 41 [.int .i64 0, .int .i64 0, .int .i64 0] ∧ Below w.heap.size w wq ∧ Ctx wq b (o + k * 10) VB 2 q z (opW z).toNat (aW z) (bW z) (cW z) (sW z) p (.slice ac p.code.n cc) (.slice o4 p.consts.n c4) (.slice o5 p.ups.n c5) ∧ (∀ c, Chain ((chainOf p q z).drop i) c → Flt p q c) ∧ (1 ≤ i → (opW z).toNat ≤ 33) ∧ (7 ≤ i → JumpOk p q z))) (fun _ iv _ => 9 - (intOf iv).toNat)
      case atStart => exact ⟨0, rfl, by omega, s1.out⟩
      case round =>
        obtain ⟨i, rfl, hi, hT8⟩ := hrel
        obtain ⟨vA, hvA⟩ : ∃ x, x = wr := ⟨_, rfl⟩
        subst hvA
        clear s1
        obtain ⟨CB, PB, hR, hB, C, hps, h1, h7⟩ := hT8.out
        clear hT8
        by_cases hi9 : i < 9
        · have hiI : (i : Int) < 9 := by omega
          have d0 := ck_code CB hi9
          have d1 := ck_func CB hi9
          have r0 := PB.cell 0 rfl
          have r1 := PB.cell 1 rfl
          have r2 := PB.cell 2 rfl
          have r3 := PB.cell 3 rfl
          have r4 := PB.cell 4 rfl
          have r5 := PB.cell 5 rfl
          have r6 := PB.cell 6 rfl
          have r7 := PB.cell 7 rfl
          have hlc := CB.lt
          have hlp := PB.lt
          have ba : Below vA.heap.size vA (vA.alloc (.cells #[.int .i64 ((i : Int) + 1), .func (.func (ckF i)) #[] #[]] 162)) := (Below.refl _ _).alloc (Nat.le_refl _) _
          have KB := RowL.new vA [.int .i64 ((i : Int) + 1), .func (.func (ckF i)) #[] #[]] 162
          replace C := C.later ba
          obtain ⟨P, hdr, hP0, hP6, hck⟩ := chk_any C i hi9 h1 h7
          rw [← plV_eq C.hp] at hck
          replace CB := CB.call ba
          replace PB := PB.call ba
          replace hR := hR.call ba
          replace hB := hB.trans (ba.mono hB.size)
          clear ba
          replace CB : Hid _ := CB
          replace PB : Hid _ := PB
          replace hR : Hid _ := hR
          replace C : Hid _ := C
          replace hB : Hid _ := hB
          replace hps : Hid _ := hps
          replace h1 : Hid _ := h1
          replace h7 : Hid _ := h7
          replace hdr : Hid _ := hdr
          replace hP0 : Hid _ := hP0
          replace hP6 : Hid _ := hP6
          replace hck : Hid _ := hck
          replace KB : Hid _ := KB
          go_wp2_with fail
          rw [ck_call hi9]
          go_wp2_with fail
          clear d0 d1 r0 r1 r2 r3 r4 r5 r6 r7 hlc hlp
          refine Calls.mono hck.out ?_
          clear hck
          rintro e v1 ⟨⟨r, rfl, hr⟩, b9⟩
          replace KB := RowL.call KB.out b9
          replace C := Ctx.later C.out b9
          replace CB := RowL.call CB.out b9
          replace PB := RowL.call PB.out b9
          replace hR := RowL.call hR.out b9
          replace hB := hB.out.trans (b9.mono hB.out.size)
          clear b9
          generalize vA.heap.size = KK at KB ⊢
          obtain rfl | rfl : r = false ∨ r = true := by cases r <;> simp
          · have hno : Hid (Rep1 (EE (kidsOf s) s.n) s k ((i : Int) + 1) k q) := ⟨q, (i : Int) + 1, .inl ⟨by rw [hpd.out]; exact hlt, by omega, by rw [hpd.out]; exact hps.out _ (by rw [hdr.out]; exact .inl ⟨fun h => by simpa using hr.2 h, rfl⟩), fun j hj => by rw [hpd.out]; exact hG.out j hj⟩, .inl ⟨by omega, rfl, rfl, rfl⟩⟩
            have g0 := KB.cell 0 rfl
            have hlk := KB.lt
            have e0 := hR.cell 0 rfl
            have e1 := hR.cell 1 rfl
            have e2 := hR.cell 2 rfl
            have ef := hR.frozen
            have hq2 := hR.lt
            have L := (((hR.set 0 (.int .i64 ((i : Int) + 1))).set 1 (.int .i64 (k : Int))).set 2 (.int .i64 (q : Int)))
            have bf := (Below.setCell (Below.setCell (Below.setCell hB (p := ⟨w.heap.size, 0, none⟩) (Nat.le_refl _) (.int .i64 ((i : Int) + 1))) (p := ⟨w.heap.size, 1, none⟩) (Nat.le_refl _) (.int .i64 (k : Int))) (p := ⟨w.heap.size, 2, none⟩) (Nat.le_refl _) (.int .i64 (q : Int)))
            have l0 := L.cell 0 rfl
            have l1 := L.cell 1 rfl
            have l2 := L.cell 2 rfl
            replace L : Hid _ := L
            replace hR : Hid _ := hR
            replace KB : Hid _ := KB
            replace C : Hid _ := C
            clear hr hG hps CB PB h1 h7 hdr hP0 hP6 C
            go_wp2_with fail
            refine bodyPost_ret (v := .agg #[.int .i64 ((i : Int) + 1), .int .i64 (k : Int), .int .i64 (q : Int)]) ?_ rfl ⟨⟨_, _, _, rfl, hno.out⟩, bf⟩
            simp [results, Tryz.results43, go_sem, l0, l1, l2]
          · have T1 : Hid (RowL v1 cb 162 ckL ∧ RowL v1 PK 150 [.pointer (some ⟨b, o + k * 10, none⟩), .pointer (some ⟨VB, 2 + (opW z).toNat * 10, none⟩), .int .i64 (q : Int), .int .i64 (opW z), .int .i64 (aW z), .int .i64 (bW z), .int .i64 (cW z), .int .i64 (sW z)] ∧ RowL v1 w.heap.size 41 [.int .i64 0, .int .i64 0, .int .i64 0] ∧ Below w.heap.size w v1 ∧ Ctx v1 b (o + k * 10) VB 2 q z (opW z).toNat (aW z) (bW z) (cW z) (sW z) p (.slice ac p.code.n cc) (.slice o4 p.consts.n c4) (.slice o5 p.ups.n c5) ∧ (∀ c, Chain ((chainOf p q z).drop (i + 1)) c → Flt p q c) ∧ (1 ≤ (i + 1) → (opW z).toNat ≤ 33) ∧ (7 ≤ (i + 1) → JumpOk p q z)) := ⟨CB, PB, hR, hB, C, fun c h => hps.out c (by rw [hdr.out]; exact .inr ⟨hr.1 rfl, h⟩), fun _ => (Nat.eq_zero_or_pos i).elim (fun h => hP0.out h (hr.1 rfl)) (fun h => h1.out h), fun _ => if h : i = 6 then hP6.out h (hr.1 rfl) else h7.out (by omega)⟩
            clear hr KB CB PB hR hB C hps h1 h7 hdr hP0 hP6
            go_wp2_with fail
            go_roundw
            case rel => exact ⟨i + 1, by go_num, by omega, T1.out⟩
            case measure => simp [intOf]; omega
        · obtain rfl : i = 9 := by omega
          have T1 : Hid (RowL vA w.heap.size 41 [.int .i64 0, .int .i64 0, .int .i64 0] ∧ Below w.heap.size w vA ∧ ∀ j, j < q + 1 → Flt p j 0) := ⟨hR, hB, fun i hi => by by_cases e : i = q; (subst e; exact hps 0 rfl); exact hG.out i (by omega)⟩
          clear hG hR hB C CB PB hps h1 h7
          go_wp2_with fail
          go_roundw
          case rel => exact ⟨q + 1, by go_num, by omega, T1.out⟩
          case measure => simp [intOf]; omega
    · have hqI : ¬ ((q : Int) < (p.code.n : Int)) := by omega
      have hup : Hid (Calls Tryz.prog 118 #[.pointer (some ⟨VB, 0, none⟩), .int .i64 (k : Int)] wA fun e w' => Says e (Desc (EE (kidsOf s) s.n) s k) ∧ Below wA.heap.size wA w') := upsThere_in wA VB s b o cap be oe ce (hV.out.later hB) hw.out k hk
      have hall : Hid (Fst (s.f k).code.n (Flt (s.f k)) p.code.n 0) := by rw [hpd.out]; exact .inr ⟨rfl, rfl, fun j hj => hG j (by omega)⟩
      clear hT9 hG
      replace hR : Hid (RowL wA w.heap.size 41 [.int .i64 0, .int .i64 0, .int .i64 0]) := hR
      go_wp2_with fail
      refine hup.out.mono ?_
      rintro e y ⟨⟨r, rfl, hr⟩, b9⟩
      replace hR := hR.out.call b9
      have p3 := ((hpp.out.later hB).later b9).c3
      have hlp := ((hpp.out.later hB).later b9).lt
      replace hB := hB.trans (b9.mono hB.size)
      have e0 := hR.cell 0 rfl
      have e1 := hR.cell 1 rfl
      have e2 := hR.cell 2 rfl
      have ef := hR.frozen
      have hq2 := hR.lt
      clear b9 hup
      cases r with
      | false =>
        have hno : Hid (Rep1 (EE (kidsOf s) s.n) s k 11 k p.code.n) := ⟨p.code.n, 0, hall.out, .inr (.inl ⟨rfl, fun h => by simpa using hr.2 h, rfl, rfl, by rw [hpd.out]⟩)⟩
        have L := (((hR.set 0 (.int .i64 11)).set 1 (.int .i64 (k : Int))).set 2 (.int .i64 (p.code.n : Int)))
        have bf := (Below.setCell (Below.setCell (Below.setCell hB (p := ⟨w.heap.size, 0, none⟩) (Nat.le_refl _) (.int .i64 11)) (p := ⟨w.heap.size, 1, none⟩) (Nat.le_refl _) (.int .i64 (k : Int))) (p := ⟨w.heap.size, 2, none⟩) (Nat.le_refl _) (.int .i64 (p.code.n : Int)))
        have l0 := L.cell 0 rfl
        have l1 := L.cell 1 rfl
        have l2 := L.cell 2 rfl
        replace L : Hid _ := L
        replace hR : Hid _ := hR
        clear hr
        go_wp2_with fail
        refine bodyPost_ret (v := .agg #[.int .i64 11, .int .i64 (k : Int), .int .i64 (p.code.n : Int)]) ?_ rfl ⟨⟨_, _, _, rfl, hno.out⟩, bf⟩
        simp [results, Tryz.results43, go_sem, l0, l1, l2]
      | true =>
        have hyes : Hid (Rep1 (EE (kidsOf s) s.n) s k 0 0 0) := ⟨p.code.n, 0, hall.out, .inr (.inr ⟨rfl, hr.1 rfl, rfl, rfl, rfl⟩)⟩
        have L := (((hR.set 0 (.int .i64 0)).set 1 (.int .i64 0)).set 2 (.int .i64 0))
        have bf := (Below.setCell (Below.setCell (Below.setCell hB (p := ⟨w.heap.size, 0, none⟩) (Nat.le_refl _) (.int .i64 0)) (p := ⟨w.heap.size, 1, none⟩) (Nat.le_refl _) (.int .i64 0)) (p := ⟨w.heap.size, 2, none⟩) (Nat.le_refl _) (.int .i64 0))
        have l0 := L.cell 0 rfl
        have l1 := L.cell 1 rfl
        have l2 := L.cell 2 rfl
        replace L : Hid _ := L
        replace hR : Hid _ := hR
        clear hr p3
        go_wp2_with fail
        refine bodyPost_ret (v := .agg #[.int .i64 0, .int .i64 0, .int .i64 0]) ?_ rfl ⟨⟨_, _, _, rfl, hyes.out⟩, bf⟩
        simp [results, Tryz.results43, go_sem, l0, l1, l2]
end
end Go.Proofs.YtckapapejfnojaaGreatDoor
