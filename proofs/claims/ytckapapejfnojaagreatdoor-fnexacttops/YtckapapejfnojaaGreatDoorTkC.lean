import Derived.Test.YtckapapejfnojaaGreatDoorTkB
import Derived.Test.YtckapapejfnojaaGreatDoorTpB
import Derived.Test.YtckapapejfnojaaGreatDoorUsB
import Derived.Test.YtckapapejfnojaaGreatDoorStN
import Derived.Test.YtckapapejfnojaaGreatDoorChQ
namespace Go.Proofs.YtckapapejfnojaaGreatDoor
open Go.RowKit
set_option linter.unusedVariables false
set_option linter.unusedSimpArgs false
/-- prototype k of a list, cell by cell. -/
structure PrAt (w : World) (b o : Nat) (p : PD) (ac : Option Addr) (cc : Nat) (o4 : Option Addr) (c4 : Nat) (o5 : Option Addr) (c5 : Nat) (o8 : Option Addr) (c8 : Nat) (o9 : Option Addr) (c9 : Nat) : Prop where
  lt : b < w.heap.size
  f0 : w.cell? ⟨b, o, none⟩ = some (.int .i64 p.params)
  f1 : w.cell? ⟨b, o + 1, none⟩ = some (.bool p.vararg)
  f2 : w.cell? ⟨b, o + 2, none⟩ = some (.int .i64 p.regs)
  f3 : w.cell? ⟨b, o + 3, none⟩ = some (.slice ac p.code.n cc)
  f4 : w.cell? ⟨b, o + 4, none⟩ = some (.slice o4 p.consts.n c4)
  f5 : w.cell? ⟨b, o + 5, none⟩ = some (.slice o5 p.ups.n c5)
  f6 : w.cell? ⟨b, o + 6, none⟩ = some (.int .i64 p.kids)
  f7 : w.cell? ⟨b, o + 7, none⟩ = some (.string p.name)
  f8 : w.cell? ⟨b, o + 8, none⟩ = some (.slice o8 p.lines.n c8)
  f9 : w.cell? ⟨b, o + 9, none⟩ = some (.slice o9 p.upNames.n c9)
  code : IsInts .u32 (· < w.heap.size) w (.slice ac p.code.n cc) p.code
  ups : IsUps (· < w.heap.size) w (.slice o5 p.ups.n c5) p.ups
theorem PrAt.ptr {w : World} {b o : Nat} {p : PD} {ac o4 o5 o8 o9 : Option Addr} {cc c4 c5 c8 c9 : Nat} (h : PrAt w b o p ac cc o4 c4 o5 c5 o8 c8 o9 c9) : PtrP w b o p (.slice ac p.code.n cc) (.slice o4 p.consts.n c4) (.slice o5 p.ups.n c5) :=
  ⟨h.lt, h.f1, h.f2, h.f3, h.f4, h.f5, h.f6, h.code, ⟨_, _, rfl⟩, h.ups⟩
theorem IsArr.sl {av : Nat → Prop} {w : World} {v : Value} {z n : Nat} {C : Nat → Nat → Value} (h : IsArr av w v z n C) : ∃ ao cap, v = .slice ao n cap := by
  obtain ⟨ao, cap, rfl, _⟩ := h
  exact ⟨ao, cap, rfl⟩
theorem IsProtos.proto {w : World} {ao : Option Addr} {cap : Nat} {s : Sl PD} (h : IsProtos (· < w.heap.size) w (.slice ao s.n cap) s) (hp : 0 < s.n) : ∃ b o, ao = some ⟨b, o, none⟩ ∧ b < w.heap.size ∧ ∀ k, k < s.n → ∃ ac cc o4 c4 o5 c5 o8 c8 o9 c9, PrAt w b (o + k * 10) (s.f k) ac cc o4 c4 o5 c5 o8 c8 o9 c9 := by
  obtain ⟨a3, a4, a5, a8, a9, ⟨ao', cap', he, hn, hc⟩, ht⟩ := h
  simp only [Value.slice.injEq] at he
  obtain ⟨rfl, -, rfl⟩ := he
  obtain ⟨b, o, rfl, hb, hcc⟩ := hc hp
  refine ⟨b, o, rfl, hb, fun k hk => ?_⟩
  have hk' := ht k hk
  obtain ⟨ac, cc, e3⟩ := IsArr.sl hk'.code
  obtain ⟨o4, c4, e4⟩ := IsArr.sl hk'.consts.1
  obtain ⟨o5, c5, e5⟩ := IsArr.sl hk'.ups
  obtain ⟨o8, c8, e8⟩ := IsArr.sl hk'.lines
  obtain ⟨o9, c9, e9⟩ := IsArr.sl hk'.upNames.1
  have q3 := hcc k hk 3 (by omega)
  have q4 := hcc k hk 4 (by omega)
  have q5 := hcc k hk 5 (by omega)
  have q8 := hcc k hk 8 (by omega)
  have q9 := hcc k hk 9 (by omega)
  have i3 := hk'.code
  have i5 := hk'.ups
  simp only [pC] at q3 q4 q5 q8 q9
  rw [e3] at q3 i3
  rw [e4] at q4
  rw [e5] at q5 i5
  rw [e8] at q8
  rw [e9] at q9
  exact ⟨ac, cc, o4, c4, o5, c5, o8, c8, o9, c9, hb, hcc k hk 0 (by omega), hcc k hk 1 (by omega), hcc k hk 2 (by omega), q3, q4, q5, hcc k hk 6 (by omega), hcc k hk 7 (by omega), q8, q9, i3, i5⟩
theorem own_of_row {w : World} {B n : Nat} {t : TypeId} {f : Nat → Int} (h : w.rowIs B t n (fun i => .int .i64 (f i))) (hn : n ≤ 9223372036854775807) : OwnArr w (.slice (some ⟨B, 0, none⟩) n n) 1 n (iC .i64 f) B := by
  refine ⟨_, _, rfl, hn, fun _ => ⟨rfl, t, n, _, h, by omega, fun i hi j hj => ?_⟩⟩
  obtain rfl : j = 0 := by omega
  simp [iC]
/-- the words are words. -/
def CodeB (s : Sl PD) : Prop := ∀ i, i < s.n → ∀ j, j < (s.f i).code.n → 0 ≤ (s.f i).code.f j ∧ (s.f i).code.f j ≤ 4294967295
/-- what Tops answers. -/
def TopsD (s : Sl PD) (i : Int) (n : Nat) (f : Nat → Int) : Prop := (Wf s ∧ ∃ k : Nat, k < s.n ∧ i = (k : Int) ∧ n = (s.f k).code.n ∧ ∀ t, t < n → TopAt (s.f k).code t (f t)) ∨ (n = 0 ∧ ¬ (Wf s ∧ 0 ≤ i ∧ i < (s.n : Int)))
theorem TopsD.det {s : Sl PD} {i : Int} {n n' : Nat} {f f' : Nat → Int} (h : TopsD s i n f) (h' : TopsD s i n' f') : n = n' ∧ ∀ t, t < n → f t = f' t := by
  rcases h with ⟨w, k, hk, rfl, rfl, hf⟩ | ⟨rfl, hn⟩ <;> rcases h' with ⟨w', k', hk', he, rfl, hf'⟩ | ⟨rfl, hn'⟩
  · obtain rfl : k = k' := by omega
    exact ⟨rfl, fun t ht => (hf t ht).det (hf' t ht)⟩
  · exact absurd ⟨w, by omega, by omega⟩ hn'
  · exact absurd ⟨w', by omega, by omega⟩ hn
  · exact ⟨rfl, fun t ht => absurd ht (by omega)⟩
set_option maxRecDepth 100000 in
set_option maxHeartbeats 2000000 in
theorem specTops_in (s : Sl PD) (v : Value) (i : Int) (w : World) (hv : IsProtos (· < w.heap.size) w v s) (hb : CodeB s) :
    Calls Tryz.prog 12 #[.agg #[v], .int .i64 i] w fun e w' => (∃ u n f, e = .returned u ∧ IsInts .i64 (fun b => w.heap.size ≤ b ∧ b < w'.heap.size) w' u ⟨n, f⟩ ∧ TopsD s i n f) ∧ Below w.heap.size w w' := by
  have hv' : Hid (IsProtos (· < w.heap.size) w v s) := hv
  obtain ⟨-, -, -, -, -, ⟨ao, cap, rfl, hn, -⟩, -⟩ := hv
  replace hb : Hid (CodeB s) := hb
  go_enter Tryz.func12, Tryz.ntmps12
  go_wp2_with fail
  have R0 := RowL.new w [.slice ao s.n cap] 24
  have bw : Below w.heap.size w (w.alloc (.cells #[.slice ao s.n cap] 24)) := by go_grown
  generalize w.alloc (.cells #[.slice ao s.n cap] 24) = w0 at R0 bw ⊢
  refine (specWF_in s _ _ (hv'.out.later bw)).mono ?_
  rintro e y ⟨⟨r, rfl, hr⟩, b1⟩
  replace R0 := R0.call b1
  replace bw := bw.trans (b1.mono bw.size)
  clear b1
  have r0 := R0.cell 0 rfl
  have hbu := built_ints bw [] (by simp)
  have hbel : Hid (Below w.heap.size w y) := bw
  have hem : Hid (Below w.heap.size w (y.alloc (.cells #[] 3)) ∧ IsInts .i64 (fun b => w.heap.size ≤ b ∧ b < (y.alloc (.cells #[] 3)).heap.size) (y.alloc (.cells #[] 3)) (.slice (some ⟨y.heap.size, 0, none⟩) 0 0) ⟨0, (slI []).f⟩) := hbu
  clear hbu
  obtain rfl | rfl : r = false ∨ r = true := by cases r <;> simp
  · have hno : Hid (TopsD s i 0 (slI []).f) := .inr ⟨rfl, fun h => by simpa using hr.2 h.1⟩
    clear hr hv' bw
    go_wp2_with fail
    go_ret
    exact ⟨⟨_, 0, (slI []).f, rfl, hem.out.2, hno.out⟩, hem.out.1⟩
  have hwf : Hid (Wf s) := hr.1 rfl
  clear hr
  by_cases h0 : i < 0
  · have hno : Hid (TopsD s i 0 (slI []).f) := .inr ⟨rfl, fun h => by omega⟩
    clear hv' bw
    go_wp2_with fail
    go_ret
    exact ⟨⟨_, 0, (slI []).f, rfl, hem.out.2, hno.out⟩, hem.out.1⟩
  by_cases h1 : (s.n : Int) ≤ i
  · have hno : Hid (TopsD s i 0 (slI []).f) := .inr ⟨rfl, fun h => by omega⟩
    clear hv' bw
    go_wp2_with fail
    go_ret
    exact ⟨⟨_, 0, (slI []).f, rfl, hem.out.2, hno.out⟩, hem.out.1⟩
  obtain ⟨k, rfl⟩ : ∃ k : Nat, i = (k : Int) := ⟨i.toNat, by omega⟩
  have hkn : k < s.n := by omega
  obtain ⟨b, o, rfl, hbb, hpr⟩ := (hv'.out.later bw).proto (by omega)
  obtain ⟨ac, cc, o4, c4, o5, c5, o8, c8, o9, c9, hp⟩ := hpr k hkn
  have q0 := hp.f0
  have q1 := hp.f1
  have q2 := hp.f2
  have q3 := hp.f3
  have q4 := hp.f4
  have q5 := hp.f5
  have q6 := hp.f6
  have q7 := hp.f7
  have q8 := hp.f8
  have q9 := hp.f9
  have hok := hwf.out.each k hkn
  replace hok : Hid (ProtoOk (s.f k)) := hok
  have hcode : Hid (IsInts .u32 (· < y.heap.size) y (.slice ac (s.f k).code.n cc) (s.f k).code) := hp.code
  clear hv' hpr bw hem hp
  go_wp2_with fail
  refine (l4Tops_in (s.f k).code (hb.out k hkn) (by have := hok.out.code1; omega) (by have := hok.out.code2; omega) (s.f k).params (s.f k).regs (s.f k).kids (s.f k).vararg (s.f k).name o4 o5 o8 o9 (s.f k).consts.n c4 (s.f k).ups.n c5 (s.f k).lines.n c8 (s.f k).upNames.n c9 ac cc y hcode.out).mono ?_
  rintro e y2 ⟨u, f, rfl, b2, hI, hf⟩
  have hfin : Hid (Below w.heap.size w y2) := hbel.out.trans (b2.mono hbel.out.size)
  have hI2 : Hid (IsInts .i64 (fun b => w.heap.size ≤ b ∧ b < y2.heap.size) y2 u ⟨(s.f k).code.n, f⟩) := IsArr.mono hI fun b hb => ⟨Nat.le_trans hbel.out.size hb.1, hb.2⟩
  have hyes : Hid (TopsD s (k : Int) (s.f k).code.n f) := .inl ⟨hwf.out, k, hkn, rfl, rfl, hf⟩
  clear hI hf b2 hbel q0 q1 q2 q3 q4 q5 q6 q7 q8 q9 r0 R0
  go_wp2_with fail
  go_ret
  exact ⟨⟨_, _, f, rfl, hI2.out, hyes.out⟩, hfin.out⟩
set_option maxRecDepth 100000 in
set_option maxHeartbeats 2000000 in
theorem implTops_in (s : Sl PD) (v : Value) (i : Int) (w : World) (hv : IsProtos (· < w.heap.size) w v s) (hb : CodeB s) (hS : Spans w) :
    Calls Tryz.prog 14 #[.agg #[v], .int .i64 i] w fun e w' => (∃ u n f B, e = .returned u ∧ OwnArr w' u 1 n (iC .i64 f) B ∧ w.heap.size ≤ B ∧ n ≤ 2000 ∧ TopsD s i n f) ∧ Below w.heap.size w w' := by
  have hv' : Hid (IsProtos (· < w.heap.size) w v s) := hv
  obtain ⟨-, -, -, -, -, ⟨ao, cap, rfl, hn, -⟩, -⟩ := hv
  replace hb : Hid (CodeB s) := hb
  go_enter Tryz.func14, Tryz.ntmps14
  go_wp2_with fail
  have R0 := RowL.new w [.slice ao s.n cap] 24
  have bw : Below w.heap.size w (w.alloc (.cells #[.slice ao s.n cap] 24)) := by go_grown
  generalize w.alloc (.cells #[.slice ao s.n cap] 24) = w0 at R0 bw ⊢
  refine (implWF_in s _ _ (hv'.out.later bw)).mono ?_
  rintro e y ⟨⟨r, rfl, hr⟩, b1⟩
  replace R0 := R0.call b1
  replace bw := bw.trans (b1.mono bw.size)
  clear b1
  have r0 := R0.cell 0 rfl
  obtain rfl | rfl : r = false ∨ r = true := by cases r <;> simp
  · have hno : Hid (TopsD s i 0 (fun _ => 0)) := .inr ⟨rfl, fun h => by simpa using hr.2 h.1⟩
    clear hr hv'
    go_wp2_with fail
    go_ret
    exact ⟨⟨_, 0, fun _ => 0, w.heap.size, rfl, ⟨none, 0, rfl, Nat.zero_le _, fun h => absurd h (Nat.lt_irrefl 0)⟩, Nat.le_refl _, Nat.zero_le _, hno.out⟩, bw⟩
  have hwf : Hid (Wf s) := hr.1 rfl
  clear hr
  have hlow := hwf.out.low
  have hhigh := hwf.out.high
  go_wp2_with fail
  refine (within_in i 0 ((s.n : Int) - 1) _).mono ?_
  rintro e y1 ⟨⟨r, rfl, hr⟩, rfl⟩
  obtain rfl | rfl : r = false ∨ r = true := by cases r <;> simp
  · have hno : Hid (TopsD s i 0 (fun _ => 0)) := .inr ⟨rfl, fun h => by have := hr.2 ⟨h.2.1, by omega⟩; simp at this⟩
    clear hr hv'
    go_wp2_with fail
    go_ret
    exact ⟨⟨_, 0, fun _ => 0, w.heap.size, rfl, ⟨none, 0, rfl, Nat.zero_le _, fun h => absurd h (Nat.lt_irrefl 0)⟩, Nat.le_refl _, Nat.zero_le _, hno.out⟩, bw⟩
  have hi := hr.1 rfl
  clear hr
  obtain ⟨k, rfl⟩ : ∃ k : Nat, i = (k : Int) := ⟨i.toNat, by omega⟩
  have hkn : k < s.n := by omega
  have hkI : (k : Int) < (s.n : Int) := by omega
  clear hi
  go_wp2_with fail
  refine (allUsages_in y).mono ?_
  rintro e yU ⟨rfl, bU⟩
  replace R0 := R0.call bU
  replace bw := bw.trans (bU.mono bw.size)
  clear bU r0
  have b0 : Below yU.heap.size yU (yU.alloc (.cells Tryz.zeroCells80 80)) := (Below.refl _ _).alloc (Nat.le_refl _) _
  have bx : Below yU.heap.size yU ((yU.alloc (.cells Tryz.zeroCells80 80)).setRow yU.heap.size usTab) := ⟨b0.os, b0.tape, b0.output, by rw [setRow_size]; exact b0.size, fun k hk => (setRow_other _ _ _ _ (by omega)).trans (b0.block k hk)⟩
  have hUs : Hid (UsIn ((yU.alloc (.cells Tryz.zeroCells80 80)).setRow yU.heap.size usTab) yU.heap.size) := fun n j hn hj => (cell_setRow_same _ _ _ _ _ _ _ (heap_alloc_new _ _)).trans (usTab_get hn hj)
  have hlx : yU.heap.size < ((yU.alloc (.cells Tryz.zeroCells80 80)).setRow yU.heap.size usTab).heap.size := by rw [setRow_size, World.size_alloc]; omega
  replace R0 := R0.call bx
  replace bw := bw.trans (bx.mono bw.size)
  have hcl := R0.cell 0 rfl
  have hll := R0.lt
  obtain ⟨b, o, rfl, hbb, hpr⟩ := (hv'.out.later bw).proto (by omega)
  obtain ⟨ac, cc, o4, c4, o5, c5, o8, c8, o9, c9, hp⟩ := hpr k hkn
  have hPp := hp.ptr
  have hSx := hS.below bw
  have hok := hwf.out.each k hkn
  replace hPp : Hid (PtrP ((yU.alloc (.cells Tryz.zeroCells80 80)).setRow yU.heap.size usTab) b (o + k * 10) (s.f k) (.slice ac (s.f k).code.n cc) (.slice o4 (s.f k).consts.n c4) (.slice o5 (s.f k).ups.n c5)) := hPp
  replace hSx : Hid (Spans ((yU.alloc (.cells Tryz.zeroCells80 80)).setRow yU.heap.size usTab)) := hSx
  replace hok : Hid (ProtoOk (s.f k)) := hok
  clear hp hpr hv' b0 bx
  go_wp2_with (refine wpList_store_row rfl 80 _ _ rfl yU.heap.size usTab rfl rfl 80 Tryz.zeroCells80 (heap_alloc_new _ _) us_info us_zero us_one ?_)
  generalize ((yU.alloc (.cells Tryz.zeroCells80 80)).setRow yU.heap.size usTab) = yV at hPp hSx hUs hlx bw ⊢
  refine (topsOf_in yV b (o + k * 10) yU.heap.size (s.f k) _ _ _ hPp.out hSx.out hUs.out hlx (hb.out k hkn) hok.out.code2 (by have := hok.out.code1; omega)).mono ?_
  rintro e y2 ⟨rfl, b2, f, hrow, hf⟩
  have hfin : Hid (Below w.heap.size w y2) := bw.trans (b2.mono bw.size)
  have hO : Hid (OwnArr y2 (.slice (some ⟨yV.heap.size, 0, none⟩) (s.f k).code.n (s.f k).code.n) 1 (s.f k).code.n (iC .i64 f) yV.heap.size) := own_of_row hrow (by have := hok.out.code2; omega)
  have hyes : Hid (TopsD s (k : Int) (s.f k).code.n f) := .inl ⟨hwf.out, k, hkn, rfl, rfl, hf⟩
  have hB2 := bw.size
  clear hrow hf b2 bw
  go_wp2_with fail
  go_ret
  exact ⟨⟨_, _, f, yV.heap.size, rfl, hO.out, hB2, hok.out.code2, hyes.out⟩, hfin.out⟩
end Go.Proofs.YtckapapejfnojaaGreatDoor
