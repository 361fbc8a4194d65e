import Derived.Test.YtnhanccjnhgjoaaGreatDoorGa
import Derived.Test.YtnhanccjnhgjoaaGreatDoorDvG
import Derived.Test.YtnhanccjnhgjoaaGreatDoorDvE
import Derived.Test.YtnhanccjnhgjoaaGreatDoorGw
import Derived.Test.YtnhanccjnhgjoaaGreatDoorImG
import Derived.Test.YtnhanccjnhgjoaaGreatDoorDrL
import Derived.Test.YtnhanccjnhgjoaaGreatDoorDrPB
import Derived.Test.YtnhanccjnhgjoaaGreatDoorDrPC
import Derived.Test.YtnhanccjnhgjoaaGreatDoorDrPD
import Derived.Test.YtnhanccjnhgjoaaGreatDoorDrPE
namespace Go.Proofs.YtnhanccjnhgjoaaGreatDoor
open Go.RowKit Go.Shelf
set_option linter.unusedVariables false
set_option linter.unusedSimpArgs false
set_option maxRecDepth 100000
set_option maxHeartbeats 9000000
theorem spoil_in (c : Sl Int) (P : Nat) (PS : List PD) (hP : P ≤ 3000) (hl : PS.length ≤ 10) (h0 : 0 < PS.length) (hSm : ∀ x ∈ PS, Sm x) : SpoilA c P PS := by
 have hb := tk_bd c P 20;have h1 := hb.1;have h2 := hb.2 (by omega);by_cases h6 : tk c P 20 < 6
 ·exact spoilC c P PS hP hl h0 hSm _ rfl h1 h6
 by_cases h11 : tk c P 20 < 11
 ·exact spoilD c P PS hP hl h0 hSm _ rfl (by omega) h11
 by_cases h16 : tk c P 20 < 16
 ·exact spoilE c P PS hP hl h0 hSm _ rfl (by omega) h16
 ·exact spoilB c P PS hP hl h0 hSm _ rfl (by omega) (by omega)
theorem drawn (c : Sl Int) (w : World) (v : Value) (hC : IsCode w v c) : Calls Tryz.prog 4 #[v] w (TxtE 1500000000 w) := by
 obtain ⟨PS, P, hP, hl, h0, hSm, hD⟩ := drawChunk c;exact drawLoad c PS P (by omega) hl hSm hD (spoil_in c (P + 1) PS (by omega) hl h0 hSm) w v hC
theorem wPick_in (d : Sl Int) (hd : ∀ i, 0 ≤ d.f i ∧ d.f i ≤ 255) (i : Nat) (hi : i ≤ 255) : ∃ n : Int, (0 ≤ n ∧ n ≤ 255) ∧ ∀ w v, IsCode w v d → Calls Tryz.prog 9 #[v, .int .i64 (i : Int)] w fun e w' => e = .returned (.int .i64 n) ∧ w = w' := by
 by_cases h0 : d.n = 0
 ·refine ⟨i, by omega, fun w v hC => ?_⟩;obtain ⟨ao, cap, rfl⟩ := hC.form;rw [h0];go_enter Tryz.func9, Tryz.ntmps9;go_wp2_with fail;go_ret;exact ⟨rfl, rfl⟩
 ·refine ⟨d.f (i % d.n), hd _, fun w v hC => ?_⟩;obtain ⟨ao, cap, e, hn, hc⟩ := hC.ints;subst e;obtain ⟨b, o, rfl, hb, hcc⟩ := hc (by omega);have hm : i % d.n < d.n := Nat.mod_lt _ (by omega);have c0 := hcc (i % d.n) hm 0 (by omega);simp only [Nat.add_zero, Nat.mul_one, iC] at c0;have h1 : ((d.n : Int) == 0) = false := by simp; omega
  have h2 : ((i : Int).tmod (d.n : Int)) = ((i % d.n : Nat) : Int) := by rw [Int.tmod_eq_emod_of_nonneg (by omega)]; rfl
  have h3 := (hd (i % d.n));have hw : IntKind.i64.wrap (d.f (i % d.n)) = d.f (i % d.n) := by simp [IntKind.wrap, IntKind.bits, IntKind.signed]; omega
  have hsm := hC.small;clear hcc hc hC;generalize i % d.n = j at *;go_enter Tryz.func9, Tryz.ntmps9;go_wp2_with fail;go_ret;exact ⟨rfl, rfl⟩
theorem load_long (a0 am : Option Addr) (n0 c0 nm cm : Nat) (w : World) (h : 1048576 < n0 ∨ 1048576 < nm) (h1 : n0 ≤ 9223372036854775807) (h2 : nm ≤ 9223372036854775807) :
  Calls Tryz.prog 3 #[.slice a0 n0 c0, .slice am nm cm] w fun e w' => e = .returned (.bool true) ∧ Below w.heap.size w w' := by
 by_cases hA : 1048576 < n0
 ·have hI : (n0 : Int) > 1048576 := by omega
  clear h;go_enter Tryz.func3, Tryz.ntmps3;go_wp2_with fail;go_ret;exact ⟨rfl, by go_grown⟩
 ·have hI : ¬ (n0 : Int) > 1048576 := by omega
  have hJ : (nm : Int) > 1048576 := by omega
  clear h;go_enter Tryz.func3, Tryz.ntmps3;go_wp2_with fail;go_ret;exact ⟨rfl, by go_grown⟩
theorem protos_form {av : Nat → Prop} {w : World} {u : Value} {s : Sl PD} (h : IsProtos av w u s) : ∃ a b, u = .slice a s.n b := by
 obtain ⟨_, _, _, _, _, ⟨a, b, h, _⟩, _⟩ := h;exact ⟨a, b, h⟩
theorem rdS_mem {L : List PR} {i : Nat} (hi : i < (rdS L).n) : L.getD i pr0 ∈ L := by
 have hi' : i < L.length := hi;rw [List.getD_eq_getElem?_getD, List.getElem?_eq_getElem hi'];exact List.getElem_mem hi'
theorem pgood_bnd {L : List PR} (h : ∀ p ∈ L, PGood p) : Bnd (rdS L) := by
 refine ⟨fun i hi j hj => ?_, fun i hi j hj => ?_⟩
 ·have := (h _ (rdS_mem hi)).2.1.code j hj;simp [Lit.wf, IntKind.min, IntKind.max, IntKind.bits, IntKind.signed];exact this
 ·obtain ⟨-, h1, h2⟩ := (h _ (rdS_mem hi)).2.1.consts j hj;simp [Lit.wf, IntKind.min, IntKind.max, IntKind.bits, IntKind.signed];exact ⟨h1, h2⟩
theorem load_law (c d : Sl Int) (v um : Value) (w : World) (hC : IsCode w v c) (hM : IsCode w um d) (hE : ErrT w) :
  Calls Tryz.prog 3 #[v, um] w fun e w' => e = .returned (.bool true) ∧ Below w.heap.size w w' := by
 obtain ⟨n0, hn0, hP0⟩ := wPick_in d hM.byte 0 (by omega);obtain ⟨n1, hn1, hP1⟩ := wPick_in d hM.byte 1 (by omega);obtain ⟨n2, hn2, hP2⟩ := wPick_in d hM.byte 2 (by omega);obtain ⟨ao, cap, rfl⟩ := hC.form;obtain ⟨am, cm, rfl⟩ := hM.form;have hsm := hC.small;have hsm2 := hM.small;have hI : ¬ (c.n : Int) > 1048576 := by omega
 have hJ : ¬ (d.n : Int) > 1048576 := by omega
 have hcall1 : Hid _ := drawn c w _ hC;clear hC;replace hM : Hid (IsCode w (.slice am d.n cm) d) := hM;replace hE : Hid (ErrT w) := hE;replace hP0 : Hid _ := hP0;replace hP1 : Hid _ := hP1;replace hP2 : Hid _ := hP2;go_enter Tryz.func3, Tryz.ntmps3;go_wp2_with fail;refine Calls.mono hcall1.out ?_;rintro e y1 ⟨X0, rfl, hX0, b1⟩;clear hcall1;go_wp2_with fail
 go_loopw [5, 6] (fun sv i wr => ∃ (k : Nat) (X : ByteArray), i = .int .i64 (k : Int) ∧ k ≤ 2 ∧ sv = .string X ∧ X.size ≤ 1500000000 ∧ Hid (Below w.heap.size w wr))
  (fun _ i _ => 2 - (intOf i).toNat)
 case atStart => exact ⟨0, X0, rfl, by omega, rfl, hX0, b1⟩
 case round =>
  obtain ⟨k, X, rfl, hk, rfl, hX, hB⟩ := hrel;obtain ⟨wz, hwz⟩ : ∃ x, x = wr := ⟨_, rfl⟩;subst hwz;clear b1 hX0;by_cases hlt : k < 2
  case neg =>
   obtain rfl : k = 2 := by omega
   have bb := hB.out;go_wp2_with fail;go_ret;exact ⟨rfl, bb⟩
  case pos =>
  have hki : (k : Int) < 2 := by omega
  obtain ⟨V, hV⟩ := vrAt_any X (by omega);have hL1 : Hid _ := specLoad_in X V hV.ok (by omega) wz;go_wp2_with fail;refine Calls.mono hL1.out ?_;rintro e z1 ⟨⟨s0, s1, s2, rfl⟩, b2⟩;clear hL1;have hB1 := hidG (hB.out.trans (b2.mono hB.out.size));clear hB b2;have b3 : Below z1.heap.size z1 (z1.alloc (.cells #[.slice s0 s1 s2] 26)) := (Below.refl _ _).alloc (Nat.le_refl _) _;have hB2 := hidG (hB1.out.trans (b3.mono hB1.out.size));have hL2 : Hid _ := implLoad_in X V hV.ok (by omega) (z1.alloc (.cells #[.slice s0 s1 s2] 26)) (hE.out.below hB2.out);clear b3 hB1;go_wp2_with fail;refine Calls.mono hL2.out ?_;rintro e z2 ⟨b4, hno, hyes⟩;clear hL2;have hB3 := hidG (hB2.out.trans (b4.mono hB2.out.size));clear hB2 b4;by_cases hc0 : rdCode X V = 0
  case' neg =>
   obtain rfl := hno hc0;have hcb : (rdCode X V == 0) = false := by simpa using hc0
   have hcn : (rdCode X V != rdCode X V) = false := by simp
   clear hno hyes hV;generalize rdCode X V = code at hc0 hcb hcn ⊢;have b5 : Below z2.heap.size z2 (z2.alloc (.cells #[.slice none 0 0] 26)) := (Below.refl _ _).alloc (Nat.le_refl _) _;have hBf := hidG (hB3.out.trans (b5.mono hB3.out.size));clear b5 hB3;go_upto_if 62 with fail;generalize z2.alloc (.cells #[.slice none 0 0] 26) = zf at hBf ⊢
  case' pos =>
   obtain ⟨vb, its, mid, y, hyy, rfl, htr, hits⟩ := hyes hc0;obtain ⟨hwf, hgd, hch⟩ := accepted hV hc0;rw [← hits] at hwf hgd hch;have hbk := back_is htr hgd;have hbn := pgood_bnd hgd;rw [hc0];clear hno hyes hV hits htr hyy hgd hc0;generalize rdS (its.map (·.p)) = s at *;clear its mid y;obtain ⟨ab, cb, rfl⟩ := protos_form hbk;have b5 : Below z2.heap.size z2 (z2.alloc (.cells #[.slice ab s.n cb] 26)) := (Below.refl _ _).alloc (Nat.le_refl _) _;have R3 := RowL.new z2 [.slice ab s.n cb] 26;have hbk3 := hbk.later b5;have hB4 := hidG (hB3.out.trans (b5.mono hB3.out.size));have hDm : Hid _ := implDump_in s (.slice ab s.n cb) _ hbk3 hbn;have q3 := R3.cell 0 rfl;replace R3 : Hid (RowL (z2.alloc (.cells #[.slice ab s.n cb] 26)) z2.heap.size 26 [.slice ab s.n cb]) := R3;replace hbk3 : Hid (IsProtos (· < (z2.alloc (.cells #[.slice ab s.n cb] 26)).heap.size) (z2.alloc (.cells #[.slice ab s.n cb] 26)) (.slice ab s.n cb) s) := hbk3;clear hbk b5 hB3 hbn;go_wp2_with fail;refine Calls.mono hDm.out ?_;rintro e z4 ⟨hres, b6⟩
   obtain rfl : e = .returned (.tuple #[.string X, .bool true]) := by
    rcases hres with ⟨-, h⟩ | ⟨h, -⟩
    ·rw [h, hch]
    ·exact absurd hwf h
   clear hDm q3 hres hch;have q3 := (R3.out.call b6).cell 0 rfl;have hW : Hid _ := implWF_in s (.slice ab s.n cb) z4 (hbk3.out.later b6);have hB5 := hidG (hB4.out.trans (b6.mono hB4.out.size));clear R3 hbk3 hB4 b6;go_wp2_with fail;refine Calls.mono hW.out ?_;rintro e zf ⟨⟨r, rfl, hr⟩, b7⟩;obtain rfl : r = true := hr.2 hwf;have hBf := hidG (hB5.out.trans (b7.mono hB5.out.size));clear hW hr hwf b7 hB5 q3;go_upto_if 62 with fail
  all_goals
   by_cases h0 : X.size = 0
   ·have h0b : ((X.size : Int) == 0) = true := by simp [h0]
    have bb := hBf.out;go_wp2_with fail;go_ret;exact ⟨rfl, bb⟩
   have h0b : ((X.size : Int) == 0) = false := by rw [beq_eq_false_iff_ne]; omega
   have hMz := hM.out.later hBf.out;have hp0 : Hid _ := hP0.out zf _ hMz;have hp1 : Hid _ := hP1.out zf _ hMz;clear hMz;have hwa : IntKind.i64.wrap (n0 * 256) = n0 * 256 := by simp [IntKind.wrap, IntKind.bits, IntKind.signed]; omega
   have hwb : IntKind.i64.wrap (n0 * 256 + n1) = n0 * 256 + n1 := by simp [IntKind.wrap, IntKind.bits, IntKind.signed]; omega
   obtain ⟨j, hj⟩ : ∃ j : Nat, (n0 * 256 + n1).tmod (X.size : Int) = (j : Int) := Int.eq_ofNat_of_zero_le (by rw [Int.tmod_eq_emod_of_nonneg (by omega)]; exact Int.emod_nonneg _ (by omega))
   have hjl : j < X.size := by
    have h1 := Int.tmod_eq_emod_of_nonneg (a := n0 * 256 + n1) (b := (X.size : Int)) (by omega);have h2 := Int.emod_lt_of_pos (n0 * 256 + n1) (b := (X.size : Int)) (by omega);omega
   go_wp2_with fail;refine Calls.mono hp0.out ?_;rintro e w' ⟨rfl, rfl⟩;go_wp2_with fail;refine Calls.mono hp1.out ?_;rintro e w' ⟨rfl, rfl⟩;clear hp0 hp1;have hbd := hBf.out.drew;have hp2 : Hid _ := hP2.out _ _ (hM.out.later hbd);have hz1 : (X.extract 0 j).size = j := by rw [ByteArray.size_extract]; omega
   have hsl1 : ∀ wx, (Instr.slice 9 (.string X) none (some (.int .i64 (j : Int))) none).run Tryz.prog wx = .ok (.string (X.extract 0 j)) wx := fun wx => WPut.sl_head X j wx (by omega);have hz3 : (X.extract (j + 1) X.size).size = X.size - (j + 1) := by rw [ByteArray.size_extract]; omega
   have hsl3 : ∀ wx, (Instr.slice 9 (.string X) (some (.int .i64 ((j : Int) + 1))) none none).run Tryz.prog wx = .ok (.string (X.extract (j + 1) X.size)) wx := fun wx => sl_tail X (j + 1) wx (by omega);have hw2 : IntKind.i64.wrap ((j : Int) + 1) = (j : Int) + 1 := by simp [IntKind.wrap, IntKind.bits, IntKind.signed]; omega
   have hs1 : (strOfNums [n2]).size = 1 := strOfNums_size _;have hw8 : IntKind.u8.wrap n2 = n2 := by simp [IntKind.wrap, IntKind.bits, IntKind.signed]; omega
   go_wp2_with fail;refine wp_region_held_drew (S := fun _ => True) (by kernel_rfl) trivial (fun hH => ?_);clear hH;refine tkd 0 72 (.string X) trivial ?_;try simp only [tK]
   refine tkd 1 73 (.int .i64 (j : Int)) trivial ?_;try simp only [tK]
   refine tkd 2 74 (.string (X.extract 0 j)) trivial ?_;try simp only [tK]
   refine tkd 3 75 (.slice am d.n cm) trivial ?_;try simp only [tK]
   refine tkd 9 81 (.string X) trivial ?_;try simp only [tK]
   refine tkd 10 82 (.int .i64 (j : Int)) trivial ?_;try simp only [tK]
   refine tkd 11 83 (.int .i64 ((j : Int) + 1)) trivial ?_;try simp only [tK]
   refine tkd 12 84 (.string (X.extract (j + 1) X.size)) trivial ?_;try simp only [tK]
   refine rdy1 4 (fun K hK => ?_);go_simp;refine Calls.mono hp2.out ?_;rintro e wd ⟨rfl, hwd⟩;rw [hwd] at hbd;clear hp2 hwd;go_wp2_with fail;refine hK.out _ _ trivial (fun hzz => ?_);clear hK K hzz;try simp only [tK]
   refine tkd 5 77 (.int .u8 n2) trivial ?_;try simp only [tK]
   have hcv := conv_one wd n2;have bw := hidG (hbd.alloc hbd.size (.cells #[.int .u8 n2] 5));refine rdy1 6 (fun K hK => ?_);go_simp;refine hK.out _ _ trivial (fun hzz => ?_);clear hK K hzz;try simp only [tK]
   refine rdy1 7 (fun K hK => ?_);go_simp;refine hK.out _ _ trivial (fun hzz => ?_);clear hK K hzz hcv;try simp only [tK]
   refine tkd 8 80 (.string (X.extract 0 j ++ strOfNums [n2])) trivial ?_ (hy := Or.inl ⟨by rfl, by intro wv hSv; clear hSv; go_simp <;> omega⟩);try simp only [tK]
   refine tkd 13 85 (.string (X.extract 0 j ++ strOfNums [n2] ++ X.extract (j + 1) X.size)) trivial ?_ (hy := Or.inl ⟨by rfl, by intro wv hSv; clear hSv; go_simp <;> omega⟩);try simp only [tK]
   refine tkd 14 5 (.string (X.extract 0 j ++ strOfNums [n2] ++ X.extract (j + 1) X.size)) trivial ?_ (hy := Or.inl ⟨by rfl, by intro wv hSv; clear hSv; go_simp <;> omega⟩);try simp only [tK]
   refine wpAnyH_done (by kernel_rfl) ?_ _;go_wp2_with fail;go_roundw;case rel => exact ⟨k + 1, _, by go_num, by omega, rfl, by simp only [ByteArray.size_append, hz1, hz3, hs1]; omega, bw⟩
   case measure => simp [intOf]; omega
end Go.Proofs.YtnhanccjnhgjoaaGreatDoor
