import Derived.Test.YtnhanccjnhgjoaaGreatDoorGa
import Derived.Test.YtnhanccjnhgjoaaGreatDoorDvF
import Derived.Test.YtnhanccjnhgjoaaGreatDoorGe
import Derived.Test.YtnhanccjnhgjoaaGreatDoorGn
namespace Go.Proofs.YtnhanccjnhgjoaaGreatDoor
open Go.RowKit Go.Shelf
set_option linter.unusedVariables false
set_option linter.unusedSimpArgs false
set_option maxRecDepth 100000
set_option maxHeartbeats 9000000
theorem hidG {p : Prop} (h : p) : Hid p := h
theorem bnd_of {PS : List PD} (h : ∀ x ∈ PS, Bd x) : Bnd (slOf PS) := by
 refine ⟨fun i hi j hj => ?_, fun i hi j hj => ?_⟩
 ·have := (slOf_all (P := Bd) h i hi).cw j hj;simp [Lit.wf, IntKind.min, IntKind.max, IntKind.bits, IntKind.signed];omega
 ·have := ((slOf_all (P := Bd) h i hi).kn j hj).1;simp [Lit.wf, IntKind.min, IntKind.max, IntKind.bits, IntKind.signed];omega
theorem constB_sz (v : VD) (h : v.text.size ≤ 2000) : (constB v).size ≤ 2010 := by
 unfold constB;have h1 := sizedB_size v.text;split
 ·rw [by1_size]; omega
 ·split
  ·rw [by1_size]; omega
  ·split
   ·rw [ByteArray.size_append, by1_size, i8_size]; omega
   ·rw [ByteArray.size_append, by1_size]; omega
theorem protoB_sz (p : PD) (h : Bd p) : (protoB p).size ≤ 4600000 := by
 have h1 : (codeB p).size ≤ p.code.n * 4 := cat_size _ fun i _ => Nat.le_of_eq (u4_size _);have h2 : (constsB p).size ≤ p.consts.n * 2010 := cat_size _ fun i hi => constB_sz _ (h.kn i hi).2.2.2;have h3 : (upsB p).size ≤ p.ups.n * 6 := cat_size _ fun i _ => upB_size _;have h4 : (linesB p).size ≤ p.lines.n * 5 := cat_size _ fun i _ => pv_size _
 have h5 : (upNamesB p).size ≤ p.upNames.n * 2005 := cat_size _ fun i hi => by
  have := h.un i hi;have := sizedB_size (p.upNames.f i);omega
 obtain ⟨z1, z2, z3, z4, z5⟩ := h.sz
 have h6 : (debugB p).size ≤ 2250000 := by
  by_cases hb : Bare p
  ·rw [debugB_bare hb, flagB_size]; omega
  ·rw [debugB_full hb];simp only [ByteArray.size_append, flagB_size];have k1 := sizedB_size p.name;have k2 := pvN_size p.lines.n;have k3 := pvN_size p.upNames.n;have := h.nm;omega
 have k1 := pv_size p.params;have k2 := pv_size p.regs;have k3 := pvN_size p.code.n;have k4 := pvN_size p.consts.n;have k5 := pvN_size p.ups.n;have k6 := pv_size p.kids;unfold protoB;simp only [ByteArray.size_append, flagB_size];omega
theorem chunkB_sz {PS : List PD} (h : ∀ x ∈ PS, Bd x) (hl : PS.length ≤ 300) : (chunkB (slOf PS)).size ≤ 1400000000 := by
 have h1 : (cat (fun i => protoB ((slOf PS).f i)) (slOf PS).n).size ≤ (slOf PS).n * 4600000 := cat_size _ fun i hi => protoB_sz _ (slOf_all (P := Bd) h i hi);have h2 : (slOf PS).n ≤ 300 := hl;unfold chunkB headB;rw [ByteArray.size_append, strOfNums_size];simp only [List.length_cons, List.length_nil];omega
theorem Bd.pws {p : PD} (h : Bd p) : PWS p := ⟨h.cw, fun i hi => by
 obtain ⟨h1, h2, h3, h4⟩ := h.kn i hi;exact ⟨by omega, h1.1, h1.2⟩, h.nm, h.un⟩
theorem drawLoad (c : Sl Int) (PS : List PD) (P : Nat) (hP : P ≤ 3000) (hl : PS.length ≤ 10) (hSm : ∀ x ∈ PS, Sm x)
  (hD : ∀ w v, IsCode w v c → Calls Tryz.prog 11 #[v, .int .i64 1] w fun e w' => ∃ u, e = .returned (.tuple #[.agg #[u], .int .i64 (P : Int)]) ∧ Below w.heap.size w w' ∧ IsProtos (fun b => w.heap.size ≤ b ∧ b < w'.heap.size) w' u (slOf PS))
  (hS : SpoilA c (P + 1) PS) (w : World) (v : Value) (hC : IsCode w v c) : Calls Tryz.prog 4 #[v] w (TxtE 1500000000 w) := by
 obtain ⟨how, hhow⟩ : ∃ t, tk c 0 12 = t := ⟨_, rfl⟩;have h1 := (tk_bd c 0 12).1;have h2 := (tk_bd c 0 12).2 (by omega);rw [hhow] at h1 h2;replace hhow : Hid (tk c 0 12 = how) := hhow;have hDc := hD w v hC;replace hDc : Hid _ := hDc;clear hD;replace hS : Hid _ := hS;have hbd : Hid (∀ x ∈ PS, Bd x) := fun x hx => (hSm x hx).bd;clear hSm;obtain ⟨ao, cap, rfl⟩ := (show ∃ ao cap, v = .slice ao c.n cap from IsArr.slice hC.ints);have hsm := hC.small;replace hC : Hid (IsCode w (.slice ao c.n cap) c) := hC;go_enter Tryz.func4, Tryz.ntmps4;go_wp2_with fail;refine (l1Take_to c _ 0 0 12 _ rfl hC.out (by omega) (by omega) hhow.out).mono ?_;rintro e w' ⟨rfl, rfl⟩;go_wp2_with fail;refine Calls.mono hDc.out ?_;rintro e y1 ⟨u, rfl, b1, hu⟩;obtain ⟨au, cu, rfl⟩ : ∃ a b, u = .slice a PS.length b := by obtain ⟨_, _, _, _, _, ⟨a, b, h, _⟩, _⟩ := hu; exact ⟨a, b, h⟩
 have hb1 := b1.size;have hB1 : Below y1.heap.size y1 (y1.alloc (.cells #[.slice au PS.length cu] 26)) := (Below.refl _ _).alloc (Nat.le_refl _) _;have hs1 : (y1.alloc (.cells #[.slice au PS.length cu] 26)).heap.size = y1.heap.size + 1 := World.size_alloc _ _;have hu1 : IsProtos (· < y1.heap.size + 1) (y1.alloc (.cells #[.slice au PS.length cu] 26)) (.slice au PS.length cu) (slOf PS) := (hu.keep fun b hb => hB1.block b hb.2).mono fun b hb => by omega
 have R1 := RowL.new y1 [.slice au PS.length cu] 26;have bw1 := b1.trans (hB1.mono hb1);have hC1 := (hC.out.later b1).later hB1;clear hu hB1 hDc hC b1;replace hC1 : Hid (IsCode (y1.alloc (.cells #[.slice au PS.length cu] 26)) (.slice ao c.n cap) c) := hC1;replace hs1 : Hid _ := hs1;replace hu1 : Hid (IsProtos (· < y1.heap.size + 1) (y1.alloc (.cells #[.slice au PS.length cu] 26)) (.slice au PS.length cu) (slOf PS)) := hu1;replace R1 : Hid (RowL (y1.alloc (.cells #[.slice au PS.length cu] 26)) y1.heap.size 26 [.slice au PS.length cu]) := R1;replace bw1 : Hid (Below w.heap.size w (y1.alloc (.cells #[.slice au PS.length cu] 26))) := bw1;generalize hy : y1.heap.size = o1 at *;go_wp2_with fail;generalize y1.alloc (.cells #[.slice au PS.length cu] 26) = y at *;clear hy y1;refine (specDump_in (slOf PS) _ _ (hs1.out ▸ hu1.out) (bnd_of hbd.out)).mono ?_;rintro e y2 ⟨he, b2⟩
 obtain ⟨t, ok, rfl, ht⟩ : ∃ t ok, e = .returned (.tuple #[.string t, .bool ok]) ∧ t.size ≤ 1400000000 := by
  rcases he with ⟨-, rfl⟩ | ⟨-, rfl⟩
  ·exact ⟨_, _, rfl, chunkB_sz hbd.out (by omega)⟩
  ·exact ⟨_, _, rfl, by show 0 ≤ _; omega⟩
 clear he;replace hC1 := hidG (hC1.out.later b2);have R2 := hidG (R1.out.call b2);have bw2 := hidG (bw1.out.trans (b2.mono bw1.out.size));have hu2 := hidG ((show IsProtos (· < y.heap.size) y (.slice au PS.length cu) (slOf PS) from hs1.out ▸ hu1.out).later b2);clear hu1 R1 bw1 hs1 b2 hbd;obtain ⟨x, hx⟩ : ∃ z : Nat, tk c P (t.size : Int) = z := Int.eq_ofNat_of_zero_le (tk_bd _ _ _).1;have x2 : 0 < t.size → x < t.size := fun h => by have := (tk_bd c P (t.size : Int)).2 (by omega); omega
 have x3 : t.size = 0 → x = 0 := fun h => by rw [h] at hx; simp [tk] at hx; omega
 have hq := hidG (l1Take_big c (.slice ao c.n cap) P (t.size : Int) y2 hC1.out (by omega) (by omega));rw [hx] at hq;clear hx;go_wp2_with fail;refine Calls.mono hq.out ?_;rintro e w' ⟨rfl, rfl⟩;clear hq;by_cases h4 : how < 4
 ·clear hS;go_wp2_with fail;refine (spoilText_in c P t (by omega) (by omega) _ _ hC1.out).mono ?_;rintro e y3 ⟨u, rfl, hus, b3⟩;have bb := bw2.out.trans (b3.mono bw2.out.size);go_wp2_with fail;go_ret;exact ⟨_, rfl, by omega, bb⟩
 have h4n : ¬ how < 4 := h4;by_cases h5 : how = 4
 ·subst h5;clear hS;have hs1 : (strOfNums [(x : Int) % 256]).size = 1 := strOfNums_size _;go_wp2_with fail;refine (l1Byte_mod (x : Int) _ (by omega) (by omega)).mono ?_;rintro e y3 ⟨rfl, b3⟩;have bb := bw2.out.trans (b3.mono bw2.out.size);go_wp2_with fail;go_ret;exact ⟨_, rfl, by rw [ByteArray.size_append, hs1]; omega, bb⟩
 have h5b : (how == 4) = false := by simpa using h5
 by_cases h6 : how = 5
 ·subst h6;clear hS;have hsl1 : ∀ wx, (Instr.slice 9 (.string t) none (some (.int .i64 (x : Int))) none).run Tryz.prog wx = .ok (.string (t.extract 0 x)) wx := fun wx => WPut.sl_head t x wx (by omega);have bb := bw2.out;go_wp2_with fail;go_ret;exact ⟨_, rfl, by rw [ByteArray.size_extract]; omega, bb⟩
 have h6b : (how == 5) = false := by simpa using h6
 by_cases h7 : how = 6
 ·subst h7;obtain ⟨PS', hl', hbd', hSp⟩ := hS.out;have hcall := hSp (· < w'.heap.size) w' _ _ (fun b hb => hb) hC1.out hu2.out;rw [show ((P + 1 : Nat) : Int) = (P : Int) + 1 by omega] at hcall;replace hcall := hidG hcall;have r0 := R2.out.cell 0 rfl;clear hS hSp hu2;have hszs := chunkB_sz hbd' hl';have hbs : Hid (∀ i, i < (slOf PS').n → Bd ((slOf PS').f i)) := fun i hi => slOf_all (P := Bd) hbd' i hi;have hsn : (slOf PS').n ≤ 300 := hl';clear hbd' hl';generalize slOf PS' = s at *;clear PS';go_wp2_with fail;refine Calls.mono hcall.out ?_;rintro e y3 ⟨u2, rfl, b3, hu3⟩;clear hcall r0 R2 hC1;have bw3 := hidG (bw2.out.trans (b3.mono bw2.out.size))
  have hu4 : IsProtos (· < y3.heap.size) y3 u2 s := hu3.mono fun b hb => by
   have := b3.size;rcases hb with hb | hb <;> omega
  clear hu3 b3 bw2;obtain ⟨a3, a4, a5, a8, a9, ⟨a0, c0, rfl, hn, hc⟩, ht⟩ := hu4;replace hc : Hid (0 < s.n → ∃ b o, a0 = some ⟨b, o, none⟩ ∧ b < y3.heap.size ∧ ∀ i, i < s.n → ∀ j, j < 10 → y3.cell? ⟨b, o + i * 10 + j, none⟩ = some (pC s.f a3 a4 a5 a8 a9 i j)) := hc;replace ht : Hid (∀ i, i < s.n → IsProto (· < y3.heap.size) y3 (a3 i) (a4 i) (a5 i) (a8 i) (a9 i) (s.f i)) := ht;have R0 := RowL.new y3 [.slice a0 s.n c0] 26;have bw : Below y3.heap.size y3 (y3.alloc (.cells #[.slice a0 s.n c0] 26)) := by go_grown
  have sz1 : (y3.alloc (.cells #[.slice a0 s.n c0] 26)).heap.size = y3.heap.size + 1 := World.size_alloc _ _;have sA : Hid (Buf ((y3.alloc (.cells #[.slice a0 s.n c0] 26)).alloc (.cells #[] 5)) 5 (.slice (some ⟨(y3.alloc (.cells #[.slice a0 s.n c0] 26)).heap.size, 0, none⟩) 0 0) ByteArray.empty) := buf_made _ _;rw [sz1] at sA;replace R0 : Hid (RowL (y3.alloc (.cells #[.slice a0 s.n c0] 26)) y3.heap.size 26 [.slice a0 s.n c0]) := R0;have bA : Below (y3.heap.size + 1) (y3.alloc (.cells #[.slice a0 s.n c0] 26)) ((y3.alloc (.cells #[.slice a0 s.n c0] 26)).alloc (.cells #[] 5)) := (Below.refl _ _).alloc (by rw [sz1]; exact Nat.le_refl _) _;have szA : ((y3.alloc (.cells #[.slice a0 s.n c0] 26)).alloc (.cells #[] 5)).heap.size = y3.heap.size + 1 + 1 := by rw [World.size_alloc, sz1]
  replace sz1 := hidG sz1;go_wp2_with fail;replace sz1 := sz1.out;generalize y3.alloc (.cells #[.slice a0 s.n c0] 26) = w1 at R0 bw sz1 sA bA szA ⊢;generalize w1.alloc (.cells #[] 5) = wA at sA bA szA ⊢;have hpl := l3Put_in _ ByteArray.empty headB wA sA.out (by unfold headB; rw [strOfNums_size]; simp);rw [ByteArray.empty_append] at hpl;refine hpl.mono ?_;rintro e y ⟨v1, rfl, hB1, hF1⟩;have T0 : Hid (St (fun _ => False) wA (.slice (some ⟨y3.heap.size + 1, 0, none⟩) 0 0) y v1 headB) := ⟨hB1, hF1⟩
  have hown : Hid (∀ y v' X, St (fun _ => False) wA (.slice (some ⟨y3.heap.size + 1, 0, none⟩) 0 0) y v' X → ∀ k, v'.ownBlock = some k → y3.heap.size + 1 ≤ k) := fun y v' X h k hk => by
   rcases h.fr.own with e | e
   ·rw [hk] at e;simp only [Value.ownBlock, Option.some.injEq] at e;omega
   ·have := e k hk;omega
  have hbel : Hid (∀ y v' X, St (fun _ => False) wA (.slice (some ⟨y3.heap.size + 1, 0, none⟩) 0 0) y v' X → Below (y3.heap.size + 1) w1 y) := fun y v' X h =>
   bA.trans (h.fr.below (by omega) (fun _ h => h.elim) (fun k hk => by simp only [Value.ownBlock, Option.some.injEq] at hk; omega))
  clear hB1 hF1 hpl sA bA szA;go_wp2_with fail
  go_loopw [12, 13] (fun o i wr => ∃ i' : Nat, i = .int .i64 (i' : Int) ∧ i' ≤ s.n ∧ Hid (St (fun _ => False) wA (.slice (some ⟨y3.heap.size + 1, 0, none⟩) 0 0) wr o (headB ++ cat (fun i => protoB (s.f i)) i')))
   (fun _ i _ => s.n - (intOf i).toNat)
  case atStart => exact ⟨0, rfl, by omega, (by show St _ _ _ _ _ (headB ++ ByteArray.empty); rw [ByteArray.append_empty]; exact T0.out)⟩
  case round =>
   obtain ⟨i', rfl, hin, hT⟩ := hrel;obtain ⟨wz, hwz⟩ : ∃ x, x = wr := ⟨_, rfl⟩;subst hwz;have hby := hbel.out wz _ _ hT.out;rw [← sz1] at hby;have r0 := (R0.out.call hby).cell 0 rfl;have q4 := bw.trans (hby.mono bw.size);by_cases hlt : i' < s.n
   ·have hii : (i' : Int) < (s.n : Int) := by omega
    obtain ⟨b, o, rfl, hb, hcc⟩ := hc.out (by omega);have c0 := hcc i' hlt 0 (by omega);have c1 := hcc i' hlt 1 (by omega);have c2 := hcc i' hlt 2 (by omega);have c3 := hcc i' hlt 3 (by omega);have c4 := hcc i' hlt 4 (by omega);have c5 := hcc i' hlt 5 (by omega);have c6 := hcc i' hlt 6 (by omega);have c7 := hcc i' hlt 7 (by omega);have c8 := hcc i' hlt 8 (by omega);have c9 := hcc i' hlt 9 (by omega);rw [← q4.cell (p := ⟨b, _, none⟩) hb] at c0 c1 c2 c3 c4 c5 c6 c7 c8 c9;simp only [Nat.add_zero, pC] at c0 c1 c2 c3 c4 c5 c6 c7 c8 c9
    have hfit : (headB ++ cat (fun i => protoB (s.f i)) i').size + (protoB (s.f i')).size ≤ 70368744177664 := by
     have h2 := cat_lt (fun i => protoB (s.f i)) hlt;unfold chunkB at hszs;rw [ByteArray.size_append] at hszs ⊢;omega
    have hpr := l3Proto_in y3.heap.size (s.f i') _ (a3 i') (a4 i') (a5 i') (a8 i') (a9 i') _ wz ((ht.out i' hlt).below q4) (hbs.out i' hlt).pws hT.out.buf q4.size (fun k hk => by have := hown.out _ _ _ hT.out k hk; omega) hfit;unfold pAgg at hpr;replace hpr : Hid _ := hpr;clear hcc hfit;go_wp2_with fail;refine (Calls.mono hpr.out ?_);rintro e y2 ⟨v2, rfl, s2⟩
    have hT1 : Hid (St (fun _ => False) wA (.slice (some ⟨y3.heap.size + 1, 0, none⟩) 0 0) y2 v2 (headB ++ cat (fun i => protoB (s.f i)) (i' + 1))) := by
     show St _ _ _ _ _ (headB ++ (cat (fun i => protoB (s.f i)) i' ++ protoB (s.f i')));rw [← ByteArray.append_assoc];exact hT.out.next s2.buf s2.fr
    clear c0 c1 c2 c3 c4 c5 c6 c7 c8 c9 r0 hT s2 hpr hby q4;go_wp2_with fail;go_roundw;case rel => exact ⟨i' + 1, by go_num, by omega, hT1.out⟩
    case measure => simp [intOf]; omega
   ·obtain rfl : i' = s.n := by omega
    have hcv : (convert 22 9 u12).run Tryz.prog wz = .ok (.string (chunkB s)) wz := conv_buf _ _ _ Tryz.underlying22 Tryz.underlying5 Tryz.underlying9 hT.out.buf;have bb := bw3.out.trans (q4.mono bw3.out.size);clear hT;go_wp2_with fail;go_ret;exact ⟨_, rfl, by omega, bb⟩
 have h7b : (how == 6) = false := by simpa using h7
 clear hS;by_cases h8 : how = 7
 ·subst h8;have hwx : IntKind.i64.wrap ((x : Int) + 1) = (x : Int) + 1 := by simp [IntKind.wrap, IntKind.bits, IntKind.signed]; omega
  by_cases hA : x + 1 < t.size
  ·have hAI : (x : Int) + 1 < (t.size : Int) := by omega
   have hxt : x < t.size := by omega
   obtain ⟨g, hg⟩ : ∃ g : Nat, (t[x]'hxt).toNat = g := ⟨_, rfl⟩;have hg2 : g < 256 := by rw [← hg]; exact (t[x]'hxt).toNat_lt
   by_cases hG : g < 128
   ·have hGI : (g : Int) < 128 := by omega
    have hz1 : (t.extract 0 x).size = x := by rw [ByteArray.size_extract]; omega
    have hsl1 : ∀ wx, (Instr.slice 9 (.string t) none (some (.int .i64 (x : Int))) none).run Tryz.prog wx = .ok (.string (t.extract 0 x)) wx := fun wx => WPut.sl_head t x wx (by omega);have hz3 : (t.extract (x + 1) t.size).size = t.size - (x + 1) := by rw [ByteArray.size_extract]; omega
    have hsl3 : ∀ wx, (Instr.slice 9 (.string t) (some (.int .i64 ((x : Int) + 1))) none none).run Tryz.prog wx = .ok (.string (t.extract (x + 1) t.size)) wx := fun wx => sl_tail t (x + 1) wx (by omega);have hs1 : (strOfNums [((g : Int) + 128) % 256]).size = 1 := strOfNums_size _;have hs0 : (⟨#[0]⟩ : ByteArray).size = 1 := rfl;have hwg : IntKind.i64.wrap ((g : Int) + 128) = (g : Int) + 128 := by simp [IntKind.wrap, IntKind.bits, IntKind.signed]; omega
    have hwh : IntKind.i64.wrap (g : Int) = (g : Int) := by simp [IntKind.wrap, IntKind.bits, IntKind.signed]; omega
    go_wp2_with fail;refine wp_region_held_drew (S := fun _ => True) (by kernel_rfl) trivial (fun hH => ?_);clear hH;refine tkd 0 94 (.string t) trivial ?_;try simp only [tK]
    refine tkd 1 95 (.int .i64 (x : Int)) trivial ?_;try simp only [tK]
    refine tkd 2 96 (.string (t.extract 0 x)) trivial ?_;try simp only [tK]
    refine tkd 3 97 (.string t) trivial ?_;try simp only [tK]
    refine tkd 4 98 (.int .i64 (x : Int)) trivial ?_;try simp only [tK]
    refine tkd 5 99 (.int .u8 (g : Int)) trivial ?_;try simp only [tK]
    refine tkd 6 100 (.int .i64 (g : Int)) trivial ?_;try simp only [tK]
    refine tkd 7 101 (.int .i64 ((g : Int) + 128)) trivial ?_;try simp only [tK]
    refine tkd 11 105 (.string t) trivial ?_;try simp only [tK]
    refine tkd 12 106 (.int .i64 (x : Int)) trivial ?_;try simp only [tK]
    refine tkd 13 107 (.int .i64 ((x : Int) + 1)) trivial ?_;try simp only [tK]
    refine tkd 14 108 (.string (t.extract (x + 1) t.size)) trivial ?_;try simp only [tK]
    refine rdy1 8 (fun K hK => ?_);go_simp;refine (l1Byte_mod ((g : Int) + 128) _ (by omega) (by omega)).mono ?_;rintro e w1 ⟨rfl, b1⟩;have bw := bw2.out.trans (((Below.refl w'.heap.size w').drew.trans b1).mono bw2.out.size);go_wp2_with fail;refine hK.out _ _ trivial (fun hzz => ?_);clear hK K hzz b1;try simp only [tK]
    refine tkd 9 103 (.string (t.extract 0 x ++ strOfNums [((g : Int) + 128) % 256])) trivial ?_ (hy := Or.inl ⟨by rfl, by intro wv hSv; clear hSv; go_simp <;> omega⟩);try simp only [tK]
    refine tkd 10 104 (.string (t.extract 0 x ++ strOfNums [((g : Int) + 128) % 256] ++ ⟨#[0]⟩)) trivial ?_ (hy := Or.inl ⟨by rfl, by intro wv hSv; clear hSv; go_simp <;> omega⟩);try simp only [tK]
    refine tkd 15 109 (.string (t.extract 0 x ++ strOfNums [((g : Int) + 128) % 256] ++ ⟨#[0]⟩ ++ t.extract (x + 1) t.size)) trivial ?_ (hy := Or.inl ⟨by rfl, by intro wv hSv; clear hSv; go_simp <;> omega⟩);try simp only [tK]
    refine tkd 16 2 (.string (t.extract 0 x ++ strOfNums [((g : Int) + 128) % 256] ++ ⟨#[0]⟩ ++ t.extract (x + 1) t.size)) trivial ?_ (hy := Or.inl ⟨by rfl, by intro wv hSv; clear hSv; go_simp <;> omega⟩);try simp only [tK]
    refine wpAnyH_done (by kernel_rfl) ?_ _;go_wp2_with fail;go_ret;exact ⟨_, rfl, by simp only [ByteArray.size_append, hz1, hz3, hs1, hs0]; omega, bw⟩
   ·have hGI : ¬ (g : Int) < 128 := by omega
    have bb := bw2.out;go_wp2_with fail;go_ret;exact ⟨_, rfl, by omega, bb⟩
  ·have hAI : ¬ (x : Int) + 1 < (t.size : Int) := by omega
   have bb := bw2.out;go_wp2_with fail;go_ret;exact ⟨_, rfl, by omega, bb⟩
 have h8b : (how == 7) = false := by simpa using h8
 have bb := bw2.out;go_wp2_with fail;go_ret;exact ⟨_, rfl, by omega, bb⟩
end Go.Proofs.YtnhanccjnhgjoaaGreatDoor
