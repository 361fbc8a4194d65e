import Derived.Test.YtpobiffihiaakaaGreatDoorLuS
import Derived.Deep.AppendLies
namespace Go.Proofs.YtpobiffihiaakaaGreatDoor
open Go.RowKit
set_option linter.unusedVariables false
set_option linter.unusedSimpArgs false
set_option maxRecDepth 100000
set_option maxHeartbeats 4000000
/-- the lists of a prototype that the model has read. -/
structure MRow (B : Nat) (w' : World) (v3 v4 v5 v8 v9 : Value) (p : PR) : Prop where
  o3 : w'.ownsRow B 57 1 v3 p.code.length (p.code.flatMap cCode)
  o4 : w'.ownsRow B 59 3 v4 p.consts.length (p.consts.flatMap cConsts)
  o5 : w'.ownsRow B 63 2 v5 p.ups.length (p.ups.flatMap cUps)
  o8 : w'.ownsRow B 3 1 v8 p.lines.length (p.lines.flatMap cLines)
  o9 : w'.ownsRow B 9 1 v9 p.upNames.length (p.upNames.flatMap cNames)
theorem rdWord_b {s : ByteArray} {r : RS} (h : r.bad ≠ 0) : (rdWord s r).2 = r := by simp [rdWord, rdBytes, h]
theorem word_model (s : ByteArray) (q : RS) (y : World) (hs : s.size ≤ 1048576) (hq : q.pos ≤ s.size) :
    Calls Tryz.prog 18 #[.agg #[.string s, .int .i64 (q.pos : Int), .int .i64 q.bad], .int .i64 4] y fun e w' => (∃ u : ByteArray, e = .returned (.tuple #[.string u, .agg #[.string s, .int .i64 ((rdWord s q).2.pos : Int), .int .i64 (rdWord s q).2.bad]]) ∧ ((rdWord s q).2.bad = 0 → u.size = 4 ∧ (rdWord s q).1 = le4 u 0)) ∧ Below y.heap.size y w' := by
  refine Calls.mono (l3Bytes_in s 4 q y hs hq (by decide)) ?_
  rintro e w' ⟨rfl, hb⟩
  refine ⟨⟨_, rfl, fun h => ?_⟩, hb⟩
  have h4 : (rdBytes s 4 q).1.size = 4 := by
    unfold rdWord rdBytes at h
    unfold rdBytes
    dsimp only at h
    split at h
    · rename_i h1; exact absurd h h1
    · rename_i h1
      split at h
      · rename_i h2
        rw [if_neg h1, if_pos h2]
        show (s.extract q.pos (q.pos + 4)).size = 4
        rw [ByteArray.size_extract]
        omega
      · exact absurd h (by simp)
  exact ⟨h4, by unfold rdWord; dsimp only; rw [if_neg (by omega)]⟩
theorem val_step {yr y8 : World} {Z : Obj} (b8 : Below (yr.alloc Z).heap.size (yr.alloc Z) y8) (v0 v1 v2 : Value) : Below yr.heap.size yr (((y8.setCell ⟨yr.heap.size, 0, none⟩ v0).setCell ⟨yr.heap.size, 1, none⟩ v1).setCell ⟨yr.heap.size, 2, none⟩ v2) :=
  Below.setCell (Below.setCell (Below.setCell (((Below.refl _ yr).alloc (Nat.le_refl _) Z).trans (b8.mono (by rw [World.size_alloc]; omega))) (p := ⟨yr.heap.size, 0, none⟩) (Nat.le_refl _) v0) (p := ⟨yr.heap.size, 1, none⟩) (Nat.le_refl _) v1) (p := ⟨yr.heap.size, 2, none⟩) (Nat.le_refl _) v2
theorem rdVal_b {s : ByteArray} {V : Nat → Option (Int × Nat)} {G : ByteArray → Int} {r : RS} (h : r.bad ≠ 0) : (rdVal s V G r).2 = r := by
  unfold rdVal
  rw [rdByte_b h]
  simp
theorem rdUp_b {s : ByteArray} {V : Nat → Option (Int × Nat)} {r : RS} (h : r.bad ≠ 0) : (rdUp s V r).2 = r := by
  unfold rdUp
  rw [rdByte_b h]
  dsimp only
  rw [rdAny_b h]
theorem up_model (s : ByteArray) (V : Nat → Option (Int × Nat)) (hV : VrOk s V) (q : RS) (hs : s.size ≤ 1048576) (hq : q.pos ≤ s.size) :
    ∃ (a : Int) (qa : RS), qa.pos ≤ s.size ∧ (∀ y, Calls Tryz.prog 16 #[.agg #[.string s, .int .i64 (q.pos : Int), .int .i64 q.bad], .int .i64 1] y fun e w' => e = .returned (.tuple #[.int .i64 a, .agg #[.string s, .int .i64 (qa.pos : Int), .int .i64 qa.bad]]) ∧ Below y.heap.size y w') ∧ (∀ y, Calls Tryz.prog 17 #[.agg #[.string s, .int .i64 (qa.pos : Int), .int .i64 qa.bad], .int .i64 0, .int .i64 16777215] y fun e w' => e = .returned (.tuple #[.int .i64 (rdUp s V q).1.index, .agg #[.string s, .int .i64 ((rdUp s V q).2.pos : Int), .int .i64 (rdUp s V q).2.bad]]) ∧ Below y.heap.size y w') ∧ (rdUp s V q).1.stack = (a == 1) := by
  refine ⟨((rdByte s 1 q).1 : Int), (rdByte s 1 q).2, rdByte_pos hq, fun y => l3Byte_in s 1 q y hs hq, fun y => ?_, ?_⟩
  · have := l3Number_in s V hV 0 16777215 (rdByte s 1 q).2 y hs (rdByte_pos hq)
    rw [rdNum_any hV] at this
    exact this
  · show decide ((rdByte s 1 q).1 = 1) = (((rdByte s 1 q).1 : Int) == 1)
    by_cases h : (rdByte s 1 q).1 = 1
    · simp [h]
    · have : ((rdByte s 1 q).1 : Int) ≠ 1 := by omega
      simp [h, this]
theorem rdNum_zero {s : ByteArray} {V : Nat → Option (Int × Nat)} {lo hi : Int} {r : RS} (h : (rdNum s V lo hi r).2.bad = 0) : r.bad = 0 := by
  apply Classical.byContradiction
  intro h1
  rw [rdNum_b h1] at h
  exact h1 h
theorem rdByte_zero {s : ByteArray} {hi : Nat} {r : RS} (h : (rdByte s hi r).2.bad = 0) : r.bad = 0 := by
  apply Classical.byContradiction
  intro h1
  rw [rdByte_b h1] at h
  exact h1 h
theorem rdText_zero {s : ByteArray} {V : Nat → Option (Int × Nat)} {r : RS} (h : (rdText s V r).2.bad = 0) : r.bad = 0 := by
  apply Classical.byContradiction
  intro h1
  rw [rdText_b h1] at h
  exact h1 h
theorem rdDbg_b {s : ByteArray} {V : Nat → Option (Int × Nat)} {nc nu : Nat} {r : RS} (h : r.bad ≠ 0) : (rdDbg s V nc nu r).2 = r := by
  have sA : ∀ r : RS, r.bad ≠ 0 → (rdAny s V r).2 = r := fun q h => by rw [rdAny_b h]
  have sT : ∀ r : RS, r.bad ≠ 0 → (rdText s V r).2 = r := fun q h => rdText_b h
  have sC : ∀ (all : Int) (q : RS), q.bad ≠ 0 → (rdCnt s V all q).2 = q := fun all q h => by simp [rdCnt, rdAny, h]
  unfold rdDbg
  dsimp only
  rw [sT _ h, sC _ _ h, rdSev_stay sA _ h, sC _ _ h, rdSev_stay sT _ h, RS.fail_bad h, ite_self]
/-- a prototype as the model reads it. -/
theorem rdPro_mod {s : ByteArray} {V : Nat → Option (Int × Nat)} {G : ByteArray → Int} {most lo b1 c1 k1 : Int} {a1 g1 d1 e1 f1 : Nat} {r ra rb rc rd rco re rcs rf rus rk rg : RS} {L3 : List Nat} {L4 : List VD} {L5 : List UD}
    (ea : rdByte s 1 r = (a1, ra)) (eb : rdNum s V 0 250 ra = (b1, rb)) (hlo : max 1 b1 = lo) (ec : rdNum s V lo 250 rb = (c1, rc)) (ed : rdNum s V 1 2000 rc = ((d1 : Int), rd)) (eco : (rdSev (rdWord s) d1 rd []).2 = rco) (lco : rco.bad = 0 → (rdSev (rdWord s) d1 rd []).1 = L3)
    (ee : rdNum s V 0 500 rco = ((e1 : Int), re)) (ecs : (rdSev (rdVal s V G) e1 re []).2 = rcs) (lcs : rcs.bad = 0 → (rdSev (rdVal s V G) e1 re []).1 = L4) (ef : rdNum s V 0 60 rcs = ((f1 : Int), rf)) (eus : (rdSev (rdUp s V) f1 rf []).2 = rus) (lus : rus.bad = 0 → (rdSev (rdUp s V) f1 rf []).1 = L5)
    (ek : rdNum s V 0 most rus = (k1, rk)) (eg : rdByte s 1 rk = (g1, rg)) :
    if g1 = 1 then (rdPro s V G most r).2 = (rdDbg s V L3.length L5.length rg).2 ∧ ((rdPro s V G most r).2.bad = 0 → (rdPro s V G most r).1 = ⟨b1, c1, k1, decide (a1 = 1), L3, L4, L5, (rdDbg s V L3.length L5.length rg).1.1, (rdDbg s V L3.length L5.length rg).1.2.1, (rdDbg s V L3.length L5.length rg).1.2.2⟩)
    else (rdPro s V G most r).2 = rg ∧ ((rdPro s V G most r).2.bad = 0 → (rdPro s V G most r).1 = ⟨b1, c1, k1, decide (a1 = 1), L3, L4, L5, ⟨#[]⟩, [], []⟩) := by
  subst hlo
  have h0 : rdPro s V G most r = (⟨b1, c1, k1, decide (a1 = 1), (rdSev (rdWord s) d1 rd []).1, (rdSev (rdVal s V G) e1 re []).1, (rdSev (rdUp s V) f1 rf []).1, (if g1 = 1 then rdDbg s V (rdSev (rdWord s) d1 rd []).1.length (rdSev (rdUp s V) f1 rf []).1.length rg else ((⟨#[]⟩, [], []), rg)).1.1, (if g1 = 1 then rdDbg s V (rdSev (rdWord s) d1 rd []).1.length (rdSev (rdUp s V) f1 rf []).1.length rg else ((⟨#[]⟩, [], []), rg)).1.2.1, (if g1 = 1 then rdDbg s V (rdSev (rdWord s) d1 rd []).1.length (rdSev (rdUp s V) f1 rf []).1.length rg else ((⟨#[]⟩, [], []), rg)).1.2.2⟩, (if g1 = 1 then rdDbg s V (rdSev (rdWord s) d1 rd []).1.length (rdSev (rdUp s V) f1 rf []).1.length rg else ((⟨#[]⟩, [], []), rg)).2) := by
    simp only [rdPro, ea, eb, ec, ed, eco, ee, ecs, ef, eus, ek, eg, Int.toNat_natCast]
  have hz : rg.bad = 0 → (rdSev (rdWord s) d1 rd []).1 = L3 ∧ (rdSev (rdVal s V G) e1 re []).1 = L4 ∧ (rdSev (rdUp s V) f1 rf []).1 = L5 := fun h => by
    have h1 : rk.bad = 0 := rdByte_zero (s := s) (hi := 1) (by rw [eg]; exact h)
    have h2 : rus.bad = 0 := rdNum_zero (s := s) (V := V) (by rw [ek]; exact h1)
    have h3 : rf.bad = 0 := rdSev_zero (fun q h => rdUp_b h) (by rw [eus]; exact h2)
    have h4 : rcs.bad = 0 := rdNum_zero (s := s) (V := V) (by rw [ef]; exact h3)
    have h5 : re.bad = 0 := rdSev_zero (fun q h => rdVal_b h) (by rw [ecs]; exact h4)
    have h6 : rco.bad = 0 := rdNum_zero (s := s) (V := V) (by rw [ee]; exact h5)
    exact ⟨lco h6, lcs h4, lus h2⟩
  by_cases hg : g1 = 1
  · rw [if_pos hg]
    simp only [if_pos hg] at h0
    by_cases h : rg.bad = 0
    · obtain ⟨z3, z4, z5⟩ := hz h
      rw [z3, z4, z5] at h0
      rw [h0]
      exact ⟨rfl, fun _ => rfl⟩
    · rw [h0]
      dsimp only
      rw [rdDbg_b h, rdDbg_b h]
      exact ⟨rfl, fun h1 => absurd h1 h⟩
  · rw [if_neg hg]
    simp only [if_neg hg] at h0
    by_cases h : rg.bad = 0
    · obtain ⟨z3, z4, z5⟩ := hz h
      rw [z3, z4, z5] at h0
      rw [h0]
      exact ⟨rfl, fun _ => rfl⟩
    · rw [h0]
      exact ⟨rfl, fun h1 => absurd h1 h⟩
theorem below_sets {n g : Nat} {w : World} (hg : n ≤ g) : ∀ (vs : List Value) (o : Nat) {b : World}, Below n w b → Below n w (b.setCells g o vs)
  | [], _, _, h => h
  | v :: vs, o, b, h => below_sets hg vs (o + 1) (Below.setCell h (p := ⟨g, o, none⟩) hg v)
theorem flag_eq {a : Nat} {z : Int} (h : (a : Int) = z) : (z == 1) = decide (a = 1) := by
  subst h
  by_cases h : a = 1
  · simp [h]
  · have : (a : Int) ≠ 1 := by omega
    simp [h, this]
theorem l3ReadProto_in (s : ByteArray) (V : Nat → Option (Int × Nat)) (hV : VrOk s V) (G : ByteArray → Int) (hG : GiOk G) (r : RS) (most : Int) (w : World) (hs : s.size ≤ 1048576) (hp : r.pos ≤ s.size) :
    Calls Tryz.prog 9 #[rV s r, .int .i64 most] w fun e w' => (∃ (i0 i2 i6 : Int) (b1 : Bool) (t : ByteArray) (o3 o4 o5 o8 o9 : Option Addr) (n3 n4 n5 n8 n9 k3 k4 k5 k8 k9 : Nat), e = .returned (.tuple #[.agg #[.int .i64 i0, .bool b1, .int .i64 i2, .slice o3 n3 k3, .slice o4 n4 k4, .slice o5 n5 k5, .int .i64 i6, .string t, .slice o8 n8 k8, .slice o9 n9 k9], rV s (rdPro s V G most r).2]) ∧
      ((rdPro s V G most r).2.bad = 0 → (i0 = (rdPro s V G most r).1.params ∧ b1 = (rdPro s V G most r).1.vararg ∧ i2 = (rdPro s V G most r).1.regs ∧ i6 = (rdPro s V G most r).1.kids ∧ t = (rdPro s V G most r).1.name) ∧ MRow w.heap.size w' (.slice o3 n3 k3) (.slice o4 n4 k4) (.slice o5 n5 k5) (.slice o8 n8 k8) (.slice o9 n9 k9) (rdPro s V G most r).1)) ∧ Below w.heap.size w w' := by
  unfold rV
  generalize hD : rdPro s V G most r = D
  replace hD := hidR hD
  go_enter Tryz.func9, Tryz.ntmps9
  go_upto_region 2 with fail
  have hR : RowL ((((w.alloc (.cells #[.string s, .int .i64 (r.pos : Int), .int .i64 r.bad] 31)).alloc (.cells #[.int .i64 0, .bool false, .int .i64 0, .slice none 0 0, .slice none 0 0, .slice none 0 0, .int .i64 0, .string ⟨#[]⟩, .slice none 0 0, .slice none 0 0] 38)).alloc (.cells #[.string ⟨#[]⟩, .int .i64 0, .int .i64 0] 31)).alloc (.cells #[.int .i64 0, .bool false, .int .i64 0, .slice none 0 0, .slice none 0 0, .slice none 0 0, .int .i64 0, .string ⟨#[]⟩, .slice none 0 0, .slice none 0 0] 38)) w.heap.size 31 (rC s r) := (((RowL.new w (rC s r) 31).alloc _).alloc _).alloc _
  have hA : RowL ((((w.alloc (.cells #[.string s, .int .i64 (r.pos : Int), .int .i64 r.bad] 31)).alloc (.cells #[.int .i64 0, .bool false, .int .i64 0, .slice none 0 0, .slice none 0 0, .slice none 0 0, .int .i64 0, .string ⟨#[]⟩, .slice none 0 0, .slice none 0 0] 38)).alloc (.cells #[.string ⟨#[]⟩, .int .i64 0, .int .i64 0] 31)).alloc (.cells #[.int .i64 0, .bool false, .int .i64 0, .slice none 0 0, .slice none 0 0, .slice none 0 0, .int .i64 0, .string ⟨#[]⟩, .slice none 0 0, .slice none 0 0] 38)) (w.heap.size + 1) 38 [.int .i64 0, .bool false, .int .i64 0, .slice none 0 0, .slice none 0 0, .slice none 0 0, .int .i64 0, .string ⟨#[]⟩, .slice none 0 0, .slice none 0 0] := by
    have := ((RowL.new (w.alloc (.cells #[.string s, .int .i64 (r.pos : Int), .int .i64 r.bad] 31)) [.int .i64 0, .bool false, .int .i64 0, .slice none 0 0, .slice none 0 0, .slice none 0 0, .int .i64 0, .string ⟨#[]⟩, .slice none 0 0, .slice none 0 0] 38).alloc (.cells #[.string ⟨#[]⟩, .int .i64 0, .int .i64 0] 31)).alloc (.cells #[.int .i64 0, .bool false, .int .i64 0, .slice none 0 0, .slice none 0 0, .slice none 0 0, .int .i64 0, .string ⟨#[]⟩, .slice none 0 0, .slice none 0 0] 38)
    rw [World.size_alloc] at this
    exact this
  have hB : RowL ((((w.alloc (.cells #[.string s, .int .i64 (r.pos : Int), .int .i64 r.bad] 31)).alloc (.cells #[.int .i64 0, .bool false, .int .i64 0, .slice none 0 0, .slice none 0 0, .slice none 0 0, .int .i64 0, .string ⟨#[]⟩, .slice none 0 0, .slice none 0 0] 38)).alloc (.cells #[.string ⟨#[]⟩, .int .i64 0, .int .i64 0] 31)).alloc (.cells #[.int .i64 0, .bool false, .int .i64 0, .slice none 0 0, .slice none 0 0, .slice none 0 0, .int .i64 0, .string ⟨#[]⟩, .slice none 0 0, .slice none 0 0] 38)) (w.heap.size + 1 + 1) 31 (rC ⟨#[]⟩ ⟨0, 0⟩) := by
    have := (RowL.new ((w.alloc (.cells #[.string s, .int .i64 (r.pos : Int), .int .i64 r.bad] 31)).alloc (.cells #[.int .i64 0, .bool false, .int .i64 0, .slice none 0 0, .slice none 0 0, .slice none 0 0, .int .i64 0, .string ⟨#[]⟩, .slice none 0 0, .slice none 0 0] 38)) (rC ⟨#[]⟩ ⟨0, 0⟩) 31).alloc (.cells #[.int .i64 0, .bool false, .int .i64 0, .slice none 0 0, .slice none 0 0, .slice none 0 0, .int .i64 0, .string ⟨#[]⟩, .slice none 0 0, .slice none 0 0] 38)
    simp only [World.size_alloc] at this
    exact this
  have hP : RowL ((((w.alloc (.cells #[.string s, .int .i64 (r.pos : Int), .int .i64 r.bad] 31)).alloc (.cells #[.int .i64 0, .bool false, .int .i64 0, .slice none 0 0, .slice none 0 0, .slice none 0 0, .int .i64 0, .string ⟨#[]⟩, .slice none 0 0, .slice none 0 0] 38)).alloc (.cells #[.string ⟨#[]⟩, .int .i64 0, .int .i64 0] 31)).alloc (.cells #[.int .i64 0, .bool false, .int .i64 0, .slice none 0 0, .slice none 0 0, .slice none 0 0, .int .i64 0, .string ⟨#[]⟩, .slice none 0 0, .slice none 0 0] 38)) (w.heap.size + 1 + 1 + 1) 38 [.int .i64 0, .bool false, .int .i64 0, .slice none 0 0, .slice none 0 0, .slice none 0 0, .int .i64 0, .string ⟨#[]⟩, .slice none 0 0, .slice none 0 0] := by
    have := RowL.new (((w.alloc (.cells #[.string s, .int .i64 (r.pos : Int), .int .i64 r.bad] 31)).alloc (.cells #[.int .i64 0, .bool false, .int .i64 0, .slice none 0 0, .slice none 0 0, .slice none 0 0, .int .i64 0, .string ⟨#[]⟩, .slice none 0 0, .slice none 0 0] 38)).alloc (.cells #[.string ⟨#[]⟩, .int .i64 0, .int .i64 0] 31)) [.int .i64 0, .bool false, .int .i64 0, .slice none 0 0, .slice none 0 0, .slice none 0 0, .int .i64 0, .string ⟨#[]⟩, .slice none 0 0, .slice none 0 0] 38
    simp only [World.size_alloc] at this
    exact this
  have bw : Below w.heap.size w ((((w.alloc (.cells #[.string s, .int .i64 (r.pos : Int), .int .i64 r.bad] 31)).alloc (.cells #[.int .i64 0, .bool false, .int .i64 0, .slice none 0 0, .slice none 0 0, .slice none 0 0, .int .i64 0, .string ⟨#[]⟩, .slice none 0 0, .slice none 0 0] 38)).alloc (.cells #[.string ⟨#[]⟩, .int .i64 0, .int .i64 0] 31)).alloc (.cells #[.int .i64 0, .bool false, .int .i64 0, .slice none 0 0, .slice none 0 0, .slice none 0 0, .int .i64 0, .string ⟨#[]⟩, .slice none 0 0, .slice none 0 0] 38)) := by go_grown
  have hz : ((((w.alloc (.cells #[.string s, .int .i64 (r.pos : Int), .int .i64 r.bad] 31)).alloc (.cells #[.int .i64 0, .bool false, .int .i64 0, .slice none 0 0, .slice none 0 0, .slice none 0 0, .int .i64 0, .string ⟨#[]⟩, .slice none 0 0, .slice none 0 0] 38)).alloc (.cells #[.string ⟨#[]⟩, .int .i64 0, .int .i64 0] 31)).alloc (.cells #[.int .i64 0, .bool false, .int .i64 0, .slice none 0 0, .slice none 0 0, .slice none 0 0, .int .i64 0, .string ⟨#[]⟩, .slice none 0 0, .slice none 0 0] 38)).heap.size = w.heap.size + 4 := by simp only [World.size_alloc]
  generalize ((((w.alloc (.cells #[.string s, .int .i64 (r.pos : Int), .int .i64 r.bad] 31)).alloc (.cells #[.int .i64 0, .bool false, .int .i64 0, .slice none 0 0, .slice none 0 0, .slice none 0 0, .int .i64 0, .string ⟨#[]⟩, .slice none 0 0, .slice none 0 0] 38)).alloc (.cells #[.string ⟨#[]⟩, .int .i64 0, .int .i64 0] 31)).alloc (.cells #[.int .i64 0, .bool false, .int .i64 0, .slice none 0 0, .slice none 0 0, .slice none 0 0, .int .i64 0, .string ⟨#[]⟩, .slice none 0 0, .slice none 0 0] 38)) = y0 at hR hP hA hB bw hz ⊢
  replace hA := hidR hA
  replace hB := hidR hB
  replace bw := hidR bw
  have X := Ex2.refl w.heap.size (w.heap.size + 1 + 1 + 1) y0
  have h1 : Hid (∀ y, Calls Tryz.prog 16 #[rV s r, .int .i64 1] y fun e w' => e = .returned (.tuple #[.int .i64 ((rdByte s 1 r).1 : Int), rV s (rdByte s 1 r).2]) ∧ Below y.heap.size y w') := fun y => l3Byte_in s 1 r y hs hp
  have pa := rdByte_pos (hi := 1) hp
  obtain ⟨x, ea⟩ : ∃ x, rdByte s 1 r = x := ⟨_, rfl⟩
  rw [ea] at h1 pa
  obtain ⟨a1, ra⟩ := x
  dsimp only at h1 pa
  replace ea := hidR ea
  obtain ⟨a1I, ha1I⟩ : ∃ z : Int, (a1 : Int) = z := ⟨_, rfl⟩
  rw [ha1I] at h1
  unfold rV at h1
  have c0 := hR.cell 0 rfl
  have c1 := hR.cell 1 rfl
  have c2 := hR.cell 2 rfl
  have cf := hR.frozen
  have hq1 := hR.lt
  replace hR := hidR hR
  replace hP := hidR hP
  go_wp2_with fail
  refine Calls.mono (h1.out y0) ?_
  rintro e y1 ⟨rfl, b9⟩
  replace hR := hR.out.call b9
  replace hP := hP.out.call b9
  replace X := X.trans (Ex2.below b9)
  clear b9 c0 c1 c2 cf hq1
  have c0 := hR.cell 0 rfl
  have c1 := hR.cell 1 rfl
  have c2 := hR.cell 2 rfl
  have cf := hR.frozen
  have hq1 := hR.lt
  replace hR := hidR (rC_put hR ra)
  replace hP := hidR (hP.put (R := w.heap.size) (by omega) (.string s) (.int .i64 (ra.pos : Int)) (.int .i64 ra.bad))
  replace X := X.put (.string s) (.int .i64 (ra.pos : Int)) (.int .i64 ra.bad)
  go_upto_region 4 with fail
  clear c0 c1 c2 cf hq1 h1
  generalize ((y1.setCell ⟨w.heap.size, 0, none⟩ (.string s)).setCell ⟨w.heap.size, 1, none⟩ (.int .i64 (ra.pos : Int))).setCell ⟨w.heap.size, 2, none⟩ (.int .i64 ra.bad) = y2 at hR hP X  ⊢
  replace hR := hR.out
  replace hP := hP.out
  have f7 := hP.frozen 1
  have e7 := hP.cell 1 rfl
  have hq2 := hP.lt
  replace hP := hidR (hP.set 1 (.bool (a1I == 1)))
  replace hR := hidR (hR.other (a := ⟨(w.heap.size + 1 + 1 + 1), 1, none⟩) (show w.heap.size ≠ (w.heap.size + 1 + 1 + 1) by omega) (.bool (a1I == 1)))
  replace X := X.set 1 (.bool (a1I == 1))
  go_upto_region 5 with fail
  clear f7 e7 hq2
  generalize y2.setCell ⟨(w.heap.size + 1 + 1 + 1), 1, none⟩ (.bool (a1I == 1)) = y3 at hR hP X  ⊢
  replace hR := hR.out
  replace hP : RowL y3 (w.heap.size + 1 + 1 + 1) 38 [.int .i64 0, .bool (a1I == 1), .int .i64 0, .slice none 0 0, .slice none 0 0, .slice none 0 0, .int .i64 0, .string ⟨#[]⟩, .slice none 0 0, .slice none 0 0] := hP.out
  have h1 : Hid (∀ y, Calls Tryz.prog 17 #[rV s ra, .int .i64 0, .int .i64 250] y fun e w' => e = .returned (.tuple #[.int .i64 (rdNum s V 0 250 ra).1, rV s (rdNum s V 0 250 ra).2]) ∧ Below y.heap.size y w') := fun y => l3Number_in s V hV 0 250 ra y hs pa
  have pb := rdNum_pos (lo := 0) (hi := 250) hV pa
  obtain ⟨x, eb⟩ : ∃ x, rdNum s V 0 250 ra = x := ⟨_, rfl⟩
  rw [eb] at h1 pb
  obtain ⟨b1, rb⟩ := x
  dsimp only at h1 pb
  replace eb := hidR eb
  unfold rV at h1
  have c0 := hR.cell 0 rfl
  have c1 := hR.cell 1 rfl
  have c2 := hR.cell 2 rfl
  have cf := hR.frozen
  have hq1 := hR.lt
  replace hR := hidR hR
  replace hP := hidR hP
  go_wp2_with fail
  refine Calls.mono (h1.out y3) ?_
  rintro e y4 ⟨rfl, b9⟩
  replace hR := hR.out.call b9
  replace hP := hP.out.call b9
  replace X := X.trans (Ex2.below b9)
  clear b9 c0 c1 c2 cf hq1
  have c0 := hR.cell 0 rfl
  have c1 := hR.cell 1 rfl
  have c2 := hR.cell 2 rfl
  have cf := hR.frozen
  have hq1 := hR.lt
  replace hR := hidR (rC_put hR rb)
  replace hP := hidR (hP.put (R := w.heap.size) (by omega) (.string s) (.int .i64 (rb.pos : Int)) (.int .i64 rb.bad))
  replace X := X.put (.string s) (.int .i64 (rb.pos : Int)) (.int .i64 rb.bad)
  go_upto_region 6 with fail
  clear c0 c1 c2 cf hq1 h1
  generalize ((y4.setCell ⟨w.heap.size, 0, none⟩ (.string s)).setCell ⟨w.heap.size, 1, none⟩ (.int .i64 (rb.pos : Int))).setCell ⟨w.heap.size, 2, none⟩ (.int .i64 rb.bad) = y5 at hR hP X  ⊢
  replace hR := hR.out
  replace hP := hP.out
  have f7 := hP.frozen 0
  have e7 := hP.cell 0 rfl
  have hq2 := hP.lt
  replace hP := hidR (hP.set 0 (.int .i64 b1))
  replace hR := hidR (hR.other (a := ⟨(w.heap.size + 1 + 1 + 1), 0, none⟩) (show w.heap.size ≠ (w.heap.size + 1 + 1 + 1) by omega) (.int .i64 b1))
  replace X := X.set 0 (.int .i64 b1)
  go_upto_region 7 with fail
  clear f7 e7 hq2
  generalize y5.setCell ⟨(w.heap.size + 1 + 1 + 1), 0, none⟩ (.int .i64 b1) = y6 at hR hP X  ⊢
  replace hR := hR.out
  replace hP : RowL y6 (w.heap.size + 1 + 1 + 1) 38 [.int .i64 b1, .bool (a1I == 1), .int .i64 0, .slice none 0 0, .slice none 0 0, .slice none 0 0, .int .i64 0, .string ⟨#[]⟩, .slice none 0 0, .slice none 0 0] := hP.out
  replace hR := hidR hR
  replace hP := hidR hP
  go_upto_if 33 with fail
  go_cut [10] from 16 (fun sx wr => y6 = wr ∧ sx = .int .i64 (max 1 b1))
  case first =>
    by_cases hb1 : 1 < b1
    · have hm : max 1 b1 = b1 := by omega
      go_wp2_with fail
      go_meet
      case rel => exact ⟨rfl, by rw [hm]⟩
    · have hm : max 1 b1 = 1 := by omega
      go_wp2_with fail
      go_meet
      case rel => exact ⟨rfl, by rw [hm]⟩
  obtain ⟨hw9, hs9⟩ := hcut
  subst hw9
  subst hs9
  replace hR := hR.out
  replace hP := hP.out
  obtain ⟨lo, hlo⟩ : ∃ z : Int, max 1 b1 = z := ⟨_, rfl⟩
  rw [hlo]
  have h1 : Hid (∀ y, Calls Tryz.prog 17 #[rV s rb, .int .i64 lo, .int .i64 250] y fun e w' => e = .returned (.tuple #[.int .i64 (rdNum s V lo 250 rb).1, rV s (rdNum s V lo 250 rb).2]) ∧ Below y.heap.size y w') := fun y => l3Number_in s V hV lo 250 rb y hs pb
  have pc := rdNum_pos (lo := lo) (hi := 250) hV pb
  obtain ⟨x, ec⟩ : ∃ x, rdNum s V lo 250 rb = x := ⟨_, rfl⟩
  rw [ec] at h1 pc
  obtain ⟨c1, rc⟩ := x
  dsimp only at h1 pc
  replace ec := hidR ec
  unfold rV at h1
  have c0 := hR.cell 0 rfl
  have c1 := hR.cell 1 rfl
  have c2 := hR.cell 2 rfl
  have cf := hR.frozen
  have hq1 := hR.lt
  replace hR := hidR hR
  replace hP := hidR hP
  go_upto_region 10 with fail
  go_wp2_with fail
  refine Calls.mono (h1.out y6) ?_
  rintro e y7 ⟨rfl, b9⟩
  replace hR := hR.out.call b9
  replace hP := hP.out.call b9
  replace X := X.trans (Ex2.below b9)
  clear b9 c0 c1 c2 cf hq1
  have c0 := hR.cell 0 rfl
  have c1 := hR.cell 1 rfl
  have c2 := hR.cell 2 rfl
  have cf := hR.frozen
  have hq1 := hR.lt
  replace hR := hidR (rC_put hR rc)
  replace hP := hidR (hP.put (R := w.heap.size) (by omega) (.string s) (.int .i64 (rc.pos : Int)) (.int .i64 rc.bad))
  replace X := X.put (.string s) (.int .i64 (rc.pos : Int)) (.int .i64 rc.bad)
  go_upto_region 11 with fail
  clear c0 c1 c2 cf hq1 h1
  generalize ((y7.setCell ⟨w.heap.size, 0, none⟩ (.string s)).setCell ⟨w.heap.size, 1, none⟩ (.int .i64 (rc.pos : Int))).setCell ⟨w.heap.size, 2, none⟩ (.int .i64 rc.bad) = y8 at hR hP X  ⊢
  replace hR := hR.out
  replace hP := hP.out
  have f7 := hP.frozen 2
  have e7 := hP.cell 2 rfl
  have hq2 := hP.lt
  replace hP := hidR (hP.set 2 (.int .i64 c1))
  replace hR := hidR (hR.other (a := ⟨(w.heap.size + 1 + 1 + 1), 2, none⟩) (show w.heap.size ≠ (w.heap.size + 1 + 1 + 1) by omega) (.int .i64 c1))
  replace X := X.set 2 (.int .i64 c1)
  go_upto_region 12 with fail
  clear f7 e7 hq2
  generalize y8.setCell ⟨(w.heap.size + 1 + 1 + 1), 2, none⟩ (.int .i64 c1) = y9 at hR hP X  ⊢
  replace hR := hR.out
  replace hP : RowL y9 (w.heap.size + 1 + 1 + 1) 38 [.int .i64 b1, .bool (a1I == 1), .int .i64 c1, .slice none 0 0, .slice none 0 0, .slice none 0 0, .int .i64 0, .string ⟨#[]⟩, .slice none 0 0, .slice none 0 0] := hP.out
  have h1 : Hid (∀ y, Calls Tryz.prog 17 #[rV s rc, .int .i64 1, .int .i64 2000] y fun e w' => e = .returned (.tuple #[.int .i64 (rdNum s V 1 2000 rc).1, rV s (rdNum s V 1 2000 rc).2]) ∧ Below y.heap.size y w') := fun y => l3Number_in s V hV 1 2000 rc y hs pc
  have pd := rdNum_pos (lo := 1) (hi := 2000) hV pc
  have bdd1 := rdNum_bd (s := s) (V := V) (lo := 1) (hi := 2000) rc (by omega) (by omega)
  obtain ⟨x, ed⟩ : ∃ x, rdNum s V 1 2000 rc = x := ⟨_, rfl⟩
  rw [ed] at h1 pd bdd1
  obtain ⟨d1, rd⟩ := x
  dsimp only at h1 pd bdd1
  obtain ⟨d1, rfl⟩ : ∃ k : Nat, d1 = (k : Int) := ⟨d1.toNat, by omega⟩
  replace ed := hidR ed
  unfold rV at h1
  have c0 := hR.cell 0 rfl
  have c1 := hR.cell 1 rfl
  have c2 := hR.cell 2 rfl
  have cf := hR.frozen
  have hq1 := hR.lt
  replace hR := hidR hR
  replace hP := hidR hP
  go_wp2_with fail
  refine Calls.mono (h1.out y9) ?_
  rintro e y10 ⟨rfl, b9⟩
  replace hR := hR.out.call b9
  replace hP := hP.out.call b9
  replace X := X.trans (Ex2.below b9)
  clear b9 c0 c1 c2 cf hq1
  have c0 := hR.cell 0 rfl
  have c1 := hR.cell 1 rfl
  have c2 := hR.cell 2 rfl
  have cf := hR.frozen
  have hq1 := hR.lt
  replace hR := hidR (rC_put hR rd)
  replace hP := hidR (hP.put (R := w.heap.size) (by omega) (.string s) (.int .i64 (rd.pos : Int)) (.int .i64 rd.bad))
  replace X := X.put (.string s) (.int .i64 (rd.pos : Int)) (.int .i64 rd.bad)
  go_upto_region 13 with fail
  clear c0 c1 c2 cf hq1 h1
  generalize ((y10.setCell ⟨w.heap.size, 0, none⟩ (.string s)).setCell ⟨w.heap.size, 1, none⟩ (.int .i64 (rd.pos : Int))).setCell ⟨w.heap.size, 2, none⟩ (.int .i64 rd.bad) = y11 at hR hP X  ⊢
  replace hR := hR.out
  replace hP := hP.out
  obtain ⟨i9, hi, hz0, hz1, hz2⟩ := info_of infCode
  have hzy := X.size
  have hone : Hid (∀ q : RS, q.pos ≤ s.size → ∀ y, Calls Tryz.prog 18 #[.agg #[.string s, .int .i64 (q.pos : Int), .int .i64 q.bad], .int .i64 4] y fun e w' => (∃ u : ByteArray, e = .returned (.tuple #[.string u, .agg #[.string s, .int .i64 ((rdWord s q).2.pos : Int), .int .i64 (rdWord s q).2.bad]]) ∧ ((rdWord s q).2.bad = 0 → u.size = 4 ∧ (rdWord s q).1 = le4 u 0)) ∧ Below y.heap.size y w') := fun q hq y => word_model s q y hs hq
  have hpos : Hid (∀ q : RS, q.pos ≤ s.size → (rdWord s q).2.pos ≤ s.size) := fun q hq => rdWord_pos hq
  replace hR := hidR hR
  replace hP := hidR hP
  go_upto_region 13 with fail
  go_cut [11] from 16 (fun sx wr => y11 = wr ∧ sx = .int .i64 0)
  case first =>
    go_wp2_with fail
    go_meet
    case rel => exact ⟨rfl, rfl⟩
  obtain ⟨hw9, hs9⟩ := hcut
  subst hw9
  subst hs9
  first | go_upon | go_back | go_step
  go_cut [] from 16 (fun wr => ∃ (M : List Nat) (q : RS) (v : Value), Hid (q.pos ≤ s.size ∧ RowL wr w.heap.size 31 (rC s q) ∧ RowL wr (w.heap.size + 1 + 1 + 1) 38 [.int .i64 b1, .bool (a1I == 1), .int .i64 c1, v, .slice none 0 0, .slice none 0 0, .int .i64 0, .string ⟨#[]⟩, .slice none 0 0, .slice none 0 0] ∧ wr.ownsRow y11.heap.size 57 1 v M.length (M.flatMap cCode) ∧ Ex2 w.heap.size (w.heap.size + 1 + 1 + 1) y11 wr ∧ (rdSev (rdWord s) d1 rd []).2 = q ∧ (q.bad = 0 → (rdSev (rdWord s) d1 rd []).1 = M) ∧ M.length ≤ d1))
  case first =>
    go_wp2_with fail
    go_loopw [11] (fun iv wr => ∃ (k : Nat) (M : List Nat) (q : RS) (v : Value), iv = .int .i64 (k : Int) ∧ k ≤ d1 ∧ Hid (q.pos ≤ s.size ∧ RowL wr w.heap.size 31 (rC s q) ∧ RowL wr (w.heap.size + 1 + 1 + 1) 38 [.int .i64 b1, .bool (a1I == 1), .int .i64 c1, v, .slice none 0 0, .slice none 0 0, .int .i64 0, .string ⟨#[]⟩, .slice none 0 0, .slice none 0 0] ∧ wr.ownsRow y11.heap.size 57 1 v M.length (M.flatMap cCode) ∧ Ex2 w.heap.size (w.heap.size + 1 + 1 + 1) y11 wr ∧ SevAt (rdWord s) d1 rd k q M)) (fun iv _ => d1 - (intOf iv).toNat)
    case atStart => exact ⟨0, [], rd, .slice none 0 0, rfl, Nat.zero_le _, pd, hR.out, hP.out, World.ownsRow_nil _ _ _ _, Ex2.refl _ _ _, SevAt.start (fun q h => rdWord_b h) _ _⟩
    case round =>
      obtain ⟨k, M, q, v, rfl, hk, hq⟩ := hrel
      clear hR hP
      by_cases hkn : k < d1
      · have hkI : (k : Int) < (d1 : Int) := by omega
        by_cases hb : q.bad = 0
        · obtain ⟨qp, qb⟩ := q
          dsimp only at hb
          subst hb
          have hc := hidR (hone.out ⟨qp, 0⟩ hq.out.1)
          have hp9 := hpos.out ⟨qp, 0⟩ hq.out.1
          obtain ⟨xx, hx⟩ : ∃ x, rdWord s ⟨qp, 0⟩ = x := ⟨_, rfl⟩
          rw [hx] at hc hp9
          obtain ⟨x, q1⟩ := xx
          dsimp only at hc hp9
          replace hx := hidR hx
          have hR := hq.out.2.1
          have hP := hq.out.2.2.1
          obtain ⟨oa9, ka9, rfl⟩ := own_slice hq.out.2.2.2.1
          have hown := hidR hq.out.2.2.2.1
          have X2 := hq.out.2.2.2.2.1
          have hsv := hidR hq.out.2.2.2.2.2
          have hMk : M.length ≤ k := hsv.out.2.2
          have hMn : M.length ≤ 16777215 := by omega
          clear hq hone hpos
          have c0 := hR.cell 0 rfl
          have c1 := hR.cell 1 rfl
          have c2 := hR.cell 2 rfl
          have cf := hR.frozen
          have hq1 := hR.lt
          replace hR := hidR hR
          replace hP := hidR hP
          go_wp2_with fail
          refine Calls.mono (hc.out _) ?_
          rintro e y8 ⟨⟨u, rfl, hu⟩, b9⟩
          replace hR := hR.out.call b9
          replace hP := hP.out.call b9
          replace X2 := X2.trans (Ex2.below b9)
          replace hown := hidR (own_ex2 (R := w.heap.size) (P := (w.heap.size + 1 + 1 + 1)) hown.out (by omega) (by omega) (Ex2.below b9))
          clear b9 c0 c1 c2 cf hq1
          have c0 := hR.cell 0 rfl
          have c1 := hR.cell 1 rfl
          have c2 := hR.cell 2 rfl
          have cf := hR.frozen
          have hq1 := hR.lt
          replace hR := hidR (rC_put hR q1)
          replace hP := hidR (hP.put (R := w.heap.size) (by omega) (.string s) (.int .i64 (q1.pos : Int)) (.int .i64 q1.bad))
          replace X2 := X2.put (.string s) (.int .i64 (q1.pos : Int)) (.int .i64 q1.bad)
          replace hown := hidR (own_ex2 (R := w.heap.size) (P := (w.heap.size + 1 + 1 + 1)) hown.out (by omega) (by omega) ((Ex2.refl _ _ _).put (.string s) (.int .i64 (q1.pos : Int)) (.int .i64 q1.bad)))
          go_upto_region 18 with fail
          clear c0 c1 c2 cf hq1 hc
          generalize ((y8.setCell ⟨w.heap.size, 0, none⟩ (.string s)).setCell ⟨w.heap.size, 1, none⟩ (.int .i64 (q1.pos : Int))).setCell ⟨w.heap.size, 2, none⟩ (.int .i64 q1.bad) = y9 at hR hP X2 hown ⊢
          by_cases hq0 : q1.bad = 0
          · obtain ⟨q1p, q1b⟩ := q1
            dsimp only at hq0
            subst hq0
            have c2 := hR.out.cell 2 rfl
            have cf := hR.out.frozen
            obtain ⟨hu4, hux⟩ := hu rfl
            clear hu
            go_upto_region 19 with fail
            clear c2 cf
            have hu0 : (0 : Int) < (u.size : Int) := by omega
            have hu1 : (1 : Int) < (u.size : Int) := by omega
            have hu2 : (2 : Int) < (u.size : Int) := by omega
            have hu3 : (3 : Int) < (u.size : Int) := by omega
            obtain ⟨x0, g0⟩ : ∃ z : Nat, (u[0]'(by omega)).toNat = z := ⟨_, rfl⟩
            obtain ⟨x1, g1⟩ : ∃ z : Nat, (u[1]'(by omega)).toNat = z := ⟨_, rfl⟩
            obtain ⟨x2, g2⟩ : ∃ z : Nat, (u[2]'(by omega)).toNat = z := ⟨_, rfl⟩
            obtain ⟨x3, g3⟩ : ∃ z : Nat, (u[3]'(by omega)).toNat = z := ⟨_, rfl⟩
            have l0 : x0 < 256 := by rw [← g0]; exact UInt8.toNat_lt _
            have l1 : x1 < 256 := by rw [← g1]; exact UInt8.toNat_lt _
            have l2 : x2 < 256 := by rw [← g2]; exact UInt8.toNat_lt _
            have l3 : x3 < 256 := by rw [← g3]; exact UInt8.toNat_lt _
            have hxx : Hid (x = x0 + x1 * 256 + x2 * 65536 + x3 * 16777216) := by
              show x = x0 + x1 * 256 + x2 * 65536 + x3 * 16777216
              rw [hux, le4, ← get_bang u 0 (by omega), ← get_bang u 1 (by omega), ← get_bang u 2 (by omega), ← get_bang u 3 (by omega), g0, g1, g2, g3]
              omega
            clear hux
            have W0 : IntKind.u32.wrap (x0 : Int) = (x0 : Int) := by simp [IntKind.wrap, IntKind.bits, IntKind.signed]; omega
            have W1 : IntKind.u32.wrap (x1 : Int) = (x1 : Int) := by simp [IntKind.wrap, IntKind.bits, IntKind.signed]; omega
            have W2 : IntKind.u32.wrap (x2 : Int) = (x2 : Int) := by simp [IntKind.wrap, IntKind.bits, IntKind.signed]; omega
            have W3 : IntKind.u32.wrap (x3 : Int) = (x3 : Int) := by simp [IntKind.wrap, IntKind.bits, IntKind.signed]; omega
            have W4 : IntKind.u32.wrap ((x1 : Int) * 256) = (x1 : Int) * 256 := by simp [IntKind.wrap, IntKind.bits, IntKind.signed]; omega
            have W5 : IntKind.u32.wrap ((x0 : Int) + (x1 : Int) * 256) = (x0 : Int) + (x1 : Int) * 256 := by simp [IntKind.wrap, IntKind.bits, IntKind.signed]; omega
            have W6 : IntKind.u32.wrap ((x2 : Int) * 65536) = (x2 : Int) * 65536 := by simp [IntKind.wrap, IntKind.bits, IntKind.signed]; omega
            have W7 : IntKind.u32.wrap ((x0 : Int) + (x1 : Int) * 256 + (x2 : Int) * 65536) = (x0 : Int) + (x1 : Int) * 256 + (x2 : Int) * 65536 := by simp [IntKind.wrap, IntKind.bits, IntKind.signed]; omega
            have W8 : IntKind.u32.wrap ((x3 : Int) * 16777216) = (x3 : Int) * 16777216 := by simp [IntKind.wrap, IntKind.bits, IntKind.signed]; omega
            have W9 : IntKind.u32.wrap ((x0 : Int) + (x1 : Int) * 256 + (x2 : Int) * 65536 + (x3 : Int) * 16777216) = (x0 : Int) + (x1 : Int) * 256 + (x2 : Int) * 65536 + (x3 : Int) * 16777216 := by simp [IntKind.wrap, IntKind.bits, IntKind.signed]; omega
            replace hR := hidR (hR.out.call (Below.refl _ _).drew)
            replace hP := hidR (hP.out.call (Below.refl _ _).drew)
            replace X2 := hidR (X2.trans (Ex2.below (Below.refl _ _).drew))
            replace hown := hidR (own_ex2 (R := w.heap.size) (P := (w.heap.size + 1 + 1 + 1)) hown.out (by omega) (by omega) (Ex2.below (Below.refl _ _).drew))
            refine wp_region_held_drew (S := fun _ => True) (by kernel_rfl) trivial (fun hH => ?_)
            clear hH
            generalize y9.drew = y9 at hR hP X2 hown ⊢
            refine take_dst 0 66 (.pointer (some ⟨(w.heap.size + 1 + 1 + 1), 3, none⟩)) rfl (by kernel_rfl) (by kernel_rfl) (by kernel_rfl) (fun _ _ _ h => h) (Or.inl ⟨by rfl, by intro wv hSv; go_simp⟩) trivial rfl ?_
            try simp only [Act.put, List.setIfInBounds_toArray, List.set_cons_zero, List.set_cons_succ]
            refine take_dst 2 68 (.string u) rfl (by kernel_rfl) (by kernel_rfl) (by kernel_rfl) (fun _ _ _ h => h) (Or.inl ⟨by rfl, by intro wv hSv; go_simp⟩) trivial rfl ?_
            try simp only [Act.put, List.setIfInBounds_toArray, List.set_cons_zero, List.set_cons_succ]
            refine take_dst 3 69 (.int .u8 (x0 : Int)) rfl (by kernel_rfl) (by kernel_rfl) (by kernel_rfl) (fun _ _ _ h => h) (Or.inl ⟨by rfl, by intro wv hSv; go_simp⟩) trivial rfl ?_
            try simp only [Act.put, List.setIfInBounds_toArray, List.set_cons_zero, List.set_cons_succ]
            refine take_dst 4 70 (.int .u32 (x0 : Int)) rfl (by kernel_rfl) (by kernel_rfl) (by kernel_rfl) (fun _ _ _ h => h) (Or.inl ⟨by rfl, by intro wv hSv; go_simp⟩) trivial rfl ?_
            try simp only [Act.put, List.setIfInBounds_toArray, List.set_cons_zero, List.set_cons_succ]
            refine take_dst 5 71 (.string u) rfl (by kernel_rfl) (by kernel_rfl) (by kernel_rfl) (fun _ _ _ h => h) (Or.inl ⟨by rfl, by intro wv hSv; go_simp⟩) trivial rfl ?_
            try simp only [Act.put, List.setIfInBounds_toArray, List.set_cons_zero, List.set_cons_succ]
            refine take_dst 6 72 (.int .u8 (x1 : Int)) rfl (by kernel_rfl) (by kernel_rfl) (by kernel_rfl) (fun _ _ _ h => h) (Or.inl ⟨by rfl, by intro wv hSv; go_simp⟩) trivial rfl ?_
            try simp only [Act.put, List.setIfInBounds_toArray, List.set_cons_zero, List.set_cons_succ]
            refine take_dst 7 73 (.int .u32 (x1 : Int)) rfl (by kernel_rfl) (by kernel_rfl) (by kernel_rfl) (fun _ _ _ h => h) (Or.inl ⟨by rfl, by intro wv hSv; go_simp⟩) trivial rfl ?_
            try simp only [Act.put, List.setIfInBounds_toArray, List.set_cons_zero, List.set_cons_succ]
            refine take_dst 8 74 (.int .u32 ((x1 : Int) * 256)) rfl (by kernel_rfl) (by kernel_rfl) (by kernel_rfl) (fun _ _ _ h => h) (Or.inl ⟨by rfl, by intro wv hSv; go_simp⟩) trivial rfl ?_
            try simp only [Act.put, List.setIfInBounds_toArray, List.set_cons_zero, List.set_cons_succ]
            refine take_dst 9 75 (.int .u32 ((x0 : Int) + (x1 : Int) * 256)) rfl (by kernel_rfl) (by kernel_rfl) (by kernel_rfl) (fun _ _ _ h => h) (Or.inl ⟨by rfl, by intro wv hSv; go_simp⟩) trivial rfl ?_
            try simp only [Act.put, List.setIfInBounds_toArray, List.set_cons_zero, List.set_cons_succ]
            refine take_dst 10 76 (.string u) rfl (by kernel_rfl) (by kernel_rfl) (by kernel_rfl) (fun _ _ _ h => h) (Or.inl ⟨by rfl, by intro wv hSv; go_simp⟩) trivial rfl ?_
            try simp only [Act.put, List.setIfInBounds_toArray, List.set_cons_zero, List.set_cons_succ]
            refine take_dst 11 77 (.int .u8 (x2 : Int)) rfl (by kernel_rfl) (by kernel_rfl) (by kernel_rfl) (fun _ _ _ h => h) (Or.inl ⟨by rfl, by intro wv hSv; go_simp⟩) trivial rfl ?_
            try simp only [Act.put, List.setIfInBounds_toArray, List.set_cons_zero, List.set_cons_succ]
            refine take_dst 12 78 (.int .u32 (x2 : Int)) rfl (by kernel_rfl) (by kernel_rfl) (by kernel_rfl) (fun _ _ _ h => h) (Or.inl ⟨by rfl, by intro wv hSv; go_simp⟩) trivial rfl ?_
            try simp only [Act.put, List.setIfInBounds_toArray, List.set_cons_zero, List.set_cons_succ]
            refine take_dst 13 79 (.int .u32 ((x2 : Int) * 65536)) rfl (by kernel_rfl) (by kernel_rfl) (by kernel_rfl) (fun _ _ _ h => h) (Or.inl ⟨by rfl, by intro wv hSv; go_simp⟩) trivial rfl ?_
            try simp only [Act.put, List.setIfInBounds_toArray, List.set_cons_zero, List.set_cons_succ]
            refine take_dst 14 80 (.int .u32 ((x0 : Int) + (x1 : Int) * 256 + (x2 : Int) * 65536)) rfl (by kernel_rfl) (by kernel_rfl) (by kernel_rfl) (fun _ _ _ h => h) (Or.inl ⟨by rfl, by intro wv hSv; go_simp⟩) trivial rfl ?_
            try simp only [Act.put, List.setIfInBounds_toArray, List.set_cons_zero, List.set_cons_succ]
            refine take_dst 15 81 (.string u) rfl (by kernel_rfl) (by kernel_rfl) (by kernel_rfl) (fun _ _ _ h => h) (Or.inl ⟨by rfl, by intro wv hSv; go_simp⟩) trivial rfl ?_
            try simp only [Act.put, List.setIfInBounds_toArray, List.set_cons_zero, List.set_cons_succ]
            refine take_dst 16 82 (.int .u8 (x3 : Int)) rfl (by kernel_rfl) (by kernel_rfl) (by kernel_rfl) (fun _ _ _ h => h) (Or.inl ⟨by rfl, by intro wv hSv; go_simp⟩) trivial rfl ?_
            try simp only [Act.put, List.setIfInBounds_toArray, List.set_cons_zero, List.set_cons_succ]
            refine take_dst 17 83 (.int .u32 (x3 : Int)) rfl (by kernel_rfl) (by kernel_rfl) (by kernel_rfl) (fun _ _ _ h => h) (Or.inl ⟨by rfl, by intro wv hSv; go_simp⟩) trivial rfl ?_
            try simp only [Act.put, List.setIfInBounds_toArray, List.set_cons_zero, List.set_cons_succ]
            refine take_dst 18 84 (.int .u32 ((x3 : Int) * 16777216)) rfl (by kernel_rfl) (by kernel_rfl) (by kernel_rfl) (fun _ _ _ h => h) (Or.inl ⟨by rfl, by intro wv hSv; go_simp⟩) trivial rfl ?_
            try simp only [Act.put, List.setIfInBounds_toArray, List.set_cons_zero, List.set_cons_succ]
            refine take_dst 19 85 (.int .u32 ((x0 : Int) + (x1 : Int) * 256 + (x2 : Int) * 65536 + (x3 : Int) * 16777216)) rfl (by kernel_rfl) (by kernel_rfl) (by kernel_rfl) (fun _ _ _ h => h) (Or.inl ⟨by rfl, by intro wv hSv; go_simp⟩) trivial rfl ?_
            try simp only [Act.put, List.setIfInBounds_toArray, List.set_cons_zero, List.set_cons_succ]
            have hxI : (x0 : Int) + (x1 : Int) * 256 + (x2 : Int) * 65536 + (x3 : Int) * 16777216 = (x : Int) := by have := hxx.out; omega
            rw [hxI]
            clear W0 W1 W2 W3 W4 W5 W6 W7 W8 W9 hxI l0 l1 l2 l3 g0 g1 g2 g3 hu0 hu1 hu2 hu3 hxx
            refine wpAnyH_ready (rs := [1, 20]) (by kernel_rfl) (by simp) ?_
            refine AllReadyH.cons rfl (fun K hK => ?_) (AllReadyH.cons rfl (fun K hK => ?_) AllReadyH.nil)
            · have q9 := hP.out.cell 3 rfl
              go_simp
              clear q9
              refine hK.out _ _ trivial (fun _ => ?_)
              clear hK K
              try simp only [Act.put, List.setIfInBounds_toArray, List.set_cons_zero, List.set_cons_succ]
              refine wpAnyH_ready (rs := [20]) (by kernel_rfl) (by simp) ?_
              refine AllReadyH.cons rfl (fun K hK => ?_) AllReadyH.nil
              go_simp
              refine hK.out _ _ trivial (fun _ => ?_)
              clear hK K
              try simp only [Act.put, List.setIfInBounds_toArray, List.set_cons_zero, List.set_cons_succ]
              refine wpAnyH_ready (rs := [21]) (by kernel_rfl) (by simp) ?_
              refine AllReadyH.cons rfl (fun K hK => ?_) AllReadyH.nil
              refine step_append_lies _ rfl (.tmp 67) (.tmp 86) 33 rfl y11.heap.size 57 i9 (.int .u32 0) 1 4 Tryz.underlying33 hi hz0 hz1 hz2 rfl (by decide) (.slice oa9 M.length ka9) M.length _ rfl (hown.out.alloc _) ⟨y9.heap.size, 0, none⟩ 1 1 (cCode x) rfl rfl (World.news_of_block (heap_alloc_new _ _)) (by intro u hu; simp only [cCode, List.mem_cons, List.not_mem_nil, or_false] at hu; subst hu; rfl) (by decide) (by simp only [maxLen]; omega) (by omega) (by have := X2.out.size; simp only [World.size_alloc]; omega) _ rfl ?_
              intro gb kb9 w' hown2 hg _ hat
              have hbase := own_base hown.out
              have hyz := X2.out.size
              have hR2 := row_grown (hR.out.alloc _) hg (fun e => by have := hbase _ e; omega)
              have hP2 := row_grown (hP.out.alloc _) hg (fun e => by have := hbase _ e; omega)
              have X3 := (X2.out.alloc _).grown hg hbase
              clear hat hown hg X2 hP hR hbase
              have e8 := hP2.cell 3 rfl
              have f8 := hP2.frozen 3
              have hq2 := hP2.lt
              have hown3 := own_ex2 (R := w.heap.size) (P := (w.heap.size + 1 + 1 + 1)) hown2 (by omega) (by omega) ((Ex2.refl _ _ _).set 3 (.slice (some ⟨gb, 0, none⟩) (M.length + 1) kb9))
              have hrel : Hid (q1p ≤ s.size ∧ RowL (w'.setCell ⟨(w.heap.size + 1 + 1 + 1), 3, none⟩ (.slice (some ⟨gb, 0, none⟩) (M.length + 1) kb9)) w.heap.size 31 (rC s ⟨q1p, 0⟩) ∧ RowL (w'.setCell ⟨(w.heap.size + 1 + 1 + 1), 3, none⟩ (.slice (some ⟨gb, 0, none⟩) (M.length + 1) kb9)) (w.heap.size + 1 + 1 + 1) 38 [.int .i64 b1, .bool (a1I == 1), .int .i64 c1, .slice (some ⟨gb, 0, none⟩) (M.length + 1) kb9, .slice none 0 0, .slice none 0 0, .int .i64 0, .string ⟨#[]⟩, .slice none 0 0, .slice none 0 0] ∧ (w'.setCell ⟨(w.heap.size + 1 + 1 + 1), 3, none⟩ (.slice (some ⟨gb, 0, none⟩) (M.length + 1) kb9)).ownsRow y11.heap.size 57 1 (.slice (some ⟨gb, 0, none⟩) (M.length + 1) kb9) (M ++ [x]).length ((M ++ [x]).flatMap cCode) ∧ Ex2 w.heap.size (w.heap.size + 1 + 1 + 1) y11 (w'.setCell ⟨(w.heap.size + 1 + 1 + 1), 3, none⟩ (.slice (some ⟨gb, 0, none⟩) (M.length + 1) kb9)) ∧ SevAt (rdWord s) d1 rd (k + 1) ⟨q1p, 0⟩ (M ++ [x])) := by
                refine ⟨hp9, hR2.other (a := ⟨(w.heap.size + 1 + 1 + 1), 3, none⟩) (show w.heap.size ≠ (w.heap.size + 1 + 1 + 1) by omega) _, hP2.set 3 _, ?_, X3.set 3 _, hsv.out.step rfl hkn hx.out⟩
                rw [List.length_append, List.flatMap_append]
                simpa using hown3
              clear hown2 hown3 hR2 hP2 X3 hsv hx hi hz0 hz1 hz2 hyz
              refine hK.out _ _ trivial (fun _ => ?_)
              clear hK K
              try simp only [Act.put, List.setIfInBounds_toArray, List.set_cons_zero, List.set_cons_succ]
              refine take_dst 22 88 (.pointer (some ⟨(w.heap.size + 1 + 1 + 1), 3, none⟩)) rfl (by kernel_rfl) (by kernel_rfl) (by kernel_rfl) (fun _ _ _ h => h) (Or.inl ⟨by rfl, by intro wv hSv; go_simp⟩) trivial rfl ?_
              try simp only [Act.put, List.setIfInBounds_toArray, List.set_cons_zero, List.set_cons_succ]
              refine wpAnyH_ready (rs := [23]) (by kernel_rfl) (by simp) ?_
              refine AllReadyH.cons rfl (fun K hK => ?_) AllReadyH.nil
              go_simp
              clear e8 f8
              refine hK.out _ _ trivial (fun _ => ?_)
              clear hK K
              try simp only [Act.put, List.setIfInBounds_toArray, List.set_cons_zero, List.set_cons_succ]
              refine wpAnyH_done (by kernel_rfl) ?_ _
              go_wp2_with fail
              go_roundw
              case rel => exact ⟨k + 1, M ++ [x], ⟨q1p, 0⟩, .slice (some ⟨gb, 0, none⟩) (M.length + 1) kb9, by go_num, hkn, hrel.out⟩
              case measure => clear hrel; simp only [intOf]; omega
            · go_simp
              refine hK.out _ _ trivial (fun _ => ?_)
              clear hK K
              try simp only [Act.put, List.setIfInBounds_toArray, List.set_cons_zero, List.set_cons_succ]
              refine wpAnyH_ready (rs := [1]) (by kernel_rfl) (by simp) ?_
              refine AllReadyH.cons rfl (fun K hK => ?_) AllReadyH.nil
              have q9 := (hP.out.alloc (.cells #[.int .u32 (x : Int)] 57)).cell 3 rfl
              go_simp
              clear q9
              refine hK.out _ _ trivial (fun _ => ?_)
              clear hK K
              try simp only [Act.put, List.setIfInBounds_toArray, List.set_cons_zero, List.set_cons_succ]
              refine wpAnyH_ready (rs := [21]) (by kernel_rfl) (by simp) ?_
              refine AllReadyH.cons rfl (fun K hK => ?_) AllReadyH.nil
              refine step_append_lies _ rfl (.tmp 67) (.tmp 86) 33 rfl y11.heap.size 57 i9 (.int .u32 0) 1 4 Tryz.underlying33 hi hz0 hz1 hz2 rfl (by decide) (.slice oa9 M.length ka9) M.length _ rfl (hown.out.alloc _) ⟨y9.heap.size, 0, none⟩ 1 1 (cCode x) rfl rfl (World.news_of_block (heap_alloc_new _ _)) (by intro u hu; simp only [cCode, List.mem_cons, List.not_mem_nil, or_false] at hu; subst hu; rfl) (by decide) (by simp only [maxLen]; omega) (by omega) (by have := X2.out.size; simp only [World.size_alloc]; omega) _ rfl ?_
              intro gb kb9 w' hown2 hg _ hat
              have hbase := own_base hown.out
              have hyz := X2.out.size
              have hR2 := row_grown (hR.out.alloc _) hg (fun e => by have := hbase _ e; omega)
              have hP2 := row_grown (hP.out.alloc _) hg (fun e => by have := hbase _ e; omega)
              have X3 := (X2.out.alloc _).grown hg hbase
              clear hat hown hg X2 hP hR hbase
              have e8 := hP2.cell 3 rfl
              have f8 := hP2.frozen 3
              have hq2 := hP2.lt
              have hown3 := own_ex2 (R := w.heap.size) (P := (w.heap.size + 1 + 1 + 1)) hown2 (by omega) (by omega) ((Ex2.refl _ _ _).set 3 (.slice (some ⟨gb, 0, none⟩) (M.length + 1) kb9))
              have hrel : Hid (q1p ≤ s.size ∧ RowL (w'.setCell ⟨(w.heap.size + 1 + 1 + 1), 3, none⟩ (.slice (some ⟨gb, 0, none⟩) (M.length + 1) kb9)) w.heap.size 31 (rC s ⟨q1p, 0⟩) ∧ RowL (w'.setCell ⟨(w.heap.size + 1 + 1 + 1), 3, none⟩ (.slice (some ⟨gb, 0, none⟩) (M.length + 1) kb9)) (w.heap.size + 1 + 1 + 1) 38 [.int .i64 b1, .bool (a1I == 1), .int .i64 c1, .slice (some ⟨gb, 0, none⟩) (M.length + 1) kb9, .slice none 0 0, .slice none 0 0, .int .i64 0, .string ⟨#[]⟩, .slice none 0 0, .slice none 0 0] ∧ (w'.setCell ⟨(w.heap.size + 1 + 1 + 1), 3, none⟩ (.slice (some ⟨gb, 0, none⟩) (M.length + 1) kb9)).ownsRow y11.heap.size 57 1 (.slice (some ⟨gb, 0, none⟩) (M.length + 1) kb9) (M ++ [x]).length ((M ++ [x]).flatMap cCode) ∧ Ex2 w.heap.size (w.heap.size + 1 + 1 + 1) y11 (w'.setCell ⟨(w.heap.size + 1 + 1 + 1), 3, none⟩ (.slice (some ⟨gb, 0, none⟩) (M.length + 1) kb9)) ∧ SevAt (rdWord s) d1 rd (k + 1) ⟨q1p, 0⟩ (M ++ [x])) := by
                refine ⟨hp9, hR2.other (a := ⟨(w.heap.size + 1 + 1 + 1), 3, none⟩) (show w.heap.size ≠ (w.heap.size + 1 + 1 + 1) by omega) _, hP2.set 3 _, ?_, X3.set 3 _, hsv.out.step rfl hkn hx.out⟩
                rw [List.length_append, List.flatMap_append]
                simpa using hown3
              clear hown2 hown3 hR2 hP2 X3 hsv hx hi hz0 hz1 hz2 hyz
              refine hK.out _ _ trivial (fun _ => ?_)
              clear hK K
              try simp only [Act.put, List.setIfInBounds_toArray, List.set_cons_zero, List.set_cons_succ]
              refine take_dst 22 88 (.pointer (some ⟨(w.heap.size + 1 + 1 + 1), 3, none⟩)) rfl (by kernel_rfl) (by kernel_rfl) (by kernel_rfl) (fun _ _ _ h => h) (Or.inl ⟨by rfl, by intro wv hSv; go_simp⟩) trivial rfl ?_
              try simp only [Act.put, List.setIfInBounds_toArray, List.set_cons_zero, List.set_cons_succ]
              refine wpAnyH_ready (rs := [23]) (by kernel_rfl) (by simp) ?_
              refine AllReadyH.cons rfl (fun K hK => ?_) AllReadyH.nil
              go_simp
              clear e8 f8
              refine hK.out _ _ trivial (fun _ => ?_)
              clear hK K
              try simp only [Act.put, List.setIfInBounds_toArray, List.set_cons_zero, List.set_cons_succ]
              refine wpAnyH_done (by kernel_rfl) ?_ _
              go_wp2_with fail
              go_roundw
              case rel => exact ⟨k + 1, M ++ [x], ⟨q1p, 0⟩, .slice (some ⟨gb, 0, none⟩) (M.length + 1) kb9, by go_num, hkn, hrel.out⟩
              case measure => clear hrel; simp only [intOf]; omega
          · have hb1 : (q1.bad == 0) = false := by simpa using hq0
            have c2 := hR.out.cell 2 rfl
            have cf := hR.out.frozen
            clear hu
            have hrel : Hid (q1.pos ≤ s.size ∧ RowL y9 w.heap.size 31 (rC s q1) ∧ RowL y9 (w.heap.size + 1 + 1 + 1) 38 [.int .i64 b1, .bool (a1I == 1), .int .i64 c1, .slice oa9 M.length ka9, .slice none 0 0, .slice none 0 0, .int .i64 0, .string ⟨#[]⟩, .slice none 0 0, .slice none 0 0] ∧ y9.ownsRow y11.heap.size 57 1 (.slice oa9 M.length ka9) M.length (M.flatMap cCode) ∧ Ex2 w.heap.size (w.heap.size + 1 + 1 + 1) y11 y9 ∧ SevAt (rdWord s) d1 rd (k + 1) q1 M) := ⟨hp9, hR.out, hP.out, hown.out, X2, hsv.out.stepBad rfl hkn hx.out hq0⟩
            clear hR hP hown X2 hsv hx hi hz0 hz1 hz2
            go_wp2_with fail
            go_roundw
            case rel => exact ⟨k + 1, M, q1, .slice oa9 M.length ka9, by go_num, hkn, hrel.out⟩
            case measure => clear hrel; simp only [intOf]; omega
        · have hR := hq.out.2.1
          have c2 := hR.cell 2 rfl
          have cf := hR.frozen
          clear hR hone hpos
          have hbI : (q.bad == 0) = false := by simpa using hb
          go_wp2_with fail
          go_meet
          case rel =>
            have hd := hq.out.2.2.2.2.2.done (.inr hb) hk
            exact ⟨M, q, v, hq.out.1, hq.out.2.1, hq.out.2.2.1, hq.out.2.2.2.1, hq.out.2.2.2.2.1, hd.1, hd.2, Nat.le_trans hq.out.2.2.2.2.2.2.2 hk⟩
      · have hkI : ¬ (k : Int) < (d1 : Int) := by omega
        clear hone hpos
        go_wp2_with fail
        go_meet
        case rel =>
          have hd := hq.out.2.2.2.2.2.done (.inl (by omega)) hk
          exact ⟨M, q, v, hq.out.1, hq.out.2.1, hq.out.2.2.1, hq.out.2.2.2.1, hq.out.2.2.2.2.1, hd.1, hd.2, Nat.le_trans hq.out.2.2.2.2.2.2.2 hk⟩
  clear hi hz0 hz1 hz2 hone hpos hR hP
  obtain ⟨L3, rco, v9, hq⟩ := hcut
  have prco := hq.out.1
  have hR := hq.out.2.1
  have hP := hq.out.2.2.1
  have w3 : Hid _ := own_low hq.out.2.2.2.1 (show (w.heap.size + 4) ≤ y11.heap.size by omega)
  obtain ⟨o3, k3, rfl⟩ := own_slice w3.out
  have erco := hidR hq.out.2.2.2.2.2.1
  have lrco := hidR hq.out.2.2.2.2.2.2.1
  have nL3 := hq.out.2.2.2.2.2.2.2
  replace X := X.trans hq.out.2.2.2.2.1
  clear hq hzy
  generalize wc = y12 at hR hP X w3  ⊢
  have h1 : Hid (∀ y, Calls Tryz.prog 17 #[rV s rco, .int .i64 0, .int .i64 500] y fun e w' => e = .returned (.tuple #[.int .i64 (rdNum s V 0 500 rco).1, rV s (rdNum s V 0 500 rco).2]) ∧ Below y.heap.size y w') := fun y => l3Number_in s V hV 0 500 rco y hs prco
  have pe := rdNum_pos (lo := 0) (hi := 500) hV prco
  have bde1 := rdNum_bd (s := s) (V := V) (lo := 0) (hi := 500) rco (by omega) (by omega)
  obtain ⟨x, ee⟩ : ∃ x, rdNum s V 0 500 rco = x := ⟨_, rfl⟩
  rw [ee] at h1 pe bde1
  obtain ⟨e1, re⟩ := x
  dsimp only at h1 pe bde1
  obtain ⟨e1, rfl⟩ : ∃ k : Nat, e1 = (k : Int) := ⟨e1.toNat, by omega⟩
  replace ee := hidR ee
  unfold rV at h1
  have c0 := hR.cell 0 rfl
  have c1 := hR.cell 1 rfl
  have c2 := hR.cell 2 rfl
  have cf := hR.frozen
  have hq1 := hR.lt
  replace hR := hidR hR
  replace hP := hidR hP
  go_upto_region 20 with fail
  go_wp2_with fail
  refine Calls.mono (h1.out y12) ?_
  rintro e y13 ⟨rfl, b9⟩
  replace hR := hR.out.call b9
  replace hP := hP.out.call b9
  replace X := X.trans (Ex2.below b9)
  replace w3 := hidR (own_ex2 (R := w.heap.size) (P := (w.heap.size + 1 + 1 + 1)) w3.out (by omega) (by omega) (Ex2.below b9))
  clear b9 c0 c1 c2 cf hq1
  have c0 := hR.cell 0 rfl
  have c1 := hR.cell 1 rfl
  have c2 := hR.cell 2 rfl
  have cf := hR.frozen
  have hq1 := hR.lt
  replace hR := hidR (rC_put hR re)
  replace hP := hidR (hP.put (R := w.heap.size) (by omega) (.string s) (.int .i64 (re.pos : Int)) (.int .i64 re.bad))
  replace X := X.put (.string s) (.int .i64 (re.pos : Int)) (.int .i64 re.bad)
  replace w3 := hidR (own_ex2 (R := w.heap.size) (P := (w.heap.size + 1 + 1 + 1)) w3.out (by omega) (by omega) ((Ex2.refl _ _ _).put (.string s) (.int .i64 (re.pos : Int)) (.int .i64 re.bad)))
  go_upto_region 21 with fail
  clear c0 c1 c2 cf hq1 h1
  generalize ((y13.setCell ⟨w.heap.size, 0, none⟩ (.string s)).setCell ⟨w.heap.size, 1, none⟩ (.int .i64 (re.pos : Int))).setCell ⟨w.heap.size, 2, none⟩ (.int .i64 re.bad) = y14 at hR hP X w3 ⊢
  replace hR := hR.out
  replace hP := hP.out
  obtain ⟨i9, hi, hz0, hz1, hz2⟩ := info_of infConsts
  have hzy := X.size
  have hone : Hid (∀ q : RS, q.pos ≤ s.size → ∀ y, Calls Tryz.prog 19 #[.agg #[.string s, .int .i64 (q.pos : Int), .int .i64 q.bad]] y fun e w' => e = .returned (.tuple #[.agg #[.int .i64 (rdVal s V G q).1.kind, .int .i64 (rdVal s V G q).1.num, .string (rdVal s V G q).1.text], .agg #[.string s, .int .i64 ((rdVal s V G q).2.pos : Int), .int .i64 (rdVal s V G q).2.bad]]) ∧ Below y.heap.size y w') := fun q hq y => l3ReadConst_in s V hV G hG q y hs hq
  have hpos : Hid (∀ q : RS, q.pos ≤ s.size → (rdVal s V G q).2.pos ≤ s.size) := fun q hq => rdVal_pos hV hq
  replace hR := hidR hR
  replace hP := hidR hP
  go_upto_region 21 with fail
  go_cut [13] from 16 (fun sx wr => y14 = wr ∧ sx = .int .i64 0)
  case first =>
    go_wp2_with fail
    go_meet
    case rel => exact ⟨rfl, rfl⟩
  obtain ⟨hw9, hs9⟩ := hcut
  subst hw9
  subst hs9
  first | go_upon | go_back | go_step
  go_cut [] from 16 (fun wr => ∃ (M : List VD) (q : RS) (v : Value), Hid (q.pos ≤ s.size ∧ RowL wr w.heap.size 31 (rC s q) ∧ RowL wr (w.heap.size + 1 + 1 + 1) 38 [.int .i64 b1, .bool (a1I == 1), .int .i64 c1, .slice o3 L3.length k3, v, .slice none 0 0, .int .i64 0, .string ⟨#[]⟩, .slice none 0 0, .slice none 0 0] ∧ wr.ownsRow y14.heap.size 59 3 v M.length (M.flatMap cConsts) ∧ Ex2 w.heap.size (w.heap.size + 1 + 1 + 1) y14 wr ∧ (rdSev (rdVal s V G) e1 re []).2 = q ∧ (q.bad = 0 → (rdSev (rdVal s V G) e1 re []).1 = M) ∧ M.length ≤ e1))
  case first =>
    go_wp2_with fail
    go_loopw [13] (fun iv wr => ∃ (k : Nat) (M : List VD) (q : RS) (v : Value), iv = .int .i64 (k : Int) ∧ k ≤ e1 ∧ Hid (q.pos ≤ s.size ∧ RowL wr w.heap.size 31 (rC s q) ∧ RowL wr (w.heap.size + 1 + 1 + 1) 38 [.int .i64 b1, .bool (a1I == 1), .int .i64 c1, .slice o3 L3.length k3, v, .slice none 0 0, .int .i64 0, .string ⟨#[]⟩, .slice none 0 0, .slice none 0 0] ∧ wr.ownsRow y14.heap.size 59 3 v M.length (M.flatMap cConsts) ∧ Ex2 w.heap.size (w.heap.size + 1 + 1 + 1) y14 wr ∧ SevAt (rdVal s V G) e1 re k q M)) (fun iv _ => e1 - (intOf iv).toNat)
    case atStart => exact ⟨0, [], re, .slice none 0 0, rfl, Nat.zero_le _, pe, hR.out, hP.out, World.ownsRow_nil _ _ _ _, Ex2.refl _ _ _, SevAt.start (fun q h => rdVal_b h) _ _⟩
    case round =>
      obtain ⟨k, M, q, v, rfl, hk, hq⟩ := hrel
      clear hR hP
      by_cases hkn : k < e1
      · have hkI : (k : Int) < (e1 : Int) := by omega
        by_cases hb : q.bad = 0
        · obtain ⟨qp, qb⟩ := q
          dsimp only at hb
          subst hb
          have hc := hidR (hone.out ⟨qp, 0⟩ hq.out.1)
          have hp9 := hpos.out ⟨qp, 0⟩ hq.out.1
          obtain ⟨xx, hx⟩ : ∃ x, rdVal s V G ⟨qp, 0⟩ = x := ⟨_, rfl⟩
          rw [hx] at hc hp9
          obtain ⟨x, q1⟩ := xx
          dsimp only at hc hp9
          replace hx := hidR hx
          have hR := hq.out.2.1
          have hP := hq.out.2.2.1
          obtain ⟨oa9, ka9, rfl⟩ := own_slice hq.out.2.2.2.1
          have hown := hidR hq.out.2.2.2.1
          have X2 := hq.out.2.2.2.2.1
          have hsv := hidR hq.out.2.2.2.2.2
          have hMk : M.length ≤ k := hsv.out.2.2
          have hMn : M.length ≤ 16777215 := by omega
          clear hq hone hpos
          have c0 := hR.cell 0 rfl
          have c1 := hR.cell 1 rfl
          have c2 := hR.cell 2 rfl
          have cf := hR.frozen
          have hq1 := hR.lt
          replace hR := hidR hR
          replace hP := hidR hP
          go_wp2_with fail
          refine Calls.mono (hc.out _) ?_
          rintro e y8 ⟨rfl, b8⟩
          have V0 := (RowL.new wr [.int .i64 0, .int .i64 0, .string ⟨#[]⟩] 59).call b8
          have r8 := (hR.out.alloc (.cells #[.int .i64 0, .int .i64 0, .string ⟨#[]⟩] 59)).call b8
          have b9 := val_step b8 (.int .i64 x.kind) (.int .i64 x.num) (.string x.text)
          have v0 := V0.cell 0 rfl
          have v1 := V0.cell 1 rfl
          have v2 := V0.cell 2 rfl
          have vf := V0.frozen
          have vl := V0.lt
          have d0 := r8.cell 0 rfl
          have d1_ := r8.cell 1 rfl
          have d2 := r8.cell 2 rfl
          have df := r8.frozen
          have hne1 : ¬ wr.heap.size = w.heap.size := by omega
          have hne2 : ¬ w.heap.size = wr.heap.size := by omega
          have hpl := hP.out.lt
          replace V0 := ((V0.set 0 (.int .i64 x.kind)).set 1 (.int .i64 x.num)).set 2 (.string x.text)
          clear b8 r8
          replace hR := hR.out.call b9
          replace hP := hP.out.call b9
          replace X2 := X2.trans (Ex2.below b9)
          replace hown := hidR (own_ex2 (R := w.heap.size) (P := (w.heap.size + 1 + 1 + 1)) hown.out (by omega) (by omega) (Ex2.below b9))
          clear b9 c0 c1 c2 cf hq1
          have c0 := hR.cell 0 rfl
          have c1 := hR.cell 1 rfl
          have c2 := hR.cell 2 rfl
          have cf := hR.frozen
          have hq1 := hR.lt
          replace hR := hidR (rC_put hR q1)
          replace hP := hidR (hP.put (R := w.heap.size) (by omega) (.string s) (.int .i64 (q1.pos : Int)) (.int .i64 q1.bad))
          replace X2 := X2.put (.string s) (.int .i64 (q1.pos : Int)) (.int .i64 q1.bad)
          replace hown := hidR (own_ex2 (R := w.heap.size) (P := (w.heap.size + 1 + 1 + 1)) hown.out (by omega) (by omega) ((Ex2.refl _ _ _).put (.string s) (.int .i64 (q1.pos : Int)) (.int .i64 q1.bad)))
          replace V0 := hidR (V0.put (R := w.heap.size) (by omega) (.string s) (.int .i64 (q1.pos : Int)) (.int .i64 q1.bad))
          go_upto_region 26 with fail
          clear c0 c1 c2 cf hq1 hc v0 v1 v2 vf d0 d1_ d2 df
          generalize (((((y8.setCell ⟨wr.heap.size, 0, none⟩ (.int .i64 x.kind)).setCell ⟨wr.heap.size, 1, none⟩ (.int .i64 x.num)).setCell ⟨wr.heap.size, 2, none⟩ (.string x.text)).setCell ⟨w.heap.size, 0, none⟩ (.string s)).setCell ⟨w.heap.size, 1, none⟩ (.int .i64 (q1.pos : Int))).setCell ⟨w.heap.size, 2, none⟩ (.int .i64 q1.bad) = y9 at hR hP X2 hown V0 ⊢
          replace V0 : RowL y9 wr.heap.size 59 [.int .i64 x.kind, .int .i64 x.num, .string x.text] := V0.out
          have v0 := V0.cell 0 rfl
          have v1 := V0.cell 1 rfl
          have v2 := V0.cell 2 rfl
          have vl2 := V0.lt
          clear V0
          have e8 := hP.out.cell 4 rfl
          have f8 := hP.out.frozen 4
          go_wp2_with (at_builtin; refine wpList_append_own_at _ rfl (.tmp 110) (.tmp 112) 34 rfl y14.heap.size 59 i9 (.agg #[.int .i64 0, .int .i64 0, .string ⟨#[]⟩]) 3 32 Tryz.underlying34 hi hz0 hz1 hz2 rfl (by decide) (.slice oa9 M.length ka9) M.length _ rfl (hown.out.alloc _) ⟨y9.heap.size, 0, none⟩ 1 1 (cConsts x) rfl rfl ?c1 ?c2 ?c3 ?c4 ?c5 ?_)
          case c1 => exact World.news_of_block (heap_alloc_new _ _)
          case c2 => intro u hu; simp only [cConsts, List.mem_cons, List.not_mem_nil, or_false] at hu; rcases hu with rfl | rfl | rfl <;> rfl
          case c3 => simp only [maxLen]; omega
          case c4 => omega
          case c5 => have := X2.size; simp only [World.size_alloc]; omega
          intro v' w' hown2 hg _ hat
          have hbase := own_base hown.out
          have hyz := X2.size
          have hR2 := row_grown (hR.out.alloc _) hg (fun e => by have := hbase _ e; omega)
          have hP2 := row_grown (hP.out.alloc _) hg (fun e => by have := hbase _ e; omega)
          have X3 := (X2.alloc _).grown hg hbase
          clear hat hown hg X2 hP hR e8 f8 hbase
          obtain ⟨ob9, kb9, rfl⟩ := own_slice hown2
          have e8 := hP2.cell 4 rfl
          have f8 := hP2.frozen 4
          have hq2 := hP2.lt
          have hown3 := own_ex2 (R := w.heap.size) (P := (w.heap.size + 1 + 1 + 1)) hown2 (by omega) (by omega) ((Ex2.refl _ _ _).set 4 (.slice ob9 (M.length + 1) kb9))
          have hrel : Hid (q1.pos ≤ s.size ∧ RowL (w'.setCell ⟨(w.heap.size + 1 + 1 + 1), 4, none⟩ (.slice ob9 (M.length + 1) kb9)) w.heap.size 31 (rC s q1) ∧ RowL (w'.setCell ⟨(w.heap.size + 1 + 1 + 1), 4, none⟩ (.slice ob9 (M.length + 1) kb9)) (w.heap.size + 1 + 1 + 1) 38 [.int .i64 b1, .bool (a1I == 1), .int .i64 c1, .slice o3 L3.length k3, .slice ob9 (M.length + 1) kb9, .slice none 0 0, .int .i64 0, .string ⟨#[]⟩, .slice none 0 0, .slice none 0 0] ∧ (w'.setCell ⟨(w.heap.size + 1 + 1 + 1), 4, none⟩ (.slice ob9 (M.length + 1) kb9)).ownsRow y14.heap.size 59 3 (.slice ob9 (M.length + 1) kb9) (M ++ [x]).length ((M ++ [x]).flatMap cConsts) ∧ Ex2 w.heap.size (w.heap.size + 1 + 1 + 1) y14 (w'.setCell ⟨(w.heap.size + 1 + 1 + 1), 4, none⟩ (.slice ob9 (M.length + 1) kb9)) ∧ SevAt (rdVal s V G) e1 re (k + 1) q1 (M ++ [x])) := by
            refine ⟨hp9, hR2.other (a := ⟨(w.heap.size + 1 + 1 + 1), 4, none⟩) (show w.heap.size ≠ (w.heap.size + 1 + 1 + 1) by omega) _, hP2.set 4 _, ?_, X3.set 4 _, hsv.out.step rfl hkn hx.out⟩
            rw [List.length_append, List.flatMap_append]
            simpa using hown3
          clear hown2 hown3 hR2 hP2 X3 hsv hx hi hz0 hz1 hz2 hyz
          go_wp2_with fail
          go_roundw
          case rel => exact ⟨k + 1, M ++ [x], q1, .slice ob9 (M.length + 1) kb9, by go_num, hkn, hrel.out⟩
          case measure => clear hrel; simp only [intOf]; omega
        · have hR := hq.out.2.1
          have c2 := hR.cell 2 rfl
          have cf := hR.frozen
          clear hR hone hpos
          have hbI : (q.bad == 0) = false := by simpa using hb
          go_wp2_with fail
          go_meet
          case rel =>
            have hd := hq.out.2.2.2.2.2.done (.inr hb) hk
            exact ⟨M, q, v, hq.out.1, hq.out.2.1, hq.out.2.2.1, hq.out.2.2.2.1, hq.out.2.2.2.2.1, hd.1, hd.2, Nat.le_trans hq.out.2.2.2.2.2.2.2 hk⟩
      · have hkI : ¬ (k : Int) < (e1 : Int) := by omega
        clear hone hpos
        go_wp2_with fail
        go_meet
        case rel =>
          have hd := hq.out.2.2.2.2.2.done (.inl (by omega)) hk
          exact ⟨M, q, v, hq.out.1, hq.out.2.1, hq.out.2.2.1, hq.out.2.2.2.1, hq.out.2.2.2.2.1, hd.1, hd.2, Nat.le_trans hq.out.2.2.2.2.2.2.2 hk⟩
  clear hi hz0 hz1 hz2 hone hpos hR hP
  obtain ⟨L4, rcs, v9, hq⟩ := hcut
  have prcs := hq.out.1
  have hR := hq.out.2.1
  have hP := hq.out.2.2.1
  have w4 : Hid _ := own_low hq.out.2.2.2.1 (show (w.heap.size + 4) ≤ y14.heap.size by omega)
  obtain ⟨o4, k4, rfl⟩ := own_slice w4.out
  have ercs := hidR hq.out.2.2.2.2.2.1
  have lrcs := hidR hq.out.2.2.2.2.2.2.1
  have nL4 := hq.out.2.2.2.2.2.2.2
  replace w3 := hidR (own_ex2 (R := w.heap.size) (P := (w.heap.size + 1 + 1 + 1)) w3.out (by omega) (by omega) hq.out.2.2.2.2.1)
  replace X := X.trans hq.out.2.2.2.2.1
  clear hq hzy
  generalize wc = y15 at hR hP X w4 w3 ⊢
  have h1 : Hid (∀ y, Calls Tryz.prog 17 #[rV s rcs, .int .i64 0, .int .i64 60] y fun e w' => e = .returned (.tuple #[.int .i64 (rdNum s V 0 60 rcs).1, rV s (rdNum s V 0 60 rcs).2]) ∧ Below y.heap.size y w') := fun y => l3Number_in s V hV 0 60 rcs y hs prcs
  have pf := rdNum_pos (lo := 0) (hi := 60) hV prcs
  have bdf1 := rdNum_bd (s := s) (V := V) (lo := 0) (hi := 60) rcs (by omega) (by omega)
  obtain ⟨x, ef⟩ : ∃ x, rdNum s V 0 60 rcs = x := ⟨_, rfl⟩
  rw [ef] at h1 pf bdf1
  obtain ⟨f1, rf⟩ := x
  dsimp only at h1 pf bdf1
  obtain ⟨f1, rfl⟩ : ∃ k : Nat, f1 = (k : Int) := ⟨f1.toNat, by omega⟩
  replace ef := hidR ef
  unfold rV at h1
  have c0 := hR.cell 0 rfl
  have c1 := hR.cell 1 rfl
  have c2 := hR.cell 2 rfl
  have cf := hR.frozen
  have hq1 := hR.lt
  replace hR := hidR hR
  replace hP := hidR hP
  go_upto_region 27 with fail
  go_wp2_with fail
  refine Calls.mono (h1.out y15) ?_
  rintro e y16 ⟨rfl, b9⟩
  replace hR := hR.out.call b9
  replace hP := hP.out.call b9
  replace X := X.trans (Ex2.below b9)
  replace w3 := hidR (own_ex2 (R := w.heap.size) (P := (w.heap.size + 1 + 1 + 1)) w3.out (by omega) (by omega) (Ex2.below b9))
  replace w4 := hidR (own_ex2 (R := w.heap.size) (P := (w.heap.size + 1 + 1 + 1)) w4.out (by omega) (by omega) (Ex2.below b9))
  clear b9 c0 c1 c2 cf hq1
  have c0 := hR.cell 0 rfl
  have c1 := hR.cell 1 rfl
  have c2 := hR.cell 2 rfl
  have cf := hR.frozen
  have hq1 := hR.lt
  replace hR := hidR (rC_put hR rf)
  replace hP := hidR (hP.put (R := w.heap.size) (by omega) (.string s) (.int .i64 (rf.pos : Int)) (.int .i64 rf.bad))
  replace X := X.put (.string s) (.int .i64 (rf.pos : Int)) (.int .i64 rf.bad)
  replace w3 := hidR (own_ex2 (R := w.heap.size) (P := (w.heap.size + 1 + 1 + 1)) w3.out (by omega) (by omega) ((Ex2.refl _ _ _).put (.string s) (.int .i64 (rf.pos : Int)) (.int .i64 rf.bad)))
  replace w4 := hidR (own_ex2 (R := w.heap.size) (P := (w.heap.size + 1 + 1 + 1)) w4.out (by omega) (by omega) ((Ex2.refl _ _ _).put (.string s) (.int .i64 (rf.pos : Int)) (.int .i64 rf.bad)))
  go_upto_region 28 with fail
  clear c0 c1 c2 cf hq1 h1
  generalize ((y16.setCell ⟨w.heap.size, 0, none⟩ (.string s)).setCell ⟨w.heap.size, 1, none⟩ (.int .i64 (rf.pos : Int))).setCell ⟨w.heap.size, 2, none⟩ (.int .i64 rf.bad) = y17 at hR hP X w3 w4 ⊢
  replace hR := hR.out
  replace hP := hP.out
  obtain ⟨i9, hi, hz0, hz1, hz2⟩ := info_of infUps
  have hzy := X.size
  have hone : Hid (∀ q : RS, q.pos ≤ s.size → ∃ (a : Int) (qa : RS), qa.pos ≤ s.size ∧ (∀ y, Calls Tryz.prog 16 #[.agg #[.string s, .int .i64 (q.pos : Int), .int .i64 q.bad], .int .i64 1] y fun e w' => e = .returned (.tuple #[.int .i64 a, .agg #[.string s, .int .i64 (qa.pos : Int), .int .i64 qa.bad]]) ∧ Below y.heap.size y w') ∧ (∀ y, Calls Tryz.prog 17 #[.agg #[.string s, .int .i64 (qa.pos : Int), .int .i64 qa.bad], .int .i64 0, .int .i64 16777215] y fun e w' => e = .returned (.tuple #[.int .i64 (rdUp s V q).1.index, .agg #[.string s, .int .i64 ((rdUp s V q).2.pos : Int), .int .i64 (rdUp s V q).2.bad]]) ∧ Below y.heap.size y w') ∧ (rdUp s V q).1.stack = (a == 1)) := fun q hq => up_model s V hV q hs hq
  have hpos : Hid (∀ q : RS, q.pos ≤ s.size → (rdUp s V q).2.pos ≤ s.size) := fun q hq => rdUp_pos hV hq
  replace hR := hidR hR
  replace hP := hidR hP
  go_upto_region 28 with fail
  go_cut [15] from 16 (fun sx wr => y17 = wr ∧ sx = .int .i64 0)
  case first =>
    go_wp2_with fail
    go_meet
    case rel => exact ⟨rfl, rfl⟩
  obtain ⟨hw9, hs9⟩ := hcut
  subst hw9
  subst hs9
  first | go_upon | go_back | go_step
  go_cut [] from 16 (fun wr => ∃ (M : List UD) (q : RS) (v : Value), Hid (q.pos ≤ s.size ∧ RowL wr w.heap.size 31 (rC s q) ∧ RowL wr (w.heap.size + 1 + 1 + 1) 38 [.int .i64 b1, .bool (a1I == 1), .int .i64 c1, .slice o3 L3.length k3, .slice o4 L4.length k4, v, .int .i64 0, .string ⟨#[]⟩, .slice none 0 0, .slice none 0 0] ∧ wr.ownsRow y17.heap.size 63 2 v M.length (M.flatMap cUps) ∧ Ex2 w.heap.size (w.heap.size + 1 + 1 + 1) y17 wr ∧ (rdSev (rdUp s V) f1 rf []).2 = q ∧ (q.bad = 0 → (rdSev (rdUp s V) f1 rf []).1 = M) ∧ M.length ≤ f1))
  case first =>
    go_wp2_with fail
    go_loopw [15] (fun iv wr => ∃ (k : Nat) (M : List UD) (q : RS) (v : Value), iv = .int .i64 (k : Int) ∧ k ≤ f1 ∧ Hid (q.pos ≤ s.size ∧ RowL wr w.heap.size 31 (rC s q) ∧ RowL wr (w.heap.size + 1 + 1 + 1) 38 [.int .i64 b1, .bool (a1I == 1), .int .i64 c1, .slice o3 L3.length k3, .slice o4 L4.length k4, v, .int .i64 0, .string ⟨#[]⟩, .slice none 0 0, .slice none 0 0] ∧ wr.ownsRow y17.heap.size 63 2 v M.length (M.flatMap cUps) ∧ Ex2 w.heap.size (w.heap.size + 1 + 1 + 1) y17 wr ∧ SevAt (rdUp s V) f1 rf k q M)) (fun iv _ => f1 - (intOf iv).toNat)
    case atStart => exact ⟨0, [], rf, .slice none 0 0, rfl, Nat.zero_le _, pf, hR.out, hP.out, World.ownsRow_nil _ _ _ _, Ex2.refl _ _ _, SevAt.start (fun q h => rdUp_b h) _ _⟩
    case round =>
      obtain ⟨k, M, q, v, rfl, hk, hq⟩ := hrel
      clear hR hP
      by_cases hkn : k < f1
      · have hkI : (k : Int) < (f1 : Int) := by omega
        by_cases hb : q.bad = 0
        · obtain ⟨qp, qb⟩ := q
          dsimp only at hb
          subst hb
          have hc := hidR (hone.out ⟨qp, 0⟩ hq.out.1)
          have hp9 := hpos.out ⟨qp, 0⟩ hq.out.1
          obtain ⟨xx, hx⟩ : ∃ x, rdUp s V ⟨qp, 0⟩ = x := ⟨_, rfl⟩
          rw [hx] at hc hp9
          obtain ⟨x, q1⟩ := xx
          dsimp only at hc hp9
          replace hx := hidR hx
          have hR := hq.out.2.1
          have hP := hq.out.2.2.1
          obtain ⟨oa9, ka9, rfl⟩ := own_slice hq.out.2.2.2.1
          have hown := hidR hq.out.2.2.2.1
          have X2 := hq.out.2.2.2.2.1
          have hsv := hidR hq.out.2.2.2.2.2
          have hMk : M.length ≤ k := hsv.out.2.2
          have hMn : M.length ≤ 16777215 := by omega
          clear hq hone hpos
          obtain ⟨au, qa, hpa9, hca, hcb, hst⟩ := hc.out
          obtain ⟨xs, xi⟩ := x
          dsimp only at hst hcb
          subst hst
          replace hca := hidR hca
          replace hcb := hidR hcb
          clear hc
          have c0 := hR.cell 0 rfl
          have c1 := hR.cell 1 rfl
          have c2 := hR.cell 2 rfl
          have cf := hR.frozen
          have hq1 := hR.lt
          replace hR := hidR hR
          replace hP := hidR hP
          go_wp2_with fail
          refine Calls.mono (hca.out _) ?_
          rintro e y7 ⟨rfl, b9⟩
          replace hR := hR.out.call b9
          replace hP := hP.out.call b9
          replace X2 := X2.trans (Ex2.below b9)
          replace hown := hidR (own_ex2 (R := w.heap.size) (P := (w.heap.size + 1 + 1 + 1)) hown.out (by omega) (by omega) (Ex2.below b9))
          clear b9 c0 c1 c2 cf hq1
          have c0 := hR.cell 0 rfl
          have c1 := hR.cell 1 rfl
          have c2 := hR.cell 2 rfl
          have cf := hR.frozen
          have hq1 := hR.lt
          replace hR := hidR (rC_put hR qa)
          replace hP := hidR (hP.put (R := w.heap.size) (by omega) (.string s) (.int .i64 (qa.pos : Int)) (.int .i64 qa.bad))
          replace X2 := X2.put (.string s) (.int .i64 (qa.pos : Int)) (.int .i64 qa.bad)
          replace hown := hidR (own_ex2 (R := w.heap.size) (P := (w.heap.size + 1 + 1 + 1)) hown.out (by omega) (by omega) ((Ex2.refl _ _ _).put (.string s) (.int .i64 (qa.pos : Int)) (.int .i64 qa.bad)))
          go_upto_region 32 with fail
          clear c0 c1 c2 cf hq1 hca
          generalize ((y7.setCell ⟨w.heap.size, 0, none⟩ (.string s)).setCell ⟨w.heap.size, 1, none⟩ (.int .i64 (qa.pos : Int))).setCell ⟨w.heap.size, 2, none⟩ (.int .i64 qa.bad) = ya at hR hP X2 hown ⊢
          replace hR := hR.out
          replace hP := hP.out
          have c0 := hR.cell 0 rfl
          have c1 := hR.cell 1 rfl
          have c2 := hR.cell 2 rfl
          have cf := hR.frozen
          have hq1 := hR.lt
          replace hR := hidR hR
          replace hP := hidR hP
          go_wp2_with fail
          refine Calls.mono (hcb.out _) ?_
          rintro e y8 ⟨rfl, b9⟩
          replace hR := hR.out.call b9
          replace hP := hP.out.call b9
          replace X2 := X2.trans (Ex2.below b9)
          replace hown := hidR (own_ex2 (R := w.heap.size) (P := (w.heap.size + 1 + 1 + 1)) hown.out (by omega) (by omega) (Ex2.below b9))
          clear b9 c0 c1 c2 cf hq1
          have c0 := hR.cell 0 rfl
          have c1 := hR.cell 1 rfl
          have c2 := hR.cell 2 rfl
          have cf := hR.frozen
          have hq1 := hR.lt
          replace hR := hidR (rC_put hR q1)
          replace hP := hidR (hP.put (R := w.heap.size) (by omega) (.string s) (.int .i64 (q1.pos : Int)) (.int .i64 q1.bad))
          replace X2 := X2.put (.string s) (.int .i64 (q1.pos : Int)) (.int .i64 q1.bad)
          replace hown := hidR (own_ex2 (R := w.heap.size) (P := (w.heap.size + 1 + 1 + 1)) hown.out (by omega) (by omega) ((Ex2.refl _ _ _).put (.string s) (.int .i64 (q1.pos : Int)) (.int .i64 q1.bad)))
          go_upto_region 33 with fail
          clear c0 c1 c2 cf hq1 hcb
          generalize ((y8.setCell ⟨w.heap.size, 0, none⟩ (.string s)).setCell ⟨w.heap.size, 1, none⟩ (.int .i64 (q1.pos : Int))).setCell ⟨w.heap.size, 2, none⟩ (.int .i64 q1.bad) = y9 at hR hP X2 hown ⊢
          obtain ⟨x, hx9⟩ : ∃ x : UD, (⟨(au == 1), xi⟩ : UD) = x := ⟨_, rfl⟩
          have hxa : (au == 1) = x.stack := by rw [← hx9]
          have hxb : xi = x.index := by rw [← hx9]
          rw [hx9] at hx
          rw [hxb]
          clear hx9
          have e8 := hP.out.cell 5 rfl
          have f8 := hP.out.frozen 5
          go_wp2_with (at_builtin; refine wpList_append_own_at _ rfl (.tmp 141) (.tmp 146) 35 rfl y17.heap.size 63 i9 (.agg #[.bool false, .int .i64 0]) 2 16 Tryz.underlying35 hi hz0 hz1 hz2 rfl (by decide) (.slice oa9 M.length ka9) M.length _ rfl (hown.out.alloc _) ⟨y9.heap.size, 0, none⟩ 1 1 (cUps x) rfl rfl ?c1 ?c2 ?c3 ?c4 ?c5 ?_)
          case c1 => exact World.news_of_block (heap_alloc_new _ _)
          case c2 => intro u hu; simp only [cUps, List.mem_cons, List.not_mem_nil, or_false] at hu; rcases hu with rfl | rfl <;> rfl
          case c3 => simp only [maxLen]; omega
          case c4 => omega
          case c5 => have := X2.size; simp only [World.size_alloc]; omega
          intro v' w' hown2 hg _ hat
          have hbase := own_base hown.out
          have hyz := X2.size
          have hR2 := row_grown (hR.out.alloc _) hg (fun e => by have := hbase _ e; omega)
          have hP2 := row_grown (hP.out.alloc _) hg (fun e => by have := hbase _ e; omega)
          have X3 := (X2.alloc _).grown hg hbase
          clear hat hown hg X2 hP hR e8 f8 hbase
          obtain ⟨ob9, kb9, rfl⟩ := own_slice hown2
          have e8 := hP2.cell 5 rfl
          have f8 := hP2.frozen 5
          have hq2 := hP2.lt
          have hown3 := own_ex2 (R := w.heap.size) (P := (w.heap.size + 1 + 1 + 1)) hown2 (by omega) (by omega) ((Ex2.refl _ _ _).set 5 (.slice ob9 (M.length + 1) kb9))
          have hrel : Hid (q1.pos ≤ s.size ∧ RowL (w'.setCell ⟨(w.heap.size + 1 + 1 + 1), 5, none⟩ (.slice ob9 (M.length + 1) kb9)) w.heap.size 31 (rC s q1) ∧ RowL (w'.setCell ⟨(w.heap.size + 1 + 1 + 1), 5, none⟩ (.slice ob9 (M.length + 1) kb9)) (w.heap.size + 1 + 1 + 1) 38 [.int .i64 b1, .bool (a1I == 1), .int .i64 c1, .slice o3 L3.length k3, .slice o4 L4.length k4, .slice ob9 (M.length + 1) kb9, .int .i64 0, .string ⟨#[]⟩, .slice none 0 0, .slice none 0 0] ∧ (w'.setCell ⟨(w.heap.size + 1 + 1 + 1), 5, none⟩ (.slice ob9 (M.length + 1) kb9)).ownsRow y17.heap.size 63 2 (.slice ob9 (M.length + 1) kb9) (M ++ [x]).length ((M ++ [x]).flatMap cUps) ∧ Ex2 w.heap.size (w.heap.size + 1 + 1 + 1) y17 (w'.setCell ⟨(w.heap.size + 1 + 1 + 1), 5, none⟩ (.slice ob9 (M.length + 1) kb9)) ∧ SevAt (rdUp s V) f1 rf (k + 1) q1 (M ++ [x])) := by
            refine ⟨hp9, hR2.other (a := ⟨(w.heap.size + 1 + 1 + 1), 5, none⟩) (show w.heap.size ≠ (w.heap.size + 1 + 1 + 1) by omega) _, hP2.set 5 _, ?_, X3.set 5 _, hsv.out.step rfl hkn hx.out⟩
            rw [List.length_append, List.flatMap_append]
            simpa using hown3
          clear hown2 hown3 hR2 hP2 X3 hsv hx hi hz0 hz1 hz2 hyz
          go_wp2_with fail
          go_roundw
          case rel => exact ⟨k + 1, M ++ [x], q1, .slice ob9 (M.length + 1) kb9, by go_num, hkn, hrel.out⟩
          case measure => clear hrel; simp only [intOf]; omega
        · have hR := hq.out.2.1
          have c2 := hR.cell 2 rfl
          have cf := hR.frozen
          clear hR hone hpos
          have hbI : (q.bad == 0) = false := by simpa using hb
          go_wp2_with fail
          go_meet
          case rel =>
            have hd := hq.out.2.2.2.2.2.done (.inr hb) hk
            exact ⟨M, q, v, hq.out.1, hq.out.2.1, hq.out.2.2.1, hq.out.2.2.2.1, hq.out.2.2.2.2.1, hd.1, hd.2, Nat.le_trans hq.out.2.2.2.2.2.2.2 hk⟩
      · have hkI : ¬ (k : Int) < (f1 : Int) := by omega
        clear hone hpos
        go_wp2_with fail
        go_meet
        case rel =>
          have hd := hq.out.2.2.2.2.2.done (.inl (by omega)) hk
          exact ⟨M, q, v, hq.out.1, hq.out.2.1, hq.out.2.2.1, hq.out.2.2.2.1, hq.out.2.2.2.2.1, hd.1, hd.2, Nat.le_trans hq.out.2.2.2.2.2.2.2 hk⟩
  clear hi hz0 hz1 hz2 hone hpos hR hP
  obtain ⟨L5, rus, v9, hq⟩ := hcut
  have prus := hq.out.1
  have hR := hq.out.2.1
  have hP := hq.out.2.2.1
  have w5 : Hid _ := own_low hq.out.2.2.2.1 (show (w.heap.size + 4) ≤ y17.heap.size by omega)
  obtain ⟨o5, k5, rfl⟩ := own_slice w5.out
  have erus := hidR hq.out.2.2.2.2.2.1
  have lrus := hidR hq.out.2.2.2.2.2.2.1
  have nL5 := hq.out.2.2.2.2.2.2.2
  replace w3 := hidR (own_ex2 (R := w.heap.size) (P := (w.heap.size + 1 + 1 + 1)) w3.out (by omega) (by omega) hq.out.2.2.2.2.1)
  replace w4 := hidR (own_ex2 (R := w.heap.size) (P := (w.heap.size + 1 + 1 + 1)) w4.out (by omega) (by omega) hq.out.2.2.2.2.1)
  replace X := X.trans hq.out.2.2.2.2.1
  clear hq hzy
  generalize wc = y18 at hR hP X w5 w3 w4 ⊢
  have h1 : Hid (∀ y, Calls Tryz.prog 17 #[rV s rus, .int .i64 0, .int .i64 most] y fun e w' => e = .returned (.tuple #[.int .i64 (rdNum s V 0 most rus).1, rV s (rdNum s V 0 most rus).2]) ∧ Below y.heap.size y w') := fun y => l3Number_in s V hV 0 most rus y hs prus
  have pk := rdNum_pos (lo := 0) (hi := most) hV prus
  obtain ⟨x, ek⟩ : ∃ x, rdNum s V 0 most rus = x := ⟨_, rfl⟩
  rw [ek] at h1 pk
  obtain ⟨k1, rk⟩ := x
  dsimp only at h1 pk
  replace ek := hidR ek
  unfold rV at h1
  have c0 := hR.cell 0 rfl
  have c1 := hR.cell 1 rfl
  have c2 := hR.cell 2 rfl
  have cf := hR.frozen
  have hq1 := hR.lt
  replace hR := hidR hR
  replace hP := hidR hP
  go_upto_region 34 with fail
  go_wp2_with fail
  refine Calls.mono (h1.out y18) ?_
  rintro e y19 ⟨rfl, b9⟩
  replace hR := hR.out.call b9
  replace hP := hP.out.call b9
  replace X := X.trans (Ex2.below b9)
  replace w3 := hidR (own_ex2 (R := w.heap.size) (P := (w.heap.size + 1 + 1 + 1)) w3.out (by omega) (by omega) (Ex2.below b9))
  replace w4 := hidR (own_ex2 (R := w.heap.size) (P := (w.heap.size + 1 + 1 + 1)) w4.out (by omega) (by omega) (Ex2.below b9))
  replace w5 := hidR (own_ex2 (R := w.heap.size) (P := (w.heap.size + 1 + 1 + 1)) w5.out (by omega) (by omega) (Ex2.below b9))
  clear b9 c0 c1 c2 cf hq1
  have c0 := hR.cell 0 rfl
  have c1 := hR.cell 1 rfl
  have c2 := hR.cell 2 rfl
  have cf := hR.frozen
  have hq1 := hR.lt
  replace hR := hidR (rC_put hR rk)
  replace hP := hidR (hP.put (R := w.heap.size) (by omega) (.string s) (.int .i64 (rk.pos : Int)) (.int .i64 rk.bad))
  replace X := X.put (.string s) (.int .i64 (rk.pos : Int)) (.int .i64 rk.bad)
  replace w3 := hidR (own_ex2 (R := w.heap.size) (P := (w.heap.size + 1 + 1 + 1)) w3.out (by omega) (by omega) ((Ex2.refl _ _ _).put (.string s) (.int .i64 (rk.pos : Int)) (.int .i64 rk.bad)))
  replace w4 := hidR (own_ex2 (R := w.heap.size) (P := (w.heap.size + 1 + 1 + 1)) w4.out (by omega) (by omega) ((Ex2.refl _ _ _).put (.string s) (.int .i64 (rk.pos : Int)) (.int .i64 rk.bad)))
  replace w5 := hidR (own_ex2 (R := w.heap.size) (P := (w.heap.size + 1 + 1 + 1)) w5.out (by omega) (by omega) ((Ex2.refl _ _ _).put (.string s) (.int .i64 (rk.pos : Int)) (.int .i64 rk.bad)))
  go_upto_region 35 with fail
  clear c0 c1 c2 cf hq1 h1
  generalize ((y19.setCell ⟨w.heap.size, 0, none⟩ (.string s)).setCell ⟨w.heap.size, 1, none⟩ (.int .i64 (rk.pos : Int))).setCell ⟨w.heap.size, 2, none⟩ (.int .i64 rk.bad) = y20 at hR hP X w3 w4 w5 ⊢
  replace hR := hR.out
  replace hP := hP.out
  have f7 := hP.frozen 6
  have e7 := hP.cell 6 rfl
  have hq2 := hP.lt
  replace hP := hidR (hP.set 6 (.int .i64 k1))
  replace hR := hidR (hR.other (a := ⟨(w.heap.size + 1 + 1 + 1), 6, none⟩) (show w.heap.size ≠ (w.heap.size + 1 + 1 + 1) by omega) (.int .i64 k1))
  replace X := X.set 6 (.int .i64 k1)
  replace w3 := hidR (own_ex2 (R := w.heap.size) (P := (w.heap.size + 1 + 1 + 1)) w3.out (by omega) (by omega) ((Ex2.refl _ _ _).set 6 (.int .i64 k1)))
  replace w4 := hidR (own_ex2 (R := w.heap.size) (P := (w.heap.size + 1 + 1 + 1)) w4.out (by omega) (by omega) ((Ex2.refl _ _ _).set 6 (.int .i64 k1)))
  replace w5 := hidR (own_ex2 (R := w.heap.size) (P := (w.heap.size + 1 + 1 + 1)) w5.out (by omega) (by omega) ((Ex2.refl _ _ _).set 6 (.int .i64 k1)))
  go_upto_region 36 with fail
  clear f7 e7 hq2
  generalize y20.setCell ⟨(w.heap.size + 1 + 1 + 1), 6, none⟩ (.int .i64 k1) = y21 at hR hP X w3 w4 w5 ⊢
  replace hR := hR.out
  replace hP : RowL y21 (w.heap.size + 1 + 1 + 1) 38 [.int .i64 b1, .bool (a1I == 1), .int .i64 c1, .slice o3 L3.length k3, .slice o4 L4.length k4, .slice o5 L5.length k5, .int .i64 k1, .string ⟨#[]⟩, .slice none 0 0, .slice none 0 0] := hP.out
  have h1 : Hid (∀ y, Calls Tryz.prog 16 #[rV s rk, .int .i64 1] y fun e w' => e = .returned (.tuple #[.int .i64 ((rdByte s 1 rk).1 : Int), rV s (rdByte s 1 rk).2]) ∧ Below y.heap.size y w') := fun y => l3Byte_in s 1 rk y hs pk
  have pg := rdByte_pos (hi := 1) pk
  obtain ⟨x, eg⟩ : ∃ x, rdByte s 1 rk = x := ⟨_, rfl⟩
  rw [eg] at h1 pg
  obtain ⟨g1, rg⟩ := x
  dsimp only at h1 pg
  replace eg := hidR eg
  obtain ⟨g1I, hg1I⟩ : ∃ z : Int, (g1 : Int) = z := ⟨_, rfl⟩
  rw [hg1I] at h1
  unfold rV at h1
  have c0 := hR.cell 0 rfl
  have c1 := hR.cell 1 rfl
  have c2 := hR.cell 2 rfl
  have cf := hR.frozen
  have hq1 := hR.lt
  replace hR := hidR hR
  replace hP := hidR hP
  go_wp2_with fail
  refine Calls.mono (h1.out y21) ?_
  rintro e y22 ⟨rfl, b9⟩
  replace hR := hR.out.call b9
  replace hP := hP.out.call b9
  replace X := X.trans (Ex2.below b9)
  replace w3 := hidR (own_ex2 (R := w.heap.size) (P := (w.heap.size + 1 + 1 + 1)) w3.out (by omega) (by omega) (Ex2.below b9))
  replace w4 := hidR (own_ex2 (R := w.heap.size) (P := (w.heap.size + 1 + 1 + 1)) w4.out (by omega) (by omega) (Ex2.below b9))
  replace w5 := hidR (own_ex2 (R := w.heap.size) (P := (w.heap.size + 1 + 1 + 1)) w5.out (by omega) (by omega) (Ex2.below b9))
  clear b9 c0 c1 c2 cf hq1
  have c0 := hR.cell 0 rfl
  have c1 := hR.cell 1 rfl
  have c2 := hR.cell 2 rfl
  have cf := hR.frozen
  have hq1 := hR.lt
  replace hR := hidR (rC_put hR rg)
  replace hP := hidR (hP.put (R := w.heap.size) (by omega) (.string s) (.int .i64 (rg.pos : Int)) (.int .i64 rg.bad))
  replace X := X.put (.string s) (.int .i64 (rg.pos : Int)) (.int .i64 rg.bad)
  replace w3 := hidR (own_ex2 (R := w.heap.size) (P := (w.heap.size + 1 + 1 + 1)) w3.out (by omega) (by omega) ((Ex2.refl _ _ _).put (.string s) (.int .i64 (rg.pos : Int)) (.int .i64 rg.bad)))
  replace w4 := hidR (own_ex2 (R := w.heap.size) (P := (w.heap.size + 1 + 1 + 1)) w4.out (by omega) (by omega) ((Ex2.refl _ _ _).put (.string s) (.int .i64 (rg.pos : Int)) (.int .i64 rg.bad)))
  replace w5 := hidR (own_ex2 (R := w.heap.size) (P := (w.heap.size + 1 + 1 + 1)) w5.out (by omega) (by omega) ((Ex2.refl _ _ _).put (.string s) (.int .i64 (rg.pos : Int)) (.int .i64 rg.bad)))
  go_upto_region 37 with fail
  clear c0 c1 c2 cf hq1 h1
  generalize ((y22.setCell ⟨w.heap.size, 0, none⟩ (.string s)).setCell ⟨w.heap.size, 1, none⟩ (.int .i64 (rg.pos : Int))).setCell ⟨w.heap.size, 2, none⟩ (.int .i64 rg.bad) = y23 at hR hP X w3 w4 w5 ⊢
  replace hR := hR.out
  replace hP := hP.out
  have hD2 := rdPro_mod (most := most) ea.out eb.out (lo := lo) hlo ec.out ed.out erco.out lrco.out ee.out ercs.out lrcs.out ef.out erus.out lrus.out ek.out eg.out
  rw [hD.out] at hD2
  clear hD ea eb hlo ec ed erco lrco ee ercs lrcs ef erus lrus ek eg
  by_cases hg : g1 = 1
  · have hgI : g1I = 1 := by omega
    rw [if_pos hg] at hD2
    replace hD2 := hidR hD2
    have hDb := hidR (l3ReadDebug_in s V hV rg y23 hs pg b1 c1 k1 (a1I == 1) o3 o4 o5 L3.length k3 L4.length k4 L5.length k5 (by omega) (by omega))
    unfold rV at hDb
    have kA := X.row hA.out (show (w.heap.size + 1) ≠ w.heap.size by omega) (show (w.heap.size + 1) ≠ (w.heap.size + 1 + 1 + 1) by omega)
    have kB := X.row hB.out (show (w.heap.size + 1 + 1) ≠ w.heap.size by omega) (show (w.heap.size + 1 + 1) ≠ (w.heap.size + 1 + 1 + 1) by omega)
    have bf := Below.of_ex2 bw.out X (Nat.le_refl _) (show w.heap.size ≤ (w.heap.size + 1 + 1 + 1) by omega)
    have c0 := hR.cell 0 rfl
    have c1_ := hR.cell 1 rfl
    have c2 := hR.cell 2 rfl
    have g0 := hP.cell 0 rfl
    have g1_ := hP.cell 1 rfl
    have g2 := hP.cell 2 rfl
    have g3 := hP.cell 3 rfl
    have g4 := hP.cell 4 rfl
    have g5 := hP.cell 5 rfl
    have g6 := hP.cell 6 rfl
    have g7 := hP.cell 7 rfl
    have g8 := hP.cell 8 rfl
    have g9 := hP.cell 9 rfl
    replace hR := hidR hR
    replace hP := hidR hP
    replace kA := hidR kA
    replace kB := hidR kB
    replace bf := hidR bf
    go_wp2_with fail
    refine Calls.mono hDb.out ?_
    rintro e y24 ⟨⟨t, o8, n8, k8, o9, n9, k9, rfl, hd⟩, b9⟩
    clear hDb g0 g1_ g2 g3 g4 g5 g6 g7 g8 g9 c0 c1_ c2
    obtain ⟨r5, hr5⟩ : ∃ z, (rdDbg s V L3.length L5.length rg).2 = z := ⟨_, rfl⟩
    rw [hr5] at hd
    rw [hr5]
    have hzx := X.size
    have hzb := b9.size
    have kB2 := hidR ((kB.out.call b9).setsOther (show (w.heap.size + 1 + 1) ≠ (w.heap.size + 1) by omega) [.int .i64 b1, .bool (a1I == 1), .int .i64 c1, .slice o3 L3.length k3, .slice o4 L4.length k4, .slice o5 L5.length k5, .int .i64 k1, .string t, .slice o8 n8 k8, .slice o9 n9 k9])
    replace kA := hidR (kA.out.call b9)
    have kF := ((kA.out.over [.int .i64 b1, .bool (a1I == 1), .int .i64 c1, .slice o3 L3.length k3, .slice o4 L4.length k4, .slice o5 L5.length k5, .int .i64 k1, .string t, .slice o8 n8 k8, .slice o9 n9 k9] rfl).setsOther (show (w.heap.size + 1) ≠ (w.heap.size + 1 + 1) by omega) [.string s, .int .i64 (r5.pos : Int), .int .i64 r5.bad])
    have kG := kB2.out.over [.string s, .int .i64 (r5.pos : Int), .int .i64 r5.bad] rfl
    have bz := below_sets (n := w.heap.size) (show w.heap.size ≤ (w.heap.size + 1 + 1) by omega) [.string s, .int .i64 (r5.pos : Int), .int .i64 r5.bad] 0 (below_sets (show w.heap.size ≤ (w.heap.size + 1) by omega) [.int .i64 b1, .bool (a1I == 1), .int .i64 c1, .slice o3 L3.length k3, .slice o4 L4.length k4, .slice o5 L5.length k5, .int .i64 k1, .string t, .slice o8 n8 k8, .slice o9 n9 k9] 0 (bf.out.trans (b9.mono bf.out.size)))
    have hrg := hidR (kA.out.there)
    have hrh := hidR (kB2.out.there)
    have tr : ∀ {e : TypeId} {z n : Nat} {v : Value} {xs : List Value}, y24.ownsRow (w.heap.size + 4) e z v n xs → ((y24.setCells (w.heap.size + 1) 0 [.int .i64 b1, .bool (a1I == 1), .int .i64 c1, .slice o3 L3.length k3, .slice o4 L4.length k4, .slice o5 L5.length k5, .int .i64 k1, .string t, .slice o8 n8 k8, .slice o9 n9 k9]).setCells (w.heap.size + 1 + 1) 0 [.string s, .int .i64 (r5.pos : Int), .int .i64 r5.bad]).ownsRow (w.heap.size + 4) e z v n xs := fun h =>
      own_ex2 (own_ex2 h (show (w.heap.size + 1) < w.heap.size + 4 by omega) (show (w.heap.size + 1) < w.heap.size + 4 by omega) (Ex2.sets [.int .i64 b1, .bool (a1I == 1), .int .i64 c1, .slice o3 L3.length k3, .slice o4 L4.length k4, .slice o5 L5.length k5, .int .i64 k1, .string t, .slice o8 n8 k8, .slice o9 n9 k9] 0 (Ex2.refl (w.heap.size + 1) (w.heap.size + 1) y24))) (show (w.heap.size + 1 + 1) < w.heap.size + 4 by omega) (show (w.heap.size + 1 + 1) < w.heap.size + 4 by omega) (Ex2.sets [.string s, .int .i64 (r5.pos : Int), .int .i64 r5.bad] 0 (Ex2.refl (w.heap.size + 1 + 1) (w.heap.size + 1 + 1) _))
    replace w3 := hidR (tr (own_ex2 (R := w.heap.size) (P := (w.heap.size + 1 + 1 + 1)) w3.out (by omega) (by omega) (Ex2.below b9)))
    replace w4 := hidR (tr (own_ex2 (R := w.heap.size) (P := (w.heap.size + 1 + 1 + 1)) w4.out (by omega) (by omega) (Ex2.below b9)))
    replace w5 := hidR (tr (own_ex2 (R := w.heap.size) (P := (w.heap.size + 1 + 1 + 1)) w5.out (by omega) (by omega) (Ex2.below b9)))
    have hd2 := hidR (fun h : r5.bad = 0 => (⟨(hd h).1, tr (own_low (hd h).2.1 (by omega)), tr (own_low (hd h).2.2 (by omega))⟩ : _ ∧ _ ∧ _))
    clear tr hd kB
    replace kF := hidR kF
    replace kG := hidR kG
    replace bz := hidR bz
    replace hr5 := hidR hr5
    replace b9 := hidR b9
    replace X := hidR X
    dsimp only
    go_at_K
    go_step
    go_step
    go_step
    go_step
    go_step
    go_step
    go_step
    refine wpList_store_mid rfl 38 (.tmp 4) (.tmp 167) rfl (w.heap.size + 1) 0 ([.int .i64 b1, .bool (a1I == 1), .int .i64 c1, .slice o3 L3.length k3, .slice o4 L4.length k4, .slice o5 L5.length k5, .int .i64 k1, .string t, .slice o8 n8 k8, .slice o9 n9 k9] : List Value).toArray rfl rfl hrg.out infP (by simp [Value.oneCell']) ?_
    refine wpList_store_mid rfl 31 (.tmp 5) (.tmp 168) rfl (w.heap.size + 1 + 1) 0 ([.string s, .int .i64 (r5.pos : Int), .int .i64 r5.bad] : List Value).toArray rfl rfl hrh.out infR1 (by simp [Value.oneCell']) ?_
    refine wpList_nil ?_
    obtain ⟨yf, hyf⟩ : ∃ yf, (y24.setCells (w.heap.size + 1) 0 [.int .i64 b1, .bool (a1I == 1), .int .i64 c1, .slice o3 L3.length k3, .slice o4 L4.length k4, .slice o5 L5.length k5, .int .i64 k1, .string t, .slice o8 n8 k8, .slice o9 n9 k9]).setCells (w.heap.size + 1 + 1) 0 [.string s, .int .i64 (r5.pos : Int), .int .i64 r5.bad] = yf := ⟨_, rfl⟩
    rw [show (y24.setCells (w.heap.size + 1) 0 ([.int .i64 b1, .bool (a1I == 1), .int .i64 c1, .slice o3 L3.length k3, .slice o4 L4.length k4, .slice o5 L5.length k5, .int .i64 k1, .string t, .slice o8 n8 k8, .slice o9 n9 k9] : List Value).toArray.toList).setCells (w.heap.size + 1 + 1) 0 ([.string s, .int .i64 (r5.pos : Int), .int .i64 r5.bad] : List Value).toArray.toList = yf from hyf]
    rw [hyf] at kF kG bz w3 w4 w5 hd2
    clear hyf hrg hrh
    simp only [Exit.then]
    rename_i K hK
    refine hK _ _ (wp_ret ?_)
    clear hK
    simp only [Exit.then]
    have l0 := kF.out.cell 0 rfl
    have l1 := kF.out.cell 1 rfl
    have l2 := kF.out.cell 2 rfl
    have l3 := kF.out.cell 3 rfl
    have l4 := kF.out.cell 4 rfl
    have l5 := kF.out.cell 5 rfl
    have l6 := kF.out.cell 6 rfl
    have l7 := kF.out.cell 7 rfl
    have l8 := kF.out.cell 8 rfl
    have l9 := kF.out.cell 9 rfl
    have m0 := kG.out.cell 0 rfl
    have m1 := kG.out.cell 1 rfl
    have m2 := kG.out.cell 2 rfl
    refine bodyPost_ret (v := .tuple #[.agg #[.int .i64 b1, .bool (a1I == 1), .int .i64 c1, .slice o3 L3.length k3, .slice o4 L4.length k4, .slice o5 L5.length k5, .int .i64 k1, .string t, .slice o8 n8 k8, .slice o9 n9 k9], .agg #[.string s, .int .i64 (r5.pos : Int), .int .i64 r5.bad]]) ?_ rfl ?_
    · simp [results, Tryz.results9, go_sem, l0, l1, l2, l3, l4, l5, l6, l7, l8, l9, m0, m1, m2]
    · have e5 : D.2 = r5 := hD2.out.1.trans hr5.out
      refine ⟨⟨b1, c1, k1, (a1I == 1), t, _, _, _, _, _, _, _, _, _, _, _, _, _, _, _, by rw [e5], fun h0 => ?_⟩, bz.out⟩
      rw [hD2.out.2 h0]
      have h5 := hd2.out (by rw [← e5]; exact h0)
      exact ⟨⟨rfl, flag_eq ha1I, rfl, rfl, h5.1⟩, own_low w3.out (by omega), own_low w4.out (by omega), own_low w5.out (by omega), own_low h5.2.1 (by omega), own_low h5.2.2 (by omega)⟩
  · have hgI : (g1I == 1) = false := by
      have : g1I ≠ 1 := by omega
      simpa using this
    rw [if_neg hg] at hD2
    replace hD2 := hidR hD2
    go_upto_region 39 with fail
    have kA := X.row hA.out (show (w.heap.size + 1) ≠ w.heap.size by omega) (show (w.heap.size + 1) ≠ (w.heap.size + 1 + 1 + 1) by omega)
    have kB := X.row hB.out (show (w.heap.size + 1 + 1) ≠ w.heap.size by omega) (show (w.heap.size + 1 + 1) ≠ (w.heap.size + 1 + 1 + 1) by omega)
    have bf := Below.of_ex2 bw.out X (Nat.le_refl _) (show w.heap.size ≤ (w.heap.size + 1 + 1 + 1) by omega)
    replace hR := hR.call (Below.refl _ _).drew
    replace hP := hP.call (Below.refl _ _).drew
    replace kA := kA.call (Below.refl _ _).drew
    replace kB := kB.call (Below.refl _ _).drew
    replace bf := bf.drew
    replace hR := hidR (show RowL y23.drew w.heap.size 31 [.string s, .int .i64 (rg.pos : Int), .int .i64 rg.bad] from hR)
    replace hP := hidR hP
    replace kA := hidR kA
    replace kB := hidR kB
    replace bf := hidR bf
    clear X
    replace w3 := hidR (own_ex2 (R := (w.heap.size + 1)) (P := (w.heap.size + 1 + 1)) w3.out (by omega) (by omega) (Ex2.below (Below.refl _ _).drew))
    replace w4 := hidR (own_ex2 (R := (w.heap.size + 1)) (P := (w.heap.size + 1 + 1)) w4.out (by omega) (by omega) (Ex2.below (Below.refl _ _).drew))
    replace w5 := hidR (own_ex2 (R := (w.heap.size + 1)) (P := (w.heap.size + 1 + 1)) w5.out (by omega) (by omega) (Ex2.below (Below.refl _ _).drew))
    refine wp_region_held_drew (S := fun wv => RowL wv w.heap.size 31 [.string s, .int .i64 (rg.pos : Int), .int .i64 rg.bad] ∧ RowL wv (w.heap.size + 1 + 1 + 1) 38 [.int .i64 b1, .bool (a1I == 1), .int .i64 c1, .slice o3 L3.length k3, .slice o4 L4.length k4, .slice o5 L5.length k5, .int .i64 k1, .string ⟨#[]⟩, .slice none 0 0, .slice none 0 0]) (by kernel_rfl) ⟨hR.out, hP.out⟩ (fun hH => ?_)
    generalize y23.drew = yz at *
    refine take_dst 0 169 (.agg #[.int .i64 b1, .bool (a1I == 1), .int .i64 c1, .slice o3 L3.length k3, .slice o4 L4.length k4, .slice o5 L5.length k5, .int .i64 k1, .string ⟨#[]⟩, .slice none 0 0, .slice none 0 0]) rfl (by kernel_rfl) (by kernel_rfl) (by kernel_rfl) (fun _ _ _ h => h) (Or.inl ⟨by rfl, by intro wv hSv; have g0 := hSv.2.cell 0 rfl; have g1 := hSv.2.cell 1 rfl; have g2 := hSv.2.cell 2 rfl; have g3 := hSv.2.cell 3 rfl; have g4 := hSv.2.cell 4 rfl; have g5 := hSv.2.cell 5 rfl; have g6 := hSv.2.cell 6 rfl; have g7 := hSv.2.cell 7 rfl; have g8 := hSv.2.cell 8 rfl; have g9 := hSv.2.cell 9 rfl; clear hSv; go_simp⟩) hH rfl ?_
    try simp only [Act.put, List.setIfInBounds_toArray, List.set_cons_zero, List.set_cons_succ]
    refine take_dst 1 170 (.agg #[.string s, .int .i64 (rg.pos : Int), .int .i64 rg.bad]) rfl (by kernel_rfl) (by kernel_rfl) (by kernel_rfl) (fun _ _ _ h => h) (Or.inl ⟨by rfl, by intro wv hSv; have g0 := hSv.1.cell 0 rfl; have g1 := hSv.1.cell 1 rfl; have g2 := hSv.1.cell 2 rfl; clear hSv; go_simp⟩) hH rfl ?_
    try simp only [Act.put, List.setIfInBounds_toArray, List.set_cons_zero, List.set_cons_succ]
    have s1 := hidR (show RowL (yz.setRow (w.heap.size + 1) ([.int .i64 b1, .bool (a1I == 1), .int .i64 c1, .slice o3 L3.length k3, .slice o4 L4.length k4, .slice o5 L5.length k5, .int .i64 k1, .string ⟨#[]⟩, .slice none 0 0, .slice none 0 0] : List Value).toArray) w.heap.size 31 [.string s, .int .i64 (rg.pos : Int), .int .i64 rg.bad] ∧ RowL (yz.setRow (w.heap.size + 1) ([.int .i64 b1, .bool (a1I == 1), .int .i64 c1, .slice o3 L3.length k3, .slice o4 L4.length k4, .slice o5 L5.length k5, .int .i64 k1, .string ⟨#[]⟩, .slice none 0 0, .slice none 0 0] : List Value).toArray) (w.heap.size + 1 + 1 + 1) 38 [.int .i64 b1, .bool (a1I == 1), .int .i64 c1, .slice o3 L3.length k3, .slice o4 L4.length k4, .slice o5 L5.length k5, .int .i64 k1, .string ⟨#[]⟩, .slice none 0 0, .slice none 0 0] from ⟨hR.out.rowOther (by omega) _, hP.out.rowOther (by omega) _⟩)
    refine ready_storeL 2 (by kernel_rfl) rfl 38 (.tmp 4) (.tmp 169) rfl rfl rfl (w.heap.size + 1) _ [.int .i64 b1, .bool (a1I == 1), .int .i64 c1, .slice o3 L3.length k3, .slice o4 L4.length k4, .slice o5 L5.length k5, .int .i64 k1, .string ⟨#[]⟩, .slice none 0 0, .slice none 0 0] rfl rfl _ kA.out infP1 rfl (by simp [Value.oneCell']) s1.out ?_
    have s2 := hidR (show RowL ((yz.setRow (w.heap.size + 1) ([.int .i64 b1, .bool (a1I == 1), .int .i64 c1, .slice o3 L3.length k3, .slice o4 L4.length k4, .slice o5 L5.length k5, .int .i64 k1, .string ⟨#[]⟩, .slice none 0 0, .slice none 0 0] : List Value).toArray).setRow (w.heap.size + 1 + 1) ([.string s, .int .i64 (rg.pos : Int), .int .i64 rg.bad] : List Value).toArray) w.heap.size 31 [.string s, .int .i64 (rg.pos : Int), .int .i64 rg.bad] ∧ RowL ((yz.setRow (w.heap.size + 1) ([.int .i64 b1, .bool (a1I == 1), .int .i64 c1, .slice o3 L3.length k3, .slice o4 L4.length k4, .slice o5 L5.length k5, .int .i64 k1, .string ⟨#[]⟩, .slice none 0 0, .slice none 0 0] : List Value).toArray).setRow (w.heap.size + 1 + 1) ([.string s, .int .i64 (rg.pos : Int), .int .i64 rg.bad] : List Value).toArray) (w.heap.size + 1 + 1 + 1) 38 [.int .i64 b1, .bool (a1I == 1), .int .i64 c1, .slice o3 L3.length k3, .slice o4 L4.length k4, .slice o5 L5.length k5, .int .i64 k1, .string ⟨#[]⟩, .slice none 0 0, .slice none 0 0] from ⟨s1.out.1.rowOther (by omega) _, s1.out.2.rowOther (by omega) _⟩)
    refine ready_storeL 3 (by kernel_rfl) rfl 31 (.tmp 5) (.tmp 170) rfl rfl rfl (w.heap.size + 1 + 1) _ [.string s, .int .i64 (rg.pos : Int), .int .i64 rg.bad] rfl rfl _ (kB.out.rowOther (show (w.heap.size + 1 + 1) ≠ (w.heap.size + 1) by omega) _) infR1 rfl (by simp [Value.oneCell']) s2.out ?_
    have L := (kA.out.setRow [.int .i64 b1, .bool (a1I == 1), .int .i64 c1, .slice o3 L3.length k3, .slice o4 L4.length k4, .slice o5 L5.length k5, .int .i64 k1, .string ⟨#[]⟩, .slice none 0 0, .slice none 0 0] rfl).rowOther (show (w.heap.size + 1) ≠ (w.heap.size + 1 + 1) by omega) ([.string s, .int .i64 (rg.pos : Int), .int .i64 rg.bad] : List Value).toArray
    have M := (kB.out.rowOther (show (w.heap.size + 1 + 1) ≠ (w.heap.size + 1) by omega) ([.int .i64 b1, .bool (a1I == 1), .int .i64 c1, .slice o3 L3.length k3, .slice o4 L4.length k4, .slice o5 L5.length k5, .int .i64 k1, .string ⟨#[]⟩, .slice none 0 0, .slice none 0 0] : List Value).toArray).setRow [.string s, .int .i64 (rg.pos : Int), .int .i64 rg.bad] rfl
    replace bf := hidR (below_row (below_row bf.out (show w.heap.size ≤ (w.heap.size + 1) by omega) ([.int .i64 b1, .bool (a1I == 1), .int .i64 c1, .slice o3 L3.length k3, .slice o4 L4.length k4, .slice o5 L5.length k5, .int .i64 k1, .string ⟨#[]⟩, .slice none 0 0, .slice none 0 0] : List Value).toArray) (show w.heap.size ≤ (w.heap.size + 1 + 1) by omega) ([.string s, .int .i64 (rg.pos : Int), .int .i64 rg.bad] : List Value).toArray)
    replace w3 := hidR (own_ex2 (R := (w.heap.size + 1)) (P := (w.heap.size + 1 + 1)) w3.out (by omega) (by omega) (((Ex2.refl _ _ _).rowR ([.int .i64 b1, .bool (a1I == 1), .int .i64 c1, .slice o3 L3.length k3, .slice o4 L4.length k4, .slice o5 L5.length k5, .int .i64 k1, .string ⟨#[]⟩, .slice none 0 0, .slice none 0 0] : List Value).toArray).rowP ([.string s, .int .i64 (rg.pos : Int), .int .i64 rg.bad] : List Value).toArray))
    replace w4 := hidR (own_ex2 (R := (w.heap.size + 1)) (P := (w.heap.size + 1 + 1)) w4.out (by omega) (by omega) (((Ex2.refl _ _ _).rowR ([.int .i64 b1, .bool (a1I == 1), .int .i64 c1, .slice o3 L3.length k3, .slice o4 L4.length k4, .slice o5 L5.length k5, .int .i64 k1, .string ⟨#[]⟩, .slice none 0 0, .slice none 0 0] : List Value).toArray).rowP ([.string s, .int .i64 (rg.pos : Int), .int .i64 rg.bad] : List Value).toArray))
    replace w5 := hidR (own_ex2 (R := (w.heap.size + 1)) (P := (w.heap.size + 1 + 1)) w5.out (by omega) (by omega) (((Ex2.refl _ _ _).rowR ([.int .i64 b1, .bool (a1I == 1), .int .i64 c1, .slice o3 L3.length k3, .slice o4 L4.length k4, .slice o5 L5.length k5, .int .i64 k1, .string ⟨#[]⟩, .slice none 0 0, .slice none 0 0] : List Value).toArray).rowP ([.string s, .int .i64 (rg.pos : Int), .int .i64 rg.bad] : List Value).toArray))
    clear hR hP kA kB s1 s2 hH
    generalize (yz.setRow (w.heap.size + 1) ([.int .i64 b1, .bool (a1I == 1), .int .i64 c1, .slice o3 L3.length k3, .slice o4 L4.length k4, .slice o5 L5.length k5, .int .i64 k1, .string ⟨#[]⟩, .slice none 0 0, .slice none 0 0] : List Value).toArray).setRow (w.heap.size + 1 + 1) ([.string s, .int .i64 (rg.pos : Int), .int .i64 rg.bad] : List Value).toArray = y19 at L M bf w3 w4 w5 ⊢
    refine wpAnyH_done (by kernel_rfl) ?_ _
    simp only [Exit.then]
    rename_i K hK
    refine hK _ _ (wp_ret ?_)
    clear hK
    have l0 := L.cell 0 rfl
    have l1 := L.cell 1 rfl
    have l2 := L.cell 2 rfl
    have l3 := L.cell 3 rfl
    have l4 := L.cell 4 rfl
    have l5 := L.cell 5 rfl
    have l6 := L.cell 6 rfl
    have l7 := L.cell 7 rfl
    have l8 := L.cell 8 rfl
    have l9 := L.cell 9 rfl
    have m0 := M.cell 0 rfl
    have m1 := M.cell 1 rfl
    have m2 := M.cell 2 rfl
    clear L M
    refine bodyPost_ret (v := .tuple #[.agg #[.int .i64 b1, .bool (a1I == 1), .int .i64 c1, .slice o3 L3.length k3, .slice o4 L4.length k4, .slice o5 L5.length k5, .int .i64 k1, .string ⟨#[]⟩, .slice none 0 0, .slice none 0 0], .agg #[.string s, .int .i64 (rg.pos : Int), .int .i64 rg.bad]]) ?_ rfl ?_
    · simp [results, Tryz.results9, go_sem, l0, l1, l2, l3, l4, l5, l6, l7, l8, l9, m0, m1, m2]
    · have e5 : D.2 = rg := hD2.out.1
      refine ⟨⟨b1, c1, k1, (a1I == 1), ⟨#[]⟩, _, _, _, _, _, _, _, _, _, _, _, _, _, _, _, by rw [e5], fun h0 => ?_⟩, bf.out⟩
      rw [hD2.out.2 h0]
      exact ⟨⟨rfl, flag_eq ha1I, rfl, rfl, rfl⟩, own_low w3.out (by omega), own_low w4.out (by omega), own_low w5.out (by omega), World.ownsRow_nil _ _ _ _, World.ownsRow_nil _ _ _ _⟩
end Go.Proofs.YtpobiffihiaakaaGreatDoor
