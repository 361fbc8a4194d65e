import Derived.Test.YtebjplogpngeaaaGreatDoorGs
import Derived.Deep.MidRow
import Derived.Lib.LazyBuf
namespace Go.Proofs.YtebjplogpngeaaaGreatDoor
open Go.RowKit
set_option linter.unusedVariables false
set_option linter.unusedSimpArgs false
set_option maxRecDepth 100000
set_option maxHeartbeats 2000000
/-- what a prototype's text says. -/
structure PR where
  params : Int
  regs : Int
  kids : Int
  vararg : Bool
  code : List Nat
  consts : List VD
  ups : List UD
  name : ByteArray
  lines : List Int
  upNames : List ByteArray
noncomputable def rdPro (s : ByteArray) (V : Nat → Option (Int × Nat)) (G : ByteArray → Int) (most : Int) (r : RS) : PR × RS :=
  let a := rdByte s 1 r
  let b := rdNum s V 0 250 a.2
  let c := rdNum s V (max 1 b.1) 250 b.2
  let d := rdNum s V 1 2000 c.2
  let co := rdSev (rdWord s) d.1.toNat d.2 []
  let e := rdNum s V 0 500 co.2
  let cs := rdSev (rdVal s V G) e.1.toNat e.2 []
  let f := rdNum s V 0 60 cs.2
  let us := rdSev (rdUp s V) f.1.toNat f.2 []
  let k := rdNum s V 0 most us.2
  let g := rdByte s 1 k.2
  let x := if g.1 = 1 then rdDbg s V co.1.length us.1.length g.2 else ((⟨#[]⟩, [], []), g.2)
  (⟨b.1, c.1, k.1, decide (a.1 = 1), co.1, cs.1, us.1, x.1.1, x.1.2.1, x.1.2.2⟩, x.2)
theorem rdPro_eq {s : ByteArray} {V : Nat → Option (Int × Nat)} {G : ByteArray → Int} {most b1 c1 k1 : Int} {a1 g1 d1 e1 f1 : Nat} {r ra rb rc rd rco re rcs rf rus rk rg rx : RS} {l3 : List Nat} {l4 : List VD} {l5 : List UD} {t : ByteArray} {ls : List Int} {ns : List ByteArray}
    (ea : rdByte s 1 r = (a1, ra)) (eb : rdNum s V 0 250 ra = (b1, rb)) (ec : rdNum s V (max 1 b1) 250 rb = (c1, rc)) (ed : rdNum s V 1 2000 rc = ((d1 : Int), rd)) (eco : rdSev (rdWord s) d1 rd [] = (l3, rco))
    (ee : rdNum s V 0 500 rco = ((e1 : Int), re)) (ecs : rdSev (rdVal s V G) e1 re [] = (l4, rcs)) (ef : rdNum s V 0 60 rcs = ((f1 : Int), rf)) (eus : rdSev (rdUp s V) f1 rf [] = (l5, rus)) (ek : rdNum s V 0 most rus = (k1, rk)) (eg : rdByte s 1 rk = (g1, rg))
    (ex : (if g1 = 1 then rdDbg s V l3.length l5.length rg else ((⟨#[]⟩, [], []), rg)) = ((t, ls, ns), rx)) :
    rdPro s V G most r = (⟨b1, c1, k1, decide (a1 = 1), l3, l4, l5, t, ls, ns⟩, rx) := by
  simp only [rdPro, ea, eb, ec, ed, eco, ee, ecs, ef, eus, ek, eg, ex, Int.toNat_natCast]
theorem Ex.setUp {R P : Nat} {a b : World} (h : Ex R a b) (hP : a.heap.size ≤ P) (k : Nat) (v : Value) : Ex R a (b.setCell ⟨P, k, none⟩ v) :=
  ⟨h.os, h.tape, h.output, by rw [World.size_setCell]; exact h.size, fun i hi hR => (Below.heap_setCell _ _ _ _ (show i ≠ P by omega)).trans (h.block i hi hR)⟩
theorem rdWord_pos {s : ByteArray} {r : RS} (hp : r.pos ≤ s.size) : (rdWord s r).2.pos ≤ s.size := rdBytes_pos hp
theorem rdVal_pos {s : ByteArray} {V : Nat → Option (Int × Nat)} {G : ByteArray → Int} (hV : VrOk s V) {r : RS} (hp : r.pos ≤ s.size) : (rdVal s V G r).2.pos ≤ s.size := by
  unfold rdVal
  dsimp only
  split
  · exact rdByte_pos hp
  · split
    · exact rdBytes_pos (rdByte_pos hp)
    · split
      · exact rdText_pos hV (rdByte_pos hp)
      · exact rdByte_pos hp
theorem rdUp_pos {s : ByteArray} {V : Nat → Option (Int × Nat)} (hV : VrOk s V) {r : RS} (hp : r.pos ≤ s.size) : (rdUp s V r).2.pos ≤ s.size := rdAny_pos hV (rdByte_pos hp)
theorem RowL.over {w : World} {b : Nat} {t : TypeId} {L : List Value} (h : RowL w b t L) (vs : List Value) (hl : vs.length = L.length) : RowL (w.setCells b 0 vs) b t vs := by
  have := rowIs_setCells vs 0 w _ h
  unfold RowL
  rw [hl]
  refine this.congr fun j hj => ?_
  have hj' : j < vs.length := by omega
  simp [hj', List.getD]
theorem RowL.setsOther {w : World} {b g : Nat} {t : TypeId} {L : List Value} (h : RowL w b t L) (hb : b ≠ g) (vs : List Value) : RowL (w.setCells g 0 vs) b t L := rowIs_setCells_other hb vs 0 w h
theorem Ex.sets {R g : Nat} {a : World} (hg : a.heap.size ≤ g) : ∀ (vs : List Value) (o : Nat) {b : World}, Ex R a b → Ex R a (b.setCells g o vs)
  | [], _, _, h => h
  | v :: vs, o, b, h => Ex.sets hg vs (o + 1) (h.setUp hg o v)
theorem Ex2.sets {R g : Nat} {a : World} : ∀ (vs : List Value) (o : Nat) {b : World}, Ex2 R g a b → Ex2 R g a (b.setCells g o vs)
  | [], _, _, h => h
  | v :: vs, o, b, h => Ex2.sets vs (o + 1) (h.set o v)
theorem RowL.there {w : World} {b : Nat} {t : TypeId} {L : List Value} (h : RowL w b t L) : w.there b 0 L.length := fun j hj => by
  rw [Nat.zero_add]
  exact ⟨by rw [h.cell j (List.getElem?_eq_getElem hj)]; rfl, h.frozen j⟩
theorem RowL.range {w : World} {b : Nat} {t : TypeId} {L : List Value} (h : RowL w b t L) : w.rangeAt b 0 L := fun j v hv => by
  rw [Nat.zero_add]
  exact h.cell j hv
theorem Ex2.row {R P : Nat} {w w' : World} {b : Nat} {t : TypeId} {L : List Value} (h : Ex2 R P w w') (hL : RowL w b t L) (hR : b ≠ R) (hP : b ≠ P) : RowL w' b t L := World.rowIs.of_block hL (h.block _ (World.rowIs.lt hL) hR hP)
theorem setCells_size (b : Nat) : ∀ (vs : List Value) (o : Nat) (w : World), (w.setCells b o vs).heap.size = w.heap.size
  | [], _, _ => rfl
  | v :: vs, o, w => (setCells_size b vs (o + 1) (w.setCell ⟨b, o, none⟩ v)).trans (World.size_setCell _ _ _)
theorem sep_none {v3 v4 v5 : Value} {x3 y3 x4 y4 x5 y5 : Nat} (h3 : ∀ q, v3.ownBlock = some q → x3 ≤ q ∧ q < y3) (h4 : ∀ q, v4.ownBlock = some q → x4 ≤ q ∧ q < y4) (h5 : ∀ q, v5.ownBlock = some q → x5 ≤ q ∧ q < y5) (h : y3 ≤ x4 ∧ x4 ≤ y4 ∧ y4 ≤ x5 ∧ x5 ≤ y5) :
    ∃ m4 m5 m8 m9, (∀ q, v3.ownBlock = some q → q < m4) ∧ (∀ q, v4.ownBlock = some q → m4 ≤ q ∧ q < m5) ∧ (∀ q, v5.ownBlock = some q → m5 ≤ q ∧ q < m8) ∧ (∀ q, (Value.slice none 0 0).ownBlock = some q → m8 ≤ q ∧ q < m9) ∧ (∀ q, (Value.slice none 0 0).ownBlock = some q → m9 ≤ q) ∧ m4 ≤ m5 ∧ m5 ≤ m8 ∧ m8 ≤ m9 :=
  ⟨x4, x5, y5, y5, fun q hq => by have := h3 q hq; omega, fun q hq => by have := h4 q hq; omega, fun q hq => h5 q hq, fun q hq => (by cases hq), fun q hq => (by cases hq), by omega, by omega, Nat.le_refl _⟩
theorem sep_dbg {v3 v4 v5 v8 v9 : Value} {x3 y3 x4 y4 x5 y5 x8 y8 m : Nat} (h3 : ∀ q, v3.ownBlock = some q → x3 ≤ q ∧ q < y3) (h4 : ∀ q, v4.ownBlock = some q → x4 ≤ q ∧ q < y4) (h5 : ∀ q, v5.ownBlock = some q → x5 ≤ q ∧ q < y5) (h8 : ∀ q, v8.ownBlock = some q → q < m) (h9 : ∀ q, v9.ownBlock = some q → m ≤ q) (h8b : ∀ q, v8.ownBlock = some q → x8 ≤ q ∧ q < y8) (h9b : ∀ q, v9.ownBlock = some q → x8 ≤ q ∧ q < y8) (h : y3 ≤ x4 ∧ x4 ≤ y4 ∧ y4 ≤ x5 ∧ x5 ≤ y5 ∧ y5 ≤ x8) :
    ∃ m4 m5 m8 m9, (∀ q, v3.ownBlock = some q → q < m4) ∧ (∀ q, v4.ownBlock = some q → m4 ≤ q ∧ q < m5) ∧ (∀ q, v5.ownBlock = some q → m5 ≤ q ∧ q < m8) ∧ (∀ q, v8.ownBlock = some q → m8 ≤ q ∧ q < m9) ∧ (∀ q, v9.ownBlock = some q → m9 ≤ q) ∧ m4 ≤ m5 ∧ m5 ≤ m8 ∧ m8 ≤ m9 := by
  by_cases hc : x8 ≤ m
  · exact ⟨x4, x5, x8, m, fun q hq => by have := h3 q hq; omega, fun q hq => by have := h4 q hq; omega, fun q hq => by have := h5 q hq; omega, fun q hq => ⟨(h8b q hq).1, h8 q hq⟩, h9, by omega, by omega, hc⟩
  · exact ⟨x4, x5, x8, x8, fun q hq => by have := h3 q hq; omega, fun q hq => by have := h4 q hq; omega, fun q hq => by have := h5 q hq; omega, fun q hq => by have := h8 q hq; have := h8b q hq; omega, fun q hq => (h9b q hq).1, by omega, by omega, Nat.le_refl _⟩
theorem infP : (Tryz.prog.info? 54).map (·.size) = some 10 := by kernel_rfl
/-- the lists of a prototype, each in a block of its own. -/
structure PRow (B : Nat) (w' : World) (v3 v4 v5 v8 v9 : Value) (p : PR) : Prop where
  o3 : w'.ownsRow B 70 1 v3 p.code.length (p.code.flatMap cCode)
  o4 : w'.ownsRow B 76 3 v4 p.consts.length (p.consts.flatMap cConsts)
  o5 : w'.ownsRow B 78 2 v5 p.ups.length (p.ups.flatMap cUps)
  o8 : w'.ownsRow B 3 1 v8 p.lines.length (p.lines.flatMap cLines)
  o9 : w'.ownsRow B 9 1 v9 p.upNames.length (p.upNames.flatMap cNames)
  sep : ∃ m4 m5 m8 m9, (∀ q, v3.ownBlock = some q → q < m4) ∧ (∀ q, v4.ownBlock = some q → m4 ≤ q ∧ q < m5) ∧ (∀ q, v5.ownBlock = some q → m5 ≤ q ∧ q < m8) ∧ (∀ q, v8.ownBlock = some q → m8 ≤ q ∧ q < m9) ∧ (∀ q, v9.ownBlock = some q → m9 ≤ q) ∧ m4 ≤ m5 ∧ m5 ≤ m8 ∧ m8 ≤ m9
theorem proto_in (s : ByteArray) (V : Nat → Option (Int × Nat)) (hV : VrOk s V) (r : RS) (ab an most : Int) (R : Nat) (w : World) (h : RowL w R 103 (rdL s r ab an)) (hs : s.size ≤ 2000000000) (hp : r.pos ≤ s.size)
    (ha0 : 0 ≤ an) (ha1 : an ≤ 200) (hm : most = if ab = 63 then 0 else 200 - an) :
    Calls Tryz.prog 75 #[.pointer (some ⟨R, 0, none⟩)] w fun e w' => ∃ v3 v4 v5 v8 v9, e = .returned (.agg #[.int .i64 (rdPro s V gi0 most r).1.params, .bool (rdPro s V gi0 most r).1.vararg, .int .i64 (rdPro s V gi0 most r).1.regs, v3, v4, v5, .int .i64 (rdPro s V gi0 most r).1.kids, .string (rdPro s V gi0 most r).1.name, v8, v9]) ∧
      PRow w.heap.size w' v3 v4 v5 v8 v9 (rdPro s V gi0 most r).1 ∧ RowL w' R 103 (rdL s (rdPro s V gi0 most r).2 ab (an + (rdPro s V gi0 most r).1.kids)) ∧ Ex R w w' := by
  have hRlt : R < w.heap.size := World.rowIs.lt h
  have hm0 : 0 ≤ most := by rw [hm]; split <;> omega
  have hR := (h.alloc (.cells ([.int .i64 0, .bool false, .int .i64 0, .slice none 0 0, .slice none 0 0, .slice none 0 0, .int .i64 0, .string ⟨#[]⟩, .slice none 0 0, .slice none 0 0] : List Value).toArray 54)).alloc (.cells ([.int .i64 0, .bool false, .int .i64 0, .slice none 0 0, .slice none 0 0, .slice none 0 0, .int .i64 0, .string ⟨#[]⟩, .slice none 0 0, .slice none 0 0] : List Value).toArray 54)
  have hQ := (RowL.new w ([.int .i64 0, .bool false, .int .i64 0, .slice none 0 0, .slice none 0 0, .slice none 0 0, .int .i64 0, .string ⟨#[]⟩, .slice none 0 0, .slice none 0 0] : List Value) 54).alloc (.cells ([.int .i64 0, .bool false, .int .i64 0, .slice none 0 0, .slice none 0 0, .slice none 0 0, .int .i64 0, .string ⟨#[]⟩, .slice none 0 0, .slice none 0 0] : List Value).toArray 54)
  have hP := RowL.new (w.alloc (.cells ([.int .i64 0, .bool false, .int .i64 0, .slice none 0 0, .slice none 0 0, .slice none 0 0, .int .i64 0, .string ⟨#[]⟩, .slice none 0 0, .slice none 0 0] : List Value).toArray 54)) ([.int .i64 0, .bool false, .int .i64 0, .slice none 0 0, .slice none 0 0, .slice none 0 0, .int .i64 0, .string ⟨#[]⟩, .slice none 0 0, .slice none 0 0] : List Value) 54
  have hX := ((Ex.refl R w).alloc (.cells ([.int .i64 0, .bool false, .int .i64 0, .slice none 0 0, .slice none 0 0, .slice none 0 0, .int .i64 0, .string ⟨#[]⟩, .slice none 0 0, .slice none 0 0] : List Value).toArray 54)).alloc (.cells ([.int .i64 0, .bool false, .int .i64 0, .slice none 0 0, .slice none 0 0, .slice none 0 0, .int .i64 0, .string ⟨#[]⟩, .slice none 0 0, .slice none 0 0] : List Value).toArray 54)
  have hZ : ((w.alloc (.cells ([.int .i64 0, .bool false, .int .i64 0, .slice none 0 0, .slice none 0 0, .slice none 0 0, .int .i64 0, .string ⟨#[]⟩, .slice none 0 0, .slice none 0 0] : List Value).toArray 54)).alloc (.cells ([.int .i64 0, .bool false, .int .i64 0, .slice none 0 0, .slice none 0 0, .slice none 0 0, .int .i64 0, .string ⟨#[]⟩, .slice none 0 0, .slice none 0 0] : List Value).toArray 54)).heap.size = w.heap.size + 2 := by rw [World.size_alloc, World.size_alloc]
  rw [World.size_alloc] at hP
  obtain ⟨P, hPe⟩ : ∃ P, P = w.heap.size + 1 := ⟨_, rfl⟩
  obtain ⟨Q, hQe⟩ : ∃ Q, Q = w.heap.size := ⟨_, rfl⟩
  obtain ⟨B, hBe⟩ : ∃ B, B = w.heap.size + 2 := ⟨_, rfl⟩
  replace hR := hidR hR
  replace hQ := hidR hQ
  replace hP := hidR hP
  replace hX := hidR hX
  replace hZ := hidR hZ
  clear h
  go_enter Tryz.func75, Tryz.ntmps75
  go_upto_region 2 with fail
  generalize (w.alloc (.cells ([.int .i64 0, .bool false, .int .i64 0, .slice none 0 0, .slice none 0 0, .slice none 0 0, .int .i64 0, .string ⟨#[]⟩, .slice none 0 0, .slice none 0 0] : List Value).toArray 54)).alloc (.cells ([.int .i64 0, .bool false, .int .i64 0, .slice none 0 0, .slice none 0 0, .slice none 0 0, .int .i64 0, .string ⟨#[]⟩, .slice none 0 0, .slice none 0 0] : List Value).toArray 54) = y0 at hR hQ hP hX hZ ⊢
  replace hP := hP.out
  replace hQ := hQ.out
  replace hR := hR.out
  replace hX := hX.out
  replace hZ := hZ.out
  rw [← hPe] at hP ⊢
  rw [← hQe] at hQ ⊢
  rw [← hBe] at hZ
  have hPR : P ≠ R := by omega
  have hQR : Q ≠ R := by omega
  have hQP : Q ≠ P := by omega
  have hRB : R < B := by omega
  have hPB : P < B := by omega
  have hPw : w.heap.size ≤ P := by omega
  have hz0 : B ≤ y0.heap.size := by omega
  have hBw : w.heap.size ≤ B := by omega
  have hQB : Q < B := by omega
  have hQw : w.heap.size ≤ Q := by omega
  replace hPe := hidR hPe
  replace hQe := hidR hQe
  replace hBe := hidR hBe
  replace hZ := hidR hZ
  have hc := hidR (flag_in s r ab an R y0 hR hs hp)
  have hp1 := rdByte_pos (hi := 1) hp
  obtain ⟨x, ea⟩ : ∃ x, rdByte s 1 r = x := ⟨_, rfl⟩
  rw [ea] at hc hp1
  obtain ⟨a1, r1⟩ := x
  dsimp only at hc hp1
  replace ea := hidR ea
  replace hP := hidR hP
  replace hQ := hidR hQ
  replace hR := hidR hR
  go_wp2_with fail
  refine Calls.mono hc.out ?_
  rintro e y1 ⟨rfl, hr1, hx1⟩
  replace hP := Ex.row hx1 hP.out hPR
  replace hQ := Ex.row hx1 hQ.out hQR
  replace hR := hr1
  have hz1 := hx1.size
  replace hX := hX.trans hx1
  clear hc hx1 hr1
  have fz := hP.frozen 1
  have ce := hP.cell 1 rfl
  replace hP := hP.set 1 (.bool (decide (a1 = 1)))
  replace hQ := hQ.other (a := ⟨P, 1, none⟩) hQP (.bool (decide (a1 = 1)))
  replace hR := hR.other (a := ⟨P, 1, none⟩) (fun e => hPR e.symm) (.bool (decide (a1 = 1)))
  replace hX := hX.setUp hPw 1 (.bool (decide (a1 = 1)))
  have hz2 : (y1.setCell ⟨P, 1, none⟩ (.bool (decide (a1 = 1)))).heap.size = y1.heap.size := World.size_setCell _ _ _
  replace hP := hidR hP
  replace hQ := hidR hQ
  replace hR := hidR hR
  go_upto_region 3 with fail
  generalize y1.setCell ⟨P, 1, none⟩ (.bool (decide (a1 = 1))) = y2 at hP hQ hR hX hz2 ⊢
  replace hP : RowL y2 P 54 [.int .i64 0, .bool (decide (a1 = 1)), .int .i64 0, .slice none 0 0, .slice none 0 0, .slice none 0 0, .int .i64 0, .string ⟨#[]⟩, .slice none 0 0, .slice none 0 0] := hP.out
  replace hQ := hQ.out
  replace hR : RowL y2 R 103 (rdL s r1 ab (an)) := hR.out
  clear fz ce
  have hc := hidR (number_in s V hV 0 250 r1 ab an R y2 hR hs hp1)
  have hp3 := rdNum_pos (lo := 0) (hi := 250) hV hp1
  have hb3 := rdNum_bd (s := s) (V := V) (lo := 0) (hi := 250) r1 (by decide) (by decide)
  obtain ⟨x, eb⟩ : ∃ x, rdNum s V 0 250 r1 = x := ⟨_, rfl⟩
  rw [eb] at hc hp3 hb3
  obtain ⟨b1, r3⟩ := x
  dsimp only at hc hp3 hb3
  replace eb := hidR eb
  replace hP := hidR hP
  replace hQ := hidR hQ
  replace hR := hidR hR
  go_wp2_with fail
  refine Calls.mono hc.out ?_
  rintro e y3 ⟨rfl, hr3, hx3⟩
  replace hP := Ex.row hx3 hP.out hPR
  replace hQ := Ex.row hx3 hQ.out hQR
  replace hR := hr3
  have hz3 := hx3.size
  replace hX := hX.trans hx3
  clear hc hx3 hr3
  have fz := hP.frozen 0
  have ce := hP.cell 0 rfl
  replace hP := hP.set 0 (.int .i64 b1)
  replace hQ := hQ.other (a := ⟨P, 0, none⟩) hQP (.int .i64 b1)
  replace hR := hR.other (a := ⟨P, 0, none⟩) (fun e => hPR e.symm) (.int .i64 b1)
  replace hX := hX.setUp hPw 0 (.int .i64 b1)
  have hz4 : (y3.setCell ⟨P, 0, none⟩ (.int .i64 b1)).heap.size = y3.heap.size := World.size_setCell _ _ _
  replace hP := hidR hP
  replace hQ := hidR hQ
  replace hR := hidR hR
  go_upto_region 4 with fail
  generalize y3.setCell ⟨P, 0, none⟩ (.int .i64 b1) = y4 at hP hQ hR hX hz4 ⊢
  replace hP : RowL y4 P 54 [.int .i64 b1, .bool (decide (a1 = 1)), .int .i64 0, .slice none 0 0, .slice none 0 0, .slice none 0 0, .int .i64 0, .string ⟨#[]⟩, .slice none 0 0, .slice none 0 0] := hP.out
  replace hQ := hQ.out
  replace hR : RowL y4 R 103 (rdL s r3 ab (an)) := hR.out
  clear fz ce
  have e0 := hP.cell 0 rfl
  have hc := hidR (number_in s V hV (max 1 b1) 250 r3 ab an R y4 hR hs hp3)
  have hp5 := rdNum_pos (lo := max 1 b1) (hi := 250) hV hp3
  obtain ⟨x, ec⟩ : ∃ x, rdNum s V (max 1 b1) 250 r3 = x := ⟨_, rfl⟩
  rw [ec] at hc hp5
  obtain ⟨c1, r5⟩ := x
  dsimp only at hc hp5
  replace ec := hidR ec
  replace hP := hidR hP
  replace hQ := hidR hQ
  replace hR := hidR hR
  go_wp2_with fail
  refine Calls.mono hc.out ?_
  rintro e y5 ⟨rfl, hr5, hx5⟩
  replace hP := Ex.row hx5 hP.out hPR
  replace hQ := Ex.row hx5 hQ.out hQR
  replace hR := hr5
  have hz5 := hx5.size
  replace hX := hX.trans hx5
  clear hc hx5 hr5
  clear e0
  have fz := hP.frozen 2
  have ce := hP.cell 2 rfl
  replace hP := hP.set 2 (.int .i64 c1)
  replace hQ := hQ.other (a := ⟨P, 2, none⟩) hQP (.int .i64 c1)
  replace hR := hR.other (a := ⟨P, 2, none⟩) (fun e => hPR e.symm) (.int .i64 c1)
  replace hX := hX.setUp hPw 2 (.int .i64 c1)
  have hz6 : (y5.setCell ⟨P, 2, none⟩ (.int .i64 c1)).heap.size = y5.heap.size := World.size_setCell _ _ _
  replace hP := hidR hP
  replace hQ := hidR hQ
  replace hR := hidR hR
  go_upto_region 5 with fail
  generalize y5.setCell ⟨P, 2, none⟩ (.int .i64 c1) = y6 at hP hQ hR hX hz6 ⊢
  replace hP : RowL y6 P 54 [.int .i64 b1, .bool (decide (a1 = 1)), .int .i64 c1, .slice none 0 0, .slice none 0 0, .slice none 0 0, .int .i64 0, .string ⟨#[]⟩, .slice none 0 0, .slice none 0 0] := hP.out
  replace hQ := hQ.out
  replace hR : RowL y6 R 103 (rdL s r5 ab (an)) := hR.out
  clear fz ce
  have hc := hidR (number_in s V hV 1 2000 r5 ab (an) R y6 hR hs hp5)
  have hp7 := rdNum_pos (lo := 1) (hi := 2000) hV hp5
  have hb7 := rdNum_bd (s := s) (V := V) (lo := 1) (hi := 2000) r5 (by decide) (by decide)
  obtain ⟨x, ed⟩ : ∃ x, rdNum s V 1 2000 r5 = x := ⟨_, rfl⟩
  rw [ed] at hc hp7 hb7
  obtain ⟨d1, r7⟩ := x
  obtain ⟨d1, rfl⟩ : ∃ k : Nat, d1 = k := ⟨d1.toNat, by dsimp only at hb7; omega⟩
  dsimp only at hc hp7 hb7
  replace ed := hidR ed
  replace hP := hidR hP
  replace hQ := hidR hQ
  replace hR := hidR hR
  go_wp2_with fail
  refine Calls.mono hc.out ?_
  rintro e y7 ⟨rfl, hr7, hx7⟩
  replace hP := Ex.row hx7 hP.out hPR
  replace hQ := Ex.row hx7 hQ.out hQR
  replace hR := hr7
  have hz7 := hx7.size
  replace hX := hX.trans hx7
  clear hc hx7 hr7
  have hc := hidR (severalCode_in (rdWord s) s ab (an) R d1 r7 y7 (fun r y hy hq => word_in s r ab an R y hy hs hq) (fun r hq => rdWord_pos hq) hR hp7 (by omega))
  have hp8 := rdSev_pos (rd := rdWord s) (m := s.size) (fun r hq => rdWord_pos hq) d1 r7 [] hp7
  have hln := rdSev_len (rd := rdWord s) d1 r7 []
  obtain ⟨x, eco⟩ : ∃ x, rdSev (rdWord s) d1 r7 [] = x := ⟨_, rfl⟩
  rw [eco] at hc hp8 hln
  obtain ⟨l3, r8⟩ := x
  dsimp only at hc hp8 hln
  have hln3 : l3.length ≤ 2000 := by simp at hln; omega
  clear hln
  replace eco := hidR eco
  replace hP := hidR hP
  replace hQ := hidR hQ
  replace hR := hidR hR
  go_wp2_with fail
  refine Calls.mono hc.out ?_
  rintro e y8 ⟨v3, rfl, hsv, hr8⟩
  have hx8 := hsv.ex
  have hq3 : ∀ q, v3.ownBlock = some q → y7.heap.size ≤ q ∧ q < y8.heap.size := fun q hq => hsv.row.lt q hq
  have w3 : y8.ownsRow B 70 1 v3 l3.length (l3.flatMap cCode) := own_low hsv.row (by have := hX.size; omega)
  obtain ⟨o3, k3, rfl⟩ := own_slL hsv.row
  replace hq3 := hidR hq3
  clear hsv
  replace hP := Ex.row hx8 hP.out hPR
  replace hQ := Ex.row hx8 hQ.out hQR
  replace hR := hr8
  have hz8 := hx8.size
  replace hX := hX.trans hx8
  clear hc hx8 hr8
  have fz := hP.frozen 3
  have ce := hP.cell 3 rfl
  replace hP := hP.set 3 (.slice o3 l3.length k3)
  replace hQ := hQ.other (a := ⟨P, 3, none⟩) hQP (.slice o3 l3.length k3)
  replace hR := hR.other (a := ⟨P, 3, none⟩) (fun e => hPR e.symm) (.slice o3 l3.length k3)
  replace w3 := own_ex2 w3 hRB hPB ((Ex2.refl R P y8).set 3 (.slice o3 l3.length k3))
  replace hX := hX.setUp hPw 3 (.slice o3 l3.length k3)
  have hz9 : (y8.setCell ⟨P, 3, none⟩ (.slice o3 l3.length k3)).heap.size = y8.heap.size := World.size_setCell _ _ _
  replace hP := hidR hP
  replace hQ := hidR hQ
  replace hR := hidR hR
  replace w3 := hidR w3
  go_upto_region 6 with fail
  generalize y8.setCell ⟨P, 3, none⟩ (.slice o3 l3.length k3) = y9 at hP hQ hR hX hz9 w3 ⊢
  replace hP : RowL y9 P 54 [.int .i64 b1, .bool (decide (a1 = 1)), .int .i64 c1, .slice o3 l3.length k3, .slice none 0 0, .slice none 0 0, .int .i64 0, .string ⟨#[]⟩, .slice none 0 0, .slice none 0 0] := hP.out
  replace hQ := hQ.out
  replace hR : RowL y9 R 103 (rdL s r8 ab (an)) := hR.out
  replace w3 := w3.out
  clear fz ce
  have hc := hidR (number_in s V hV 0 500 r8 ab (an) R y9 hR hs hp8)
  have hp10 := rdNum_pos (lo := 0) (hi := 500) hV hp8
  have hb10 := rdNum_bd (s := s) (V := V) (lo := 0) (hi := 500) r8 (by decide) (by decide)
  obtain ⟨x, ee⟩ : ∃ x, rdNum s V 0 500 r8 = x := ⟨_, rfl⟩
  rw [ee] at hc hp10 hb10
  obtain ⟨e1, r10⟩ := x
  obtain ⟨e1, rfl⟩ : ∃ k : Nat, e1 = k := ⟨e1.toNat, by dsimp only at hb10; omega⟩
  dsimp only at hc hp10 hb10
  replace ee := hidR ee
  replace hP := hidR hP
  replace hQ := hidR hQ
  replace hR := hidR hR
  replace w3 := hidR w3
  go_wp2_with fail
  refine Calls.mono hc.out ?_
  rintro e y10 ⟨rfl, hr10, hx10⟩
  replace hP := Ex.row hx10 hP.out hPR
  replace hQ := Ex.row hx10 hQ.out hQR
  replace hR := hr10
  replace w3 := own_ex w3.out hRB hx10
  have hz10 := hx10.size
  replace hX := hX.trans hx10
  clear hc hx10 hr10
  have hc := hidR (severalConsts_in (rdVal s V gi0) s ab (an) R e1 r10 y10 (fun r y hy hq => value_in s V hV gi0 giOk clOk r ab an R y hy hs hq) (fun r hq => rdVal_pos hV hq) hR hp10 (by omega))
  have hp11 := rdSev_pos (rd := rdVal s V gi0) (m := s.size) (fun r hq => rdVal_pos hV hq) e1 r10 [] hp10
  have hln := rdSev_len (rd := rdVal s V gi0) e1 r10 []
  obtain ⟨x, ecs⟩ : ∃ x, rdSev (rdVal s V gi0) e1 r10 [] = x := ⟨_, rfl⟩
  rw [ecs] at hc hp11 hln
  obtain ⟨l4, r11⟩ := x
  dsimp only at hc hp11 hln
  have hln4 : l4.length ≤ 500 := by simp at hln; omega
  clear hln
  replace ecs := hidR ecs
  replace hP := hidR hP
  replace hQ := hidR hQ
  replace hR := hidR hR
  replace w3 := hidR w3
  go_wp2_with fail
  refine Calls.mono hc.out ?_
  rintro e y11 ⟨v4, rfl, hsv, hr11⟩
  have hx11 := hsv.ex
  have hq4 : ∀ q, v4.ownBlock = some q → y10.heap.size ≤ q ∧ q < y11.heap.size := fun q hq => hsv.row.lt q hq
  have w4 : y11.ownsRow B 76 3 v4 l4.length (l4.flatMap cConsts) := own_low hsv.row (by have := hX.size; omega)
  obtain ⟨o4, k4, rfl⟩ := own_slL hsv.row
  replace hq4 := hidR hq4
  clear hsv
  replace hP := Ex.row hx11 hP.out hPR
  replace hQ := Ex.row hx11 hQ.out hQR
  replace hR := hr11
  replace w3 := own_ex w3.out hRB hx11
  have hz11 := hx11.size
  replace hX := hX.trans hx11
  clear hc hx11 hr11
  have fz := hP.frozen 4
  have ce := hP.cell 4 rfl
  replace hP := hP.set 4 (.slice o4 l4.length k4)
  replace hQ := hQ.other (a := ⟨P, 4, none⟩) hQP (.slice o4 l4.length k4)
  replace hR := hR.other (a := ⟨P, 4, none⟩) (fun e => hPR e.symm) (.slice o4 l4.length k4)
  replace w3 := own_ex2 w3 hRB hPB ((Ex2.refl R P y11).set 4 (.slice o4 l4.length k4))
  replace w4 := own_ex2 w4 hRB hPB ((Ex2.refl R P y11).set 4 (.slice o4 l4.length k4))
  replace hX := hX.setUp hPw 4 (.slice o4 l4.length k4)
  have hz12 : (y11.setCell ⟨P, 4, none⟩ (.slice o4 l4.length k4)).heap.size = y11.heap.size := World.size_setCell _ _ _
  replace hP := hidR hP
  replace hQ := hidR hQ
  replace hR := hidR hR
  replace w3 := hidR w3
  replace w4 := hidR w4
  go_upto_region 7 with fail
  generalize y11.setCell ⟨P, 4, none⟩ (.slice o4 l4.length k4) = y12 at hP hQ hR hX hz12 w3 w4 ⊢
  replace hP : RowL y12 P 54 [.int .i64 b1, .bool (decide (a1 = 1)), .int .i64 c1, .slice o3 l3.length k3, .slice o4 l4.length k4, .slice none 0 0, .int .i64 0, .string ⟨#[]⟩, .slice none 0 0, .slice none 0 0] := hP.out
  replace hQ := hQ.out
  replace hR : RowL y12 R 103 (rdL s r11 ab (an)) := hR.out
  replace w3 := w3.out
  replace w4 := w4.out
  clear fz ce
  have hc := hidR (number_in s V hV 0 60 r11 ab (an) R y12 hR hs hp11)
  have hp13 := rdNum_pos (lo := 0) (hi := 60) hV hp11
  have hb13 := rdNum_bd (s := s) (V := V) (lo := 0) (hi := 60) r11 (by decide) (by decide)
  obtain ⟨x, ef⟩ : ∃ x, rdNum s V 0 60 r11 = x := ⟨_, rfl⟩
  rw [ef] at hc hp13 hb13
  obtain ⟨f1, r13⟩ := x
  obtain ⟨f1, rfl⟩ : ∃ k : Nat, f1 = k := ⟨f1.toNat, by dsimp only at hb13; omega⟩
  dsimp only at hc hp13 hb13
  replace ef := hidR ef
  replace hP := hidR hP
  replace hQ := hidR hQ
  replace hR := hidR hR
  replace w3 := hidR w3
  replace w4 := hidR w4
  go_wp2_with fail
  refine Calls.mono hc.out ?_
  rintro e y13 ⟨rfl, hr13, hx13⟩
  replace hP := Ex.row hx13 hP.out hPR
  replace hQ := Ex.row hx13 hQ.out hQR
  replace hR := hr13
  replace w3 := own_ex w3.out hRB hx13
  replace w4 := own_ex w4.out hRB hx13
  have hz13 := hx13.size
  replace hX := hX.trans hx13
  clear hc hx13 hr13
  have hc := hidR (severalUps_in (rdUp s V) s ab (an) R f1 r13 y13 (fun r y hy hq => up_in s V hV r ab an R y hy hs hq) (fun r hq => rdUp_pos hV hq) hR hp13 (by omega))
  have hp14 := rdSev_pos (rd := rdUp s V) (m := s.size) (fun r hq => rdUp_pos hV hq) f1 r13 [] hp13
  have hln := rdSev_len (rd := rdUp s V) f1 r13 []
  obtain ⟨x, eus⟩ : ∃ x, rdSev (rdUp s V) f1 r13 [] = x := ⟨_, rfl⟩
  rw [eus] at hc hp14 hln
  obtain ⟨l5, r14⟩ := x
  dsimp only at hc hp14 hln
  have hln5 : l5.length ≤ 60 := by simp at hln; omega
  clear hln
  replace eus := hidR eus
  replace hP := hidR hP
  replace hQ := hidR hQ
  replace hR := hidR hR
  replace w3 := hidR w3
  replace w4 := hidR w4
  go_wp2_with fail
  refine Calls.mono hc.out ?_
  rintro e y14 ⟨v5, rfl, hsv, hr14⟩
  have hx14 := hsv.ex
  have hq5 : ∀ q, v5.ownBlock = some q → y13.heap.size ≤ q ∧ q < y14.heap.size := fun q hq => hsv.row.lt q hq
  have w5 : y14.ownsRow B 78 2 v5 l5.length (l5.flatMap cUps) := own_low hsv.row (by have := hX.size; omega)
  obtain ⟨o5, k5, rfl⟩ := own_slL hsv.row
  replace hq5 := hidR hq5
  clear hsv
  replace hP := Ex.row hx14 hP.out hPR
  replace hQ := Ex.row hx14 hQ.out hQR
  replace hR := hr14
  replace w3 := own_ex w3.out hRB hx14
  replace w4 := own_ex w4.out hRB hx14
  have hz14 := hx14.size
  replace hX := hX.trans hx14
  clear hc hx14 hr14
  have fz := hP.frozen 5
  have ce := hP.cell 5 rfl
  replace hP := hP.set 5 (.slice o5 l5.length k5)
  replace hQ := hQ.other (a := ⟨P, 5, none⟩) hQP (.slice o5 l5.length k5)
  replace hR := hR.other (a := ⟨P, 5, none⟩) (fun e => hPR e.symm) (.slice o5 l5.length k5)
  replace w3 := own_ex2 w3 hRB hPB ((Ex2.refl R P y14).set 5 (.slice o5 l5.length k5))
  replace w4 := own_ex2 w4 hRB hPB ((Ex2.refl R P y14).set 5 (.slice o5 l5.length k5))
  replace w5 := own_ex2 w5 hRB hPB ((Ex2.refl R P y14).set 5 (.slice o5 l5.length k5))
  replace hX := hX.setUp hPw 5 (.slice o5 l5.length k5)
  have hz15 : (y14.setCell ⟨P, 5, none⟩ (.slice o5 l5.length k5)).heap.size = y14.heap.size := World.size_setCell _ _ _
  replace hP := hidR hP
  replace hQ := hidR hQ
  replace hR := hidR hR
  replace w3 := hidR w3
  replace w4 := hidR w4
  replace w5 := hidR w5
  go_upto_region 8 with fail
  generalize y14.setCell ⟨P, 5, none⟩ (.slice o5 l5.length k5) = y15 at hP hQ hR hX hz15 w3 w4 w5 ⊢
  replace hP : RowL y15 P 54 [.int .i64 b1, .bool (decide (a1 = 1)), .int .i64 c1, .slice o3 l3.length k3, .slice o4 l4.length k4, .slice o5 l5.length k5, .int .i64 0, .string ⟨#[]⟩, .slice none 0 0, .slice none 0 0] := hP.out
  replace hQ := hQ.out
  replace hR : RowL y15 R 103 (rdL s r14 ab (an)) := hR.out
  replace w3 := w3.out
  replace w4 := w4.out
  replace w5 := w5.out
  clear fz ce
  have hc := hidR (kids_in s V hV r14 ab an most R y15 hR hs hp14 ha0 ha1 hm)
  have hp16 := rdNum_pos (lo := 0) (hi := most) hV hp14
  have hb16 := rdNum_bd (s := s) (V := V) (lo := 0) (hi := most) r14 (by decide) hm0
  obtain ⟨x, ek⟩ : ∃ x, rdNum s V 0 most r14 = x := ⟨_, rfl⟩
  rw [ek] at hc hp16 hb16
  obtain ⟨k1, r16⟩ := x
  dsimp only at hc hp16 hb16
  replace ek := hidR ek
  replace hP := hidR hP
  replace hQ := hidR hQ
  replace hR := hidR hR
  replace w3 := hidR w3
  replace w4 := hidR w4
  replace w5 := hidR w5
  go_wp2_with fail
  refine Calls.mono hc.out ?_
  rintro e y16 ⟨rfl, hr16, hx16⟩
  replace hP := Ex.row hx16 hP.out hPR
  replace hQ := Ex.row hx16 hQ.out hQR
  replace hR := hr16
  replace w3 := own_ex w3.out hRB hx16
  replace w4 := own_ex w4.out hRB hx16
  replace w5 := own_ex w5.out hRB hx16
  have hz16 := hx16.size
  replace hX := hX.trans hx16
  clear hc hx16 hr16
  have fz := hP.frozen 6
  have ce := hP.cell 6 rfl
  replace hP := hP.set 6 (.int .i64 k1)
  replace hQ := hQ.other (a := ⟨P, 6, none⟩) hQP (.int .i64 k1)
  replace hR := hR.other (a := ⟨P, 6, none⟩) (fun e => hPR e.symm) (.int .i64 k1)
  replace w3 := own_ex2 w3 hRB hPB ((Ex2.refl R P y16).set 6 (.int .i64 k1))
  replace w4 := own_ex2 w4 hRB hPB ((Ex2.refl R P y16).set 6 (.int .i64 k1))
  replace w5 := own_ex2 w5 hRB hPB ((Ex2.refl R P y16).set 6 (.int .i64 k1))
  replace hX := hX.setUp hPw 6 (.int .i64 k1)
  have hz17 : (y16.setCell ⟨P, 6, none⟩ (.int .i64 k1)).heap.size = y16.heap.size := World.size_setCell _ _ _
  replace hP := hidR hP
  replace hQ := hidR hQ
  replace hR := hidR hR
  replace w3 := hidR w3
  replace w4 := hidR w4
  replace w5 := hidR w5
  go_upto_region 9 with fail
  generalize y16.setCell ⟨P, 6, none⟩ (.int .i64 k1) = y17 at hP hQ hR hX hz17 w3 w4 w5 ⊢
  replace hP : RowL y17 P 54 [.int .i64 b1, .bool (decide (a1 = 1)), .int .i64 c1, .slice o3 l3.length k3, .slice o4 l4.length k4, .slice o5 l5.length k5, .int .i64 k1, .string ⟨#[]⟩, .slice none 0 0, .slice none 0 0] := hP.out
  replace hQ := hQ.out
  replace hR : RowL y17 R 103 (rdL s r16 ab (an + k1)) := hR.out
  replace w3 := w3.out
  replace w4 := w4.out
  replace w5 := w5.out
  clear fz ce
  have hc := hidR (flag_in s r16 ab (an + k1) R y17 hR hs hp16)
  have hp18 := rdByte_pos (hi := 1) hp16
  obtain ⟨x, eg⟩ : ∃ x, rdByte s 1 r16 = x := ⟨_, rfl⟩
  rw [eg] at hc hp18
  obtain ⟨g1, r18⟩ := x
  dsimp only at hc hp18
  replace eg := hidR eg
  replace hP := hidR hP
  replace hQ := hidR hQ
  replace hR := hidR hR
  replace w3 := hidR w3
  replace w4 := hidR w4
  replace w5 := hidR w5
  go_wp2_with fail
  refine Calls.mono hc.out ?_
  rintro e y18 ⟨rfl, hr18, hx18⟩
  replace hP := Ex.row hx18 hP.out hPR
  replace hQ := Ex.row hx18 hQ.out hQR
  replace hR := hr18
  replace w3 := own_ex w3.out hRB hx18
  replace w4 := own_ex w4.out hRB hx18
  replace w5 := own_ex w5.out hRB hx18
  have hz18 := hx18.size
  replace hX := hX.trans hx18
  clear hc hx18 hr18
  by_cases hg : g1 = 1
  · have hgd : decide (g1 = 1) = true := by simp [hg]
    rw [hgd]
    clear hgd
    have hc := hidR (debug_in s V hV r18 ab (an + k1) R P y18 hR hs hp18 (.int .i64 b1) (.bool (decide (a1 = 1))) (.int .i64 c1) (.slice o4 l4.length k4) (.int .i64 k1) (.string ⟨#[]⟩) (.slice none 0 0) (.slice none 0 0) o3 o5 l3.length k3 l5.length k5 (by intro u hu; simp only [List.mem_cons, List.not_mem_nil, or_false] at hu; rcases hu with rfl | rfl | rfl | rfl | rfl | rfl | rfl <;> rfl) hln3 hln5 hP hPR)
    obtain ⟨x, ex⟩ : ∃ x, rdDbg s V l3.length l5.length r18 = x := ⟨_, rfl⟩
    rw [ex] at hc
    obtain ⟨⟨t, ls, ns⟩, rx⟩ := x
    dsimp only at hc
    have hPro := hidR (rdPro_eq ea.out eb.out ec.out ed.out eco.out ee.out ecs.out ef.out eus.out ek.out eg.out ((if_pos hg).trans ex))
    clear ea eb ec ed eco ee ecs ef eus ek eg ex hg
    replace hP := hidR hP
    replace hQ := hidR hQ
    replace hR := hidR hR
    replace w3 := hidR w3
    replace w4 := hidR w4
    replace w5 := hidR w5
    go_wp2_with fail
    refine Calls.mono hc.out ?_
    rintro e yd ⟨rfl, vl, vn, m9, ol, on, hq8, hq9, hPd, hRd, hxd⟩
    clear hc
    replace hQ := Ex2.row hxd hQ.out hQR hQP
    replace hP := hPd
    replace hR := hRd
    replace w3 := own_ex2 w3.out hRB hPB hxd
    replace w4 := own_ex2 w4.out hRB hPB hxd
    replace w5 := own_ex2 w5.out hRB hPB hxd
    have w8 : yd.ownsRow B 3 1 vl ls.length (ls.flatMap cLines) := own_low ol (by have := hX.size; omega)
    have w9 : yd.ownsRow B 9 1 vn ns.length (ns.flatMap cNames) := own_low on (by have := hX.size; omega)
    have hq8b := ol.lt
    have hq9b := on.lt
    replace hq8 := hidR hq8
    replace hq9 := hidR hq9
    replace hq8b := hidR hq8b
    replace hq9b := hidR hq9b
    have hzd := hxd.size
    replace hX := Ex2.one hX hxd hPw
    obtain ⟨o8, k8, rfl⟩ := own_slL ol
    obtain ⟨o9, k9, rfl⟩ := own_slL on
    clear ol on hxd hPd hRd
    replace hP := hidR hP
    replace hQ := hidR hQ
    replace hR := hidR hR
    replace w3 := hidR w3
    replace w4 := hidR w4
    replace w5 := hidR w5
    replace w8 := hidR w8
    replace w9 := hidR w9
    go_upto_region 11 with fail
    replace hP := hP.out
    replace hQ := hQ.out
    replace hR := hR.out
    replace w3 := w3.out
    replace w4 := w4.out
    replace w5 := w5.out
    replace w8 := w8.out
    replace w9 := w9.out
    have hrg := hidR hP.range
    have hth := hidR hQ.there
    have hone : ([.int .i64 b1, .bool (decide (a1 = 1)), .int .i64 c1, .slice o3 l3.length k3, .slice o4 l4.length k4, .slice o5 l5.length k5, .int .i64 k1, .string t, .slice o8 ls.length k8, .slice o9 ns.length k9] : List Value).toArray.all (·.oneCell') = true := by simp [Value.oneCell']
    replace hone := hidR hone
    have hF := hQ.over [.int .i64 b1, .bool (decide (a1 = 1)), .int .i64 c1, .slice o3 l3.length k3, .slice o4 l4.length k4, .slice o5 l5.length k5, .int .i64 k1, .string t, .slice o8 ls.length k8, .slice o9 ns.length k9] rfl
    replace hR := hR.setsOther hQR.symm [.int .i64 b1, .bool (decide (a1 = 1)), .int .i64 c1, .slice o3 l3.length k3, .slice o4 l4.length k4, .slice o5 l5.length k5, .int .i64 k1, .string t, .slice o8 ls.length k8, .slice o9 ns.length k9]
    replace w3 := own_ex2 w3 hRB hQB (Ex2.sets [.int .i64 b1, .bool (decide (a1 = 1)), .int .i64 c1, .slice o3 l3.length k3, .slice o4 l4.length k4, .slice o5 l5.length k5, .int .i64 k1, .string t, .slice o8 ls.length k8, .slice o9 ns.length k9] 0 (Ex2.refl R Q yd))
    replace w4 := own_ex2 w4 hRB hQB (Ex2.sets [.int .i64 b1, .bool (decide (a1 = 1)), .int .i64 c1, .slice o3 l3.length k3, .slice o4 l4.length k4, .slice o5 l5.length k5, .int .i64 k1, .string t, .slice o8 ls.length k8, .slice o9 ns.length k9] 0 (Ex2.refl R Q yd))
    replace w5 := own_ex2 w5 hRB hQB (Ex2.sets [.int .i64 b1, .bool (decide (a1 = 1)), .int .i64 c1, .slice o3 l3.length k3, .slice o4 l4.length k4, .slice o5 l5.length k5, .int .i64 k1, .string t, .slice o8 ls.length k8, .slice o9 ns.length k9] 0 (Ex2.refl R Q yd))
    replace w8 := own_ex2 w8 hRB hQB (Ex2.sets [.int .i64 b1, .bool (decide (a1 = 1)), .int .i64 c1, .slice o3 l3.length k3, .slice o4 l4.length k4, .slice o5 l5.length k5, .int .i64 k1, .string t, .slice o8 ls.length k8, .slice o9 ns.length k9] 0 (Ex2.refl R Q yd))
    replace w9 := own_ex2 w9 hRB hQB (Ex2.sets [.int .i64 b1, .bool (decide (a1 = 1)), .int .i64 c1, .slice o3 l3.length k3, .slice o4 l4.length k4, .slice o5 l5.length k5, .int .i64 k1, .string t, .slice o8 ls.length k8, .slice o9 ns.length k9] 0 (Ex2.refl R Q yd))
    replace hX := Ex.sets hQw [.int .i64 b1, .bool (decide (a1 = 1)), .int .i64 c1, .slice o3 l3.length k3, .slice o4 l4.length k4, .slice o5 l5.length k5, .int .i64 k1, .string t, .slice o8 ls.length k8, .slice o9 ns.length k9] 0 hX
    have hzf : (yd.setCells Q 0 [.int .i64 b1, .bool (decide (a1 = 1)), .int .i64 c1, .slice o3 l3.length k3, .slice o4 l4.length k4, .slice o5 l5.length k5, .int .i64 k1, .string t, .slice o8 ls.length k8, .slice o9 ns.length k9]).heap.size = yd.heap.size := setCells_size _ _ _ _
    obtain ⟨yf, hyf⟩ : ∃ yf, yd.setCells Q 0 [.int .i64 b1, .bool (decide (a1 = 1)), .int .i64 c1, .slice o3 l3.length k3, .slice o4 l4.length k4, .slice o5 l5.length k5, .int .i64 k1, .string t, .slice o8 ls.length k8, .slice o9 ns.length k9] = yf := ⟨_, rfl⟩
    rw [hyf] at hF hR hX hzf w3 w4 w5 w8 w9
    clear hP hQ
    replace hR := hidR hR
    replace w3 := hidR w3
    replace w4 := hidR w4
    replace w5 := hidR w5
    replace w8 := hidR w8
    replace w9 := hidR w9
    replace hF := hidR hF
    refine wp_region_lit ?_
    refine wpList_load_mid rfl 54 (.tmp 3) rfl P 0 rfl [.int .i64 b1, .bool (decide (a1 = 1)), .int .i64 c1, .slice o3 l3.length k3, .slice o4 l4.length k4, .slice o5 l5.length k5, .int .i64 k1, .string t, .slice o8 ls.length k8, .slice o9 ns.length k9] _ hrg.out Tryz.underlying54 rfl infP ?_
    refine wpList_store_mid rfl 54 (.tmp 2) (.tmp 44) rfl Q 0 ([.int .i64 b1, .bool (decide (a1 = 1)), .int .i64 c1, .slice o3 l3.length k3, .slice o4 l4.length k4, .slice o5 l5.length k5, .int .i64 k1, .string t, .slice o8 ls.length k8, .slice o9 ns.length k9] : List Value).toArray rfl rfl hth.out infP hone.out ?_
    rw [show yd.setCells Q 0 ([.int .i64 b1, .bool (decide (a1 = 1)), .int .i64 c1, .slice o3 l3.length k3, .slice o4 l4.length k4, .slice o5 l5.length k5, .int .i64 k1, .string t, .slice o8 ls.length k8, .slice o9 ns.length k9] : List Value).toArray.toList = yf from hyf]
    clear hyf hrg hth hone
    refine wpList_nil ?_
    rename_i K hK
    refine hK _ _ (wp_ret ?_)
    have f20 := hF.out.cell 0 rfl
    have f21 := hF.out.cell 1 rfl
    have f22 := hF.out.cell 2 rfl
    have f23 := hF.out.cell 3 rfl
    have f24 := hF.out.cell 4 rfl
    have f25 := hF.out.cell 5 rfl
    have f26 := hF.out.cell 6 rfl
    have f27 := hF.out.cell 7 rfl
    have f28 := hF.out.cell 8 rfl
    have f29 := hF.out.cell 9 rfl
    refine bodyPost_ret (v := .agg #[.int .i64 b1, .bool (decide (a1 = 1)), .int .i64 c1, .slice o3 l3.length k3, .slice o4 l4.length k4, .slice o5 l5.length k5, .int .i64 k1, .string t, .slice o8 ls.length k8, .slice o9 ns.length k9]) (by simp [results, Tryz.results75, go_sem, f20, f21, f22, f23, f24, f25, f26, f27, f28, f29]) rfl ?_
    rw [hPro.out]
    refine ⟨_, _, _, _, _, rfl, ⟨own_low w3.out hBw, own_low w4.out hBw, own_low w5.out hBw, own_low w8.out hBw, own_low w9.out hBw, ?_⟩, hR.out, hX⟩
    exact sep_dbg hq3.out hq4.out hq5.out hq8.out hq9.out hq8b.out hq9b.out (by omega)
  · have hgd : decide (g1 = 1) = false := by simp [hg]
    rw [hgd]
    clear hgd
    have hPro := hidR (rdPro_eq ea.out eb.out ec.out ed.out eco.out ee.out ecs.out ef.out eus.out ek.out eg.out (if_neg hg))
    clear ea eb ec ed eco ee ecs ef eus ek eg hg
    have w8 : y18.ownsRow B 3 1 (.slice none 0 0) 0 [] := World.ownsRow_nil _ _ _ _
    have w9 : y18.ownsRow B 9 1 (.slice none 0 0) 0 [] := World.ownsRow_nil _ _ _ _
    replace hP := hidR hP
    replace hQ := hidR hQ
    replace hR := hidR hR
    replace w3 := hidR w3
    replace w4 := hidR w4
    replace w5 := hidR w5
    replace w8 := hidR w8
    replace w9 := hidR w9
    go_upto_region 11 with fail
    replace hP := hP.out
    replace hQ := hQ.out
    replace hR := hR.out
    replace w3 := w3.out
    replace w4 := w4.out
    replace w5 := w5.out
    replace w8 := w8.out
    replace w9 := w9.out
    have hrg := hidR hP.range
    have hth := hidR hQ.there
    have hone : ([.int .i64 b1, .bool (decide (a1 = 1)), .int .i64 c1, .slice o3 l3.length k3, .slice o4 l4.length k4, .slice o5 l5.length k5, .int .i64 k1, .string ⟨#[]⟩, .slice none 0 0, .slice none 0 0] : List Value).toArray.all (·.oneCell') = true := by simp [Value.oneCell']
    replace hone := hidR hone
    have hF := hQ.over [.int .i64 b1, .bool (decide (a1 = 1)), .int .i64 c1, .slice o3 l3.length k3, .slice o4 l4.length k4, .slice o5 l5.length k5, .int .i64 k1, .string ⟨#[]⟩, .slice none 0 0, .slice none 0 0] rfl
    replace hR := hR.setsOther hQR.symm [.int .i64 b1, .bool (decide (a1 = 1)), .int .i64 c1, .slice o3 l3.length k3, .slice o4 l4.length k4, .slice o5 l5.length k5, .int .i64 k1, .string ⟨#[]⟩, .slice none 0 0, .slice none 0 0]
    replace w3 := own_ex2 w3 hRB hQB (Ex2.sets [.int .i64 b1, .bool (decide (a1 = 1)), .int .i64 c1, .slice o3 l3.length k3, .slice o4 l4.length k4, .slice o5 l5.length k5, .int .i64 k1, .string ⟨#[]⟩, .slice none 0 0, .slice none 0 0] 0 (Ex2.refl R Q y18))
    replace w4 := own_ex2 w4 hRB hQB (Ex2.sets [.int .i64 b1, .bool (decide (a1 = 1)), .int .i64 c1, .slice o3 l3.length k3, .slice o4 l4.length k4, .slice o5 l5.length k5, .int .i64 k1, .string ⟨#[]⟩, .slice none 0 0, .slice none 0 0] 0 (Ex2.refl R Q y18))
    replace w5 := own_ex2 w5 hRB hQB (Ex2.sets [.int .i64 b1, .bool (decide (a1 = 1)), .int .i64 c1, .slice o3 l3.length k3, .slice o4 l4.length k4, .slice o5 l5.length k5, .int .i64 k1, .string ⟨#[]⟩, .slice none 0 0, .slice none 0 0] 0 (Ex2.refl R Q y18))
    replace w8 := own_ex2 w8 hRB hQB (Ex2.sets [.int .i64 b1, .bool (decide (a1 = 1)), .int .i64 c1, .slice o3 l3.length k3, .slice o4 l4.length k4, .slice o5 l5.length k5, .int .i64 k1, .string ⟨#[]⟩, .slice none 0 0, .slice none 0 0] 0 (Ex2.refl R Q y18))
    replace w9 := own_ex2 w9 hRB hQB (Ex2.sets [.int .i64 b1, .bool (decide (a1 = 1)), .int .i64 c1, .slice o3 l3.length k3, .slice o4 l4.length k4, .slice o5 l5.length k5, .int .i64 k1, .string ⟨#[]⟩, .slice none 0 0, .slice none 0 0] 0 (Ex2.refl R Q y18))
    replace hX := Ex.sets hQw [.int .i64 b1, .bool (decide (a1 = 1)), .int .i64 c1, .slice o3 l3.length k3, .slice o4 l4.length k4, .slice o5 l5.length k5, .int .i64 k1, .string ⟨#[]⟩, .slice none 0 0, .slice none 0 0] 0 hX
    have hzf : (y18.setCells Q 0 [.int .i64 b1, .bool (decide (a1 = 1)), .int .i64 c1, .slice o3 l3.length k3, .slice o4 l4.length k4, .slice o5 l5.length k5, .int .i64 k1, .string ⟨#[]⟩, .slice none 0 0, .slice none 0 0]).heap.size = y18.heap.size := setCells_size _ _ _ _
    obtain ⟨yf, hyf⟩ : ∃ yf, y18.setCells Q 0 [.int .i64 b1, .bool (decide (a1 = 1)), .int .i64 c1, .slice o3 l3.length k3, .slice o4 l4.length k4, .slice o5 l5.length k5, .int .i64 k1, .string ⟨#[]⟩, .slice none 0 0, .slice none 0 0] = yf := ⟨_, rfl⟩
    rw [hyf] at hF hR hX hzf w3 w4 w5 w8 w9
    clear hP hQ
    replace hR := hidR hR
    replace w3 := hidR w3
    replace w4 := hidR w4
    replace w5 := hidR w5
    replace w8 := hidR w8
    replace w9 := hidR w9
    replace hF := hidR hF
    refine wp_region_lit ?_
    refine wpList_load_mid rfl 54 (.tmp 3) rfl P 0 rfl [.int .i64 b1, .bool (decide (a1 = 1)), .int .i64 c1, .slice o3 l3.length k3, .slice o4 l4.length k4, .slice o5 l5.length k5, .int .i64 k1, .string ⟨#[]⟩, .slice none 0 0, .slice none 0 0] _ hrg.out Tryz.underlying54 rfl infP ?_
    refine wpList_store_mid rfl 54 (.tmp 2) (.tmp 44) rfl Q 0 ([.int .i64 b1, .bool (decide (a1 = 1)), .int .i64 c1, .slice o3 l3.length k3, .slice o4 l4.length k4, .slice o5 l5.length k5, .int .i64 k1, .string ⟨#[]⟩, .slice none 0 0, .slice none 0 0] : List Value).toArray rfl rfl hth.out infP hone.out ?_
    rw [show y18.setCells Q 0 ([.int .i64 b1, .bool (decide (a1 = 1)), .int .i64 c1, .slice o3 l3.length k3, .slice o4 l4.length k4, .slice o5 l5.length k5, .int .i64 k1, .string ⟨#[]⟩, .slice none 0 0, .slice none 0 0] : List Value).toArray.toList = yf from hyf]
    clear hyf hrg hth hone
    refine wpList_nil ?_
    rename_i K hK
    refine hK _ _ (wp_ret ?_)
    have f20 := hF.out.cell 0 rfl
    have f21 := hF.out.cell 1 rfl
    have f22 := hF.out.cell 2 rfl
    have f23 := hF.out.cell 3 rfl
    have f24 := hF.out.cell 4 rfl
    have f25 := hF.out.cell 5 rfl
    have f26 := hF.out.cell 6 rfl
    have f27 := hF.out.cell 7 rfl
    have f28 := hF.out.cell 8 rfl
    have f29 := hF.out.cell 9 rfl
    refine bodyPost_ret (v := .agg #[.int .i64 b1, .bool (decide (a1 = 1)), .int .i64 c1, .slice o3 l3.length k3, .slice o4 l4.length k4, .slice o5 l5.length k5, .int .i64 k1, .string ⟨#[]⟩, .slice none 0 0, .slice none 0 0]) (by simp [results, Tryz.results75, go_sem, f20, f21, f22, f23, f24, f25, f26, f27, f28, f29]) rfl ?_
    rw [hPro.out]
    refine ⟨_, _, _, _, _, rfl, ⟨own_low w3.out hBw, own_low w4.out hBw, own_low w5.out hBw, own_low w8.out hBw, own_low w9.out hBw, ?_⟩, hR.out, hX⟩
    exact sep_none hq3.out hq4.out hq5.out (by omega)
end Go.Proofs.YtebjplogpngeaaaGreatDoor
namespace Go.Proofs.YtebjplogpngeaaaGreatDoor
open Go.RowKit
set_option linter.unusedVariables false
set_option linter.unusedSimpArgs false
set_option maxRecDepth 100000
set_option maxHeartbeats 2000000
/-- a prototype that has been read, and where its lists lie. -/
structure PI where
  lo : Nat
  hi : Nat
  v3 : Value
  v4 : Value
  v5 : Value
  v8 : Value
  v9 : Value
  p : PR
def pcs (x : PI) : List Value := [.int .i64 x.p.params, .bool x.p.vararg, .int .i64 x.p.regs, x.v3, x.v4, x.v5, .int .i64 x.p.kids, .string x.p.name, x.v8, x.v9]
theorem pcs_len (L : List PI) : (L.flatMap pcs).length = L.length * 10 := by
  induction L with
  | nil => rfl
  | cons x L ih => rw [List.flatMap_cons, List.length_append, ih, List.length_cons, Nat.succ_mul]; simp [pcs]; omega
structure ItOk (y : World) (x : PI) : Prop where
  row : PRow x.lo y x.v3 x.v4 x.v5 x.v8 x.v9 x.p
  b3 : ∀ q, x.v3.ownBlock = some q → q < x.hi
  b4 : ∀ q, x.v4.ownBlock = some q → q < x.hi
  b5 : ∀ q, x.v5.ownBlock = some q → q < x.hi
  b8 : ∀ q, x.v8.ownBlock = some q → q < x.hi
  b9 : ∀ q, x.v9.ownBlock = some q → q < x.hi
/-- one behind the other. -/
def Chain : Nat → Nat → List PI → Prop
  | lo, hi, [] => lo ≤ hi
  | lo, hi, x :: L => lo ≤ x.lo ∧ x.lo ≤ x.hi ∧ Chain x.hi hi L
theorem Chain.le : ∀ {L : List PI} {lo hi : Nat}, Chain lo hi L → lo ≤ hi
  | [], _, _, h => h
  | x :: L, lo, hi, h => by have := h.2.2.le; have := h.1; have := h.2.1; omega
theorem Chain.append : ∀ {L M : List PI} {lo mid hi : Nat}, Chain lo mid L → Chain mid hi M → Chain lo hi (L ++ M)
  | [], [], _, _, _, h, k => Nat.le_trans h k
  | [], x :: M, lo, mid, hi, h, k => ⟨Nat.le_trans h k.1, k.2⟩
  | x :: L, M, lo, mid, hi, h, k => ⟨h.1, h.2.1, Chain.append h.2.2 k⟩
theorem Chain.up : ∀ {L : List PI} {lo hi hi' : Nat}, Chain lo hi L → hi ≤ hi' → Chain lo hi' L
  | [], _, _, _, h, k => Nat.le_trans h k
  | x :: L, lo, hi, hi', h, k => ⟨h.1, h.2.1, h.2.2.up k⟩
theorem Chain.down {L : List PI} {lo lo' hi : Nat} (h : Chain lo hi L) (k : lo' ≤ lo) : Chain lo' hi L := by
  cases L with
  | nil => exact Nat.le_trans k h
  | cons x L => exact ⟨Nat.le_trans k h.1, h.2⟩
theorem Chain.mem : ∀ {L : List PI} {lo hi : Nat} {x : PI}, Chain lo hi L → x ∈ L → lo ≤ x.lo ∧ x.hi ≤ hi
  | [], _, _, _, _, h => by cases h
  | a :: L, lo, hi, x, h, hx => by
    rcases List.mem_cons.1 hx with rfl | hx
    · exact ⟨h.1, h.2.2.le⟩
    · have := h.2.2.mem hx
      have := h.1
      have := h.2.1
      omega
/-- rows of other types lie in other blocks. -/
theorem own_ne {y : World} {b b' : Nat} {e e' : TypeId} {z z' n n' : Nat} {v v' : Value} {xs xs' : List Value} (h : y.ownsRow b e z v n xs) (h' : y.ownsRow b' e' z' v' n' xs') (he : e ≠ e') : ∀ q, v.ownBlock = some q → v'.ownBlock ≠ some q := fun q hq hq' => by
  rcases h.2 with ⟨rfl, _⟩ | ⟨g, cap, cur, rfl, _, hg, _⟩
  · cases hq
  · rcases h'.2 with ⟨rfl, _⟩ | ⟨g', cap', cur', rfl, _, hg', _⟩
    · cases hq'
    · simp only [Value.ownBlock, Option.some.injEq] at hq hq'
      subst hq hq'
      rw [hg] at hg'
      simp only [Option.some.injEq, Obj.cells.injEq] at hg'
      exact he hg'.2.1
theorem own_kept {y y' : World} {b : Nat} {e : TypeId} {z n : Nat} {v : Value} {xs : List Value} (h : y.ownsRow b e z v n xs) (hk : ∀ q, v.ownBlock = some q → y'.heap[q]? = y.heap[q]?) : y'.ownsRow b e z v n xs := by
  refine ⟨h.1, ?_⟩
  rcases h.2 with hn | ⟨g, cap, cur, rfl, hbb, hg, rest⟩
  · exact .inl hn
  · exact .inr ⟨g, cap, cur, rfl, hbb, (hk g rfl).trans hg, rest⟩
theorem PRow.keep {B : Nat} {y y' : World} {v3 v4 v5 v8 v9 : Value} {p : PR} (h : PRow B y v3 v4 v5 v8 v9 p) (hk : ∀ q, (v3.ownBlock = some q ∨ v4.ownBlock = some q ∨ v5.ownBlock = some q ∨ v8.ownBlock = some q ∨ v9.ownBlock = some q) → y'.heap[q]? = y.heap[q]?) : PRow B y' v3 v4 v5 v8 v9 p :=
  ⟨own_kept h.o3 fun q hq => hk q (.inl hq), own_kept h.o4 fun q hq => hk q (.inr (.inl hq)), own_kept h.o5 fun q hq => hk q (.inr (.inr (.inl hq))), own_kept h.o8 fun q hq => hk q (.inr (.inr (.inr (.inl hq)))), own_kept h.o9 fun q hq => hk q (.inr (.inr (.inr (.inr hq)))), h.sep⟩
theorem PRow.lt {B : Nat} {y : World} {v3 v4 v5 v8 v9 : Value} {p : PR} (h : PRow B y v3 v4 v5 v8 v9 p) {q : Nat} (hq : v3.ownBlock = some q ∨ v4.ownBlock = some q ∨ v5.ownBlock = some q ∨ v8.ownBlock = some q ∨ v9.ownBlock = some q) : B ≤ q ∧ q < y.heap.size := by
  rcases hq with hq | hq | hq | hq | hq
  · exact h.o3.lt q hq
  · exact h.o4.lt q hq
  · exact h.o5.lt q hq
  · exact h.o8.lt q hq
  · exact h.o9.lt q hq
/-- blocks of lists of prototypes, and of lists of these, are others. -/
theorem PRow.ne {B : Nat} {y : World} {v3 v4 v5 v8 v9 : Value} {p : PR} (h : PRow B y v3 v4 v5 v8 v9 p) {b : Nat} {e : TypeId} {z n : Nat} {v : Value} {xs : List Value} (hv : y.ownsRow b e z v n xs) (he : e ≠ 70 ∧ e ≠ 76 ∧ e ≠ 78 ∧ e ≠ 3 ∧ e ≠ 9)
    {q : Nat} (hq : v3.ownBlock = some q ∨ v4.ownBlock = some q ∨ v5.ownBlock = some q ∨ v8.ownBlock = some q ∨ v9.ownBlock = some q) : v.ownBlock ≠ some q := fun hv' => by
  obtain ⟨e3, e4, e5, e8, e9⟩ := he
  rcases hq with hq | hq | hq | hq | hq
  · exact own_ne hv h.o3 e3 q hv' hq
  · exact own_ne hv h.o4 e4 q hv' hq
  · exact own_ne hv h.o5 e5 q hv' hq
  · exact own_ne hv h.o8 e8 q hv' hq
  · exact own_ne hv h.o9 e9 q hv' hq
theorem ItOk.keep {y y' : World} {x : PI} (h : ItOk y x) (hk : ∀ q, (x.v3.ownBlock = some q ∨ x.v4.ownBlock = some q ∨ x.v5.ownBlock = some q ∨ x.v8.ownBlock = some q ∨ x.v9.ownBlock = some q) → y'.heap[q]? = y.heap[q]?) : ItOk y' x := { h with row := h.row.keep hk }
theorem ItOk.ex {R : Nat} {y y' : World} {x : PI} (h : ItOk y x) (hx : Ex R y y') (hR : R < x.lo) : ItOk y' x :=
  h.keep fun q hq => hx.block q (h.row.lt hq).2 (by have := (h.row.lt hq).1; omega)
theorem ItOk.grown {y y' : World} {x : PI} (h : ItOk y x) {b : Nat} {e : TypeId} {z n : Nat} {v : Value} {xs : List Value} (hv : y.ownsRow b e z v n xs) (he : e ≠ 70 ∧ e ≠ 76 ∧ e ≠ 78 ∧ e ≠ 3 ∧ e ≠ 9) (hg : y.grownBy y' v.ownBlock) : ItOk y' x :=
  h.keep fun q hq => hg.block q (h.row.lt hq).2 (fun e1 => h.row.ne hv he hq e1.symm)
/-- what a tree gives back. -/
structure TrOk (y w' : World) (v : Value) (L : List PI) (mid : Nat) : Prop where
  row : w'.ownsRow mid 54 10 v L.length (L.flatMap pcs)
  its : ∀ x ∈ L, ItOk w' x
  chain : Chain y.heap.size mid L
  mid : mid ≤ w'.heap.size
/-- trees, one behind the other, until a fault. -/
def rdFor (t : RS → Int → List PR × RS × Int) : Nat → RS → Int → List (List PR) → List (List PR) × RS × Int
  | 0, r, an, acc => (acc, r, an)
  | n + 1, r, an, acc => if (t r an).2.1.bad ≠ 0 then ([], (t r an).2) else rdFor t n (t r an).2.1 (t r an).2.2 (acc ++ [(t r an).1])
theorem rdFor_bad {t : RS → Int → List PR × RS × Int} {n : Nat} {r : RS} {an : Int} {acc : List (List PR)} (h : (t r an).2.1.bad ≠ 0) : rdFor t (n + 1) r an acc = ([], (t r an).2) := if_pos h
theorem rdFor_ok {t : RS → Int → List PR × RS × Int} {n : Nat} {r : RS} {an : Int} {acc : List (List PR)} (h : (t r an).2.1.bad = 0) : rdFor t (n + 1) r an acc = rdFor t n (t r an).2.1 (t r an).2.2 (acc ++ [(t r an).1]) := if_neg (by simp [h])
/-- trees in a list. -/
structure FoOk (R : Nat) (w y : World) (o : Value) (L : List (Value × List PI)) (mid : Nat) : Prop where
  row : y.ownsRow w.heap.size 23 1 o L.length (L.map (·.1))
  each : ∀ x ∈ L, ∃ m, w.heap.size ≤ m ∧ y.ownsRow m 54 10 x.1 x.2.length (x.2.flatMap pcs)
  its : ∀ x ∈ L, ∀ z ∈ x.2, ItOk y z
  chain : Chain w.heap.size mid (L.flatMap (·.2))
  mid : mid ≤ y.heap.size
  ex : Ex R w y
theorem infF : (Tryz.prog.info? 23).map (fun i => (i.zero, i.size, i.bytes)) = some (some (.slice none 0 0), 1, 24) := by kernel_rfl
theorem FoOk.none {R : Nat} {w y : World} (h : Ex R w y) : FoOk R w y (.slice none 0 0) [] w.heap.size := ⟨World.ownsRow_nil _ _ _ _, fun _ hx => (by cases hx), fun _ hx => (by cases hx), Nat.le_refl _, h.size, h⟩
theorem FoOk.later {R : Nat} {w y y' : World} {o : Value} {L : List (Value × List PI)} {mid : Nat} (h : FoOk R w y o L mid) (hR : R < w.heap.size) (hx : Ex R y y') : FoOk R w y' o L mid := by
  refine ⟨own_ex h.row hR hx, fun x hx' => ?_, fun x hx' z hz => (h.its x hx' z hz).ex hx ?_, h.chain, Nat.le_trans h.mid hx.size, h.ex.trans hx⟩
  · obtain ⟨m, hm, hr⟩ := h.each x hx'
    exact ⟨m, hm, own_ex hr (by omega) hx⟩
  · have := (h.chain.mem (x := z) (List.mem_flatMap.2 ⟨x, hx', hz⟩)).1
    omega
theorem FoOk.push {R : Nat} {w y0 y w' : World} {o o' v : Value} {L : List (Value × List PI)} {its : List PI} {mid m1 : Nat} {nb : Obj} (h : FoOk R w y o L mid) (k : TrOk y0 y v its m1) (hy : mid ≤ y0.heap.size)
    (hown : w'.ownsRow w.heap.size 23 1 o' (L.length + 1) (L.map (·.1) ++ [v])) (hg : (y.alloc nb).grownBy w' o.ownBlock) : FoOk R w w' o' (L ++ [(v, its)]) m1 := by
  have hE : 23 ≠ 70 ∧ 23 ≠ 76 ∧ 23 ≠ 78 ∧ 23 ≠ 3 ∧ 23 ≠ 9 := by decide
  have hal : ∀ q, q < y.heap.size → (y.alloc nb).heap[q]? = y.heap[q]? := fun q hq => heap_alloc_old y nb hq
  have hrow := h.row.alloc nb
  have hsz : mid ≤ m1 := Nat.le_trans hy k.chain.le
  have hkeep : ∀ {m : Nat} {u : Value} {n : Nat} {xs : List Value}, y.ownsRow m 54 10 u n xs → w'.ownsRow m 54 10 u n xs := fun {m u n xs} hr =>
    own_kept (hr.alloc nb) fun q hq => hg.block q ((hr.alloc nb).lt q hq).2 (fun e1 => own_ne (hr.alloc nb) hrow (by decide) q hq e1.symm)
  have hit : ∀ z, ItOk y z → ItOk w' z := fun z hz => (hz.keep (y' := y.alloc nb) fun q hq => hal q (hz.row.lt hq).2).grown hrow hE hg
  refine ⟨?_, fun x hx => ?_, fun x hx z hz => ?_, ?_, ?_, (h.ex.alloc nb).grown hg (own_base h.row)⟩
  · rw [List.length_append, List.map_append]; exact hown
  · rcases List.mem_append.1 hx with hx | hx
    · obtain ⟨m, hm, hr⟩ := h.each x hx
      exact ⟨m, hm, hkeep hr⟩
    · obtain rfl : x = (v, its) := by simpa using hx
      exact ⟨m1, Nat.le_trans h.chain.le hsz, hkeep k.row⟩
  · rcases List.mem_append.1 hx with hx | hx
    · exact hit z (h.its x hx z hz)
    · obtain rfl : x = (v, its) := by simpa using hx
      exact hit z (k.its z hz)
  · rw [List.flatMap_append]
    refine h.chain.append ?_
    simpa using k.chain.down hy
  · have := k.mid
    have := hg.size
    rw [World.size_alloc] at this
    omega
theorem severalF_in (t : RS → Int → List PR × RS × Int) (s : ByteArray) (ab : Int) (R : Nat) (n : Nat) (r0 : RS) (an0 : Int) (w : World)
    (hone : 0 < n → ∀ r an y, RowL y R 103 (rdL s r ab an) → r.pos ≤ s.size → 0 ≤ an → an ≤ 200 → Calls Tryz.prog 53 #[.pointer (some ⟨R, 0, none⟩)] y fun e w' => ∃ v its mid, e = .returned v ∧ TrOk y w' v its mid ∧ its.map (·.p) = (t r an).1 ∧ RowL w' R 103 (rdL s (t r an).2.1 ab (t r an).2.2) ∧ Ex R y w')
    (hpos : ∀ r an, r.pos ≤ s.size → 0 ≤ an → an ≤ 200 → (t r an).2.1.pos ≤ s.size ∧ 0 ≤ (t r an).2.2 ∧ (t r an).2.2 ≤ 200) (h : RowL w R 103 (rdL s r0 ab an0)) (hp : r0.pos ≤ s.size) (ha0 : 0 ≤ an0) (ha1 : an0 ≤ 200) (hn : n ≤ 200) :
    Calls Tryz.prog 76 #[.pointer (some ⟨R, 0, none⟩), .int .i64 (n : Int), .func (.func 53) #[.pointer (some ⟨R, 0, none⟩)] #[]] w fun e w' =>
      ∃ v L mid, e = .returned v ∧ FoOk R w w' v L mid ∧ L.map (fun x => x.2.map (·.p)) = (rdFor t n r0 an0 []).1 ∧ L.length ≤ n ∧ RowL w' R 103 (rdL s (rdFor t n r0 an0 []).2.1 ab (rdFor t n r0 an0 []).2.2) := by
  have hlt : R < w.heap.size := World.rowIs.lt h
  obtain ⟨i0, hi, hz0, hz1, hz2⟩ := info_of infF
  replace hone := hidR hone
  replace hpos := hidR hpos
  obtain ⟨N, hN⟩ : ∃ N : Int, N = (n : Int) := ⟨_, rfl⟩
  rw [← hN]
  replace hN := hidR hN
  go_enter Tryz.func76, Tryz.ntmps76
  go_wp2_with fail
  go_loopw [7, 10] (fun o i wr => ∃ (k : Nat) (L : List (Value × List PI)) (mid : Nat) (r : RS) (an : Int), i = .int .i64 k ∧ k ≤ n ∧ Hid (r.pos ≤ s.size ∧ (0 ≤ an ∧ an ≤ 200) ∧ RowL wr R 103 (rdL s r ab an) ∧ FoOk R w wr o L mid ∧ L.length = k ∧ rdFor t n r0 an0 [] = rdFor t (n - k) r an (L.map (fun x => x.2.map (·.p))))) (fun _ i _ => n - (intOf i).toNat)
  case atStart => exact ⟨0, [], w.heap.size, r0, an0, rfl, Nat.zero_le _, hp, ⟨ha0, ha1⟩, h, FoOk.none (Ex.refl R w), rfl, rfl⟩
  case round =>
    obtain ⟨k, L, mid, r, an, rfl, q1, q2⟩ := hrel
    by_cases hk : k < n
    · have hk1 : (k : Int) < N := by have := hN.out; omega
      have hc := hone.out (by omega) r an _ q2.out.2.2.1 q2.out.1 q2.out.2.1.1 q2.out.2.1.2
      have hp1 := hpos.out r an q2.out.1 q2.out.2.1.1 q2.out.2.1.2
      obtain ⟨x, hx⟩ : ∃ x, t r an = x := ⟨_, rfl⟩
      rw [hx] at hc hp1
      obtain ⟨ps, r1, an1⟩ := x
      dsimp only at hc hp1
      replace hc := hidR hc
      replace hp1 := hidR hp1
      go_wp2_with fail
      refine Calls.mono hc.out ?_
      rintro e y1 ⟨v, its, m1, rfl, htr, hps, hr1, hx1⟩
      have hsv := q2.out.2.2.2.1.later hlt hx1
      have hyl := q2.out.2.2.2.1.mid
      have hLk := q2.out.2.2.2.2.1
      have heq := q2.out.2.2.2.2.2
      clear hc q2
      obtain ⟨o1, c1, rfl⟩ := own_slL htr.row
      have h2 : y1.cell? ⟨R, 2, none⟩ = some (fltV r1.bad) := hr1.cell 2 rfl
      replace hr1 := hidR hr1
      replace hsv := hidR hsv
      replace heq := hidR heq
      replace htr := hidR htr
      replace hps := hidR hps
      replace hx := hidR hx
      by_cases hb : r1.bad = 0
      · rw [hb, show fltV (0 : Int) = .nilIface from rfl] at h2
        replace hb := hidR hb
        go_wp2_with (at_builtin; refine wpList_append_own_at _ rfl (.tmp 19) (.tmp 21) 136 rfl w.heap.size 23 i0 (.slice none 0 0) 1 24 Tryz.underlying136 hi hz0 hz1 hz2 rfl (by decide) u7 L.length _ rfl (hsv.out.row.alloc _) ⟨y1.heap.size, 0, none⟩ 1 1 [.slice o1 its.length c1] rfl rfl ?c1 ?c2 ?c3 ?c4 ?c5 ?_)
        case c1 => exact World.news_of_block (heap_alloc_new _ _)
        case c2 => intro u hu; simp only [List.mem_cons, List.not_mem_nil, or_false] at hu; subst hu; rfl
        case c3 => simp only [maxLen]; omega
        case c4 => omega
        case c5 => have := hsv.out.ex.size; simp only [World.size_alloc]; omega
        intro v' w' hown hg _ hat
        have hrel : Hid (r1.pos ≤ s.size ∧ (0 ≤ an1 ∧ an1 ≤ 200) ∧ RowL w' R 103 (rdL s r1 ab an1) ∧ FoOk R w w' v' (L ++ [(.slice o1 its.length c1, its)]) m1 ∧ (L ++ [(Value.slice o1 its.length c1, its)]).length = k + 1 ∧ rdFor t n r0 an0 [] = rdFor t (n - (k + 1)) r1 an1 ((L ++ [(Value.slice o1 its.length c1, its)]).map (fun x => x.2.map (·.p)))) := by
          refine ⟨hp1.out.1, hp1.out.2, row_grown (hr1.out.alloc _) hg (fun e => by have := own_base hsv.out.row _ e; omega), hsv.out.push htr.out hyl (by rw [hLk]; simpa using hown) hg, ?_, ?_⟩
          · rw [List.length_append, hLk]; rfl
          · rw [heq.out, show n - k = (n - (k + 1)) + 1 by omega, rdFor_ok (by rw [hx.out]; exact hb.out), hx.out, List.map_append]
            simp [hps.out]
        clear hown hg hat hi hz0 hz1 hz2 heq hsv hr1 h2 hx1 htr hps
        go_wp2_with fail
        go_roundw
        case rel => exact ⟨k + 1, L ++ [(Value.slice o1 its.length c1, its)], m1, r1, an1, by go_num, by omega, hrel.out⟩
        case measure => simp [intOf]; omega
      · have hfb : fltV r1.bad = .iface 63 (.agg #[.int .i64 r1.bad]) := if_neg hb
        rw [hfb] at h2
        clear hfb
        go_wp2_with fail
        go_ret
        have he : rdFor t n r0 an0 [] = ([], r1, an1) := by
          rw [heq.out, show n - k = (n - k - 1) + 1 by omega, rdFor_bad (by rw [hx.out]; exact hb), hx.out]
        rw [he]
        exact ⟨_, [], _, rfl, FoOk.none hsv.out.ex, rfl, Nat.zero_le _, hr1.out⟩
    · obtain rfl : k = n := by omega
      have hk1 : N ≤ (k : Int) := by have := hN.out; omega
      go_wp2_with fail
      go_ret
      have he : rdFor t k r0 an0 [] = (L.map (fun x => x.2.map (·.p)), r, an) := by
        rw [q2.out.2.2.2.2.2, Nat.sub_self]; rfl
      rw [he]
      exact ⟨_, L, mid, rfl, q2.out.2.2.2.1, rfl, Nat.le_of_eq q2.out.2.2.2.2.1, q2.out.2.2.1⟩
end Go.Proofs.YtebjplogpngeaaaGreatDoor
namespace Go.Proofs.YtebjplogpngeaaaGreatDoor
open Go.RowKit
set_option linter.unusedVariables false
set_option linter.unusedSimpArgs false
set_option maxRecDepth 100000
set_option maxHeartbeats 2000000
def zP : Value := .agg #[.int .i64 0, .bool false, .int .i64 0, .slice none 0 0, .slice none 0 0, .slice none 0 0, .int .i64 0, .string ⟨#[]⟩, .slice none 0 0, .slice none 0 0]
theorem infPr : (Tryz.prog.info? 54).map (fun i => (i.zero, i.size, i.bytes)) = some (some zP, 10, 168) := by kernel_rfl
/-- room for so many prototypes. -/
theorem grow_in (n : Nat) (hn : n ≤ 1000000) (w : World) :
    Calls Tryz.prog 96 #[.slice none 0 0, .int .i64 (n : Int)] w fun e w' => ∃ v, e = .returned v ∧ w'.ownsRow w.heap.size 54 10 v 0 [] ∧ Below w.heap.size w w' := by
  by_cases h : n = 0
  · subst h
    refine (Any8.slices_Grow_room Tryz.growP none 0 0 0 w (by omega) (by omega) (by omega) (by omega)).mono fun e w' ⟨he, hw⟩ => ⟨_, he, ?_, ?_⟩
    · exact World.ownsRow_nil _ _ _ _
    · rw [hw]; exact Below.refl _ _
  · obtain ⟨i0, hi, hz0, hz1, hz2⟩ := info_of infPr
    have hm : 0 + n ≤ maxLen := by simp only [maxLen]; omega
    refine (Any8.slices_Grow_grow Tryz.growP i0 zP hi hz0 (by omega) none 0 0 n [] w (by omega) (by omega) (by rw [hz2]; omega) (by omega) (by simp) (fun _ => rfl) (fun a ha => by cases ha)).mono fun e w' ⟨he, hw⟩ => ⟨_, he, ?_, ?_⟩
    · have hge := grownCap_ge w (0 + n) 0 54
      have hle := grownCap_le_maxLen w (0 + n) 0 54 hm
      rw [hw]
      refine ⟨rfl, .inr ⟨w.heap.size, _, _, rfl, Nat.le_refl _, heap_alloc_new w.drew _, Nat.zero_le _, hle, ?_, by simp⟩⟩
      simp only [Array.size_append, size_zeroCells, zP, Value.cells, List.size_toArray, List.length_nil]
      simp
      rw [← Nat.add_mul]
      congr 1
      rw [Nat.zero_add] at hge
      exact Nat.add_sub_cancel' hge
    · rw [hw]
      exact (Below.refl w.heap.size w).drew.alloc (Nat.le_refl _) _
/-- what the first k trees hold. -/
def pre (L : List (Value × List PI)) (k : Nat) : List PI := (L.take k).flatMap (·.2)
theorem pre_succ {L : List (Value × List PI)} {k : Nat} (hk : k < L.length) : pre L (k + 1) = pre L k ++ L[k].2 := by
  unfold pre
  rw [List.take_succ_eq_append_getElem hk, List.flatMap_append]
  simp
theorem pre_le (L : List (Value × List PI)) (k : Nat) : (pre L k).length ≤ (L.flatMap (·.2)).length := by
  have h : L.flatMap (·.2) = pre L k ++ (L.drop k).flatMap (·.2) := by
    unfold pre
    rw [← List.flatMap_append, List.take_append_drop]
  rw [h, List.length_append]
  omega
theorem concat_in (L : List (Value × List PI)) (b : Nat) (ao : Option Addr) (cap : Nat) (w : World)
    (hrow : w.ownsRow b 23 1 (.slice ao L.length cap) L.length (L.map (·.1)))
    (heach : ∀ x ∈ L, ∃ m, w.ownsRow m 54 10 x.1 x.2.length (x.2.flatMap pcs)) (hne : ∀ x ∈ L, x.2 ≠ []) (h1 : ∀ x ∈ L, ∀ u ∈ x.2.flatMap pcs, u.oneCell' = true)
    (hn : L.length ≤ 200) (htot : (L.flatMap (·.2)).length ≤ 1000000) :
    Calls Tryz.prog 77 #[.slice ao L.length cap] w fun e w' => ∃ v, e = .returned v ∧ w'.ownsRow w.heap.size 54 10 v (L.flatMap (·.2)).length ((L.flatMap (·.2)).flatMap pcs) ∧ Below w.heap.size w w' := by
  obtain ⟨i0, hi, hz0, hz1, hz2⟩ := info_of infPr
  -- where the k-th tree lies
  have hat : ∀ k (hk : k < L.length), ∃ g gx cx m, ao = some ⟨g, 0, none⟩ ∧ g < w.heap.size ∧ L[k].1 = .slice (some ⟨gx, 0, none⟩) L[k].2.length cx ∧ w.cell? ⟨g, k, none⟩ = some L[k].1 ∧ w.ownsRow m 54 10 (.slice (some ⟨gx, 0, none⟩) L[k].2.length cx) L[k].2.length (L[k].2.flatMap pcs) := by
    intro k hk
    obtain ⟨m, hm⟩ := heach L[k] (List.getElem_mem hk)
    have hpos : 0 < L[k].2.length := List.length_pos_iff.2 (hne _ (List.getElem_mem hk))
    obtain ⟨gx, cx, he, -, -⟩ := hm.form hpos
    rcases hrow.2 with ⟨_, h0⟩ | ⟨g, cp, cur, he2, _, hg, hnc, _, hcs, htk⟩
    · omega
    · simp only [Value.slice.injEq] at he2
      obtain ⟨rfl, -, rfl⟩ := he2
      refine ⟨g, gx, cx, m, rfl, (Array.getElem?_eq_some_iff.1 hg).1, he, ?_, by rw [← he]; exact hm⟩
      have hc := hrow.cellAt k (by omega)
      rw [hc, List.getElem?_map, List.getElem?_eq_getElem hk]
      rfl
  obtain ⟨N, hN⟩ : ∃ N : Int, N = (L.length : Int) := ⟨_, rfl⟩
  replace hat := hidR hat
  replace h1 := hidR h1
  replace hrow := hidR hrow
  clear heach hne
  go_enter Tryz.func77, Tryz.ntmps77
  go_wp2_with fail
  go_loopw [3, 11] (fun z i wr => ∃ k : Nat, i = .int .i64 k ∧ k ≤ L.length ∧ z = .int .i64 ((pre L k).length : Int) ∧ w = wr) (fun _ i _ => L.length - (intOf i).toNat)
  case atStart => exact ⟨0, rfl, Nat.zero_le _, rfl, rfl⟩
  case round =>
    obtain ⟨k, rfl, q1, rfl, rfl⟩ := hrel
    by_cases hk : k < L.length
    · obtain ⟨g, gx, cx, m, rfl, hgl, he, hc, -⟩ := hat.out k hk
      have hle := pre_le L (k + 1)
      have hsu : ((pre L (k + 1)).length : Int) = ((pre L k).length : Int) + (L[k].2.length : Int) := by rw [pre_succ hk, List.length_append]; omega
      rw [he] at hc
      have hle2 : ((pre L k).length : Int) + (L[k].2.length : Int) ≤ 1000000 := by omega
      obtain ⟨l, hl⟩ : ∃ l, L[k].2.length = l := ⟨_, rfl⟩
      rw [hl] at hc hsu hle2
      obtain ⟨p, hp⟩ : ∃ p, (pre L k).length = p := ⟨_, rfl⟩
      rw [hp] at hsu hle2 ⊢
      have hkI : (k : Int) < (L.length : Int) := by omega
      have hp0 : (0 : Int) ≤ (p : Int) + (l : Int) := by omega
      replace hsu := hidR hsu
      replace he := hidR he
      clear hp hl hle
      go_wp2_with fail
      go_roundw
      case rel => exact ⟨k + 1, by go_num, by omega, by rw [hsu.out], trivial⟩
      case measure => simp [intOf]; omega
    · obtain rfl : k = L.length := by omega
      have hpe : pre L L.length = L.flatMap (·.2) := by unfold pre; rw [List.take_length]
      rw [hpe]
      obtain ⟨T, hT⟩ : ∃ T, (L.flatMap (·.2)).length = T := ⟨_, rfl⟩
      rw [hT] at htot ⊢
      have hgr := hidR (grow_in T (by omega) w)
      replace hT := hidR hT
      go_wp2_with fail
      refine Calls.mono hgr.out ?_
      rintro e y0 ⟨v0, rfl, hv0, hb0⟩
      clear hgr
      obtain ⟨o0, c0, rfl⟩ := own_slL hv0
      replace hv0 := hidR hv0
      go_wp2_with fail
      go_loopw [6, 27] (fun z i wr => ∃ k : Nat, i = .int .i64 k ∧ k ≤ L.length ∧ Hid (wr.ownsRow w.heap.size 54 10 z (pre L k).length ((pre L k).flatMap pcs) ∧ Below w.heap.size w wr)) (fun _ i _ => L.length - (intOf i).toNat)
      case atStart => exact ⟨0, rfl, Nat.zero_le _, hv0.out, hb0⟩
      case round =>
        obtain ⟨k, rfl, q2, q3⟩ := hrel
        by_cases hk2 : k < L.length
        · obtain ⟨g, gx, cx, m, rfl, hgl, he, hc, hm⟩ := hat.out k hk2
          rw [he] at hc
          have hcy := (q3.out.2.cell (p := ⟨g, k, none⟩) hgl).trans hc
          have hmy := hidR (own_kept (y' := wr) hm (fun q hq => q3.out.2.block q (hm.lt q hq).2))
          have hle := pre_le L (k + 1)
          have hsu : (pre L (k + 1)).length = (pre L k).length + L[k].2.length := by rw [pre_succ hk2, List.length_append]
          have hflat : (pre L (k + 1)).flatMap pcs = (pre L k).flatMap pcs ++ L[k].2.flatMap pcs := by rw [pre_succ hk2, List.flatMap_append]
          have hone := hidR (h1.out L[k] (List.getElem_mem hk2))
          have hT2 := hT.out
          have htt : (pre L k).length + L[k].2.length ≤ 1000000 := by omega
          have hkI : (k : Int) < (L.length : Int) := by omega
          have hlen := hidR (pcs_len L[k].2)
          replace hsu := hidR hsu
          replace hflat := hidR hflat
          replace htt := hidR htt
          clear hc hle hT2 he hm
          obtain ⟨X, hX⟩ : ∃ X, L[k].2 = X := ⟨_, rfl⟩
          rw [hX] at hcy hmy hone hsu hflat htt hlen
          clear hX
          go_wp2_with (at_builtin; refine wpList_append_own_at _ rfl (.tmp 31) (.tmp 32) 23 rfl w.heap.size 54 i0 zP 10 168 Tryz.underlying23 hi hz0 hz1 hz2 rfl (by decide) u6 (pre L k).length _ rfl q3.out.1 ⟨gx, 0, none⟩ X.length cx (X.flatMap pcs) rfl hlen.out ?c1 hone.out ?c3 ?c4 ?c5 ?_)
          case c1 => intro j u hj; rw [Addr.add_mid, Nat.zero_add, hmy.out.cellAt j (by rw [← hlen.out]; exact (List.getElem?_eq_some_iff.1 hj).1)]; exact hj
          case c3 => have := htt.out; simp only [maxLen]; omega
          case c4 => have := htt.out; omega
          case c5 => exact q3.out.2.size
          intro v' w' hown hg _ hat2
          have hrel : Hid (w'.ownsRow w.heap.size 54 10 v' (pre L (k + 1)).length ((pre L (k + 1)).flatMap pcs) ∧ Below w.heap.size w w') := by
            refine ⟨by rw [hsu.out, hflat.out]; exact hown, Below.grown q3.out.2 hg q3.out.2.size (fun q hq => (q3.out.1.lt q hq).1)⟩
          clear hown hg hat2 hi hz0 hz1 hz2 hmy hone hlen hsu hflat htt q3 hcy
          go_wp2_with fail
          go_roundw
          case rel => exact ⟨k + 1, by go_num, by omega, hrel.out⟩
          case measure => simp [intOf]; omega
        · obtain rfl : k = L.length := by omega
          go_wp2_with fail
          go_ret
          have := q3.out
          rw [hpe] at this
          exact ⟨_, rfl, this.1, this.2⟩
end Go.Proofs.YtebjplogpngeaaaGreatDoor
namespace Go.Proofs.YtebjplogpngeaaaGreatDoor
open Go.RowKit
set_option linter.unusedVariables false
set_option linter.unusedSimpArgs false
set_option maxRecDepth 100000
set_option maxHeartbeats 2000000
/-- a tree: a prototype and the trees of its children. -/
noncomputable def rdTree (s : ByteArray) (V : Nat → Option (Int × Nat)) : Nat → Int → RS → Int → List PR × RS × Int
  | 0, _, r, an => ([], r, an)
  | f + 1, ab, r, an =>
    let p := rdPro s V gi0 (if ab = 63 then 0 else 200 - an) r
    let k := rdFor (rdTree s V f (ab + 1)) p.1.kids.toNat p.2 (an + p.1.kids) []
    (p.1 :: k.1.flatten, k.2)
theorem rdPro_facts {s : ByteArray} {V : Nat → Option (Int × Nat)} (hV : VrOk s V) {G : ByteArray → Int} {most : Int} (hm : 0 ≤ most) {r : RS} (hp : r.pos ≤ s.size) : (rdPro s V G most r).2.pos ≤ s.size ∧ 0 ≤ (rdPro s V G most r).1.kids ∧ (rdPro s V G most r).1.kids ≤ most := by
  have k := fun r0 => rdNum_bd (s := s) (V := V) (lo := 0) (hi := most) r0 (by decide) hm
  have w1 := fun r0 h => rdSev_pos (rd := rdWord s) (m := s.size) (fun r hq => rdWord_pos hq) h r0 []
  have w2 := fun r0 h => rdSev_pos (rd := rdVal s V G) (m := s.size) (fun r hq => rdVal_pos hV hq) h r0 []
  have w3 := fun r0 h => rdSev_pos (rd := rdUp s V) (m := s.size) (fun r hq => rdUp_pos hV hq) h r0 []
  unfold rdPro
  dsimp only
  refine ⟨?_, k _⟩
  have q : ∀ g : Nat × RS, g.2.pos ≤ s.size → ∀ a b : Nat, (if g.1 = 1 then rdDbg s V a b g.2 else ((⟨#[]⟩, [], []), g.2)).2.pos ≤ s.size := by
    intro g hg a b
    split
    · unfold rdDbg
      dsimp only
      have z := rdSev_pos (rd := rdText s V) (m := s.size) (fun r hq => rdText_pos hV hq) (rdCnt s V b (rdSev (rdAny s V) (rdCnt s V a (rdText s V g.2).2).1.toNat (rdCnt s V a (rdText s V g.2).2).2 []).2).1.toNat _ [] (rdCnt_pos (all := (b : Int)) hV (rdSev_pos (rd := rdAny s V) (m := s.size) (fun r hq => rdAny_pos hV hq) (rdCnt s V a (rdText s V g.2).2).1.toNat _ [] (rdCnt_pos (all := (a : Int)) hV (rdText_pos hV hg))))
      split
      · unfold RS.fail
        split <;> exact z
      · exact z
    · exact hg
  exact q _ (rdByte_pos (rdNum_pos hV (w3 _ _ (rdNum_pos hV (w2 _ _ (rdNum_pos hV (w1 _ _ (rdNum_pos hV (rdNum_pos hV (rdNum_pos hV (rdByte_pos hp)))))))))) ) _ _
theorem rdFor_facts {t : RS → Int → List PR × RS × Int} {m : Nat} (ht : ∀ r an, r.pos ≤ m → 0 ≤ an → an ≤ 200 → (t r an).2.1.pos ≤ m ∧ (an ≤ (t r an).2.2 ∧ (t r an).2.2 ≤ 200) ∧ ((t r an).1.length : Int) ≤ 1 + ((t r an).2.2 - an)) :
    ∀ n r an acc, r.pos ≤ m → 0 ≤ an → an ≤ 200 → (rdFor t n r an acc).2.1.pos ≤ m ∧ (an ≤ (rdFor t n r an acc).2.2 ∧ (rdFor t n r an acc).2.2 ≤ 200) ∧ ((rdFor t n r an acc).1.flatten.length : Int) ≤ acc.flatten.length + n + ((rdFor t n r an acc).2.2 - an)
  | 0, r, an, acc, hr, h0, h1 => by
    unfold rdFor
    dsimp only
    omega
  | n + 1, r, an, acc, hr, h0, h1 => by
    have h := ht r an hr h0 h1
    unfold rdFor
    split
    · dsimp only
      simp only [List.flatten_nil, List.length_nil]
      omega
    · have k := rdFor_facts ht n (t r an).2.1 (t r an).2.2 (acc ++ [(t r an).1]) h.1 (by omega) h.2.1.2
      rw [List.flatten_append, List.length_append] at k
      simp only [List.flatten_cons, List.flatten_nil, List.append_nil] at k
      omega
theorem rdTree_facts {s : ByteArray} {V : Nat → Option (Int × Nat)} (hV : VrOk s V) : ∀ f ab r an, r.pos ≤ s.size → 0 ≤ an → an ≤ 200 →
    (rdTree s V f ab r an).2.1.pos ≤ s.size ∧ (an ≤ (rdTree s V f ab r an).2.2 ∧ (rdTree s V f ab r an).2.2 ≤ 200) ∧ ((rdTree s V f ab r an).1.length : Int) ≤ 1 + ((rdTree s V f ab r an).2.2 - an)
  | 0, ab, r, an, hr, h0, h1 => by
    unfold rdTree
    simp only [List.length_nil]
    omega
  | f + 1, ab, r, an, hr, h0, h1 => by
    have hm : 0 ≤ (if ab = 63 then 0 else 200 - an) ∧ (if ab = 63 then 0 else 200 - an) ≤ 200 - an := by split <;> omega
    have p := rdPro_facts hV (G := gi0) hm.1 hr
    unfold rdTree
    dsimp only
    generalize rdPro s V gi0 (if ab = 63 then 0 else 200 - an) r = P at p ⊢
    have k := rdFor_facts (rdTree_facts hV f (ab + 1)) P.1.kids.toNat P.2 (an + P.1.kids) [] p.1 (by omega) (by omega)
    simp only [List.flatten_nil, List.length_nil] at k
    rw [List.length_cons]
    omega
theorem rdTree_ne {s : ByteArray} {V : Nat → Option (Int × Nat)} (f : Nat) (ab : Int) (r : RS) (an : Int) : (rdTree s V (f + 1) ab r an).1 ≠ [] := by
  unfold rdTree
  simp
theorem rdFor_ne {t : RS → Int → List PR × RS × Int} (ht : ∀ r an, (t r an).1 ≠ []) : ∀ n r an acc, (∀ l ∈ acc, l ≠ []) → ∀ l ∈ (rdFor t n r an acc).1, l ≠ []
  | 0, r, an, acc, h => h
  | n + 1, r, an, acc, h => by
    unfold rdFor
    split
    · intro l hl; cases hl
    · exact rdFor_ne ht n _ _ _ (fun l hl => by
        rcases List.mem_append.1 hl with hl | hl
        · exact h l hl
        · rw [List.mem_singleton.1 hl]; exact ht r an)
end Go.Proofs.YtebjplogpngeaaaGreatDoor
