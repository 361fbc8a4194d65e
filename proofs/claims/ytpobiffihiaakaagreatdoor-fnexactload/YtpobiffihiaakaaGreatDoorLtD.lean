import Derived.Test.YtpobiffihiaakaaGreatDoorLtC
import Derived.Deep.MidRow
import Derived.Lib.LazyBuf
namespace Go.Proofs.YtpobiffihiaakaaGreatDoor
open Go.RowKit
set_option linter.unusedVariables false
set_option linter.unusedSimpArgs false
set_option maxRecDepth 100000
set_option maxHeartbeats 2000000
/-- what a prototype's text says. -/
structure PR where
  params : Int
  regs : Int
  kids : Int
  vararg : Bool
  code : List Nat
  consts : List VD
  ups : List UD
  name : ByteArray
  lines : List Int
  upNames : List ByteArray
noncomputable def rdPro (s : ByteArray) (V : Nat → Option (Int × Nat)) (G : ByteArray → Int) (most : Int) (r : RS) : PR × RS :=
  let a := rdByte s 1 r
  let b := rdNum s V 0 250 a.2
  let c := rdNum s V (max 1 b.1) 250 b.2
  let d := rdNum s V 1 2000 c.2
  let co := rdSev (rdWord s) d.1.toNat d.2 []
  let e := rdNum s V 0 500 co.2
  let cs := rdSev (rdVal s V G) e.1.toNat e.2 []
  let f := rdNum s V 0 60 cs.2
  let us := rdSev (rdUp s V) f.1.toNat f.2 []
  let k := rdNum s V 0 most us.2
  let g := rdByte s 1 k.2
  let x := if g.1 = 1 then rdDbg s V co.1.length us.1.length g.2 else ((⟨#[]⟩, [], []), g.2)
  (⟨b.1, c.1, k.1, decide (a.1 = 1), co.1, cs.1, us.1, x.1.1, x.1.2.1, x.1.2.2⟩, x.2)
theorem rdPro_eq {s : ByteArray} {V : Nat → Option (Int × Nat)} {G : ByteArray → Int} {most b1 c1 k1 : Int} {a1 g1 d1 e1 f1 : Nat} {r ra rb rc rd rco re rcs rf rus rk rg rx : RS} {l3 : List Nat} {l4 : List VD} {l5 : List UD} {t : ByteArray} {ls : List Int} {ns : List ByteArray}
    (ea : rdByte s 1 r = (a1, ra)) (eb : rdNum s V 0 250 ra = (b1, rb)) (ec : rdNum s V (max 1 b1) 250 rb = (c1, rc)) (ed : rdNum s V 1 2000 rc = ((d1 : Int), rd)) (eco : rdSev (rdWord s) d1 rd [] = (l3, rco))
    (ee : rdNum s V 0 500 rco = ((e1 : Int), re)) (ecs : rdSev (rdVal s V G) e1 re [] = (l4, rcs)) (ef : rdNum s V 0 60 rcs = ((f1 : Int), rf)) (eus : rdSev (rdUp s V) f1 rf [] = (l5, rus)) (ek : rdNum s V 0 most rus = (k1, rk)) (eg : rdByte s 1 rk = (g1, rg))
    (ex : (if g1 = 1 then rdDbg s V l3.length l5.length rg else ((⟨#[]⟩, [], []), rg)) = ((t, ls, ns), rx)) :
    rdPro s V G most r = (⟨b1, c1, k1, decide (a1 = 1), l3, l4, l5, t, ls, ns⟩, rx) := by
  simp only [rdPro, ea, eb, ec, ed, eco, ee, ecs, ef, eus, ek, eg, ex, Int.toNat_natCast]
theorem Ex.setUp {R P : Nat} {a b : World} (h : Ex R a b) (hP : a.heap.size ≤ P) (k : Nat) (v : Value) : Ex R a (b.setCell ⟨P, k, none⟩ v) :=
  ⟨h.os, h.tape, h.output, by rw [World.size_setCell]; exact h.size, fun i hi hR => (Below.heap_setCell _ _ _ _ (show i ≠ P by omega)).trans (h.block i hi hR)⟩
theorem rdWord_pos {s : ByteArray} {r : RS} (hp : r.pos ≤ s.size) : (rdWord s r).2.pos ≤ s.size := rdBytes_pos hp
theorem rdVal_pos {s : ByteArray} {V : Nat → Option (Int × Nat)} {G : ByteArray → Int} (hV : VrOk s V) {r : RS} (hp : r.pos ≤ s.size) : (rdVal s V G r).2.pos ≤ s.size := by
  unfold rdVal
  dsimp only
  split
  · exact rdByte_pos hp
  · split
    · exact rdBytes_pos (rdByte_pos hp)
    · split
      · exact rdText_pos hV (rdByte_pos hp)
      · exact rdByte_pos hp
theorem rdUp_pos {s : ByteArray} {V : Nat → Option (Int × Nat)} (hV : VrOk s V) {r : RS} (hp : r.pos ≤ s.size) : (rdUp s V r).2.pos ≤ s.size := rdAny_pos hV (rdByte_pos hp)
theorem RowL.over {w : World} {b : Nat} {t : TypeId} {L : List Value} (h : RowL w b t L) (vs : List Value) (hl : vs.length = L.length) : RowL (w.setCells b 0 vs) b t vs := by
  have := rowIs_setCells vs 0 w _ h
  unfold RowL
  rw [hl]
  refine this.congr fun j hj => ?_
  have hj' : j < vs.length := by omega
  simp [hj', List.getD]
theorem RowL.setsOther {w : World} {b g : Nat} {t : TypeId} {L : List Value} (h : RowL w b t L) (hb : b ≠ g) (vs : List Value) : RowL (w.setCells g 0 vs) b t L := rowIs_setCells_other hb vs 0 w h
theorem Ex.sets {R g : Nat} {a : World} (hg : a.heap.size ≤ g) : ∀ (vs : List Value) (o : Nat) {b : World}, Ex R a b → Ex R a (b.setCells g o vs)
  | [], _, _, h => h
  | v :: vs, o, b, h => Ex.sets hg vs (o + 1) (h.setUp hg o v)
theorem Ex2.sets {R g : Nat} {a : World} : ∀ (vs : List Value) (o : Nat) {b : World}, Ex2 R g a b → Ex2 R g a (b.setCells g o vs)
  | [], _, _, h => h
  | v :: vs, o, b, h => Ex2.sets vs (o + 1) (h.set o v)
theorem RowL.there {w : World} {b : Nat} {t : TypeId} {L : List Value} (h : RowL w b t L) : w.there b 0 L.length := fun j hj => by
  rw [Nat.zero_add]
  exact ⟨by rw [h.cell j (List.getElem?_eq_getElem hj)]; rfl, h.frozen j⟩
theorem RowL.range {w : World} {b : Nat} {t : TypeId} {L : List Value} (h : RowL w b t L) : w.rangeAt b 0 L := fun j v hv => by
  rw [Nat.zero_add]
  exact h.cell j hv
theorem Ex2.row {R P : Nat} {w w' : World} {b : Nat} {t : TypeId} {L : List Value} (h : Ex2 R P w w') (hL : RowL w b t L) (hR : b ≠ R) (hP : b ≠ P) : RowL w' b t L := World.rowIs.of_block hL (h.block _ (World.rowIs.lt hL) hR hP)
theorem setCells_size (b : Nat) : ∀ (vs : List Value) (o : Nat) (w : World), (w.setCells b o vs).heap.size = w.heap.size
  | [], _, _ => rfl
  | v :: vs, o, w => (setCells_size b vs (o + 1) (w.setCell ⟨b, o, none⟩ v)).trans (World.size_setCell _ _ _)
theorem sep_none {v3 v4 v5 : Value} {x3 y3 x4 y4 x5 y5 : Nat} (h3 : ∀ q, v3.ownBlock = some q → x3 ≤ q ∧ q < y3) (h4 : ∀ q, v4.ownBlock = some q → x4 ≤ q ∧ q < y4) (h5 : ∀ q, v5.ownBlock = some q → x5 ≤ q ∧ q < y5) (h : y3 ≤ x4 ∧ x4 ≤ y4 ∧ y4 ≤ x5 ∧ x5 ≤ y5) :
    ∃ m4 m5 m8 m9, (∀ q, v3.ownBlock = some q → q < m4) ∧ (∀ q, v4.ownBlock = some q → m4 ≤ q ∧ q < m5) ∧ (∀ q, v5.ownBlock = some q → m5 ≤ q ∧ q < m8) ∧ (∀ q, (Value.slice none 0 0).ownBlock = some q → m8 ≤ q ∧ q < m9) ∧ (∀ q, (Value.slice none 0 0).ownBlock = some q → m9 ≤ q) ∧ m4 ≤ m5 ∧ m5 ≤ m8 ∧ m8 ≤ m9 :=
  ⟨x4, x5, y5, y5, fun q hq => by have := h3 q hq; omega, fun q hq => by have := h4 q hq; omega, fun q hq => h5 q hq, fun q hq => (by cases hq), fun q hq => (by cases hq), by omega, by omega, Nat.le_refl _⟩
theorem sep_dbg {v3 v4 v5 v8 v9 : Value} {x3 y3 x4 y4 x5 y5 x8 y8 m : Nat} (h3 : ∀ q, v3.ownBlock = some q → x3 ≤ q ∧ q < y3) (h4 : ∀ q, v4.ownBlock = some q → x4 ≤ q ∧ q < y4) (h5 : ∀ q, v5.ownBlock = some q → x5 ≤ q ∧ q < y5) (h8 : ∀ q, v8.ownBlock = some q → q < m) (h9 : ∀ q, v9.ownBlock = some q → m ≤ q) (h8b : ∀ q, v8.ownBlock = some q → x8 ≤ q ∧ q < y8) (h9b : ∀ q, v9.ownBlock = some q → x8 ≤ q ∧ q < y8) (h : y3 ≤ x4 ∧ x4 ≤ y4 ∧ y4 ≤ x5 ∧ x5 ≤ y5 ∧ y5 ≤ x8) :
    ∃ m4 m5 m8 m9, (∀ q, v3.ownBlock = some q → q < m4) ∧ (∀ q, v4.ownBlock = some q → m4 ≤ q ∧ q < m5) ∧ (∀ q, v5.ownBlock = some q → m5 ≤ q ∧ q < m8) ∧ (∀ q, v8.ownBlock = some q → m8 ≤ q ∧ q < m9) ∧ (∀ q, v9.ownBlock = some q → m9 ≤ q) ∧ m4 ≤ m5 ∧ m5 ≤ m8 ∧ m8 ≤ m9 := by
  by_cases hc : x8 ≤ m
  · exact ⟨x4, x5, x8, m, fun q hq => by have := h3 q hq; omega, fun q hq => by have := h4 q hq; omega, fun q hq => by have := h5 q hq; omega, fun q hq => ⟨(h8b q hq).1, h8 q hq⟩, h9, by omega, by omega, hc⟩
  · exact ⟨x4, x5, x8, x8, fun q hq => by have := h3 q hq; omega, fun q hq => by have := h4 q hq; omega, fun q hq => by have := h5 q hq; omega, fun q hq => by have := h8 q hq; have := h8b q hq; omega, fun q hq => (h9b q hq).1, by omega, by omega, Nat.le_refl _⟩
theorem infP : (Tryz.prog.info? 38).map (·.size) = some 10 := by kernel_rfl
/-- the lists of a prototype, each in a block of its own. -/
structure PRow (B : Nat) (w' : World) (v3 v4 v5 v8 v9 : Value) (p : PR) : Prop where
  o3 : w'.ownsRow B 57 1 v3 p.code.length (p.code.flatMap cCode)
  o4 : w'.ownsRow B 59 3 v4 p.consts.length (p.consts.flatMap cConsts)
  o5 : w'.ownsRow B 63 2 v5 p.ups.length (p.ups.flatMap cUps)
  o8 : w'.ownsRow B 3 1 v8 p.lines.length (p.lines.flatMap cLines)
  o9 : w'.ownsRow B 9 1 v9 p.upNames.length (p.upNames.flatMap cNames)
  sep : ∃ m4 m5 m8 m9, (∀ q, v3.ownBlock = some q → q < m4) ∧ (∀ q, v4.ownBlock = some q → m4 ≤ q ∧ q < m5) ∧ (∀ q, v5.ownBlock = some q → m5 ≤ q ∧ q < m8) ∧ (∀ q, v8.ownBlock = some q → m8 ≤ q ∧ q < m9) ∧ (∀ q, v9.ownBlock = some q → m9 ≤ q) ∧ m4 ≤ m5 ∧ m5 ≤ m8 ∧ m8 ≤ m9
theorem proto_in (s : ByteArray) (V : Nat → Option (Int × Nat)) (hV : VrOk s V) (r : RS) (ab an most : Int) (R : Nat) (w : World) (h : RowL w R 67 (rdL s r ab an)) (hs : s.size ≤ 1048576) (hp : r.pos ≤ s.size)
    (ha0 : 0 ≤ an) (ha1 : an ≤ 200) (hm : most = if ab = 63 then 0 else 200 - an) :
    Calls Tryz.prog 47 #[.pointer (some ⟨R, 0, none⟩)] w fun e w' => ∃ v3 v4 v5 v8 v9, e = .returned (.agg #[.int .i64 (rdPro s V gi0 most r).1.params, .bool (rdPro s V gi0 most r).1.vararg, .int .i64 (rdPro s V gi0 most r).1.regs, v3, v4, v5, .int .i64 (rdPro s V gi0 most r).1.kids, .string (rdPro s V gi0 most r).1.name, v8, v9]) ∧
      PRow w.heap.size w' v3 v4 v5 v8 v9 (rdPro s V gi0 most r).1 ∧ RowL w' R 67 (rdL s (rdPro s V gi0 most r).2 ab (an + (rdPro s V gi0 most r).1.kids)) ∧ Ex R w w' := by
  have hRlt : R < w.heap.size := World.rowIs.lt h
  have hm0 : 0 ≤ most := by rw [hm]; split <;> omega
  have hR := (h.alloc (.cells ([.int .i64 0, .bool false, .int .i64 0, .slice none 0 0, .slice none 0 0, .slice none 0 0, .int .i64 0, .string ⟨#[]⟩, .slice none 0 0, .slice none 0 0] : List Value).toArray 38)).alloc (.cells ([.int .i64 0, .bool false, .int .i64 0, .slice none 0 0, .slice none 0 0, .slice none 0 0, .int .i64 0, .string ⟨#[]⟩, .slice none 0 0, .slice none 0 0] : List Value).toArray 38)
  have hQ := (RowL.new w ([.int .i64 0, .bool false, .int .i64 0, .slice none 0 0, .slice none 0 0, .slice none 0 0, .int .i64 0, .string ⟨#[]⟩, .slice none 0 0, .slice none 0 0] : List Value) 38).alloc (.cells ([.int .i64 0, .bool false, .int .i64 0, .slice none 0 0, .slice none 0 0, .slice none 0 0, .int .i64 0, .string ⟨#[]⟩, .slice none 0 0, .slice none 0 0] : List Value).toArray 38)
  have hP := RowL.new (w.alloc (.cells ([.int .i64 0, .bool false, .int .i64 0, .slice none 0 0, .slice none 0 0, .slice none 0 0, .int .i64 0, .string ⟨#[]⟩, .slice none 0 0, .slice none 0 0] : List Value).toArray 38)) ([.int .i64 0, .bool false, .int .i64 0, .slice none 0 0, .slice none 0 0, .slice none 0 0, .int .i64 0, .string ⟨#[]⟩, .slice none 0 0, .slice none 0 0] : List Value) 38
  have hX := ((Ex.refl R w).alloc (.cells ([.int .i64 0, .bool false, .int .i64 0, .slice none 0 0, .slice none 0 0, .slice none 0 0, .int .i64 0, .string ⟨#[]⟩, .slice none 0 0, .slice none 0 0] : List Value).toArray 38)).alloc (.cells ([.int .i64 0, .bool false, .int .i64 0, .slice none 0 0, .slice none 0 0, .slice none 0 0, .int .i64 0, .string ⟨#[]⟩, .slice none 0 0, .slice none 0 0] : List Value).toArray 38)
  have hZ : ((w.alloc (.cells ([.int .i64 0, .bool false, .int .i64 0, .slice none 0 0, .slice none 0 0, .slice none 0 0, .int .i64 0, .string ⟨#[]⟩, .slice none 0 0, .slice none 0 0] : List Value).toArray 38)).alloc (.cells ([.int .i64 0, .bool false, .int .i64 0, .slice none 0 0, .slice none 0 0, .slice none 0 0, .int .i64 0, .string ⟨#[]⟩, .slice none 0 0, .slice none 0 0] : List Value).toArray 38)).heap.size = w.heap.size + 2 := by rw [World.size_alloc, World.size_alloc]
  rw [World.size_alloc] at hP
  obtain ⟨P, hPe⟩ : ∃ P, P = w.heap.size + 1 := ⟨_, rfl⟩
  obtain ⟨Q, hQe⟩ : ∃ Q, Q = w.heap.size := ⟨_, rfl⟩
  obtain ⟨B, hBe⟩ : ∃ B, B = w.heap.size + 2 := ⟨_, rfl⟩
  replace hR := hidR hR
  replace hQ := hidR hQ
  replace hP := hidR hP
  replace hX := hidR hX
  replace hZ := hidR hZ
  clear h
  go_enter Tryz.func47, Tryz.ntmps47
  go_upto_region 2 with fail
  generalize (w.alloc (.cells ([.int .i64 0, .bool false, .int .i64 0, .slice none 0 0, .slice none 0 0, .slice none 0 0, .int .i64 0, .string ⟨#[]⟩, .slice none 0 0, .slice none 0 0] : List Value).toArray 38)).alloc (.cells ([.int .i64 0, .bool false, .int .i64 0, .slice none 0 0, .slice none 0 0, .slice none 0 0, .int .i64 0, .string ⟨#[]⟩, .slice none 0 0, .slice none 0 0] : List Value).toArray 38) = y0 at hR hQ hP hX hZ ⊢
  replace hP := hP.out
  replace hQ := hQ.out
  replace hR := hR.out
  replace hX := hX.out
  replace hZ := hZ.out
  rw [← hPe] at hP ⊢
  rw [← hQe] at hQ ⊢
  rw [← hBe] at hZ
  have hPR : P ≠ R := by omega
  have hQR : Q ≠ R := by omega
  have hQP : Q ≠ P := by omega
  have hRB : R < B := by omega
  have hPB : P < B := by omega
  have hPw : w.heap.size ≤ P := by omega
  have hz0 : B ≤ y0.heap.size := by omega
  have hBw : w.heap.size ≤ B := by omega
  have hQB : Q < B := by omega
  have hQw : w.heap.size ≤ Q := by omega
  replace hPe := hidR hPe
  replace hQe := hidR hQe
  replace hBe := hidR hBe
  replace hZ := hidR hZ
  have hc := hidR (flag_in s r ab an R y0 hR hs hp)
  have hp1 := rdByte_pos (hi := 1) hp
  obtain ⟨x, ea⟩ : ∃ x, rdByte s 1 r = x := ⟨_, rfl⟩
  rw [ea] at hc hp1
  obtain ⟨a1, r1⟩ := x
  dsimp only at hc hp1
  replace ea := hidR ea
  replace hP := hidR hP
  replace hQ := hidR hQ
  replace hR := hidR hR
  go_wp2_with fail
  refine Calls.mono hc.out ?_
  rintro e y1 ⟨rfl, hr1, hx1⟩
  replace hP := Ex.row hx1 hP.out hPR
  replace hQ := Ex.row hx1 hQ.out hQR
  replace hR := hr1
  have hz1 := hx1.size
  replace hX := hX.trans hx1
  clear hc hx1 hr1
  have fz := hP.frozen 1
  have ce := hP.cell 1 rfl
  replace hP := hP.set 1 (.bool (decide (a1 = 1)))
  replace hQ := hQ.other (a := ⟨P, 1, none⟩) hQP (.bool (decide (a1 = 1)))
  replace hR := hR.other (a := ⟨P, 1, none⟩) (fun e => hPR e.symm) (.bool (decide (a1 = 1)))
  replace hX := hX.setUp hPw 1 (.bool (decide (a1 = 1)))
  have hz2 : (y1.setCell ⟨P, 1, none⟩ (.bool (decide (a1 = 1)))).heap.size = y1.heap.size := World.size_setCell _ _ _
  replace hP := hidR hP
  replace hQ := hidR hQ
  replace hR := hidR hR
  go_upto_region 3 with fail
  generalize y1.setCell ⟨P, 1, none⟩ (.bool (decide (a1 = 1))) = y2 at hP hQ hR hX hz2 ⊢
  replace hP : RowL y2 P 38 [.int .i64 0, .bool (decide (a1 = 1)), .int .i64 0, .slice none 0 0, .slice none 0 0, .slice none 0 0, .int .i64 0, .string ⟨#[]⟩, .slice none 0 0, .slice none 0 0] := hP.out
  replace hQ := hQ.out
  replace hR : RowL y2 R 67 (rdL s r1 ab (an)) := hR.out
  clear fz ce
  have hc := hidR (number_in s V hV 0 250 r1 ab an R y2 hR hs hp1)
  have hp3 := rdNum_pos (lo := 0) (hi := 250) hV hp1
  have hb3 := rdNum_bd (s := s) (V := V) (lo := 0) (hi := 250) r1 (by decide) (by decide)
  obtain ⟨x, eb⟩ : ∃ x, rdNum s V 0 250 r1 = x := ⟨_, rfl⟩
  rw [eb] at hc hp3 hb3
  obtain ⟨b1, r3⟩ := x
  dsimp only at hc hp3 hb3
  replace eb := hidR eb
  replace hP := hidR hP
  replace hQ := hidR hQ
  replace hR := hidR hR
  go_wp2_with fail
  refine Calls.mono hc.out ?_
  rintro e y3 ⟨rfl, hr3, hx3⟩
  replace hP := Ex.row hx3 hP.out hPR
  replace hQ := Ex.row hx3 hQ.out hQR
  replace hR := hr3
  have hz3 := hx3.size
  replace hX := hX.trans hx3
  clear hc hx3 hr3
  have fz := hP.frozen 0
  have ce := hP.cell 0 rfl
  replace hP := hP.set 0 (.int .i64 b1)
  replace hQ := hQ.other (a := ⟨P, 0, none⟩) hQP (.int .i64 b1)
  replace hR := hR.other (a := ⟨P, 0, none⟩) (fun e => hPR e.symm) (.int .i64 b1)
  replace hX := hX.setUp hPw 0 (.int .i64 b1)
  have hz4 : (y3.setCell ⟨P, 0, none⟩ (.int .i64 b1)).heap.size = y3.heap.size := World.size_setCell _ _ _
  replace hP := hidR hP
  replace hQ := hidR hQ
  replace hR := hidR hR
  go_upto_region 4 with fail
  generalize y3.setCell ⟨P, 0, none⟩ (.int .i64 b1) = y4 at hP hQ hR hX hz4 ⊢
  replace hP : RowL y4 P 38 [.int .i64 b1, .bool (decide (a1 = 1)), .int .i64 0, .slice none 0 0, .slice none 0 0, .slice none 0 0, .int .i64 0, .string ⟨#[]⟩, .slice none 0 0, .slice none 0 0] := hP.out
  replace hQ := hQ.out
  replace hR : RowL y4 R 67 (rdL s r3 ab (an)) := hR.out
  clear fz ce
  have e0 := hP.cell 0 rfl
  have hc := hidR (number_in s V hV (max 1 b1) 250 r3 ab an R y4 hR hs hp3)
  have hp5 := rdNum_pos (lo := max 1 b1) (hi := 250) hV hp3
  obtain ⟨x, ec⟩ : ∃ x, rdNum s V (max 1 b1) 250 r3 = x := ⟨_, rfl⟩
  rw [ec] at hc hp5
  obtain ⟨c1, r5⟩ := x
  dsimp only at hc hp5
  replace ec := hidR ec
  replace hP := hidR hP
  replace hQ := hidR hQ
  replace hR := hidR hR
  go_wp2_with fail
  refine Calls.mono hc.out ?_
  rintro e y5 ⟨rfl, hr5, hx5⟩
  replace hP := Ex.row hx5 hP.out hPR
  replace hQ := Ex.row hx5 hQ.out hQR
  replace hR := hr5
  have hz5 := hx5.size
  replace hX := hX.trans hx5
  clear hc hx5 hr5
  clear e0
  have fz := hP.frozen 2
  have ce := hP.cell 2 rfl
  replace hP := hP.set 2 (.int .i64 c1)
  replace hQ := hQ.other (a := ⟨P, 2, none⟩) hQP (.int .i64 c1)
  replace hR := hR.other (a := ⟨P, 2, none⟩) (fun e => hPR e.symm) (.int .i64 c1)
  replace hX := hX.setUp hPw 2 (.int .i64 c1)
  have hz6 : (y5.setCell ⟨P, 2, none⟩ (.int .i64 c1)).heap.size = y5.heap.size := World.size_setCell _ _ _
  replace hP := hidR hP
  replace hQ := hidR hQ
  replace hR := hidR hR
  go_upto_region 5 with fail
  generalize y5.setCell ⟨P, 2, none⟩ (.int .i64 c1) = y6 at hP hQ hR hX hz6 ⊢
  replace hP : RowL y6 P 38 [.int .i64 b1, .bool (decide (a1 = 1)), .int .i64 c1, .slice none 0 0, .slice none 0 0, .slice none 0 0, .int .i64 0, .string ⟨#[]⟩, .slice none 0 0, .slice none 0 0] := hP.out
  replace hQ := hQ.out
  replace hR : RowL y6 R 67 (rdL s r5 ab (an)) := hR.out
  clear fz ce
  have hc := hidR (number_in s V hV 1 2000 r5 ab (an) R y6 hR hs hp5)
  have hp7 := rdNum_pos (lo := 1) (hi := 2000) hV hp5
  have hb7 := rdNum_bd (s := s) (V := V) (lo := 1) (hi := 2000) r5 (by decide) (by decide)
  obtain ⟨x, ed⟩ : ∃ x, rdNum s V 1 2000 r5 = x := ⟨_, rfl⟩
  rw [ed] at hc hp7 hb7
  obtain ⟨d1, r7⟩ := x
  obtain ⟨d1, rfl⟩ : ∃ k : Nat, d1 = k := ⟨d1.toNat, by dsimp only at hb7; omega⟩
  dsimp only at hc hp7 hb7
  replace ed := hidR ed
  replace hP := hidR hP
  replace hQ := hidR hQ
  replace hR := hidR hR
  go_wp2_with fail
  refine Calls.mono hc.out ?_
  rintro e y7 ⟨rfl, hr7, hx7⟩
  replace hP := Ex.row hx7 hP.out hPR
  replace hQ := Ex.row hx7 hQ.out hQR
  replace hR := hr7
  have hz7 := hx7.size
  replace hX := hX.trans hx7
  clear hc hx7 hr7
  have hc := hidR (severalCode_in (rdWord s) s ab (an) R d1 r7 y7 (fun r y hy hq => word_in s r ab an R y hy hs hq) (fun r hq => rdWord_pos hq) hR hp7 (by omega))
  have hp8 := rdSev_pos (rd := rdWord s) (m := s.size) (fun r hq => rdWord_pos hq) d1 r7 [] hp7
  have hln := rdSev_len (rd := rdWord s) d1 r7 []
  obtain ⟨x, eco⟩ : ∃ x, rdSev (rdWord s) d1 r7 [] = x := ⟨_, rfl⟩
  rw [eco] at hc hp8 hln
  obtain ⟨l3, r8⟩ := x
  dsimp only at hc hp8 hln
  have hln3 : l3.length ≤ 2000 := by simp at hln; omega
  clear hln
  replace eco := hidR eco
  replace hP := hidR hP
  replace hQ := hidR hQ
  replace hR := hidR hR
  go_wp2_with fail
  refine Calls.mono hc.out ?_
  rintro e y8 ⟨v3, rfl, hsv, hr8⟩
  have hx8 := hsv.ex
  have hq3 : ∀ q, v3.ownBlock = some q → y7.heap.size ≤ q ∧ q < y8.heap.size := fun q hq => hsv.row.lt q hq
  have w3 : y8.ownsRow B 57 1 v3 l3.length (l3.flatMap cCode) := own_low hsv.row (by have := hX.size; omega)
  obtain ⟨o3, k3, rfl⟩ := own_slice hsv.row
  replace hq3 := hidR hq3
  clear hsv
  replace hP := Ex.row hx8 hP.out hPR
  replace hQ := Ex.row hx8 hQ.out hQR
  replace hR := hr8
  have hz8 := hx8.size
  replace hX := hX.trans hx8
  clear hc hx8 hr8
  have fz := hP.frozen 3
  have ce := hP.cell 3 rfl
  replace hP := hP.set 3 (.slice o3 l3.length k3)
  replace hQ := hQ.other (a := ⟨P, 3, none⟩) hQP (.slice o3 l3.length k3)
  replace hR := hR.other (a := ⟨P, 3, none⟩) (fun e => hPR e.symm) (.slice o3 l3.length k3)
  replace w3 := own_ex2 w3 hRB hPB ((Ex2.refl R P y8).set 3 (.slice o3 l3.length k3))
  replace hX := hX.setUp hPw 3 (.slice o3 l3.length k3)
  have hz9 : (y8.setCell ⟨P, 3, none⟩ (.slice o3 l3.length k3)).heap.size = y8.heap.size := World.size_setCell _ _ _
  replace hP := hidR hP
  replace hQ := hidR hQ
  replace hR := hidR hR
  replace w3 := hidR w3
  go_upto_region 6 with fail
  generalize y8.setCell ⟨P, 3, none⟩ (.slice o3 l3.length k3) = y9 at hP hQ hR hX hz9 w3 ⊢
  replace hP : RowL y9 P 38 [.int .i64 b1, .bool (decide (a1 = 1)), .int .i64 c1, .slice o3 l3.length k3, .slice none 0 0, .slice none 0 0, .int .i64 0, .string ⟨#[]⟩, .slice none 0 0, .slice none 0 0] := hP.out
  replace hQ := hQ.out
  replace hR : RowL y9 R 67 (rdL s r8 ab (an)) := hR.out
  replace w3 := w3.out
  clear fz ce
  have hc := hidR (number_in s V hV 0 500 r8 ab (an) R y9 hR hs hp8)
  have hp10 := rdNum_pos (lo := 0) (hi := 500) hV hp8
  have hb10 := rdNum_bd (s := s) (V := V) (lo := 0) (hi := 500) r8 (by decide) (by decide)
  obtain ⟨x, ee⟩ : ∃ x, rdNum s V 0 500 r8 = x := ⟨_, rfl⟩
  rw [ee] at hc hp10 hb10
  obtain ⟨e1, r10⟩ := x
  obtain ⟨e1, rfl⟩ : ∃ k : Nat, e1 = k := ⟨e1.toNat, by dsimp only at hb10; omega⟩
  dsimp only at hc hp10 hb10
  replace ee := hidR ee
  replace hP := hidR hP
  replace hQ := hidR hQ
  replace hR := hidR hR
  replace w3 := hidR w3
  go_wp2_with fail
  refine Calls.mono hc.out ?_
  rintro e y10 ⟨rfl, hr10, hx10⟩
  replace hP := Ex.row hx10 hP.out hPR
  replace hQ := Ex.row hx10 hQ.out hQR
  replace hR := hr10
  replace w3 := own_ex w3.out hRB hx10
  have hz10 := hx10.size
  replace hX := hX.trans hx10
  clear hc hx10 hr10
  have hc := hidR (severalConsts_in (rdVal s V gi0) s ab (an) R e1 r10 y10 (fun r y hy hq => value_in s V hV gi0 giOk clOk r ab an R y hy hs hq) (fun r hq => rdVal_pos hV hq) hR hp10 (by omega))
  have hp11 := rdSev_pos (rd := rdVal s V gi0) (m := s.size) (fun r hq => rdVal_pos hV hq) e1 r10 [] hp10
  have hln := rdSev_len (rd := rdVal s V gi0) e1 r10 []
  obtain ⟨x, ecs⟩ : ∃ x, rdSev (rdVal s V gi0) e1 r10 [] = x := ⟨_, rfl⟩
  rw [ecs] at hc hp11 hln
  obtain ⟨l4, r11⟩ := x
  dsimp only at hc hp11 hln
  have hln4 : l4.length ≤ 500 := by simp at hln; omega
  clear hln
  replace ecs := hidR ecs
  replace hP := hidR hP
  replace hQ := hidR hQ
  replace hR := hidR hR
  replace w3 := hidR w3
  go_wp2_with fail
  refine Calls.mono hc.out ?_
  rintro e y11 ⟨v4, rfl, hsv, hr11⟩
  have hx11 := hsv.ex
  have hq4 : ∀ q, v4.ownBlock = some q → y10.heap.size ≤ q ∧ q < y11.heap.size := fun q hq => hsv.row.lt q hq
  have w4 : y11.ownsRow B 59 3 v4 l4.length (l4.flatMap cConsts) := own_low hsv.row (by have := hX.size; omega)
  obtain ⟨o4, k4, rfl⟩ := own_slice hsv.row
  replace hq4 := hidR hq4
  clear hsv
  replace hP := Ex.row hx11 hP.out hPR
  replace hQ := Ex.row hx11 hQ.out hQR
  replace hR := hr11
  replace w3 := own_ex w3.out hRB hx11
  have hz11 := hx11.size
  replace hX := hX.trans hx11
  clear hc hx11 hr11
  have fz := hP.frozen 4
  have ce := hP.cell 4 rfl
  replace hP := hP.set 4 (.slice o4 l4.length k4)
  replace hQ := hQ.other (a := ⟨P, 4, none⟩) hQP (.slice o4 l4.length k4)
  replace hR := hR.other (a := ⟨P, 4, none⟩) (fun e => hPR e.symm) (.slice o4 l4.length k4)
  replace w3 := own_ex2 w3 hRB hPB ((Ex2.refl R P y11).set 4 (.slice o4 l4.length k4))
  replace w4 := own_ex2 w4 hRB hPB ((Ex2.refl R P y11).set 4 (.slice o4 l4.length k4))
  replace hX := hX.setUp hPw 4 (.slice o4 l4.length k4)
  have hz12 : (y11.setCell ⟨P, 4, none⟩ (.slice o4 l4.length k4)).heap.size = y11.heap.size := World.size_setCell _ _ _
  replace hP := hidR hP
  replace hQ := hidR hQ
  replace hR := hidR hR
  replace w3 := hidR w3
  replace w4 := hidR w4
  go_upto_region 7 with fail
  generalize y11.setCell ⟨P, 4, none⟩ (.slice o4 l4.length k4) = y12 at hP hQ hR hX hz12 w3 w4 ⊢
  replace hP : RowL y12 P 38 [.int .i64 b1, .bool (decide (a1 = 1)), .int .i64 c1, .slice o3 l3.length k3, .slice o4 l4.length k4, .slice none 0 0, .int .i64 0, .string ⟨#[]⟩, .slice none 0 0, .slice none 0 0] := hP.out
  replace hQ := hQ.out
  replace hR : RowL y12 R 67 (rdL s r11 ab (an)) := hR.out
  replace w3 := w3.out
  replace w4 := w4.out
  clear fz ce
  have hc := hidR (number_in s V hV 0 60 r11 ab (an) R y12 hR hs hp11)
  have hp13 := rdNum_pos (lo := 0) (hi := 60) hV hp11
  have hb13 := rdNum_bd (s := s) (V := V) (lo := 0) (hi := 60) r11 (by decide) (by decide)
  obtain ⟨x, ef⟩ : ∃ x, rdNum s V 0 60 r11 = x := ⟨_, rfl⟩
  rw [ef] at hc hp13 hb13
  obtain ⟨f1, r13⟩ := x
  obtain ⟨f1, rfl⟩ : ∃ k : Nat, f1 = k := ⟨f1.toNat, by dsimp only at hb13; omega⟩
  dsimp only at hc hp13 hb13
  replace ef := hidR ef
  replace hP := hidR hP
  replace hQ := hidR hQ
  replace hR := hidR hR
  replace w3 := hidR w3
  replace w4 := hidR w4
  go_wp2_with fail
  refine Calls.mono hc.out ?_
  rintro e y13 ⟨rfl, hr13, hx13⟩
  replace hP := Ex.row hx13 hP.out hPR
  replace hQ := Ex.row hx13 hQ.out hQR
  replace hR := hr13
  replace w3 := own_ex w3.out hRB hx13
  replace w4 := own_ex w4.out hRB hx13
  have hz13 := hx13.size
  replace hX := hX.trans hx13
  clear hc hx13 hr13
  have hc := hidR (severalUps_in (rdUp s V) s ab (an) R f1 r13 y13 (fun r y hy hq => up_in s V hV r ab an R y hy hs hq) (fun r hq => rdUp_pos hV hq) hR hp13 (by omega))
  have hp14 := rdSev_pos (rd := rdUp s V) (m := s.size) (fun r hq => rdUp_pos hV hq) f1 r13 [] hp13
  have hln := rdSev_len (rd := rdUp s V) f1 r13 []
  obtain ⟨x, eus⟩ : ∃ x, rdSev (rdUp s V) f1 r13 [] = x := ⟨_, rfl⟩
  rw [eus] at hc hp14 hln
  obtain ⟨l5, r14⟩ := x
  dsimp only at hc hp14 hln
  have hln5 : l5.length ≤ 60 := by simp at hln; omega
  clear hln
  replace eus := hidR eus
  replace hP := hidR hP
  replace hQ := hidR hQ
  replace hR := hidR hR
  replace w3 := hidR w3
  replace w4 := hidR w4
  go_wp2_with fail
  refine Calls.mono hc.out ?_
  rintro e y14 ⟨v5, rfl, hsv, hr14⟩
  have hx14 := hsv.ex
  have hq5 : ∀ q, v5.ownBlock = some q → y13.heap.size ≤ q ∧ q < y14.heap.size := fun q hq => hsv.row.lt q hq
  have w5 : y14.ownsRow B 63 2 v5 l5.length (l5.flatMap cUps) := own_low hsv.row (by have := hX.size; omega)
  obtain ⟨o5, k5, rfl⟩ := own_slice hsv.row
  replace hq5 := hidR hq5
  clear hsv
  replace hP := Ex.row hx14 hP.out hPR
  replace hQ := Ex.row hx14 hQ.out hQR
  replace hR := hr14
  replace w3 := own_ex w3.out hRB hx14
  replace w4 := own_ex w4.out hRB hx14
  have hz14 := hx14.size
  replace hX := hX.trans hx14
  clear hc hx14 hr14
  have fz := hP.frozen 5
  have ce := hP.cell 5 rfl
  replace hP := hP.set 5 (.slice o5 l5.length k5)
  replace hQ := hQ.other (a := ⟨P, 5, none⟩) hQP (.slice o5 l5.length k5)
  replace hR := hR.other (a := ⟨P, 5, none⟩) (fun e => hPR e.symm) (.slice o5 l5.length k5)
  replace w3 := own_ex2 w3 hRB hPB ((Ex2.refl R P y14).set 5 (.slice o5 l5.length k5))
  replace w4 := own_ex2 w4 hRB hPB ((Ex2.refl R P y14).set 5 (.slice o5 l5.length k5))
  replace w5 := own_ex2 w5 hRB hPB ((Ex2.refl R P y14).set 5 (.slice o5 l5.length k5))
  replace hX := hX.setUp hPw 5 (.slice o5 l5.length k5)
  have hz15 : (y14.setCell ⟨P, 5, none⟩ (.slice o5 l5.length k5)).heap.size = y14.heap.size := World.size_setCell _ _ _
  replace hP := hidR hP
  replace hQ := hidR hQ
  replace hR := hidR hR
  replace w3 := hidR w3
  replace w4 := hidR w4
  replace w5 := hidR w5
  go_upto_region 8 with fail
  generalize y14.setCell ⟨P, 5, none⟩ (.slice o5 l5.length k5) = y15 at hP hQ hR hX hz15 w3 w4 w5 ⊢
  replace hP : RowL y15 P 38 [.int .i64 b1, .bool (decide (a1 = 1)), .int .i64 c1, .slice o3 l3.length k3, .slice o4 l4.length k4, .slice o5 l5.length k5, .int .i64 0, .string ⟨#[]⟩, .slice none 0 0, .slice none 0 0] := hP.out
  replace hQ := hQ.out
  replace hR : RowL y15 R 67 (rdL s r14 ab (an)) := hR.out
  replace w3 := w3.out
  replace w4 := w4.out
  replace w5 := w5.out
  clear fz ce
  have hc := hidR (kids_in s V hV r14 ab an most R y15 hR hs hp14 ha0 ha1 hm)
  have hp16 := rdNum_pos (lo := 0) (hi := most) hV hp14
  have hb16 := rdNum_bd (s := s) (V := V) (lo := 0) (hi := most) r14 (by decide) hm0
  obtain ⟨x, ek⟩ : ∃ x, rdNum s V 0 most r14 = x := ⟨_, rfl⟩
  rw [ek] at hc hp16 hb16
  obtain ⟨k1, r16⟩ := x
  dsimp only at hc hp16 hb16
  replace ek := hidR ek
  replace hP := hidR hP
  replace hQ := hidR hQ
  replace hR := hidR hR
  replace w3 := hidR w3
  replace w4 := hidR w4
  replace w5 := hidR w5
  go_wp2_with fail
  refine Calls.mono hc.out ?_
  rintro e y16 ⟨rfl, hr16, hx16⟩
  replace hP := Ex.row hx16 hP.out hPR
  replace hQ := Ex.row hx16 hQ.out hQR
  replace hR := hr16
  replace w3 := own_ex w3.out hRB hx16
  replace w4 := own_ex w4.out hRB hx16
  replace w5 := own_ex w5.out hRB hx16
  have hz16 := hx16.size
  replace hX := hX.trans hx16
  clear hc hx16 hr16
  have fz := hP.frozen 6
  have ce := hP.cell 6 rfl
  replace hP := hP.set 6 (.int .i64 k1)
  replace hQ := hQ.other (a := ⟨P, 6, none⟩) hQP (.int .i64 k1)
  replace hR := hR.other (a := ⟨P, 6, none⟩) (fun e => hPR e.symm) (.int .i64 k1)
  replace w3 := own_ex2 w3 hRB hPB ((Ex2.refl R P y16).set 6 (.int .i64 k1))
  replace w4 := own_ex2 w4 hRB hPB ((Ex2.refl R P y16).set 6 (.int .i64 k1))
  replace w5 := own_ex2 w5 hRB hPB ((Ex2.refl R P y16).set 6 (.int .i64 k1))
  replace hX := hX.setUp hPw 6 (.int .i64 k1)
  have hz17 : (y16.setCell ⟨P, 6, none⟩ (.int .i64 k1)).heap.size = y16.heap.size := World.size_setCell _ _ _
  replace hP := hidR hP
  replace hQ := hidR hQ
  replace hR := hidR hR
  replace w3 := hidR w3
  replace w4 := hidR w4
  replace w5 := hidR w5
  go_upto_region 9 with fail
  generalize y16.setCell ⟨P, 6, none⟩ (.int .i64 k1) = y17 at hP hQ hR hX hz17 w3 w4 w5 ⊢
  replace hP : RowL y17 P 38 [.int .i64 b1, .bool (decide (a1 = 1)), .int .i64 c1, .slice o3 l3.length k3, .slice o4 l4.length k4, .slice o5 l5.length k5, .int .i64 k1, .string ⟨#[]⟩, .slice none 0 0, .slice none 0 0] := hP.out
  replace hQ := hQ.out
  replace hR : RowL y17 R 67 (rdL s r16 ab (an + k1)) := hR.out
  replace w3 := w3.out
  replace w4 := w4.out
  replace w5 := w5.out
  clear fz ce
  have hc := hidR (flag_in s r16 ab (an + k1) R y17 hR hs hp16)
  have hp18 := rdByte_pos (hi := 1) hp16
  obtain ⟨x, eg⟩ : ∃ x, rdByte s 1 r16 = x := ⟨_, rfl⟩
  rw [eg] at hc hp18
  obtain ⟨g1, r18⟩ := x
  dsimp only at hc hp18
  replace eg := hidR eg
  replace hP := hidR hP
  replace hQ := hidR hQ
  replace hR := hidR hR
  replace w3 := hidR w3
  replace w4 := hidR w4
  replace w5 := hidR w5
  go_wp2_with fail
  refine Calls.mono hc.out ?_
  rintro e y18 ⟨rfl, hr18, hx18⟩
  replace hP := Ex.row hx18 hP.out hPR
  replace hQ := Ex.row hx18 hQ.out hQR
  replace hR := hr18
  replace w3 := own_ex w3.out hRB hx18
  replace w4 := own_ex w4.out hRB hx18
  replace w5 := own_ex w5.out hRB hx18
  have hz18 := hx18.size
  replace hX := hX.trans hx18
  clear hc hx18 hr18
  by_cases hg : g1 = 1
  · have hgd : decide (g1 = 1) = true := by simp [hg]
    rw [hgd]
    clear hgd
    have hc := hidR (debug_in s V hV r18 ab (an + k1) R P y18 hR hs hp18 (.int .i64 b1) (.bool (decide (a1 = 1))) (.int .i64 c1) (.slice o4 l4.length k4) (.int .i64 k1) (.string ⟨#[]⟩) (.slice none 0 0) (.slice none 0 0) o3 o5 l3.length k3 l5.length k5 (by intro u hu; simp only [List.mem_cons, List.not_mem_nil, or_false] at hu; rcases hu with rfl | rfl | rfl | rfl | rfl | rfl | rfl <;> rfl) hln3 hln5 hP hPR)
    obtain ⟨x, ex⟩ : ∃ x, rdDbg s V l3.length l5.length r18 = x := ⟨_, rfl⟩
    rw [ex] at hc
    obtain ⟨⟨t, ls, ns⟩, rx⟩ := x
    dsimp only at hc
    have hPro := hidR (rdPro_eq ea.out eb.out ec.out ed.out eco.out ee.out ecs.out ef.out eus.out ek.out eg.out ((if_pos hg).trans ex))
    clear ea eb ec ed eco ee ecs ef eus ek eg ex hg
    replace hP := hidR hP
    replace hQ := hidR hQ
    replace hR := hidR hR
    replace w3 := hidR w3
    replace w4 := hidR w4
    replace w5 := hidR w5
    go_wp2_with fail
    refine Calls.mono hc.out ?_
    rintro e yd ⟨rfl, vl, vn, m9, ol, on, hq8, hq9, hPd, hRd, hxd⟩
    clear hc
    replace hQ := Ex2.row hxd hQ.out hQR hQP
    replace hP := hPd
    replace hR := hRd
    replace w3 := own_ex2 w3.out hRB hPB hxd
    replace w4 := own_ex2 w4.out hRB hPB hxd
    replace w5 := own_ex2 w5.out hRB hPB hxd
    have w8 : yd.ownsRow B 3 1 vl ls.length (ls.flatMap cLines) := own_low ol (by have := hX.size; omega)
    have w9 : yd.ownsRow B 9 1 vn ns.length (ns.flatMap cNames) := own_low on (by have := hX.size; omega)
    have hq8b := ol.lt
    have hq9b := on.lt
    replace hq8 := hidR hq8
    replace hq9 := hidR hq9
    replace hq8b := hidR hq8b
    replace hq9b := hidR hq9b
    have hzd := hxd.size
    replace hX := Ex2.one hX hxd hPw
    obtain ⟨o8, k8, rfl⟩ := own_slice ol
    obtain ⟨o9, k9, rfl⟩ := own_slice on
    clear ol on hxd hPd hRd
    replace hP := hidR hP
    replace hQ := hidR hQ
    replace hR := hidR hR
    replace w3 := hidR w3
    replace w4 := hidR w4
    replace w5 := hidR w5
    replace w8 := hidR w8
    replace w9 := hidR w9
    go_upto_region 11 with fail
    replace hP := hP.out
    replace hQ := hQ.out
    replace hR := hR.out
    replace w3 := w3.out
    replace w4 := w4.out
    replace w5 := w5.out
    replace w8 := w8.out
    replace w9 := w9.out
    have hrg := hidR hP.range
    have hth := hidR hQ.there
    have hone : ([.int .i64 b1, .bool (decide (a1 = 1)), .int .i64 c1, .slice o3 l3.length k3, .slice o4 l4.length k4, .slice o5 l5.length k5, .int .i64 k1, .string t, .slice o8 ls.length k8, .slice o9 ns.length k9] : List Value).toArray.all (·.oneCell') = true := by simp [Value.oneCell']
    replace hone := hidR hone
    have hF := hQ.over [.int .i64 b1, .bool (decide (a1 = 1)), .int .i64 c1, .slice o3 l3.length k3, .slice o4 l4.length k4, .slice o5 l5.length k5, .int .i64 k1, .string t, .slice o8 ls.length k8, .slice o9 ns.length k9] rfl
    replace hR := hR.setsOther hQR.symm [.int .i64 b1, .bool (decide (a1 = 1)), .int .i64 c1, .slice o3 l3.length k3, .slice o4 l4.length k4, .slice o5 l5.length k5, .int .i64 k1, .string t, .slice o8 ls.length k8, .slice o9 ns.length k9]
    replace w3 := own_ex2 w3 hRB hQB (Ex2.sets [.int .i64 b1, .bool (decide (a1 = 1)), .int .i64 c1, .slice o3 l3.length k3, .slice o4 l4.length k4, .slice o5 l5.length k5, .int .i64 k1, .string t, .slice o8 ls.length k8, .slice o9 ns.length k9] 0 (Ex2.refl R Q yd))
    replace w4 := own_ex2 w4 hRB hQB (Ex2.sets [.int .i64 b1, .bool (decide (a1 = 1)), .int .i64 c1, .slice o3 l3.length k3, .slice o4 l4.length k4, .slice o5 l5.length k5, .int .i64 k1, .string t, .slice o8 ls.length k8, .slice o9 ns.length k9] 0 (Ex2.refl R Q yd))
    replace w5 := own_ex2 w5 hRB hQB (Ex2.sets [.int .i64 b1, .bool (decide (a1 = 1)), .int .i64 c1, .slice o3 l3.length k3, .slice o4 l4.length k4, .slice o5 l5.length k5, .int .i64 k1, .string t, .slice o8 ls.length k8, .slice o9 ns.length k9] 0 (Ex2.refl R Q yd))
    replace w8 := own_ex2 w8 hRB hQB (Ex2.sets [.int .i64 b1, .bool (decide (a1 = 1)), .int .i64 c1, .slice o3 l3.length k3, .slice o4 l4.length k4, .slice o5 l5.length k5, .int .i64 k1, .string t, .slice o8 ls.length k8, .slice o9 ns.length k9] 0 (Ex2.refl R Q yd))
    replace w9 := own_ex2 w9 hRB hQB (Ex2.sets [.int .i64 b1, .bool (decide (a1 = 1)), .int .i64 c1, .slice o3 l3.length k3, .slice o4 l4.length k4, .slice o5 l5.length k5, .int .i64 k1, .string t, .slice o8 ls.length k8, .slice o9 ns.length k9] 0 (Ex2.refl R Q yd))
    replace hX := Ex.sets hQw [.int .i64 b1, .bool (decide (a1 = 1)), .int .i64 c1, .slice o3 l3.length k3, .slice o4 l4.length k4, .slice o5 l5.length k5, .int .i64 k1, .string t, .slice o8 ls.length k8, .slice o9 ns.length k9] 0 hX
    have hzf : (yd.setCells Q 0 [.int .i64 b1, .bool (decide (a1 = 1)), .int .i64 c1, .slice o3 l3.length k3, .slice o4 l4.length k4, .slice o5 l5.length k5, .int .i64 k1, .string t, .slice o8 ls.length k8, .slice o9 ns.length k9]).heap.size = yd.heap.size := setCells_size _ _ _ _
    obtain ⟨yf, hyf⟩ : ∃ yf, yd.setCells Q 0 [.int .i64 b1, .bool (decide (a1 = 1)), .int .i64 c1, .slice o3 l3.length k3, .slice o4 l4.length k4, .slice o5 l5.length k5, .int .i64 k1, .string t, .slice o8 ls.length k8, .slice o9 ns.length k9] = yf := ⟨_, rfl⟩
    rw [hyf] at hF hR hX hzf w3 w4 w5 w8 w9
    clear hP hQ
    replace hR := hidR hR
    replace w3 := hidR w3
    replace w4 := hidR w4
    replace w5 := hidR w5
    replace w8 := hidR w8
    replace w9 := hidR w9
    replace hF := hidR hF
    refine wp_region_lit ?_
    refine wpList_load_mid rfl 38 (.tmp 3) rfl P 0 rfl [.int .i64 b1, .bool (decide (a1 = 1)), .int .i64 c1, .slice o3 l3.length k3, .slice o4 l4.length k4, .slice o5 l5.length k5, .int .i64 k1, .string t, .slice o8 ls.length k8, .slice o9 ns.length k9] _ hrg.out Tryz.underlying38 rfl infP ?_
    refine wpList_store_mid rfl 38 (.tmp 2) (.tmp 44) rfl Q 0 ([.int .i64 b1, .bool (decide (a1 = 1)), .int .i64 c1, .slice o3 l3.length k3, .slice o4 l4.length k4, .slice o5 l5.length k5, .int .i64 k1, .string t, .slice o8 ls.length k8, .slice o9 ns.length k9] : List Value).toArray rfl rfl hth.out infP hone.out ?_
    rw [show yd.setCells Q 0 ([.int .i64 b1, .bool (decide (a1 = 1)), .int .i64 c1, .slice o3 l3.length k3, .slice o4 l4.length k4, .slice o5 l5.length k5, .int .i64 k1, .string t, .slice o8 ls.length k8, .slice o9 ns.length k9] : List Value).toArray.toList = yf from hyf]
    clear hyf hrg hth hone
    refine wpList_nil ?_
    rename_i K hK
    refine hK _ _ (wp_ret ?_)
    have f20 := hF.out.cell 0 rfl
    have f21 := hF.out.cell 1 rfl
    have f22 := hF.out.cell 2 rfl
    have f23 := hF.out.cell 3 rfl
    have f24 := hF.out.cell 4 rfl
    have f25 := hF.out.cell 5 rfl
    have f26 := hF.out.cell 6 rfl
    have f27 := hF.out.cell 7 rfl
    have f28 := hF.out.cell 8 rfl
    have f29 := hF.out.cell 9 rfl
    refine bodyPost_ret (v := .agg #[.int .i64 b1, .bool (decide (a1 = 1)), .int .i64 c1, .slice o3 l3.length k3, .slice o4 l4.length k4, .slice o5 l5.length k5, .int .i64 k1, .string t, .slice o8 ls.length k8, .slice o9 ns.length k9]) (by simp [results, Tryz.results47, go_sem, f20, f21, f22, f23, f24, f25, f26, f27, f28, f29]) rfl ?_
    rw [hPro.out]
    refine ⟨_, _, _, _, _, rfl, ⟨own_low w3.out hBw, own_low w4.out hBw, own_low w5.out hBw, own_low w8.out hBw, own_low w9.out hBw, ?_⟩, hR.out, hX⟩
    exact sep_dbg hq3.out hq4.out hq5.out hq8.out hq9.out hq8b.out hq9b.out (by omega)
  · have hgd : decide (g1 = 1) = false := by simp [hg]
    rw [hgd]
    clear hgd
    have hPro := hidR (rdPro_eq ea.out eb.out ec.out ed.out eco.out ee.out ecs.out ef.out eus.out ek.out eg.out (if_neg hg))
    clear ea eb ec ed eco ee ecs ef eus ek eg hg
    have w8 : y18.ownsRow B 3 1 (.slice none 0 0) 0 [] := World.ownsRow_nil _ _ _ _
    have w9 : y18.ownsRow B 9 1 (.slice none 0 0) 0 [] := World.ownsRow_nil _ _ _ _
    replace hP := hidR hP
    replace hQ := hidR hQ
    replace hR := hidR hR
    replace w3 := hidR w3
    replace w4 := hidR w4
    replace w5 := hidR w5
    replace w8 := hidR w8
    replace w9 := hidR w9
    go_upto_region 11 with fail
    replace hP := hP.out
    replace hQ := hQ.out
    replace hR := hR.out
    replace w3 := w3.out
    replace w4 := w4.out
    replace w5 := w5.out
    replace w8 := w8.out
    replace w9 := w9.out
    have hrg := hidR hP.range
    have hth := hidR hQ.there
    have hone : ([.int .i64 b1, .bool (decide (a1 = 1)), .int .i64 c1, .slice o3 l3.length k3, .slice o4 l4.length k4, .slice o5 l5.length k5, .int .i64 k1, .string ⟨#[]⟩, .slice none 0 0, .slice none 0 0] : List Value).toArray.all (·.oneCell') = true := by simp [Value.oneCell']
    replace hone := hidR hone
    have hF := hQ.over [.int .i64 b1, .bool (decide (a1 = 1)), .int .i64 c1, .slice o3 l3.length k3, .slice o4 l4.length k4, .slice o5 l5.length k5, .int .i64 k1, .string ⟨#[]⟩, .slice none 0 0, .slice none 0 0] rfl
    replace hR := hR.setsOther hQR.symm [.int .i64 b1, .bool (decide (a1 = 1)), .int .i64 c1, .slice o3 l3.length k3, .slice o4 l4.length k4, .slice o5 l5.length k5, .int .i64 k1, .string ⟨#[]⟩, .slice none 0 0, .slice none 0 0]
    replace w3 := own_ex2 w3 hRB hQB (Ex2.sets [.int .i64 b1, .bool (decide (a1 = 1)), .int .i64 c1, .slice o3 l3.length k3, .slice o4 l4.length k4, .slice o5 l5.length k5, .int .i64 k1, .string ⟨#[]⟩, .slice none 0 0, .slice none 0 0] 0 (Ex2.refl R Q y18))
    replace w4 := own_ex2 w4 hRB hQB (Ex2.sets [.int .i64 b1, .bool (decide (a1 = 1)), .int .i64 c1, .slice o3 l3.length k3, .slice o4 l4.length k4, .slice o5 l5.length k5, .int .i64 k1, .string ⟨#[]⟩, .slice none 0 0, .slice none 0 0] 0 (Ex2.refl R Q y18))
    replace w5 := own_ex2 w5 hRB hQB (Ex2.sets [.int .i64 b1, .bool (decide (a1 = 1)), .int .i64 c1, .slice o3 l3.length k3, .slice o4 l4.length k4, .slice o5 l5.length k5, .int .i64 k1, .string ⟨#[]⟩, .slice none 0 0, .slice none 0 0] 0 (Ex2.refl R Q y18))
    replace w8 := own_ex2 w8 hRB hQB (Ex2.sets [.int .i64 b1, .bool (decide (a1 = 1)), .int .i64 c1, .slice o3 l3.length k3, .slice o4 l4.length k4, .slice o5 l5.length k5, .int .i64 k1, .string ⟨#[]⟩, .slice none 0 0, .slice none 0 0] 0 (Ex2.refl R Q y18))
    replace w9 := own_ex2 w9 hRB hQB (Ex2.sets [.int .i64 b1, .bool (decide (a1 = 1)), .int .i64 c1, .slice o3 l3.length k3, .slice o4 l4.length k4, .slice o5 l5.length k5, .int .i64 k1, .string ⟨#[]⟩, .slice none 0 0, .slice none 0 0] 0 (Ex2.refl R Q y18))
    replace hX := Ex.sets hQw [.int .i64 b1, .bool (decide (a1 = 1)), .int .i64 c1, .slice o3 l3.length k3, .slice o4 l4.length k4, .slice o5 l5.length k5, .int .i64 k1, .string ⟨#[]⟩, .slice none 0 0, .slice none 0 0] 0 hX
    have hzf : (y18.setCells Q 0 [.int .i64 b1, .bool (decide (a1 = 1)), .int .i64 c1, .slice o3 l3.length k3, .slice o4 l4.length k4, .slice o5 l5.length k5, .int .i64 k1, .string ⟨#[]⟩, .slice none 0 0, .slice none 0 0]).heap.size = y18.heap.size := setCells_size _ _ _ _
    obtain ⟨yf, hyf⟩ : ∃ yf, y18.setCells Q 0 [.int .i64 b1, .bool (decide (a1 = 1)), .int .i64 c1, .slice o3 l3.length k3, .slice o4 l4.length k4, .slice o5 l5.length k5, .int .i64 k1, .string ⟨#[]⟩, .slice none 0 0, .slice none 0 0] = yf := ⟨_, rfl⟩
    rw [hyf] at hF hR hX hzf w3 w4 w5 w8 w9
    clear hP hQ
    replace hR := hidR hR
    replace w3 := hidR w3
    replace w4 := hidR w4
    replace w5 := hidR w5
    replace w8 := hidR w8
    replace w9 := hidR w9
    replace hF := hidR hF
    refine wp_region_lit ?_
    refine wpList_load_mid rfl 38 (.tmp 3) rfl P 0 rfl [.int .i64 b1, .bool (decide (a1 = 1)), .int .i64 c1, .slice o3 l3.length k3, .slice o4 l4.length k4, .slice o5 l5.length k5, .int .i64 k1, .string ⟨#[]⟩, .slice none 0 0, .slice none 0 0] _ hrg.out Tryz.underlying38 rfl infP ?_
    refine wpList_store_mid rfl 38 (.tmp 2) (.tmp 44) rfl Q 0 ([.int .i64 b1, .bool (decide (a1 = 1)), .int .i64 c1, .slice o3 l3.length k3, .slice o4 l4.length k4, .slice o5 l5.length k5, .int .i64 k1, .string ⟨#[]⟩, .slice none 0 0, .slice none 0 0] : List Value).toArray rfl rfl hth.out infP hone.out ?_
    rw [show y18.setCells Q 0 ([.int .i64 b1, .bool (decide (a1 = 1)), .int .i64 c1, .slice o3 l3.length k3, .slice o4 l4.length k4, .slice o5 l5.length k5, .int .i64 k1, .string ⟨#[]⟩, .slice none 0 0, .slice none 0 0] : List Value).toArray.toList = yf from hyf]
    clear hyf hrg hth hone
    refine wpList_nil ?_
    rename_i K hK
    refine hK _ _ (wp_ret ?_)
    have f20 := hF.out.cell 0 rfl
    have f21 := hF.out.cell 1 rfl
    have f22 := hF.out.cell 2 rfl
    have f23 := hF.out.cell 3 rfl
    have f24 := hF.out.cell 4 rfl
    have f25 := hF.out.cell 5 rfl
    have f26 := hF.out.cell 6 rfl
    have f27 := hF.out.cell 7 rfl
    have f28 := hF.out.cell 8 rfl
    have f29 := hF.out.cell 9 rfl
    refine bodyPost_ret (v := .agg #[.int .i64 b1, .bool (decide (a1 = 1)), .int .i64 c1, .slice o3 l3.length k3, .slice o4 l4.length k4, .slice o5 l5.length k5, .int .i64 k1, .string ⟨#[]⟩, .slice none 0 0, .slice none 0 0]) (by simp [results, Tryz.results47, go_sem, f20, f21, f22, f23, f24, f25, f26, f27, f28, f29]) rfl ?_
    rw [hPro.out]
    refine ⟨_, _, _, _, _, rfl, ⟨own_low w3.out hBw, own_low w4.out hBw, own_low w5.out hBw, own_low w8.out hBw, own_low w9.out hBw, ?_⟩, hR.out, hX⟩
    exact sep_none hq3.out hq4.out hq5.out (by omega)
end Go.Proofs.YtpobiffihiaakaaGreatDoor
