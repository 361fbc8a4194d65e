import Derived.Test.YtnhanccjnhgjoaaGreatDoorGu
import Derived.LaidEql
import Derived.Stop.Asserts
import Derived.RowKitTokens
import Derived.Test.YtnhanccjnhgjoaaGreatDoorRows
import Derived.WalkKit
import Derived.ProofKit
import Derived.OpenShut
import Derived.LaidMore
import Derived.WalkSmall
import Derived.LaidLaws
import Derived.LaidHandle
import Derived.Stop.Joined
namespace Go.Proofs.YtnhanccjnhgjoaaGreatDoor
open Go.RowKit Go.Extern.Stop Go.Stop Go.Extern
set_option linter.unusedVariables false
set_option linter.unusedSimpArgs false
set_option maxRecDepth 100000
set_option maxHeartbeats 9000000
theorem as_nil (t : Value) (w : World) :
  Calls Tryz.prog 21 #[.nilIface, t] w fun e w' => e = .returned (.bool false) ∧ w' = w := by
 go_enter Tryz.func21, Tryz.ntmps21
 go_wp2
 go_ret;exact ⟨rfl, rfl⟩
theorem ra_valueOfP (t : Addr) (w : World) : (ReflectliteValue.unpack (.iface 61 (.pointer (some t)))).run Tryz.prog w
  = .ok (.agg #[.pointer (some ⟨1, 61, none⟩), .pointer (some ⟨w.heap.size, 0, none⟩), .int .u64 150]) (w.alloc (.cells #[.pointer (some t)] 61)) := by kernel_rfl
theorem ra_typeP (a : Addr) (w : World) : (ReflectliteValue.methodAny (ReflectliteValue.valueError "reflectlite.Value.Type" 0) (fun t _ _ _ => ReflectliteType.toType t) #[.agg #[.pointer (some ⟨1, 61, none⟩), .pointer (some a), .int .u64 150]]).run Tryz.prog w
  = .ok (.iface 156 (.agg #[.pointer (some ⟨1, 61, none⟩)])) w := by kernel_rfl
theorem ra_methodKind (h : Value) (w : World) : (Go.method 223 156 (.agg #[h]) "Kind").run Tryz.prog w = .ok (142, h) w := by kernel_rfl
theorem ra_kindP (w : World) : ((ReflectliteType.abiMethod fun t => (fun a : Nat => Value.int IntKind.u8 (a : Int)) <$> Rtype.kind t) #[.pointer (some ⟨1, 61, none⟩)]).run Tryz.prog w = .ok (.int .u8 22) w := by kernel_rfl
theorem ra_kindE (w : World) : ((ReflectliteType.abiMethod fun t => (fun a : Nat => Value.int IntKind.u8 (a : Int)) <$> Rtype.kind t) #[.pointer (some ⟨1, 59, none⟩)]).run Tryz.prog w = .ok (.int .u8 25) w := by kernel_rfl
theorem ra_parts (a : Addr) (w : World) : (ReflectliteValue.parts (.agg #[.pointer (some ⟨1, 61, none⟩), .pointer (some a), .int .u64 150])).run Tryz.prog w = .ok (some (61, a, 150)) w := by kernel_rfl
theorem ra_methodElem (h : Value) (w : World) : (Go.method 223 156 (.agg #[h]) "Elem").run Tryz.prog w = .ok (152, .agg #[h]) w := by kernel_rfl
theorem ra_methodImplements (h : Value) (w : World) : (Go.method 223 156 (.agg #[h]) "Implements").run Tryz.prog w = .ok (153, .agg #[h]) w := by kernel_rfl
theorem ra_methodAssignableTo (h : Value) (w : World) : (Go.method 223 156 (.agg #[h]) "AssignableTo").run Tryz.prog w = .ok (150, .agg #[h]) w := by kernel_rfl
theorem ra_elemP (w : World) : (ReflectliteType.method ReflectliteType.elem #[.agg #[.pointer (some ⟨1, 61, none⟩)]]).run Tryz.prog w = .ok (.iface 156 (.agg #[.pointer (some ⟨1, 59, none⟩)])) w := by kernel_rfl
theorem ra_implements (w : World) : (ReflectliteType.relation "Implements" ReflectliteType.implements_ #[.agg #[.pointer (some ⟨1, 59, none⟩)], .iface 156 (.agg #[.pointer (some ⟨1, 55, none⟩)])]).run Tryz.prog w = .ok (.bool true) w := by kernel_rfl
theorem ra_typeOf (v : Value) (w : World) : (ReflectliteType.typeOf #[.iface 59 v]).run Tryz.prog w = .ok (.iface 156 (.agg #[.pointer (some ⟨1, 59, none⟩)])) w := by kernel_rfl
theorem ra_assignable (w : World) : (ReflectliteType.relation "AssignableTo" ReflectliteType.assignableTo #[.agg #[.pointer (some ⟨1, 59, none⟩)], .iface 156 (.agg #[.pointer (some ⟨1, 59, none⟩)])]).run Tryz.prog w = .ok (.bool true) w := by kernel_rfl
theorem ra_valueOfE (c : Int) (w : World) : (ReflectliteValue.unpack (.iface 59 (.agg #[.int .i64 c]))).run Tryz.prog w
  = .ok (.agg #[.pointer (some ⟨1, 59, none⟩), .pointer (some ⟨w.heap.size, 0, none⟩), .int .u64 153]) (w.alloc (.cells #[.int .i64 c] 59)) := by kernel_rfl
theorem ra_elemOf (w : World) : (Rtype.elem? 61).run Tryz.prog w = .ok (some 59) w := by kernel_rfl
theorem ra_mk (p : Addr) (w : World) : (ReflectliteValue.mk 59 p ReflectliteValue.flagAddr).run Tryz.prog w = .ok (.agg #[.pointer (some ⟨1, 59, none⟩), .pointer (some p), .int .u64 409]) w := by kernel_rfl
theorem ra_partsA (a : Addr) (w : World) : (ReflectliteValue.parts (.agg #[.pointer (some ⟨1, 59, none⟩), .pointer (some a), .int .u64 409])).run Tryz.prog w = .ok (some (59, a, 409)) w := by kernel_rfl
theorem ra_partsE (a : Addr) (w : World) : (ReflectliteValue.parts (.agg #[.pointer (some ⟨1, 59, none⟩), .pointer (some a), .int .u64 153])).run Tryz.prog w = .ok (some (59, a, 153)) w := by kernel_rfl
theorem ra_direct (w : World) : (Rtype.directlyAssignable 59 59).run Tryz.prog w = .ok true w := by kernel_rfl
theorem gl10 (x : Value) (h : (#[x] : Array Value).size = 1) (h' : 0 < 1) : (#[x] : Array Value).getLit 0 h h' = x := rfl
theorem gl20 (x y : Value) (h : (#[x, y] : Array Value).size = 2) (h' : 0 < 2) : (#[x, y] : Array Value).getLit 0 h h' = x := rfl
theorem gl21 (x y : Value) (h : (#[x, y] : Array Value).size = 2) (h' : 1 < 2) : (#[x, y] : Array Value).getLit 1 h h' = y := rfl
theorem ra_isNil (a p : Addr) (W : World) (ha : W.cell? a = some (.pointer (some p))) :
  (ReflectliteValue.method (ReflectliteValue.valueError "reflectlite.Value.IsNil" 0) ReflectliteValue.isNil #[.agg #[.pointer (some ⟨1, 61, none⟩), .pointer (some a), .int .u64 150]]).run Tryz.prog W = .ok (.bool false) W := by
 delta ReflectliteValue.method ReflectliteValue.method.match_2
 dsimp;simp only [gl10, Sem.run_bind, ra_parts, Result.andThen];simp [ReflectliteValue.isNil, loadVar, isAgg, underlying, Tryz.underlying61, ha, Result.andThen]
theorem ra_elemV (a p : Addr) (W : World) (ha : W.cell? a = some (.pointer (some p))) :
  (ReflectliteValue.method (ReflectliteValue.valueError "reflectlite.Value.Elem" 0) ReflectliteValue.elem #[.agg #[.pointer (some ⟨1, 61, none⟩), .pointer (some a), .int .u64 150]]).run Tryz.prog W
   = .ok (.agg #[.pointer (some ⟨1, 59, none⟩), .pointer (some p), .int .u64 409]) W := by
 delta ReflectliteValue.method ReflectliteValue.method.match_2
 dsimp;simp only [gl10, Sem.run_bind, ra_parts, Result.andThen];simp [ReflectliteValue.elem, loadVar, isAgg, underlying, Tryz.underlying61, ha, Result.andThen, ra_elemOf, ra_mk]
theorem ra_set (T b : Nat) (c : Int) (old : Value) (W : World) (hb : W.cell? ⟨b, 0, none⟩ = some (.int .i64 c)) (ht : W.cell? ⟨T, 0, none⟩ = some old) (hf : W.frozen? ⟨T, 0, none⟩ = false) :
  (ReflectliteValue.set #[.agg #[.pointer (some ⟨1, 59, none⟩), .pointer (some ⟨T, 0, none⟩), .int .u64 409], .agg #[.pointer (some ⟨1, 59, none⟩), .pointer (some ⟨b, 0, none⟩), .int .u64 153]]).run Tryz.prog W
   = .ok (.tuple #[]) (W.setCell ⟨T, 0, none⟩ (.int .i64 c)) := by
 have hl : (loadVar 59 ⟨b, 0, none⟩).run Tryz.prog W = .ok (.agg #[.int .i64 c]) W := by
  have := run_loadVar_mid (P := Tryz.prog) W b 0 59 [.int .i64 c] _ (fun j v hv => by
   match j, hv with
   | 0, hv => simp at hv; subst hv; exact hb) Tryz.underlying59 rfl (by kernel_rfl)
  exact this
 have hs : (storeVar 59 ⟨T, 0, none⟩ (.agg #[.int .i64 c])).run Tryz.prog W = .ok () (W.setCell ⟨T, 0, none⟩ (.int .i64 c)) := by
  have := run_storeVar_mid (P := Tryz.prog) W T 0 59 #[.int .i64 c] (fun j hj => by
   match j, hj with
   | 0, _ => exact ⟨by rw [Nat.zero_add, ht]; rfl, hf⟩) (by kernel_rfl) (by simp [Value.oneCell'])
  exact this
 delta ReflectliteValue.set ReflectliteValue.set.match_3
 dsimp;simp only [gl20, gl21, Sem.run_bind, ra_partsA, ra_partsE, Result.andThen];simp [ReflectliteValue.flagAddr, hl, hs, Result.andThen, ra_direct]
theorem as_hit (c : Int) (T : Nat) (old : Value) (w : World) (hg : w.cell? ⟨0, 0, none⟩ = some (.iface 156 (.agg #[.pointer (some ⟨1, 55, none⟩)]))) (ht0 : w.cell? ⟨T, 0, none⟩ = some old) (hf0 : w.frozen? ⟨T, 0, none⟩ = false) :
  Calls Tryz.prog 21 #[.iface 59 (.agg #[.int .i64 c]), .iface 61 (.pointer (some ⟨T, 0, none⟩))] w fun ev w' => ev = .returned (.bool true) ∧ w' = ((((w.alloc (.cells #[.pointer (some ⟨T, 0, none⟩)] 61)).alloc (.cells #[.pointer (some ⟨1, 61, none⟩), .pointer (some ⟨w.heap.size, 0, none⟩), .int .u64 150] 103)).alloc (.cells #[.pointer (some ⟨1, 61, none⟩), .pointer (some ⟨w.heap.size, 0, none⟩), .int .u64 150] 103)).alloc (.cells #[.int .i64 c] 59)).setCell ⟨T, 0, none⟩ (.int .i64 c) := by
 have h6 := @run_callFunc_extern Tryz.prog 44 _ (fun args => ReflectliteValue.unpack (args.getD 0 (.tuple #[]))) Tryz.func44 (by kernel_rfl) (by kernel_rfl) (by kernel_rfl) (by kernel_rfl);have h7 := @run_callFunc_extern Tryz.prog 45 _ (ReflectliteValue.methodAny (ReflectliteValue.valueError "reflectlite.Value.Type" 0) (fun t _ _ _ => ReflectliteType.toType t)) Tryz.func45 (by kernel_rfl) (by kernel_rfl) (by kernel_rfl) (by kernel_rfl);have h8 := @run_callFunc_extern Tryz.prog 46 _ (ReflectliteValue.method (ReflectliteValue.valueError "reflectlite.Value.IsNil" 0) ReflectliteValue.isNil) Tryz.func46 (by kernel_rfl) (by kernel_rfl) (by kernel_rfl) (by kernel_rfl);have h27 := @run_callFunc_extern Tryz.prog 142 _ (ReflectliteType.abiMethod fun t => do pure (.int .u8 (← Rtype.kind t))) Tryz.func142 (by kernel_rfl) (by kernel_rfl) (by kernel_rfl) (by kernel_rfl)
 have h37 := @run_callFunc_extern Tryz.prog 152 _ (ReflectliteType.method ReflectliteType.elem) Tryz.func152 (by kernel_rfl) (by kernel_rfl) (by kernel_rfl) (by kernel_rfl);have h38 := @run_callFunc_extern Tryz.prog 153 _ (ReflectliteType.relation "Implements" ReflectliteType.implements_) Tryz.func153 (by kernel_rfl) (by kernel_rfl) (by kernel_rfl) (by kernel_rfl);have h10 := @run_callFunc_extern Tryz.prog 89 _ ReflectliteType.typeOf Tryz.func89 (by kernel_rfl) (by kernel_rfl) (by kernel_rfl) (by kernel_rfl);have h35 := @run_callFunc_extern Tryz.prog 150 _ (ReflectliteType.relation "AssignableTo" ReflectliteType.assignableTo) Tryz.func150 (by kernel_rfl) (by kernel_rfl) (by kernel_rfl) (by kernel_rfl);have h11 := @run_callFunc_extern Tryz.prog 90 _ (ReflectliteValue.method (ReflectliteValue.valueError "reflectlite.Value.Elem" 0) ReflectliteValue.elem) Tryz.func90 (by kernel_rfl) (by kernel_rfl) (by kernel_rfl) (by kernel_rfl);have h12 := @run_callFunc_extern Tryz.prog 91 _ ReflectliteValue.set Tryz.func91 (by kernel_rfl) (by kernel_rfl) (by kernel_rfl) (by kernel_rfl);have tO := ra_typeOf;have mA := ra_methodAssignableTo;have a25 := ra_assignable;have v25 := ra_valueOfE;have f6 := ra_valueOfP;have f7 := ra_typeP;have mK := ra_methodKind;have mE := ra_methodElem;have mI := ra_methodImplements;have k27 := ra_kindP;have k25 := ra_kindE;have e27 := ra_elemP;have i25 := ra_implements;have hlt : 0 < w.heap.size := World.block_lt_of_cell? _ _ hg;have htl : T < w.heap.size := World.block_lt_of_cell? _ _ ht0;have n8 := ra_isNil ⟨w.heap.size, 0, none⟩ ⟨T, 0, none⟩ ((w.alloc (.cells #[.pointer (some ⟨T, 0, none⟩)] 61)).alloc (.cells #[.pointer (some ⟨1, 61, none⟩), .pointer (some ⟨w.heap.size, 0, none⟩), .int .u64 150] 103)) (by simp)
 have hg2 : ((w.alloc (.cells #[.pointer (some ⟨T, 0, none⟩)] 61)).alloc (.cells #[.pointer (some ⟨1, 61, none⟩), .pointer (some ⟨w.heap.size, 0, none⟩), .int .u64 150] 103)).cell? ⟨0, 0, none⟩ = some (.iface 156 (.agg #[.pointer (some ⟨1, 55, none⟩)])) := by
  rw [World.cell?_alloc_lt _ _ ⟨0, 0, none⟩ (by simp; try omega), World.cell?_alloc_lt _ _ ⟨0, 0, none⟩ hlt]; exact hg
 have el := ra_elemV ⟨w.heap.size, 0, none⟩ ⟨T, 0, none⟩ (((w.alloc (.cells #[.pointer (some ⟨T, 0, none⟩)] 61)).alloc (.cells #[.pointer (some ⟨1, 61, none⟩), .pointer (some ⟨w.heap.size, 0, none⟩), .int .u64 150] 103)).alloc (.cells #[.pointer (some ⟨1, 61, none⟩), .pointer (some ⟨w.heap.size, 0, none⟩), .int .u64 150] 103)) (by rw [World.cell?_alloc_lt _ _ ⟨w.heap.size, 0, none⟩ (by simp; try omega)]; simp)
 have st := ra_set T (w.heap.size + 1 + 1 + 1) c old ((((w.alloc (.cells #[.pointer (some ⟨T, 0, none⟩)] 61)).alloc (.cells #[.pointer (some ⟨1, 61, none⟩), .pointer (some ⟨w.heap.size, 0, none⟩), .int .u64 150] 103)).alloc (.cells #[.pointer (some ⟨1, 61, none⟩), .pointer (some ⟨w.heap.size, 0, none⟩), .int .u64 150] 103)).alloc (.cells #[.int .i64 c] 59))
  (by rw [World.cell?_alloc_at _ _ _ _ (by simp)]; rfl)
  (by rw [World.cell?_alloc_lt _ _ ⟨T, 0, none⟩ (by simp; try omega), World.cell?_alloc_lt _ _ ⟨T, 0, none⟩ (by simp; try omega), World.cell?_alloc_lt _ _ ⟨T, 0, none⟩ (by simp; try omega), World.cell?_alloc_lt _ _ ⟨T, 0, none⟩ htl]; exact ht0)
  (by rw [World.frozen?_alloc_old _ _ ⟨T, 0, none⟩ (by simp; try omega), World.frozen?_alloc_old _ _ ⟨T, 0, none⟩ (by simp; try omega), World.frozen?_alloc_old _ _ ⟨T, 0, none⟩ (by simp; try omega), World.frozen?_alloc_old _ _ ⟨T, 0, none⟩ (Nat.ne_of_lt htl)]; exact hf0)
 go_enter Tryz.func21, Tryz.ntmps21
 go_wp2
 refine wp_loop_rounds 1 ?_;rw [rounds_succ]
 go_wp2
 go_ret;exact ⟨rfl, rfl⟩
end Go.Proofs.YtnhanccjnhgjoaaGreatDoor
namespace Go.Proofs.YtnhanccjnhgjoaaGreatDoor
open Go.RowKit Go.Shelf
set_option linter.unusedVariables false
set_option linter.unusedSimpArgs false
set_option maxRecDepth 100000
set_option maxHeartbeats 9000000
def ErrT (w : World) : Prop := w.cell? ⟨0, 0, none⟩ = some (.iface 156 (.agg #[.pointer (some ⟨1, 55, none⟩)]))
theorem ErrT.below {w w' : World} (h : ErrT w) (b : Below w.heap.size w w') : ErrT w' := (b.cell (p := ⟨0, 0, none⟩) (World.block_lt_of_cell? _ _ h)).trans h
theorem implLoad_in (s : ByteArray) (V : Nat → Option (Int × Nat)) (hV : VrOk s V) (hs : s.size ≤ 2000000000) (w : World) (hE : ErrT w) :
  Calls Tryz.prog 6 #[.string s] w fun e w' => Below w.heap.size w w' ∧ (rdCode s V ≠ 0 → e = .returned (.tuple #[.agg #[.slice none 0 0], .int .i64 (rdCode s V)])) ∧
   (rdCode s V = 0 → ∃ v its mid y, w.heap.size ≤ y.heap.size ∧ e = .returned (.tuple #[.agg #[v], .int .i64 0]) ∧ TrOk y w' v its mid ∧ its.map (·.p) = (rdTree s V 64 0 (rd0 s) 1).1) := by
 obtain ⟨y0, hy0⟩ : ∃ y0, w.alloc (.cells #[.slice none 0 0] 26) = y0 := ⟨_, rfl⟩;have hB0 : Below w.heap.size w y0 := by rw [← hy0]; exact (Below.refl w.heap.size w).alloc (Nat.le_refl _) _
 have hQ0 : RowL y0 w.heap.size 26 [.slice none 0 0] := by rw [← hy0]; exact RowL.new w [.slice none 0 0] 26
 have hl := hidR (load_in s V hV hs y0);obtain ⟨Q, hQe⟩ : ∃ Q, Q = w.heap.size := ⟨_, rfl⟩;rw [← hQe] at hQ0;have hQw : w.heap.size ≤ Q := by omega
 have hQl : Q < y0.heap.size := World.rowIs.lt hQ0;replace hQ0 := hidR hQ0;replace hE := hidR hE;by_cases hc : rdCode s V = 0
 ·go_enter Tryz.func6, Tryz.ntmps6;go_wp2_with fail;rw [← hQe];replace hQe := hidR hQe;refine Calls.mono hl.out ?_;rintro e y1 ⟨hb1, -, h2⟩;obtain ⟨v, its, mid, yt, hyt, rfl, htr, hps⟩ := h2 hc;clear hl h2;obtain ⟨o, k, rfl⟩ := own_slL htr.row;have hB1 := hB0.trans (hb1.mono hB0.size);have hQ1 := hQ0.out.call hb1;obtain ⟨y2, hy2⟩ : ∃ y2, (y1.alloc (.cells #[.slice o its.length k] 26)).alloc (.cells #[.int .i64 0] 59) = y2 := ⟨_, rfl⟩;have hC2 : RowL y2 y1.heap.size 26 [.slice o its.length k] := by rw [← hy2]; exact (RowL.new y1 [.slice o its.length k] 26).alloc _
  have hb2 : Below y1.heap.size y1 y2 := by rw [← hy2]; exact ((Below.refl y1.heap.size y1).alloc (Nat.le_refl _) _).alloc (by rw [World.size_alloc]; omega) _
  have hB2 := hB1.trans (hb2.mono hB1.size);have hQ2 := hQ1.call hb2;have htr2 := htr.later (R := Q) (by omega) (Ex.of hb2);have c0 := hC2.cell 0 rfl;have q0 := hQ2.cell 0 rfl;have qf := hQ2.frozen 0;have hQ3 := hidR (hQ2.set 0 (.slice o its.length k));have htr3 := hidR (htr2.later (R := Q) (by omega) ((Ex.refl Q y2).set 0 (.slice o its.length k)));have hB3 := hB2.setCell (p := ⟨Q, 0, none⟩) hQw (.slice o its.length k);replace hQ2 := hidR hQ2;replace hC2 := hidR hC2;replace hps := hidR hps;replace hc := hidR hc;clear htr htr2 hQ1 hQ0;go_wp2_with (go_at_call 21; refine (as_nil _ _).mono ?_; rintro e w' ⟨rfl, rfl⟩);have q9 := hQ3.out.cell 0 rfl;refine bodyPost_ret (v := .tuple #[.agg #[.slice o its.length k], .int .i64 0]) (by simp [results, Tryz.results6, go_sem, q9]) rfl ?_;exact ⟨hB3, fun h => absurd hc.out h, fun _ => ⟨_, its, mid, yt, Nat.le_trans hB0.size hyt, rfl, htr3.out, hps.out⟩⟩
 ·go_enter Tryz.func6, Tryz.ntmps6;go_wp2_with fail;rw [← hQe];replace hQe := hidR hQe;refine Calls.mono hl.out ?_;rintro e y1 ⟨hb1, h2, -⟩;obtain rfl := h2 hc;clear hl h2;have hfb : fltV (rdCode s V) = .iface 59 (.agg #[.int .i64 (rdCode s V)]) := if_neg hc;rw [hfb];clear hfb;have hB1 := hB0.trans (hb1.mono hB0.size);have hQ1 := hQ0.out.call hb1;obtain ⟨y2, hy2⟩ : ∃ y2, (y1.alloc (.cells #[.slice none 0 0] 26)).alloc (.cells #[.int .i64 0] 59) = y2 := ⟨_, rfl⟩
  have hF2 : RowL y2 (y1.heap.size + 1) 59 [.int .i64 0] := by
   rw [← hy2];have := RowL.new (y1.alloc (.cells #[.slice none 0 0] 26)) [.int .i64 0] 59;rw [World.size_alloc] at this;exact this
  have hb2 : Below y1.heap.size y1 y2 := by rw [← hy2]; exact ((Below.refl y1.heap.size y1).alloc (Nat.le_refl _) _).alloc (by rw [World.size_alloc]; omega) _
  have hB2 := hB1.trans (hb2.mono hB1.size);have hQ2 := hQ1.call hb2;have has := hidR (as_hit (rdCode s V) (y1.heap.size + 1) (.int .i64 0) y2 (hE.out.below hB2) (hF2.cell 0 rfl) (hF2.frozen 0));replace hQ2 := hidR hQ2;replace hc := hidR hc;replace hF2 := hidR hF2;clear hQ1 hQ0;go_wp2_with fail;obtain ⟨T, hT⟩ : ∃ T, T = y1.heap.size + 1 := ⟨_, rfl⟩;rw [← hT] at has hF2 ⊢;have hTw : w.heap.size ≤ T := by have := hB1.size; omega
  have hQT : Q ≠ T := by have := hB1.size; have := hb1.size; omega
  replace hT := hidR hT;refine Calls.mono has.out ?_;rintro e y3 ⟨rfl, hy3⟩
  have hF3 : RowL y3 T 59 [.int .i64 (rdCode s V)] := by
   rw [hy3];exact ((((hF2.out.alloc _).alloc _).alloc _).alloc _).set 0 _
  have hx3 : Ex T y2 y3 := by
   rw [hy3];exact (((((Ex.refl T y2).alloc _).alloc _).alloc _).alloc _).set 0 _
  have hQ3 := hx3.row hQ2.out hQT;have hB3 : Below w.heap.size w y3 := hB2.trans ⟨hx3.os, hx3.tape, hx3.output, hx3.size, fun k hk => hx3.block k (Nat.lt_of_lt_of_le hk hB2.size) (by omega)⟩;clear has hy3 hx3 hy2 hQ2 hF2;have f0 := hF3.cell 0 rfl;have q0 := hQ3.cell 0 rfl;have qf := hQ3.frozen 0;have hQ4 := hQ3.set 0 (.slice none 0 0);have hB4 := hB3.setCell (p := ⟨Q, 0, none⟩) hQw (.slice none 0 0);have q9 := hQ4.cell 0 rfl;replace hF3 := hidR hF3;replace hQ3 := hidR hQ3;replace hQ4 := hidR hQ4;go_wp2_with fail
  go_region
  go_wp2_with fail;refine bodyPost_ret (v := .tuple #[.agg #[.slice none 0 0], .int .i64 (rdCode s V)]) (by simp [results, Tryz.results6, go_sem, q9]) rfl ?_;exact ⟨hB4.drew, fun _ => rfl, fun h => absurd h hc.out⟩
end Go.Proofs.YtnhanccjnhgjoaaGreatDoor
namespace Go.Proofs.YtnhanccjnhgjoaaGreatDoor
open Go.ChangeShapes Go.WideShapes Go.ChangeAt Go.RowKit
set_option linter.unusedVariables false
set_option linter.unusedSimpArgs false
set_option maxRecDepth 100000
theorem own : ownKnob Tryz.prog.godebug = none := by kernel_rfl
theorem gErr : Tryz.prog.globalNamed "errors.errorType" = some 0 := by kernel_rfl
theorem tRt : (Tryz.prog.cutTypes.find? (·.1 == "internal/reflectlite.rtype")).map (·.2) = some 156 := by kernel_rfl
theorem oneRow : ((List.range 223).filter fun t => Tryz.prog.rowNamed t [101, 114, 114, 111, 114]) = [55] := by kernel_rfl
theorem tySize : Tryz.prog.types.size = 223 := by kernel_rfl
theorem tyHandle : typeHandle Tryz.prog 55 = .pointer (some ⟨1, 55, none⟩) := by kernel_rfl
theorem errT_of_laid {W : World} (h : laidMetH Tryz.prog [("errors.errorType", Rows.laid_errors_errorType)] W) : ErrT W := by
 have h' : laidMet Tryz.prog [] W ∧ handlesMet Tryz.prog [("errors.errorType", Rows.laid_errors_errorType)] W := h;obtain ⟨name, u, ty, e1, e2, e3, e4, e5⟩ := h'.2 _ (List.mem_singleton.2 rfl);have en : name = [101, 114, 114, 111, 114] := (Option.some.inj e1).symm;subst en;obtain rfl := Option.some.inj (tRt.symm.trans e2);have hm : ty ∈ (List.range 223).filter fun t => Tryz.prog.rowNamed t [101, 114, 114, 111, 114] := List.mem_filter.2 ⟨List.mem_range.2 (by rw [← tySize]; exact e3), e4⟩;rw [oneRow] at hm;obtain rfl := List.mem_singleton.1 hm;rw [tyHandle] at e5;unfold ErrT
 simpa using World.var?_cell gErr e5 0
theorem door_met (os : Os) (args : Array Value) : laidMetH Tryz.prog [("errors.errorType", Rows.laid_errors_errorType)] ((World.doorLaid Tryz.prog 400 os).forCall (fun _ _ => 0) ⟨#[], args, []⟩).memory :=
 laidMetH_of_parts3 (fuel := 8) (laidMet_nil _ _) (by kernel_rfl) (by kernel_rfl)
end Go.Proofs.YtnhanccjnhgjoaaGreatDoor
