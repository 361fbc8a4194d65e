/-
  NARROWER THAN 'FOR EVERY INPUT', by the rows' own cells (each row's printed sentence says how): FnExactPack: laid · FnExactUnpack: laid · FnExactOpName: laid · FnExactOpCode: laid.
  DERIVED. THE GIVEN ROWS OF THIS SEAT. 4 by the template 'for every input the law returns true; each argument reads behind the call as it read before'; 0 by the template 'total and deterministic' (their statements: YtndpbdpngniepaaDoorTotals.lean).
  GIVEN WITH THE SEED: the statements are not yours to turn. If you find one false, say at which input.
  Laid BY PROGRAM, IN A SANDBOX (cutbox-rows.mjs): the forced cells as the released guide's own fill.sh prints them over the translation 210a688ac40b7132… (all of the seat's roots in one cut). By AI agents, Wed Nov 11 2026. No macro, syntax, notation, axiom, sorry.
-/
import Derived.Test.YtndpbdpngniepaaDoorChecked
import GoSem.Claim
import GoSem.ClaimJoined
import GoSem.ClaimMapViews
import Derived.JoinedTies
import Derived.KernelRfl
namespace Go.Proofs.YtndpbdpngniepaaDoor
/- THE CELL 'sum', in the pinned program and in every row, IS THE sha256 OF THE DUMP (.gsa) THAT YtndpbdpngniepaaDoorProg.lean LOADS. Nothing in Lean hashes anything: it is a label: what it is worth is what the hold of that sum in a sandbox is worth. -/
noncomputable def Tryd.pinned : Pinned := { name := "ytndpbdpngniepaadoor", sum := "210a688ac40b7132fae59b0362ee811ac04a44e5ec8200781968153009937c2b", checked := Tryd.checked }
namespace Rows
def none {H : Type} : Left H := { results := [], args := [] }

/- WHAT THE LISTED PACKAGE-LEVEL VARIABLES READ AS WHEN THE CALL BEGINS. Each datum BY PROGRAM (the guide's laid-datum.mjs) off the statement by which the dump's own 'gosem.cut.vars' lays the variable. In a bare row this is a premise. The card (YtndpbdpngniepaaDoorCards.lean) ties it to the program's text. -/
def laid_loop_example_s02979_impl_spans {H : Type} : DataW H := .agg [.agg [.lit (.int .i64 0), .lit (.int .i64 6)], .agg [.lit (.int .i64 6), .lit (.int .i64 8)], .agg [.lit (.int .i64 14), .lit (.int .i64 9)], .agg [.lit (.int .i64 23), .lit (.int .i64 9)]]
def laid_loop_example_s02979_impl_opNames {H : Type} : DataW H := .agg [.lit (.string [109, 111, 118, 101]), .lit (.string [108, 111, 97, 100, 107]), .lit (.string [108, 111, 97, 100, 110, 105, 108]), .lit (.string [108, 111, 97, 100, 98, 111, 111, 108]), .lit (.string [103, 101, 116, 117, 112]), .lit (.string [115, 101, 116, 117, 112]), .lit (.string [110, 101, 119, 116, 97, 98, 108, 101]), .lit (.string [103, 101, 116, 116, 97, 98, 108, 101]), .lit (.string [115, 101, 116, 116, 97, 98, 108, 101]), .lit (.string [97, 100, 100]), .lit (.string [115, 117, 98]), .lit (.string [109, 117, 108]), .lit (.string [100, 105, 118]), .lit (.string [109, 111, 100]), .lit (.string [99, 111, 110, 99, 97, 116]), .lit (.string [110, 111, 116]), .lit (.string [110, 101, 103]), .lit (.string [108, 101, 110]), .lit (.string [106, 117, 109, 112]), .lit (.string [101, 113]), .lit (.string [108, 101, 115, 115]), .lit (.string [116, 101, 115, 116]), .lit (.string [99, 97, 108, 108]), .lit (.string [114, 101, 116, 117, 114, 110]), .lit (.string [118, 97, 114, 97, 114, 103]), .lit (.string [99, 108, 111, 115, 117, 114, 101]), .lit (.string [99, 108, 111, 115, 101]), .lit (.string [102, 111, 114, 112, 114, 101, 112]), .lit (.string [102, 111, 114, 108, 111, 111, 112]), .lit (.string [99, 114, 101, 97, 116, 101]), .lit (.string [114, 101, 115, 117, 109, 101]), .lit (.string [121, 105, 101, 108, 100]), .lit (.string [115, 116, 97, 116, 117, 115]), .lit (.string [101, 114, 114, 111, 114])]

/-- 'laws.FnExactPack': WHATEVER THE INPUT: true; the input reads as it did. -/
def fnExactPackSpec : ChangeSpec := { name := "fnExactPack", vars := ["loop.example/s02979/impl.spans"], fn := fun _ => fun
  | [d, g1] => { results := [.lit (.bool true)], args := [d], vars := [g1] }
  | _ => none }
def fnExactPackRow : OpenClaim := { program := "ytndpbdpngniepaadoor", sum := "210a688ac40b7132fae59b0362ee811ac04a44e5ec8200781968153009937c2b", func := "loop.example/s02979/laws.FnExactPack", spec := "fnExactPack", named := ["loop.example/s02979/impl.spans"], apart := false, laid := [("loop.example/s02979/impl.spans", laid_loop_example_s02979_impl_spans)] }
def FnExactPackSaid : Prop := fnExactPackRow.holds Tryd.pinned (OpenSpec.ofChange fnExactPackSpec)

/-- ITS FALSE NEIGHBOUR: 'it returns false'. Refute it at one input. -/
def fnExactPackWrong : ChangeSpec := { name := "fnExactPack", vars := ["loop.example/s02979/impl.spans"], fn := fun _ => fun
  | [d, g1] => { results := [.lit (.bool false)], args := [d], vars := [g1] }
  | _ => none }
def FnExactPackWrongFalsely : Prop := fnExactPackRow.holds Tryd.pinned (OpenSpec.ofChange fnExactPackWrong)

/-- 'laws.FnExactUnpack': WHATEVER THE INPUT: true; the input reads as it did. -/
def fnExactUnpackSpec : ChangeSpec := { name := "fnExactUnpack", vars := ["loop.example/s02979/impl.spans"], fn := fun _ => fun
  | [d, g1] => { results := [.lit (.bool true)], args := [d], vars := [g1] }
  | _ => none }
def fnExactUnpackRow : OpenClaim := { program := "ytndpbdpngniepaadoor", sum := "210a688ac40b7132fae59b0362ee811ac04a44e5ec8200781968153009937c2b", func := "loop.example/s02979/laws.FnExactUnpack", spec := "fnExactUnpack", named := ["loop.example/s02979/impl.spans"], apart := false, laid := [("loop.example/s02979/impl.spans", laid_loop_example_s02979_impl_spans)] }
def FnExactUnpackSaid : Prop := fnExactUnpackRow.holds Tryd.pinned (OpenSpec.ofChange fnExactUnpackSpec)

/-- ITS FALSE NEIGHBOUR: 'it returns false'. Refute it at one input. -/
def fnExactUnpackWrong : ChangeSpec := { name := "fnExactUnpack", vars := ["loop.example/s02979/impl.spans"], fn := fun _ => fun
  | [d, g1] => { results := [.lit (.bool false)], args := [d], vars := [g1] }
  | _ => none }
def FnExactUnpackWrongFalsely : Prop := fnExactUnpackRow.holds Tryd.pinned (OpenSpec.ofChange fnExactUnpackWrong)

/-- 'laws.FnExactOpName': WHATEVER THE INPUT: true; the input reads as it did. -/
def fnExactOpNameSpec : ChangeSpec := { name := "fnExactOpName", vars := ["loop.example/s02979/impl.opNames"], fn := fun _ => fun
  | [d, g1] => { results := [.lit (.bool true)], args := [d], vars := [g1] }
  | _ => none }
def fnExactOpNameRow : OpenClaim := { program := "ytndpbdpngniepaadoor", sum := "210a688ac40b7132fae59b0362ee811ac04a44e5ec8200781968153009937c2b", func := "loop.example/s02979/laws.FnExactOpName", spec := "fnExactOpName", named := ["loop.example/s02979/impl.opNames"], apart := false, laid := [("loop.example/s02979/impl.opNames", laid_loop_example_s02979_impl_opNames)] }
def FnExactOpNameSaid : Prop := fnExactOpNameRow.holds Tryd.pinned (OpenSpec.ofChange fnExactOpNameSpec)

/-- ITS FALSE NEIGHBOUR: 'it returns false'. Refute it at one input. -/
def fnExactOpNameWrong : ChangeSpec := { name := "fnExactOpName", vars := ["loop.example/s02979/impl.opNames"], fn := fun _ => fun
  | [d, g1] => { results := [.lit (.bool false)], args := [d], vars := [g1] }
  | _ => none }
def FnExactOpNameWrongFalsely : Prop := fnExactOpNameRow.holds Tryd.pinned (OpenSpec.ofChange fnExactOpNameWrong)

/-- 'laws.FnExactOpCode': WHATEVER THE INPUT: true; the input reads as it did. -/
def fnExactOpCodeSpec : ChangeSpec := { name := "fnExactOpCode", vars := ["loop.example/s02979/impl.opNames"], fn := fun _ => fun
  | [d, g1] => { results := [.lit (.bool true)], args := [d], vars := [g1] }
  | _ => none }
def fnExactOpCodeRow : OpenClaim := { program := "ytndpbdpngniepaadoor", sum := "210a688ac40b7132fae59b0362ee811ac04a44e5ec8200781968153009937c2b", func := "loop.example/s02979/laws.FnExactOpCode", spec := "fnExactOpCode", named := ["loop.example/s02979/impl.opNames"], apart := false, laid := [("loop.example/s02979/impl.opNames", laid_loop_example_s02979_impl_opNames)] }
def FnExactOpCodeSaid : Prop := fnExactOpCodeRow.holds Tryd.pinned (OpenSpec.ofChange fnExactOpCodeSpec)

/-- ITS FALSE NEIGHBOUR: 'it returns false'. Refute it at one input. -/
def fnExactOpCodeWrong : ChangeSpec := { name := "fnExactOpCode", vars := ["loop.example/s02979/impl.opNames"], fn := fun _ => fun
  | [d, g1] => { results := [.lit (.bool false)], args := [d], vars := [g1] }
  | _ => none }
def FnExactOpCodeWrongFalsely : Prop := fnExactOpCodeRow.holds Tryd.pinned (OpenSpec.ofChange fnExactOpCodeWrong)

/- THE SECOND FORM. 'bulk': how many values and letters a reading holds, each counted each time it is reached (what is shared counts as often as it is met; a slice's spare places count too). A statement '..UptoSaid' is the law's where the arguments, and the package variables that the reading takes, are together of bulk at most 1048576: NARROWER than '..Said'. Prove '..Said' where nothing that the law and all that it calls make is longer than what came in: it says more and counts as full. Else prove '..UptoSaid'. A law counts once. -/
mutual
def uptoBulk {H : Type} : DataW H → Nat
  | .lit (.string bytes) => bytes.length + 1
  | .lit _ => 1
  | .nil => 1
  | .ptr d => uptoBulk d + 1
  | .slice elems spare => uptoBulkAll elems + uptoBulkAll spare + 1
  | .agg parts => uptoBulkAll parts + 1
  | .iface _ d => uptoBulk d + 1
  | .map entries => uptoBulkEntries entries + 1
  | .held _ => 1
def uptoBulkAll {H : Type} : List (DataW H) → Nat
  | [] => 0
  | d :: r => uptoBulk d + uptoBulkAll r
def uptoBulkEntries {H : Type} : List (Lit × DataW H) → Nat
  | [] => 0
  | x :: r => uptoBulkEntry x + uptoBulkEntries r
def uptoBulkEntry {H : Type} : Lit × DataW H → Nat
  | (.string bytes, d) => bytes.length + uptoBulk d + 1
  | (_, d) => uptoBulk d + 1
 end
def uptoSmall : (H : Type) → List (DataW H) → Bool := fun _ ds => decide (uptoBulkAll ds ≤ 1048576)
def OpenSpec.upto (s : _root_.Go.ChangeSpec) : _root_.Go.OpenSpec := { _root_.Go.OpenSpec.ofChange s with cond := some uptoSmall }

/-- 'laws.FnExactPack', WHERE WHAT IT READS IS OF BULK AT MOST 1048576: true; the input reads as it did. -/
def fnExactPackUptoRow : OpenClaim := { program := "ytndpbdpngniepaadoor", sum := "210a688ac40b7132fae59b0362ee811ac04a44e5ec8200781968153009937c2b", func := "loop.example/s02979/laws.FnExactPack", spec := "fnExactPack", named := ["loop.example/s02979/impl.spans"], apart := false, laid := [("loop.example/s02979/impl.spans", laid_loop_example_s02979_impl_spans)], narrowed := true }
def FnExactPackUptoSaid : Prop := fnExactPackUptoRow.holds Tryd.pinned (OpenSpec.upto fnExactPackSpec)

/-- 'laws.FnExactUnpack', WHERE WHAT IT READS IS OF BULK AT MOST 1048576: true; the input reads as it did. -/
def fnExactUnpackUptoRow : OpenClaim := { program := "ytndpbdpngniepaadoor", sum := "210a688ac40b7132fae59b0362ee811ac04a44e5ec8200781968153009937c2b", func := "loop.example/s02979/laws.FnExactUnpack", spec := "fnExactUnpack", named := ["loop.example/s02979/impl.spans"], apart := false, laid := [("loop.example/s02979/impl.spans", laid_loop_example_s02979_impl_spans)], narrowed := true }
def FnExactUnpackUptoSaid : Prop := fnExactUnpackUptoRow.holds Tryd.pinned (OpenSpec.upto fnExactUnpackSpec)

/-- 'laws.FnExactOpName', WHERE WHAT IT READS IS OF BULK AT MOST 1048576: true; the input reads as it did. -/
def fnExactOpNameUptoRow : OpenClaim := { program := "ytndpbdpngniepaadoor", sum := "210a688ac40b7132fae59b0362ee811ac04a44e5ec8200781968153009937c2b", func := "loop.example/s02979/laws.FnExactOpName", spec := "fnExactOpName", named := ["loop.example/s02979/impl.opNames"], apart := false, laid := [("loop.example/s02979/impl.opNames", laid_loop_example_s02979_impl_opNames)], narrowed := true }
def FnExactOpNameUptoSaid : Prop := fnExactOpNameUptoRow.holds Tryd.pinned (OpenSpec.upto fnExactOpNameSpec)

/-- 'laws.FnExactOpCode', WHERE WHAT IT READS IS OF BULK AT MOST 1048576: true; the input reads as it did. -/
def fnExactOpCodeUptoRow : OpenClaim := { program := "ytndpbdpngniepaadoor", sum := "210a688ac40b7132fae59b0362ee811ac04a44e5ec8200781968153009937c2b", func := "loop.example/s02979/laws.FnExactOpCode", spec := "fnExactOpCode", named := ["loop.example/s02979/impl.opNames"], apart := false, laid := [("loop.example/s02979/impl.opNames", laid_loop_example_s02979_impl_opNames)], narrowed := true }
def FnExactOpCodeUptoSaid : Prop := fnExactOpCodeUptoRow.holds Tryd.pinned (OpenSpec.upto fnExactOpCodeSpec)

end Rows
end Go.Proofs.YtndpbdpngniepaaDoor
