/-
  NARROWER THAN 'FOR EVERY INPUT', by the rows' own cells (each row's printed sentence says how): FnExactLoad: laid · FnExactTops: laid · FnExactVerify: laid.
  DERIVED. THE GIVEN ROWS OF THIS SEAT. 3 by the template 'for every input the law returns true; each argument reads behind the call as it read before'; 0 by the template 'total and deterministic' (their statements: YtckapapejfnojaaGreatDoorTotals.lean).
  GIVEN WITH THE SEED: the statements are not yours to turn. If you find one false, say at which input.
  Laid BY PROGRAM, IN A SANDBOX (cutbox-rows.mjs): the forced cells as the released guide's own fill.sh prints them over the translation 5885a7576997d08d… (all of the seat's roots in one cut). By AI agents, Wed Nov 11 2026. No macro, syntax, notation, axiom, sorry.
-/
import Derived.Test.YtckapapejfnojaaGreatDoorChecked
import GoSem.Claim
import GoSem.ClaimJoined
import GoSem.ClaimMapViews
import Derived.JoinedTies
import Derived.KernelRfl
namespace Go.Proofs.YtckapapejfnojaaGreatDoor
/- THE CELL 'sum', in the pinned program and in every row, IS THE sha256 OF THE DUMP (.gsa) THAT YtckapapejfnojaaGreatDoorProg.lean LOADS. Nothing in Lean hashes anything: it is a label: what it is worth is what the hold of that sum in a sandbox is worth. -/
noncomputable def Tryz.pinned : Pinned := { name := "ytckapapejfnojaagreatdoor", sum := "5885a7576997d08d2a3dfeb1c199b608323acfa7249be78cec05a969875072fa", checked := Tryz.checked }
namespace Rows
def none {H : Type} : Left H := { results := [], args := [] }

/- WHAT THE LISTED PACKAGE-LEVEL VARIABLES READ AS WHEN THE CALL BEGINS. Each datum BY PROGRAM (the guide's laid-datum.mjs) off the statement by which the dump's own 'gosem.cut.vars' lays the variable. In a bare row this is a premise. The card (YtckapapejfnojaaGreatDoorCards.lean) ties it to the program's text. -/
def laid_errors_errorType {H : Type} : DataW H := .iface "internal/reflectlite.rtype" (.agg [.ptr (.lit (.string [101, 114, 114, 111, 114]))])
def laid_loop_example_s02979_impl_spans {H : Type} : DataW H := .agg [.agg [.lit (.int .i64 0), .lit (.int .i64 6)], .agg [.lit (.int .i64 6), .lit (.int .i64 8)], .agg [.lit (.int .i64 14), .lit (.int .i64 9)], .agg [.lit (.int .i64 23), .lit (.int .i64 9)]]

/-- 'laws.FnExactLoad': WHATEVER THE INPUT: true; the input reads as it did. -/
def fnExactLoadSpec : ChangeSpec := { name := "fnExactLoad", fn := fun _ => fun
  | [d] => { results := [.lit (.bool true)], args := [d] }
  | _ => none }
def fnExactLoadRow : OpenClaim := { program := "ytckapapejfnojaagreatdoor", sum := "5885a7576997d08d2a3dfeb1c199b608323acfa7249be78cec05a969875072fa", func := "loop.example/s02979/laws.FnExactLoad", spec := "fnExactLoad", inPlace := ["internal/reflectlite.ValueOf", "(internal/reflectlite.Value).Type", "(internal/reflectlite.Value).IsNil", "internal/reflectlite.TypeOf", "(internal/reflectlite.Value).Elem", "(internal/reflectlite.Value).Set"], unfollowed := true, recurses := true, named := ["errors.errorType"], apart := false, laid := [("errors.errorType", laid_errors_errorType)] }
def FnExactLoadSaid : Prop := fnExactLoadRow.holds Tryz.pinned (OpenSpec.ofChange fnExactLoadSpec)

/-- ITS FALSE NEIGHBOUR: 'it returns false'. Refute it at one input. -/
def fnExactLoadWrong : ChangeSpec := { name := "fnExactLoad", fn := fun _ => fun
  | [d] => { results := [.lit (.bool false)], args := [d] }
  | _ => none }
def FnExactLoadWrongFalsely : Prop := fnExactLoadRow.holds Tryz.pinned (OpenSpec.ofChange fnExactLoadWrong)

/-- 'laws.FnExactTops': WHATEVER THE INPUT: true; the input reads as it did. -/
def fnExactTopsSpec : ChangeSpec := { name := "fnExactTops", vars := ["loop.example/s02979/impl.spans"], fn := fun _ => fun
  | [d1, d2, g1] => { results := [.lit (.bool true)], args := [d1, d2], vars := [g1] }
  | _ => none }
def fnExactTopsRow : OpenClaim := { program := "ytckapapejfnojaagreatdoor", sum := "5885a7576997d08d2a3dfeb1c199b608323acfa7249be78cec05a969875072fa", func := "loop.example/s02979/laws.FnExactTops", spec := "fnExactTops", unfollowed := true, recurses := true, named := ["loop.example/s02979/impl.spans"], apart := false, laid := [("loop.example/s02979/impl.spans", laid_loop_example_s02979_impl_spans)] }
def FnExactTopsSaid : Prop := fnExactTopsRow.holds Tryz.pinned (OpenSpec.ofChange fnExactTopsSpec)

/-- ITS FALSE NEIGHBOUR: 'it returns false'. Refute it at one input. -/
def fnExactTopsWrong : ChangeSpec := { name := "fnExactTops", vars := ["loop.example/s02979/impl.spans"], fn := fun _ => fun
  | [d1, d2, g1] => { results := [.lit (.bool false)], args := [d1, d2], vars := [g1] }
  | _ => none }
def FnExactTopsWrongFalsely : Prop := fnExactTopsRow.holds Tryz.pinned (OpenSpec.ofChange fnExactTopsWrong)

/-- 'laws.FnExactVerify': WHATEVER THE INPUT: true; the input reads as it did. -/
def fnExactVerifySpec : ChangeSpec := { name := "fnExactVerify", vars := ["loop.example/s02979/impl.spans"], fn := fun _ => fun
  | [d, g1] => { results := [.lit (.bool true)], args := [d], vars := [g1] }
  | _ => none }
def fnExactVerifyRow : OpenClaim := { program := "ytckapapejfnojaagreatdoor", sum := "5885a7576997d08d2a3dfeb1c199b608323acfa7249be78cec05a969875072fa", func := "loop.example/s02979/laws.FnExactVerify", spec := "fnExactVerify", unfollowed := true, recurses := true, named := ["loop.example/s02979/impl.spans"], apart := false, laid := [("loop.example/s02979/impl.spans", laid_loop_example_s02979_impl_spans)] }
def FnExactVerifySaid : Prop := fnExactVerifyRow.holds Tryz.pinned (OpenSpec.ofChange fnExactVerifySpec)

/-- ITS FALSE NEIGHBOUR: 'it returns false'. Refute it at one input. -/
def fnExactVerifyWrong : ChangeSpec := { name := "fnExactVerify", vars := ["loop.example/s02979/impl.spans"], fn := fun _ => fun
  | [d, g1] => { results := [.lit (.bool false)], args := [d], vars := [g1] }
  | _ => none }
def FnExactVerifyWrongFalsely : Prop := fnExactVerifyRow.holds Tryz.pinned (OpenSpec.ofChange fnExactVerifyWrong)

/- THE SECOND FORM. 'bulk': how many values and letters a reading holds, each counted each time it is reached (what is shared counts as often as it is met; a slice's spare places count too). A statement '..UptoSaid' is the law's where the arguments, and the package variables that the reading takes, are together of bulk at most 1048576: NARROWER than '..Said'. Prove '..Said' where nothing that the law and all that it calls make is longer than what came in: it says more and counts as full. Else prove '..UptoSaid'. A law counts once. -/
mutual
def uptoBulk {H : Type} : DataW H → Nat
  | .lit (.string bytes) => bytes.length + 1
  | .lit _ => 1
  | .nil => 1
  | .ptr d => uptoBulk d + 1
  | .slice elems spare => uptoBulkAll elems + uptoBulkAll spare + 1
  | .agg parts => uptoBulkAll parts + 1
  | .iface _ d => uptoBulk d + 1
  | .map entries => uptoBulkEntries entries + 1
  | .held _ => 1
def uptoBulkAll {H : Type} : List (DataW H) → Nat
  | [] => 0
  | d :: r => uptoBulk d + uptoBulkAll r
def uptoBulkEntries {H : Type} : List (Lit × DataW H) → Nat
  | [] => 0
  | x :: r => uptoBulkEntry x + uptoBulkEntries r
def uptoBulkEntry {H : Type} : Lit × DataW H → Nat
  | (.string bytes, d) => bytes.length + uptoBulk d + 1
  | (_, d) => uptoBulk d + 1
 end
def uptoSmall : (H : Type) → List (DataW H) → Bool := fun _ ds => decide (uptoBulkAll ds ≤ 1048576)
def OpenSpec.upto (s : _root_.Go.ChangeSpec) : _root_.Go.OpenSpec := { _root_.Go.OpenSpec.ofChange s with cond := some uptoSmall }

/-- 'laws.FnExactLoad', WHERE WHAT IT READS IS OF BULK AT MOST 1048576: true; the input reads as it did. -/
def fnExactLoadUptoRow : OpenClaim := { program := "ytckapapejfnojaagreatdoor", sum := "5885a7576997d08d2a3dfeb1c199b608323acfa7249be78cec05a969875072fa", func := "loop.example/s02979/laws.FnExactLoad", spec := "fnExactLoad", inPlace := ["internal/reflectlite.ValueOf", "(internal/reflectlite.Value).Type", "(internal/reflectlite.Value).IsNil", "internal/reflectlite.TypeOf", "(internal/reflectlite.Value).Elem", "(internal/reflectlite.Value).Set"], unfollowed := true, recurses := true, named := ["errors.errorType"], apart := false, laid := [("errors.errorType", laid_errors_errorType)], narrowed := true }
def FnExactLoadUptoSaid : Prop := fnExactLoadUptoRow.holds Tryz.pinned (OpenSpec.upto fnExactLoadSpec)

/-- 'laws.FnExactTops', WHERE WHAT IT READS IS OF BULK AT MOST 1048576: true; the input reads as it did. -/
def fnExactTopsUptoRow : OpenClaim := { program := "ytckapapejfnojaagreatdoor", sum := "5885a7576997d08d2a3dfeb1c199b608323acfa7249be78cec05a969875072fa", func := "loop.example/s02979/laws.FnExactTops", spec := "fnExactTops", unfollowed := true, recurses := true, named := ["loop.example/s02979/impl.spans"], apart := false, laid := [("loop.example/s02979/impl.spans", laid_loop_example_s02979_impl_spans)], narrowed := true }
def FnExactTopsUptoSaid : Prop := fnExactTopsUptoRow.holds Tryz.pinned (OpenSpec.upto fnExactTopsSpec)

/-- 'laws.FnExactVerify', WHERE WHAT IT READS IS OF BULK AT MOST 1048576: true; the input reads as it did. -/
def fnExactVerifyUptoRow : OpenClaim := { program := "ytckapapejfnojaagreatdoor", sum := "5885a7576997d08d2a3dfeb1c199b608323acfa7249be78cec05a969875072fa", func := "loop.example/s02979/laws.FnExactVerify", spec := "fnExactVerify", unfollowed := true, recurses := true, named := ["loop.example/s02979/impl.spans"], apart := false, laid := [("loop.example/s02979/impl.spans", laid_loop_example_s02979_impl_spans)], narrowed := true }
def FnExactVerifyUptoSaid : Prop := fnExactVerifyUptoRow.holds Tryz.pinned (OpenSpec.upto fnExactVerifySpec)

end Rows
end Go.Proofs.YtckapapejfnojaaGreatDoor
