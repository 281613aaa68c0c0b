/-
  NARROWER THAN 'FOR EVERY INPUT', by the rows' own cells (each row's printed sentence says how): FnExactCountAt: laid · FnExactStateAt: laid · FnExactViaAt: laid.
  DERIVED. THE GIVEN ROWS OF THIS SEAT. 3 by the template 'for every input the law returns true; each argument reads behind the call as it read before'; 0 by the template 'total and deterministic' (their statements: YtbfkbbdfjoahcanDoorTotals.lean).
  GIVEN WITH THE SEED: the statements are not yours to turn. If you find one false, say at which input.
  Laid BY PROGRAM, IN A SANDBOX (cutbox-rows.mjs): the forced cells as the released guide's own fill.sh prints them over the translation 45d7c8e4138d9f94… (all of the seat's roots in one cut). By AI agents, Wed Nov 11 2026. No macro, syntax, notation, axiom, sorry.
-/
import Derived.Test.YtbfkbbdfjoahcanDoorChecked
import GoSem.Claim
import GoSem.ClaimJoined
import GoSem.ClaimMapViews
import Derived.JoinedTies
import Derived.KernelRfl
namespace Go.Proofs.YtbfkbbdfjoahcanDoor
/- THE CELL 'sum', in the pinned program and in every row, IS THE sha256 OF THE DUMP (.gsa) THAT YtbfkbbdfjoahcanDoorProg.lean LOADS. Nothing in Lean hashes anything: it is a label: what it is worth is what the hold of that sum in a sandbox is worth. -/
noncomputable def Tryd.pinned : Pinned := { name := "ytbfkbbdfjoahcandoor", sum := "45d7c8e4138d9f94aab3e15a09c331facc7d2c19648f4ad090c39264badad01a", checked := Tryd.checked }
namespace Rows
def none {H : Type} : Left H := { results := [], args := [] }

/- WHAT THE LISTED PACKAGE-LEVEL VARIABLES READ AS WHEN THE CALL BEGINS. Each datum BY PROGRAM (the guide's laid-datum.mjs) off the statement by which the dump's own 'gosem.cut.vars' lays the variable. In a bare row this is a premise. The card (YtbfkbbdfjoahcanDoorCards.lean) ties it to the program's text. -/
def laid_loop_example_g00468_impl_wordNames {H : Type} : DataW H := .agg [.agg [.lit (.int .i64 1), .lit (.int .i64 0)], .agg [.lit (.int .i64 1), .lit (.int .i64 1)], .agg [.lit (.int .i64 1), .lit (.int .i64 2)], .agg [.lit (.int .i64 1), .lit (.int .i64 3)], .agg [.lit (.int .i64 2), .lit (.int .i64 1)], .agg [.lit (.int .i64 2), .lit (.int .i64 2)], .agg [.lit (.int .i64 2), .lit (.int .i64 3)], .agg [.lit (.int .i64 2), .lit (.int .i64 4)], .agg [.lit (.int .i64 2), .lit (.int .i64 5)], .agg [.lit (.int .i64 2), .lit (.int .i64 6)], .agg [.lit (.int .i64 3), .lit (.int .i64 0)], .agg [.lit (.int .i64 3), .lit (.int .i64 1)], .agg [.lit (.int .i64 3), .lit (.int .i64 2)], .agg [.lit (.int .i64 4), .lit (.int .i64 0)], .agg [.lit (.int .i64 5), .lit (.int .i64 1)], .agg [.lit (.int .i64 5), .lit (.int .i64 2)], .agg [.lit (.int .i64 5), .lit (.int .i64 3)], .agg [.lit (.int .i64 5), .lit (.int .i64 4)], .agg [.lit (.int .i64 5), .lit (.int .i64 5)], .agg [.lit (.int .i64 5), .lit (.int .i64 6)]]

/-- 'laws.FnExactCountAt': WHATEVER THE INPUT: true; the input reads as it did. -/
def fnExactCountAtSpec : ChangeSpec := { name := "fnExactCountAt", vars := ["loop.example/g00468/impl.wordNames"], fn := fun _ => fun
  | [d, g1] => { results := [.lit (.bool true)], args := [d], vars := [g1] }
  | _ => none }
def fnExactCountAtRow : OpenClaim := { program := "ytbfkbbdfjoahcandoor", sum := "45d7c8e4138d9f94aab3e15a09c331facc7d2c19648f4ad090c39264badad01a", func := "loop.example/g00468/laws.FnExactCountAt", spec := "fnExactCountAt", named := ["loop.example/g00468/impl.wordNames"], apart := false, laid := [("loop.example/g00468/impl.wordNames", laid_loop_example_g00468_impl_wordNames)] }
def FnExactCountAtSaid : Prop := fnExactCountAtRow.holds Tryd.pinned (OpenSpec.ofChange fnExactCountAtSpec)

/-- ITS FALSE NEIGHBOUR: 'it returns false'. Refute it at one input. -/
def fnExactCountAtWrong : ChangeSpec := { name := "fnExactCountAt", vars := ["loop.example/g00468/impl.wordNames"], fn := fun _ => fun
  | [d, g1] => { results := [.lit (.bool false)], args := [d], vars := [g1] }
  | _ => none }
def FnExactCountAtWrongFalsely : Prop := fnExactCountAtRow.holds Tryd.pinned (OpenSpec.ofChange fnExactCountAtWrong)

/-- 'laws.FnExactStateAt': WHATEVER THE INPUT: true; the input reads as it did. -/
def fnExactStateAtSpec : ChangeSpec := { name := "fnExactStateAt", vars := ["loop.example/g00468/impl.wordNames"], fn := fun _ => fun
  | [g1] => { results := [.lit (.bool true)], args := [], vars := [g1] }
  | _ => none }
def fnExactStateAtRow : OpenClaim := { program := "ytbfkbbdfjoahcandoor", sum := "45d7c8e4138d9f94aab3e15a09c331facc7d2c19648f4ad090c39264badad01a", func := "loop.example/g00468/laws.FnExactStateAt", spec := "fnExactStateAt", named := ["loop.example/g00468/impl.wordNames"], apart := false, laid := [("loop.example/g00468/impl.wordNames", laid_loop_example_g00468_impl_wordNames)] }
def FnExactStateAtSaid : Prop := fnExactStateAtRow.holds Tryd.pinned (OpenSpec.ofChange fnExactStateAtSpec)

/-- ITS FALSE NEIGHBOUR: 'it returns false'. Refute it at one input. -/
def fnExactStateAtWrong : ChangeSpec := { name := "fnExactStateAt", vars := ["loop.example/g00468/impl.wordNames"], fn := fun _ => fun
  | [g1] => { results := [.lit (.bool false)], args := [], vars := [g1] }
  | _ => none }
def FnExactStateAtWrongFalsely : Prop := fnExactStateAtRow.holds Tryd.pinned (OpenSpec.ofChange fnExactStateAtWrong)

/-- 'laws.FnExactViaAt': WHATEVER THE INPUT: true; the input reads as it did. -/
def fnExactViaAtSpec : ChangeSpec := { name := "fnExactViaAt", vars := ["loop.example/g00468/impl.wordNames"], fn := fun _ => fun
  | [d, g1] => { results := [.lit (.bool true)], args := [d], vars := [g1] }
  | _ => none }
def fnExactViaAtRow : OpenClaim := { program := "ytbfkbbdfjoahcandoor", sum := "45d7c8e4138d9f94aab3e15a09c331facc7d2c19648f4ad090c39264badad01a", func := "loop.example/g00468/laws.FnExactViaAt", spec := "fnExactViaAt", named := ["loop.example/g00468/impl.wordNames"], apart := false, laid := [("loop.example/g00468/impl.wordNames", laid_loop_example_g00468_impl_wordNames)] }
def FnExactViaAtSaid : Prop := fnExactViaAtRow.holds Tryd.pinned (OpenSpec.ofChange fnExactViaAtSpec)

/-- ITS FALSE NEIGHBOUR: 'it returns false'. Refute it at one input. -/
def fnExactViaAtWrong : ChangeSpec := { name := "fnExactViaAt", vars := ["loop.example/g00468/impl.wordNames"], fn := fun _ => fun
  | [d, g1] => { results := [.lit (.bool false)], args := [d], vars := [g1] }
  | _ => none }
def FnExactViaAtWrongFalsely : Prop := fnExactViaAtRow.holds Tryd.pinned (OpenSpec.ofChange fnExactViaAtWrong)

/- THE SECOND FORM. 'bulk': how many values and letters a reading holds, each counted each time it is reached (what is shared counts as often as it is met; a slice's spare places count too). A statement '..UptoSaid' is the law's where the arguments, and the package variables that the reading takes, are together of bulk at most 1048576: NARROWER than '..Said'. Prove '..Said' where nothing that the law and all that it calls make is longer than what came in: it says more and counts as full. Else prove '..UptoSaid'. A law counts once. -/
mutual
def uptoBulk {H : Type} : DataW H → Nat
  | .lit (.string bytes) => bytes.length + 1
  | .lit _ => 1
  | .nil => 1
  | .ptr d => uptoBulk d + 1
  | .slice elems spare => uptoBulkAll elems + uptoBulkAll spare + 1
  | .agg parts => uptoBulkAll parts + 1
  | .iface _ d => uptoBulk d + 1
  | .map entries => uptoBulkEntries entries + 1
  | .held _ => 1
def uptoBulkAll {H : Type} : List (DataW H) → Nat
  | [] => 0
  | d :: r => uptoBulk d + uptoBulkAll r
def uptoBulkEntries {H : Type} : List (Lit × DataW H) → Nat
  | [] => 0
  | x :: r => uptoBulkEntry x + uptoBulkEntries r
def uptoBulkEntry {H : Type} : Lit × DataW H → Nat
  | (.string bytes, d) => bytes.length + uptoBulk d + 1
  | (_, d) => uptoBulk d + 1
 end
def uptoSmall : (H : Type) → List (DataW H) → Bool := fun _ ds => decide (uptoBulkAll ds ≤ 1048576)
def OpenSpec.upto (s : _root_.Go.ChangeSpec) : _root_.Go.OpenSpec := { _root_.Go.OpenSpec.ofChange s with cond := some uptoSmall }

/-- 'laws.FnExactCountAt', WHERE WHAT IT READS IS OF BULK AT MOST 1048576: true; the input reads as it did. -/
def fnExactCountAtUptoRow : OpenClaim := { program := "ytbfkbbdfjoahcandoor", sum := "45d7c8e4138d9f94aab3e15a09c331facc7d2c19648f4ad090c39264badad01a", func := "loop.example/g00468/laws.FnExactCountAt", spec := "fnExactCountAt", named := ["loop.example/g00468/impl.wordNames"], apart := false, laid := [("loop.example/g00468/impl.wordNames", laid_loop_example_g00468_impl_wordNames)], narrowed := true }
def FnExactCountAtUptoSaid : Prop := fnExactCountAtUptoRow.holds Tryd.pinned (OpenSpec.upto fnExactCountAtSpec)

/-- 'laws.FnExactStateAt', WHERE WHAT IT READS IS OF BULK AT MOST 1048576: true; the input reads as it did. -/
def fnExactStateAtUptoRow : OpenClaim := { program := "ytbfkbbdfjoahcandoor", sum := "45d7c8e4138d9f94aab3e15a09c331facc7d2c19648f4ad090c39264badad01a", func := "loop.example/g00468/laws.FnExactStateAt", spec := "fnExactStateAt", named := ["loop.example/g00468/impl.wordNames"], apart := false, laid := [("loop.example/g00468/impl.wordNames", laid_loop_example_g00468_impl_wordNames)], narrowed := true }
def FnExactStateAtUptoSaid : Prop := fnExactStateAtUptoRow.holds Tryd.pinned (OpenSpec.upto fnExactStateAtSpec)

/-- 'laws.FnExactViaAt', WHERE WHAT IT READS IS OF BULK AT MOST 1048576: true; the input reads as it did. -/
def fnExactViaAtUptoRow : OpenClaim := { program := "ytbfkbbdfjoahcandoor", sum := "45d7c8e4138d9f94aab3e15a09c331facc7d2c19648f4ad090c39264badad01a", func := "loop.example/g00468/laws.FnExactViaAt", spec := "fnExactViaAt", named := ["loop.example/g00468/impl.wordNames"], apart := false, laid := [("loop.example/g00468/impl.wordNames", laid_loop_example_g00468_impl_wordNames)], narrowed := true }
def FnExactViaAtUptoSaid : Prop := fnExactViaAtUptoRow.holds Tryd.pinned (OpenSpec.upto fnExactViaAtSpec)

end Rows
end Go.Proofs.YtbfkbbdfjoahcanDoor
