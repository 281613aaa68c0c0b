/-
  NARROWER THAN 'FOR EVERY INPUT', by the rows' own cells (each row's printed sentence says how): FnExactJudgeAll: ifaces, laid.
  DERIVED. THE GIVEN ROWS OF THIS SEAT. 1 by the template 'for every input the law returns true; each argument reads behind the call as it read before'; 0 by the template 'total and deterministic' (their statements: YtbfolanfbagofaaGreatDoorTotals.lean).
  GIVEN WITH THE SEED: the statements are not yours to turn. If you find one false, say at which input.
  Laid BY PROGRAM, IN A SANDBOX (cutbox-rows.mjs): the forced cells as the released guide's own fill.sh prints them over the translation c87a8063f2483c38… (all of the seat's roots in one cut). By AI agents, Wed Nov 11 2026. No macro, syntax, notation, axiom, sorry.
-/
import Derived.Test.YtbfolanfbagofaaGreatDoorChecked
import GoSem.Claim
import GoSem.ClaimJoined
import GoSem.ClaimMapViews
import Derived.JoinedTies
import Derived.KernelRfl
namespace Go.Proofs.YtbfolanfbagofaaGreatDoor
/- THE CELL 'sum', in the pinned program and in every row, IS THE sha256 OF THE DUMP (.gsa) THAT YtbfolanfbagofaaGreatDoorProg.lean LOADS. Nothing in Lean hashes anything: it is a label: what it is worth is what the hold of that sum in a sandbox is worth. -/
noncomputable def Tryz.pinned : Pinned := { name := "ytbfolanfbagofaagreatdoor", sum := "c87a8063f2483c38f06899df7d14eb6ea990f2ad3ea6d689f0e04ed52cfc6e01", checked := Tryz.checked }
namespace Rows
def none {H : Type} : Left H := { results := [], args := [] }

/- WHAT THE LISTED PACKAGE-LEVEL VARIABLES READ AS WHEN THE CALL BEGINS. Each datum BY PROGRAM (the guide's laid-datum.mjs) off the statement by which the dump's own 'gosem.cut.vars' lays the variable. In a bare row this is a premise. The card (YtbfolanfbagofaaGreatDoorCards.lean) ties it to the program's text. -/
def laid_loop_example_g00468_impl_wordNames {H : Type} : DataW H := .agg [.agg [.lit (.int .i64 1), .lit (.int .i64 0)], .agg [.lit (.int .i64 1), .lit (.int .i64 1)], .agg [.lit (.int .i64 1), .lit (.int .i64 2)], .agg [.lit (.int .i64 1), .lit (.int .i64 3)], .agg [.lit (.int .i64 2), .lit (.int .i64 1)], .agg [.lit (.int .i64 2), .lit (.int .i64 2)], .agg [.lit (.int .i64 2), .lit (.int .i64 3)], .agg [.lit (.int .i64 2), .lit (.int .i64 4)], .agg [.lit (.int .i64 2), .lit (.int .i64 5)], .agg [.lit (.int .i64 2), .lit (.int .i64 6)], .agg [.lit (.int .i64 3), .lit (.int .i64 0)], .agg [.lit (.int .i64 3), .lit (.int .i64 1)], .agg [.lit (.int .i64 3), .lit (.int .i64 2)], .agg [.lit (.int .i64 4), .lit (.int .i64 0)], .agg [.lit (.int .i64 5), .lit (.int .i64 1)], .agg [.lit (.int .i64 5), .lit (.int .i64 2)], .agg [.lit (.int .i64 5), .lit (.int .i64 3)], .agg [.lit (.int .i64 5), .lit (.int .i64 4)], .agg [.lit (.int .i64 5), .lit (.int .i64 5)], .agg [.lit (.int .i64 5), .lit (.int .i64 6)]]
def laid_loop_example_g00468_impl_errNoMachine {H : Type} : DataW H := .iface "*errors.errorString" (.ptr (.agg [.lit (.string [105, 116, 32, 105, 115, 32, 110, 111, 116, 32, 77, 97, 99, 104, 105, 110, 101, 79, 107])]))
def laid_loop_example_g00468_impl_errNotSo {H : Type} : DataW H := .iface "*errors.errorString" (.ptr (.agg [.lit (.string [119, 104, 97, 116, 32, 99, 97, 109, 101, 32, 111, 102, 32, 97, 32, 99, 97, 108, 108, 32, 109, 97, 121, 32, 110, 111, 116, 32, 99, 111, 109, 101, 32, 111, 102, 32, 105, 116])]))
def laid_loop_example_g00468_impl_errNotThen {H : Type} : DataW H := .iface "*errors.errorString" (.ptr (.agg [.lit (.string [97, 32, 99, 97, 108, 108, 32, 116, 104, 97, 116, 32, 101, 110, 100, 101, 100, 32, 119, 97, 115, 32, 110, 111, 116, 32, 115, 111, 32, 119, 104, 105, 108, 101, 32, 105, 116, 32, 119, 97, 115, 32, 97, 115, 107, 101, 100])]))
def laid_loop_example_g00468_impl_errNotBehind {H : Type} : DataW H := .iface "*errors.errorString" (.ptr (.agg [.lit (.string [97, 32, 116, 104, 114, 101, 97, 100, 32, 98, 101, 103, 97, 110, 32, 97, 32, 99, 97, 108, 108, 32, 119, 104, 105, 108, 101, 32, 105, 116, 32, 119, 97, 115, 32, 97, 116, 32, 97, 110, 111, 116, 104, 101, 114, 32, 111, 110, 101])]))

/-- 'laws.FnExactJudgeAll': WHATEVER THE INPUT: true; the input reads as it did. -/
def fnExactJudgeAllSpec : ChangeSpec := { name := "fnExactJudgeAll", vars := ["loop.example/g00468/impl.errNoMachine", "loop.example/g00468/impl.errNotSo", "loop.example/g00468/impl.wordNames", "loop.example/g00468/impl.errNotThen", "loop.example/g00468/impl.errNotBehind"], fn := fun _ => fun
  | [d, g1, g2, g3, g4, g5] => { results := [.lit (.bool true)], args := [d], vars := [g1, g2, g3, g4, g5] }
  | _ => none }
def fnExactJudgeAllRow : OpenClaim := { program := "ytbfolanfbagofaagreatdoor", sum := "c87a8063f2483c38f06899df7d14eb6ea990f2ad3ea6d689f0e04ed52cfc6e01", func := "loop.example/g00468/laws.FnExactJudgeAll", spec := "fnExactJudgeAll", inPlace := ["internal/reflectlite.TypeOf"], unfollowed := true, recurses := true, named := ["loop.example/g00468/impl.errNoMachine", "loop.example/g00468/impl.errNotSo", "loop.example/g00468/impl.wordNames", "loop.example/g00468/impl.errNotThen", "loop.example/g00468/impl.errNotBehind"], ifaces := true, apart := false, laid := [("loop.example/g00468/impl.wordNames", laid_loop_example_g00468_impl_wordNames), ("loop.example/g00468/impl.errNoMachine", laid_loop_example_g00468_impl_errNoMachine), ("loop.example/g00468/impl.errNotSo", laid_loop_example_g00468_impl_errNotSo), ("loop.example/g00468/impl.errNotThen", laid_loop_example_g00468_impl_errNotThen), ("loop.example/g00468/impl.errNotBehind", laid_loop_example_g00468_impl_errNotBehind)] }
def FnExactJudgeAllSaid : Prop := fnExactJudgeAllRow.holds Tryz.pinned (OpenSpec.ofChange fnExactJudgeAllSpec)

/-- ITS FALSE NEIGHBOUR: 'it returns false'. Refute it at one input. -/
def fnExactJudgeAllWrong : ChangeSpec := { name := "fnExactJudgeAll", vars := ["loop.example/g00468/impl.errNoMachine", "loop.example/g00468/impl.errNotSo", "loop.example/g00468/impl.wordNames", "loop.example/g00468/impl.errNotThen", "loop.example/g00468/impl.errNotBehind"], fn := fun _ => fun
  | [d, g1, g2, g3, g4, g5] => { results := [.lit (.bool false)], args := [d], vars := [g1, g2, g3, g4, g5] }
  | _ => none }
def FnExactJudgeAllWrongFalsely : Prop := fnExactJudgeAllRow.holds Tryz.pinned (OpenSpec.ofChange fnExactJudgeAllWrong)

/- THE SECOND FORM. 'bulk': how many values and letters a reading holds, each counted each time it is reached (what is shared counts as often as it is met; a slice's spare places count too). A statement '..UptoSaid' is the law's where the arguments, and the package variables that the reading takes, are together of bulk at most 1048576: NARROWER than '..Said'. Prove '..Said' where nothing that the law and all that it calls make is longer than what came in: it says more and counts as full. Else prove '..UptoSaid'. A law counts once. -/
mutual
def uptoBulk {H : Type} : DataW H → Nat
  | .lit (.string bytes) => bytes.length + 1
  | .lit _ => 1
  | .nil => 1
  | .ptr d => uptoBulk d + 1
  | .slice elems spare => uptoBulkAll elems + uptoBulkAll spare + 1
  | .agg parts => uptoBulkAll parts + 1
  | .iface _ d => uptoBulk d + 1
  | .map entries => uptoBulkEntries entries + 1
  | .held _ => 1
def uptoBulkAll {H : Type} : List (DataW H) → Nat
  | [] => 0
  | d :: r => uptoBulk d + uptoBulkAll r
def uptoBulkEntries {H : Type} : List (Lit × DataW H) → Nat
  | [] => 0
  | x :: r => uptoBulkEntry x + uptoBulkEntries r
def uptoBulkEntry {H : Type} : Lit × DataW H → Nat
  | (.string bytes, d) => bytes.length + uptoBulk d + 1
  | (_, d) => uptoBulk d + 1
 end
def uptoSmall : (H : Type) → List (DataW H) → Bool := fun _ ds => decide (uptoBulkAll ds ≤ 1048576)
def OpenSpec.upto (s : _root_.Go.ChangeSpec) : _root_.Go.OpenSpec := { _root_.Go.OpenSpec.ofChange s with cond := some uptoSmall }

/-- 'laws.FnExactJudgeAll', WHERE WHAT IT READS IS OF BULK AT MOST 1048576: true; the input reads as it did. -/
def fnExactJudgeAllUptoRow : OpenClaim := { program := "ytbfolanfbagofaagreatdoor", sum := "c87a8063f2483c38f06899df7d14eb6ea990f2ad3ea6d689f0e04ed52cfc6e01", func := "loop.example/g00468/laws.FnExactJudgeAll", spec := "fnExactJudgeAll", inPlace := ["internal/reflectlite.TypeOf"], unfollowed := true, recurses := true, named := ["loop.example/g00468/impl.errNoMachine", "loop.example/g00468/impl.errNotSo", "loop.example/g00468/impl.wordNames", "loop.example/g00468/impl.errNotThen", "loop.example/g00468/impl.errNotBehind"], ifaces := true, apart := false, laid := [("loop.example/g00468/impl.wordNames", laid_loop_example_g00468_impl_wordNames), ("loop.example/g00468/impl.errNoMachine", laid_loop_example_g00468_impl_errNoMachine), ("loop.example/g00468/impl.errNotSo", laid_loop_example_g00468_impl_errNotSo), ("loop.example/g00468/impl.errNotThen", laid_loop_example_g00468_impl_errNotThen), ("loop.example/g00468/impl.errNotBehind", laid_loop_example_g00468_impl_errNotBehind)], narrowed := true }
def FnExactJudgeAllUptoSaid : Prop := fnExactJudgeAllUptoRow.holds Tryz.pinned (OpenSpec.upto fnExactJudgeAllSpec)

end Rows
end Go.Proofs.YtbfolanfbagofaaGreatDoor
