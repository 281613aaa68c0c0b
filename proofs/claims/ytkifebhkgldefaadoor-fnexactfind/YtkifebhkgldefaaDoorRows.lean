/-
  NARROWER THAN 'FOR EVERY INPUT', by the rows' own cells (each row's printed sentence says how): FnExactRowsIn: laid · FnExactWhole: laid · FnExactStray: laid · FnExactFind: laid · FnExactFindVia: laid.
  DERIVED. THE GIVEN ROWS OF THIS SEAT. 5 by the template 'for every input the law returns true; each argument reads behind the call as it read before'; 0 by the template 'total and deterministic' (their statements: YtkifebhkgldefaaDoorTotals.lean).
  GIVEN WITH THE SEED: the statements are not yours to turn. If you find one false, say at which input.
  Laid BY PROGRAM, IN A SANDBOX (cutbox-rows.mjs): the forced cells as the released guide's own fill.sh prints them over the translation 06142d62f704e1fb… (all of the seat's roots in one cut). By AI agents, Wed Nov 11 2026. No macro, syntax, notation, axiom, sorry.
-/
import Derived.Test.YtkifebhkgldefaaDoorChecked
import GoSem.Claim
import GoSem.ClaimJoined
import GoSem.ClaimMapViews
import Derived.JoinedTies
import Derived.KernelRfl
namespace Go.Proofs.YtkifebhkgldefaaDoor
/- THE CELL 'sum', in the pinned program and in every row, IS THE sha256 OF THE DUMP (.gsa) THAT YtkifebhkgldefaaDoorProg.lean LOADS. Nothing in Lean hashes anything: it is a label: what it is worth is what the hold of that sum in a sandbox is worth. -/
noncomputable def Tryd.pinned : Pinned := { name := "ytkifebhkgldefaadoor", sum := "06142d62f704e1fbcdf32d5f335cdad12ee89ba83bffe0a7ddd0366d5028dd33", checked := Tryd.checked }
namespace Rows
def none {H : Type} : Left H := { results := [], args := [] }

/- WHAT THE LISTED PACKAGE-LEVEL VARIABLES READ AS WHEN THE CALL BEGINS. Each datum BY PROGRAM (the guide's laid-datum.mjs) off the statement by which the dump's own 'gosem.cut.vars' lays the variable. In a bare row this is a premise. The card (YtkifebhkgldefaaDoorCards.lean) ties it to the program's text. -/
def laid_loop_example_g00468_impl_wordNames {H : Type} : DataW H := .agg [.agg [.lit (.int .i64 1), .lit (.int .i64 0)], .agg [.lit (.int .i64 1), .lit (.int .i64 1)], .agg [.lit (.int .i64 1), .lit (.int .i64 2)], .agg [.lit (.int .i64 1), .lit (.int .i64 3)], .agg [.lit (.int .i64 2), .lit (.int .i64 1)], .agg [.lit (.int .i64 2), .lit (.int .i64 2)], .agg [.lit (.int .i64 2), .lit (.int .i64 3)], .agg [.lit (.int .i64 2), .lit (.int .i64 4)], .agg [.lit (.int .i64 2), .lit (.int .i64 5)], .agg [.lit (.int .i64 2), .lit (.int .i64 6)], .agg [.lit (.int .i64 3), .lit (.int .i64 0)], .agg [.lit (.int .i64 3), .lit (.int .i64 1)], .agg [.lit (.int .i64 3), .lit (.int .i64 2)], .agg [.lit (.int .i64 4), .lit (.int .i64 0)], .agg [.lit (.int .i64 5), .lit (.int .i64 1)], .agg [.lit (.int .i64 5), .lit (.int .i64 2)], .agg [.lit (.int .i64 5), .lit (.int .i64 3)], .agg [.lit (.int .i64 5), .lit (.int .i64 4)], .agg [.lit (.int .i64 5), .lit (.int .i64 5)], .agg [.lit (.int .i64 5), .lit (.int .i64 6)]]

/-- 'laws.FnExactRowsIn': WHATEVER THE INPUT: true; the input reads as it did. -/
def fnExactRowsInSpec : ChangeSpec := { name := "fnExactRowsIn", vars := ["loop.example/g00468/impl.wordNames"], fn := fun _ => fun
  | [d, g1] => { results := [.lit (.bool true)], args := [d], vars := [g1] }
  | _ => none }
def fnExactRowsInRow : OpenClaim := { program := "ytkifebhkgldefaadoor", sum := "06142d62f704e1fbcdf32d5f335cdad12ee89ba83bffe0a7ddd0366d5028dd33", func := "loop.example/g00468/laws.FnExactRowsIn", spec := "fnExactRowsIn", named := ["loop.example/g00468/impl.wordNames"], apart := false, laid := [("loop.example/g00468/impl.wordNames", laid_loop_example_g00468_impl_wordNames)] }
def FnExactRowsInSaid : Prop := fnExactRowsInRow.holds Tryd.pinned (OpenSpec.ofChange fnExactRowsInSpec)

/-- ITS FALSE NEIGHBOUR: 'it returns false'. Refute it at one input. -/
def fnExactRowsInWrong : ChangeSpec := { name := "fnExactRowsIn", vars := ["loop.example/g00468/impl.wordNames"], fn := fun _ => fun
  | [d, g1] => { results := [.lit (.bool false)], args := [d], vars := [g1] }
  | _ => none }
def FnExactRowsInWrongFalsely : Prop := fnExactRowsInRow.holds Tryd.pinned (OpenSpec.ofChange fnExactRowsInWrong)

/-- 'laws.FnExactWhole': WHATEVER THE INPUT: true; the input reads as it did. -/
def fnExactWholeSpec : ChangeSpec := { name := "fnExactWhole", vars := ["loop.example/g00468/impl.wordNames"], fn := fun _ => fun
  | [d, g1] => { results := [.lit (.bool true)], args := [d], vars := [g1] }
  | _ => none }
def fnExactWholeRow : OpenClaim := { program := "ytkifebhkgldefaadoor", sum := "06142d62f704e1fbcdf32d5f335cdad12ee89ba83bffe0a7ddd0366d5028dd33", func := "loop.example/g00468/laws.FnExactWhole", spec := "fnExactWhole", named := ["loop.example/g00468/impl.wordNames"], apart := false, laid := [("loop.example/g00468/impl.wordNames", laid_loop_example_g00468_impl_wordNames)] }
def FnExactWholeSaid : Prop := fnExactWholeRow.holds Tryd.pinned (OpenSpec.ofChange fnExactWholeSpec)

/-- ITS FALSE NEIGHBOUR: 'it returns false'. Refute it at one input. -/
def fnExactWholeWrong : ChangeSpec := { name := "fnExactWhole", vars := ["loop.example/g00468/impl.wordNames"], fn := fun _ => fun
  | [d, g1] => { results := [.lit (.bool false)], args := [d], vars := [g1] }
  | _ => none }
def FnExactWholeWrongFalsely : Prop := fnExactWholeRow.holds Tryd.pinned (OpenSpec.ofChange fnExactWholeWrong)

/-- 'laws.FnExactStray': WHATEVER THE INPUT: true; the input reads as it did. -/
def fnExactStraySpec : ChangeSpec := { name := "fnExactStray", vars := ["loop.example/g00468/impl.wordNames"], fn := fun _ => fun
  | [d, g1] => { results := [.lit (.bool true)], args := [d], vars := [g1] }
  | _ => none }
def fnExactStrayRow : OpenClaim := { program := "ytkifebhkgldefaadoor", sum := "06142d62f704e1fbcdf32d5f335cdad12ee89ba83bffe0a7ddd0366d5028dd33", func := "loop.example/g00468/laws.FnExactStray", spec := "fnExactStray", named := ["loop.example/g00468/impl.wordNames"], apart := false, laid := [("loop.example/g00468/impl.wordNames", laid_loop_example_g00468_impl_wordNames)] }
def FnExactStraySaid : Prop := fnExactStrayRow.holds Tryd.pinned (OpenSpec.ofChange fnExactStraySpec)

/-- ITS FALSE NEIGHBOUR: 'it returns false'. Refute it at one input. -/
def fnExactStrayWrong : ChangeSpec := { name := "fnExactStray", vars := ["loop.example/g00468/impl.wordNames"], fn := fun _ => fun
  | [d, g1] => { results := [.lit (.bool false)], args := [d], vars := [g1] }
  | _ => none }
def FnExactStrayWrongFalsely : Prop := fnExactStrayRow.holds Tryd.pinned (OpenSpec.ofChange fnExactStrayWrong)

/-- 'laws.FnExactFind': WHATEVER THE INPUT: true; the input reads as it did. -/
def fnExactFindSpec : ChangeSpec := { name := "fnExactFind", vars := ["loop.example/g00468/impl.wordNames"], fn := fun _ => fun
  | [d1, d2, g1] => { results := [.lit (.bool true)], args := [d1, d2], vars := [g1] }
  | _ => none }
def fnExactFindRow : OpenClaim := { program := "ytkifebhkgldefaadoor", sum := "06142d62f704e1fbcdf32d5f335cdad12ee89ba83bffe0a7ddd0366d5028dd33", func := "loop.example/g00468/laws.FnExactFind", spec := "fnExactFind", named := ["loop.example/g00468/impl.wordNames"], apart := false, laid := [("loop.example/g00468/impl.wordNames", laid_loop_example_g00468_impl_wordNames)] }
def FnExactFindSaid : Prop := fnExactFindRow.holds Tryd.pinned (OpenSpec.ofChange fnExactFindSpec)

/-- ITS FALSE NEIGHBOUR: 'it returns false'. Refute it at one input. -/
def fnExactFindWrong : ChangeSpec := { name := "fnExactFind", vars := ["loop.example/g00468/impl.wordNames"], fn := fun _ => fun
  | [d1, d2, g1] => { results := [.lit (.bool false)], args := [d1, d2], vars := [g1] }
  | _ => none }
def FnExactFindWrongFalsely : Prop := fnExactFindRow.holds Tryd.pinned (OpenSpec.ofChange fnExactFindWrong)

/-- 'laws.FnExactFindVia': WHATEVER THE INPUT: true; the input reads as it did. -/
def fnExactFindViaSpec : ChangeSpec := { name := "fnExactFindVia", vars := ["loop.example/g00468/impl.wordNames"], fn := fun _ => fun
  | [d1, d2, g1] => { results := [.lit (.bool true)], args := [d1, d2], vars := [g1] }
  | _ => none }
def fnExactFindViaRow : OpenClaim := { program := "ytkifebhkgldefaadoor", sum := "06142d62f704e1fbcdf32d5f335cdad12ee89ba83bffe0a7ddd0366d5028dd33", func := "loop.example/g00468/laws.FnExactFindVia", spec := "fnExactFindVia", named := ["loop.example/g00468/impl.wordNames"], apart := false, laid := [("loop.example/g00468/impl.wordNames", laid_loop_example_g00468_impl_wordNames)] }
def FnExactFindViaSaid : Prop := fnExactFindViaRow.holds Tryd.pinned (OpenSpec.ofChange fnExactFindViaSpec)

/-- ITS FALSE NEIGHBOUR: 'it returns false'. Refute it at one input. -/
def fnExactFindViaWrong : ChangeSpec := { name := "fnExactFindVia", vars := ["loop.example/g00468/impl.wordNames"], fn := fun _ => fun
  | [d1, d2, g1] => { results := [.lit (.bool false)], args := [d1, d2], vars := [g1] }
  | _ => none }
def FnExactFindViaWrongFalsely : Prop := fnExactFindViaRow.holds Tryd.pinned (OpenSpec.ofChange fnExactFindViaWrong)

/- THE SECOND FORM. 'bulk': how many values and letters a reading holds, each counted each time it is reached (what is shared counts as often as it is met; a slice's spare places count too). A statement '..UptoSaid' is the law's where the arguments, and the package variables that the reading takes, are together of bulk at most 1048576: NARROWER than '..Said'. Prove '..Said' where nothing that the law and all that it calls make is longer than what came in: it says more and counts as full. Else prove '..UptoSaid'. A law counts once. -/
mutual
def uptoBulk {H : Type} : DataW H → Nat
  | .lit (.string bytes) => bytes.length + 1
  | .lit _ => 1
  | .nil => 1
  | .ptr d => uptoBulk d + 1
  | .slice elems spare => uptoBulkAll elems + uptoBulkAll spare + 1
  | .agg parts => uptoBulkAll parts + 1
  | .iface _ d => uptoBulk d + 1
  | .map entries => uptoBulkEntries entries + 1
  | .held _ => 1
def uptoBulkAll {H : Type} : List (DataW H) → Nat
  | [] => 0
  | d :: r => uptoBulk d + uptoBulkAll r
def uptoBulkEntries {H : Type} : List (Lit × DataW H) → Nat
  | [] => 0
  | x :: r => uptoBulkEntry x + uptoBulkEntries r
def uptoBulkEntry {H : Type} : Lit × DataW H → Nat
  | (.string bytes, d) => bytes.length + uptoBulk d + 1
  | (_, d) => uptoBulk d + 1
 end
def uptoSmall : (H : Type) → List (DataW H) → Bool := fun _ ds => decide (uptoBulkAll ds ≤ 1048576)
def OpenSpec.upto (s : _root_.Go.ChangeSpec) : _root_.Go.OpenSpec := { _root_.Go.OpenSpec.ofChange s with cond := some uptoSmall }

/-- 'laws.FnExactRowsIn', WHERE WHAT IT READS IS OF BULK AT MOST 1048576: true; the input reads as it did. -/
def fnExactRowsInUptoRow : OpenClaim := { program := "ytkifebhkgldefaadoor", sum := "06142d62f704e1fbcdf32d5f335cdad12ee89ba83bffe0a7ddd0366d5028dd33", func := "loop.example/g00468/laws.FnExactRowsIn", spec := "fnExactRowsIn", named := ["loop.example/g00468/impl.wordNames"], apart := false, laid := [("loop.example/g00468/impl.wordNames", laid_loop_example_g00468_impl_wordNames)], narrowed := true }
def FnExactRowsInUptoSaid : Prop := fnExactRowsInUptoRow.holds Tryd.pinned (OpenSpec.upto fnExactRowsInSpec)

/-- 'laws.FnExactWhole', WHERE WHAT IT READS IS OF BULK AT MOST 1048576: true; the input reads as it did. -/
def fnExactWholeUptoRow : OpenClaim := { program := "ytkifebhkgldefaadoor", sum := "06142d62f704e1fbcdf32d5f335cdad12ee89ba83bffe0a7ddd0366d5028dd33", func := "loop.example/g00468/laws.FnExactWhole", spec := "fnExactWhole", named := ["loop.example/g00468/impl.wordNames"], apart := false, laid := [("loop.example/g00468/impl.wordNames", laid_loop_example_g00468_impl_wordNames)], narrowed := true }
def FnExactWholeUptoSaid : Prop := fnExactWholeUptoRow.holds Tryd.pinned (OpenSpec.upto fnExactWholeSpec)

/-- 'laws.FnExactStray', WHERE WHAT IT READS IS OF BULK AT MOST 1048576: true; the input reads as it did. -/
def fnExactStrayUptoRow : OpenClaim := { program := "ytkifebhkgldefaadoor", sum := "06142d62f704e1fbcdf32d5f335cdad12ee89ba83bffe0a7ddd0366d5028dd33", func := "loop.example/g00468/laws.FnExactStray", spec := "fnExactStray", named := ["loop.example/g00468/impl.wordNames"], apart := false, laid := [("loop.example/g00468/impl.wordNames", laid_loop_example_g00468_impl_wordNames)], narrowed := true }
def FnExactStrayUptoSaid : Prop := fnExactStrayUptoRow.holds Tryd.pinned (OpenSpec.upto fnExactStraySpec)

/-- 'laws.FnExactFind', WHERE WHAT IT READS IS OF BULK AT MOST 1048576: true; the input reads as it did. -/
def fnExactFindUptoRow : OpenClaim := { program := "ytkifebhkgldefaadoor", sum := "06142d62f704e1fbcdf32d5f335cdad12ee89ba83bffe0a7ddd0366d5028dd33", func := "loop.example/g00468/laws.FnExactFind", spec := "fnExactFind", named := ["loop.example/g00468/impl.wordNames"], apart := false, laid := [("loop.example/g00468/impl.wordNames", laid_loop_example_g00468_impl_wordNames)], narrowed := true }
def FnExactFindUptoSaid : Prop := fnExactFindUptoRow.holds Tryd.pinned (OpenSpec.upto fnExactFindSpec)

/-- 'laws.FnExactFindVia', WHERE WHAT IT READS IS OF BULK AT MOST 1048576: true; the input reads as it did. -/
def fnExactFindViaUptoRow : OpenClaim := { program := "ytkifebhkgldefaadoor", sum := "06142d62f704e1fbcdf32d5f335cdad12ee89ba83bffe0a7ddd0366d5028dd33", func := "loop.example/g00468/laws.FnExactFindVia", spec := "fnExactFindVia", named := ["loop.example/g00468/impl.wordNames"], apart := false, laid := [("loop.example/g00468/impl.wordNames", laid_loop_example_g00468_impl_wordNames)], narrowed := true }
def FnExactFindViaUptoSaid : Prop := fnExactFindViaUptoRow.holds Tryd.pinned (OpenSpec.upto fnExactFindViaSpec)

end Rows
end Go.Proofs.YtkifebhkgldefaaDoor
