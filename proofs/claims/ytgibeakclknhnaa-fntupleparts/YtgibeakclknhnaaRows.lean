/-
  No cell of these rows narrows 'for every input' (looked for: loops, veiled, ifaces, maps, wideKeys, modest, calm, conditions, laid).
  DERIVED. THE GIVEN ROWS OF THIS SEAT. 5 by the template 'for every input the law returns true; each argument reads behind the call as it read before'; 0 by the template 'total and deterministic' (their statements: YtgibeakclknhnaaTotals.lean).
  GIVEN WITH THE SEED: the statements are not yours to turn. If you find one false, say at which input.
  Laid BY PROGRAM, IN A SANDBOX (cutbox-rows.mjs): the forced cells as the released guide's own fill.sh prints them over the translation 9071d6ab32e74940… (all of the seat's roots in one cut). By AI agents, Wed Nov 11 2026. No macro, syntax, notation, axiom, sorry.
-/
import Derived.Test.YtgibeakclknhnaaChecked
import GoSem.Claim
import GoSem.ClaimJoined
import GoSem.ClaimMapViews
import Derived.JoinedTies
import Derived.KernelRfl
namespace Go.Proofs.Ytgibeakclknhnaa
/- THE CELL 'sum', in the pinned program and in every row, IS THE sha256 OF THE DUMP (.gsa) THAT YtgibeakclknhnaaProg.lean LOADS. Nothing in Lean hashes anything: it is a label: what it is worth is what the hold of that sum in a sandbox is worth. -/
noncomputable def Try.pinned : Pinned := { name := "ytgibeakclknhnaa", sum := "9071d6ab32e74940385365b96736b157ef25954f9e06f9083abe6d00489e622c", checked := Try.checked }
namespace Rows
def none {H : Type} : Left H := { results := [], args := [] }

/-- 'laws.FnTupleOrder': WHATEVER THE INPUT: true; the input reads as it did. -/
def fnTupleOrderSpec : ChangeSpec := { name := "fnTupleOrder", fn := fun _ => fun
  | [d] => { results := [.lit (.bool true)], args := [d] }
  | _ => none }
def fnTupleOrderRow : OpenClaim := { program := "ytgibeakclknhnaa", sum := "9071d6ab32e74940385365b96736b157ef25954f9e06f9083abe6d00489e622c", func := "loop.example/g00468/laws.FnTupleOrder", spec := "fnTupleOrder", unfollowed := true, recurses := true, apart := false }
def FnTupleOrderSaid : Prop := fnTupleOrderRow.holds Try.pinned (OpenSpec.ofChange fnTupleOrderSpec)

/-- ITS FALSE NEIGHBOUR: 'it returns false'. Refute it at one input. -/
def fnTupleOrderWrong : ChangeSpec := { name := "fnTupleOrder", fn := fun _ => fun
  | [d] => { results := [.lit (.bool false)], args := [d] }
  | _ => none }
def FnTupleOrderWrongFalsely : Prop := fnTupleOrderRow.holds Try.pinned (OpenSpec.ofChange fnTupleOrderWrong)

/-- 'laws.FnTupleParts': WHATEVER THE INPUT: true; the input reads as it did. -/
def fnTuplePartsSpec : ChangeSpec := { name := "fnTupleParts", fn := fun _ => fun
  | [d] => { results := [.lit (.bool true)], args := [d] }
  | _ => none }
def fnTuplePartsRow : OpenClaim := { program := "ytgibeakclknhnaa", sum := "9071d6ab32e74940385365b96736b157ef25954f9e06f9083abe6d00489e622c", func := "loop.example/g00468/laws.FnTupleParts", spec := "fnTupleParts", unfollowed := true, recurses := true, apart := false }
def FnTuplePartsSaid : Prop := fnTuplePartsRow.holds Try.pinned (OpenSpec.ofChange fnTuplePartsSpec)

/-- ITS FALSE NEIGHBOUR: 'it returns false'. Refute it at one input. -/
def fnTuplePartsWrong : ChangeSpec := { name := "fnTupleParts", fn := fun _ => fun
  | [d] => { results := [.lit (.bool false)], args := [d] }
  | _ => none }
def FnTuplePartsWrongFalsely : Prop := fnTuplePartsRow.holds Try.pinned (OpenSpec.ofChange fnTuplePartsWrong)

/-- 'laws.FnExactTupleOk': WHATEVER THE INPUT: true; the input reads as it did. -/
def fnExactTupleOkSpec : ChangeSpec := { name := "fnExactTupleOk", fn := fun _ => fun
  | [d] => { results := [.lit (.bool true)], args := [d] }
  | _ => none }
def fnExactTupleOkRow : OpenClaim := { program := "ytgibeakclknhnaa", sum := "9071d6ab32e74940385365b96736b157ef25954f9e06f9083abe6d00489e622c", func := "loop.example/g00468/laws.FnExactTupleOk", spec := "fnExactTupleOk", unfollowed := true, recurses := true, apart := false }
def FnExactTupleOkSaid : Prop := fnExactTupleOkRow.holds Try.pinned (OpenSpec.ofChange fnExactTupleOkSpec)

/-- ITS FALSE NEIGHBOUR: 'it returns false'. Refute it at one input. -/
def fnExactTupleOkWrong : ChangeSpec := { name := "fnExactTupleOk", fn := fun _ => fun
  | [d] => { results := [.lit (.bool false)], args := [d] }
  | _ => none }
def FnExactTupleOkWrongFalsely : Prop := fnExactTupleOkRow.holds Try.pinned (OpenSpec.ofChange fnExactTupleOkWrong)

/-- 'laws.FnExactTupleLess': WHATEVER THE INPUT: true; the input reads as it did. -/
def fnExactTupleLessSpec : ChangeSpec := { name := "fnExactTupleLess", fn := fun _ => fun
  | [d1, d2] => { results := [.lit (.bool true)], args := [d1, d2] }
  | _ => none }
def fnExactTupleLessRow : OpenClaim := { program := "ytgibeakclknhnaa", sum := "9071d6ab32e74940385365b96736b157ef25954f9e06f9083abe6d00489e622c", func := "loop.example/g00468/laws.FnExactTupleLess", spec := "fnExactTupleLess", unfollowed := true, recurses := true, apart := false }
def FnExactTupleLessSaid : Prop := fnExactTupleLessRow.holds Try.pinned (OpenSpec.ofChange fnExactTupleLessSpec)

/-- ITS FALSE NEIGHBOUR: 'it returns false'. Refute it at one input. -/
def fnExactTupleLessWrong : ChangeSpec := { name := "fnExactTupleLess", fn := fun _ => fun
  | [d1, d2] => { results := [.lit (.bool false)], args := [d1, d2] }
  | _ => none }
def FnExactTupleLessWrongFalsely : Prop := fnExactTupleLessRow.holds Try.pinned (OpenSpec.ofChange fnExactTupleLessWrong)

/-- 'laws.FnExactTupleBytes': WHATEVER THE INPUT: true; the input reads as it did. -/
def fnExactTupleBytesSpec : ChangeSpec := { name := "fnExactTupleBytes", fn := fun _ => fun
  | [d] => { results := [.lit (.bool true)], args := [d] }
  | _ => none }
def fnExactTupleBytesRow : OpenClaim := { program := "ytgibeakclknhnaa", sum := "9071d6ab32e74940385365b96736b157ef25954f9e06f9083abe6d00489e622c", func := "loop.example/g00468/laws.FnExactTupleBytes", spec := "fnExactTupleBytes", unfollowed := true, recurses := true, apart := false }
def FnExactTupleBytesSaid : Prop := fnExactTupleBytesRow.holds Try.pinned (OpenSpec.ofChange fnExactTupleBytesSpec)

/-- ITS FALSE NEIGHBOUR: 'it returns false'. Refute it at one input. -/
def fnExactTupleBytesWrong : ChangeSpec := { name := "fnExactTupleBytes", fn := fun _ => fun
  | [d] => { results := [.lit (.bool false)], args := [d] }
  | _ => none }
def FnExactTupleBytesWrongFalsely : Prop := fnExactTupleBytesRow.holds Try.pinned (OpenSpec.ofChange fnExactTupleBytesWrong)

/- THE SECOND FORM. 'bulk': how many values and letters a reading holds, each counted each time it is reached (what is shared counts as often as it is met; a slice's spare places count too). A statement '..UptoSaid' is the law's where the arguments, and the package variables that the reading takes, are together of bulk at most 1048576: NARROWER than '..Said'. Prove '..Said' where nothing that the law and all that it calls make is longer than what came in: it says more and counts as full. Else prove '..UptoSaid'. A law counts once. -/
mutual
def uptoBulk {H : Type} : DataW H → Nat
  | .lit (.string bytes) => bytes.length + 1
  | .lit _ => 1
  | .nil => 1
  | .ptr d => uptoBulk d + 1
  | .slice elems spare => uptoBulkAll elems + uptoBulkAll spare + 1
  | .agg parts => uptoBulkAll parts + 1
  | .iface _ d => uptoBulk d + 1
  | .map entries => uptoBulkEntries entries + 1
  | .held _ => 1
def uptoBulkAll {H : Type} : List (DataW H) → Nat
  | [] => 0
  | d :: r => uptoBulk d + uptoBulkAll r
def uptoBulkEntries {H : Type} : List (Lit × DataW H) → Nat
  | [] => 0
  | x :: r => uptoBulkEntry x + uptoBulkEntries r
def uptoBulkEntry {H : Type} : Lit × DataW H → Nat
  | (.string bytes, d) => bytes.length + uptoBulk d + 1
  | (_, d) => uptoBulk d + 1
 end
def uptoSmall : (H : Type) → List (DataW H) → Bool := fun _ ds => decide (uptoBulkAll ds ≤ 1048576)
def OpenSpec.upto (s : _root_.Go.ChangeSpec) : _root_.Go.OpenSpec := { _root_.Go.OpenSpec.ofChange s with cond := some uptoSmall }

/-- 'laws.FnTupleOrder', WHERE WHAT IT READS IS OF BULK AT MOST 1048576: true; the input reads as it did. -/
def fnTupleOrderUptoRow : OpenClaim := { program := "ytgibeakclknhnaa", sum := "9071d6ab32e74940385365b96736b157ef25954f9e06f9083abe6d00489e622c", func := "loop.example/g00468/laws.FnTupleOrder", spec := "fnTupleOrder", unfollowed := true, recurses := true, apart := false, narrowed := true }
def FnTupleOrderUptoSaid : Prop := fnTupleOrderUptoRow.holds Try.pinned (OpenSpec.upto fnTupleOrderSpec)

/-- 'laws.FnTupleParts', WHERE WHAT IT READS IS OF BULK AT MOST 1048576: true; the input reads as it did. -/
def fnTuplePartsUptoRow : OpenClaim := { program := "ytgibeakclknhnaa", sum := "9071d6ab32e74940385365b96736b157ef25954f9e06f9083abe6d00489e622c", func := "loop.example/g00468/laws.FnTupleParts", spec := "fnTupleParts", unfollowed := true, recurses := true, apart := false, narrowed := true }
def FnTuplePartsUptoSaid : Prop := fnTuplePartsUptoRow.holds Try.pinned (OpenSpec.upto fnTuplePartsSpec)

/-- 'laws.FnExactTupleOk', WHERE WHAT IT READS IS OF BULK AT MOST 1048576: true; the input reads as it did. -/
def fnExactTupleOkUptoRow : OpenClaim := { program := "ytgibeakclknhnaa", sum := "9071d6ab32e74940385365b96736b157ef25954f9e06f9083abe6d00489e622c", func := "loop.example/g00468/laws.FnExactTupleOk", spec := "fnExactTupleOk", unfollowed := true, recurses := true, apart := false, narrowed := true }
def FnExactTupleOkUptoSaid : Prop := fnExactTupleOkUptoRow.holds Try.pinned (OpenSpec.upto fnExactTupleOkSpec)

/-- 'laws.FnExactTupleLess', WHERE WHAT IT READS IS OF BULK AT MOST 1048576: true; the input reads as it did. -/
def fnExactTupleLessUptoRow : OpenClaim := { program := "ytgibeakclknhnaa", sum := "9071d6ab32e74940385365b96736b157ef25954f9e06f9083abe6d00489e622c", func := "loop.example/g00468/laws.FnExactTupleLess", spec := "fnExactTupleLess", unfollowed := true, recurses := true, apart := false, narrowed := true }
def FnExactTupleLessUptoSaid : Prop := fnExactTupleLessUptoRow.holds Try.pinned (OpenSpec.upto fnExactTupleLessSpec)

/-- 'laws.FnExactTupleBytes', WHERE WHAT IT READS IS OF BULK AT MOST 1048576: true; the input reads as it did. -/
def fnExactTupleBytesUptoRow : OpenClaim := { program := "ytgibeakclknhnaa", sum := "9071d6ab32e74940385365b96736b157ef25954f9e06f9083abe6d00489e622c", func := "loop.example/g00468/laws.FnExactTupleBytes", spec := "fnExactTupleBytes", unfollowed := true, recurses := true, apart := false, narrowed := true }
def FnExactTupleBytesUptoSaid : Prop := fnExactTupleBytesUptoRow.holds Try.pinned (OpenSpec.upto fnExactTupleBytesSpec)

end Rows
end Go.Proofs.Ytgibeakclknhnaa
