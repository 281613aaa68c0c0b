/-
  No cell of these rows narrows 'for every input' (looked for: loops, veiled, ifaces, maps, wideKeys, modest, calm, conditions, laid).
  DERIVED. THE GIVEN ROWS OF THIS SEAT. 6 by the template 'for every input the law returns true; each argument reads behind the call as it read before'; 0 by the template 'total and deterministic' (their statements: YtemeklfkbjpnmarTotals.lean).
  GIVEN WITH THE SEED: the statements are not yours to turn. If you find one false, say at which input.
  Laid BY PROGRAM, IN A SANDBOX (cutbox-rows.mjs): the forced cells as the released guide's own fill.sh prints them over the translation f88e754b80f05fd4… (all of the seat's roots in one cut). By AI agents, Wed Nov 11 2026. No macro, syntax, notation, axiom, sorry.
-/
import Derived.Test.YtemeklfkbjpnmarChecked
import GoSem.Claim
import GoSem.ClaimJoined
import GoSem.ClaimMapViews
import Derived.JoinedTies
import Derived.KernelRfl
namespace Go.Proofs.Ytemeklfkbjpnmar
/- THE CELL 'sum', in the pinned program and in every row, IS THE sha256 OF THE DUMP (.gsa) THAT YtemeklfkbjpnmarProg.lean LOADS. Nothing in Lean hashes anything: it is a label: what it is worth is what the hold of that sum in a sandbox is worth. -/
noncomputable def Try.pinned : Pinned := { name := "ytemeklfkbjpnmar", sum := "f88e754b80f05fd472163e97d589dd4947906746efa705a8e964514f2b229b7f", checked := Try.checked }
namespace Rows
def none {H : Type} : Left H := { results := [], args := [] }

/-- 'laws.FnExactQuiet': WHATEVER THE INPUT: true; the input reads as it did. -/
def fnExactQuietSpec : ChangeSpec := { name := "fnExactQuiet", fn := fun _ => fun
  | [d] => { results := [.lit (.bool true)], args := [d] }
  | _ => none }
def fnExactQuietRow : OpenClaim := { program := "ytemeklfkbjpnmar", sum := "f88e754b80f05fd472163e97d589dd4947906746efa705a8e964514f2b229b7f", func := "loop.example/g00468/laws.FnExactQuiet", spec := "fnExactQuiet", unfollowed := true, recurses := true, apart := false }
def FnExactQuietSaid : Prop := fnExactQuietRow.holds Try.pinned (OpenSpec.ofChange fnExactQuietSpec)

/-- ITS FALSE NEIGHBOUR: 'it returns false'. Refute it at one input. -/
def fnExactQuietWrong : ChangeSpec := { name := "fnExactQuiet", fn := fun _ => fun
  | [d] => { results := [.lit (.bool false)], args := [d] }
  | _ => none }
def FnExactQuietWrongFalsely : Prop := fnExactQuietRow.holds Try.pinned (OpenSpec.ofChange fnExactQuietWrong)

/-- 'laws.FnExactThreadOk': WHATEVER THE INPUT: true; the input reads as it did. -/
def fnExactThreadOkSpec : ChangeSpec := { name := "fnExactThreadOk", fn := fun _ => fun
  | [d1, d2] => { results := [.lit (.bool true)], args := [d1, d2] }
  | _ => none }
def fnExactThreadOkRow : OpenClaim := { program := "ytemeklfkbjpnmar", sum := "f88e754b80f05fd472163e97d589dd4947906746efa705a8e964514f2b229b7f", func := "loop.example/g00468/laws.FnExactThreadOk", spec := "fnExactThreadOk", unfollowed := true, recurses := true, apart := false }
def FnExactThreadOkSaid : Prop := fnExactThreadOkRow.holds Try.pinned (OpenSpec.ofChange fnExactThreadOkSpec)

/-- ITS FALSE NEIGHBOUR: 'it returns false'. Refute it at one input. -/
def fnExactThreadOkWrong : ChangeSpec := { name := "fnExactThreadOk", fn := fun _ => fun
  | [d1, d2] => { results := [.lit (.bool false)], args := [d1, d2] }
  | _ => none }
def FnExactThreadOkWrongFalsely : Prop := fnExactThreadOkRow.holds Try.pinned (OpenSpec.ofChange fnExactThreadOkWrong)

/-- 'laws.FnExactThreadNew': WHATEVER THE INPUT: true; the input reads as it did. -/
def fnExactThreadNewSpec : ChangeSpec := { name := "fnExactThreadNew", fn := fun _ => fun
  | [d] => { results := [.lit (.bool true)], args := [d] }
  | _ => none }
def fnExactThreadNewRow : OpenClaim := { program := "ytemeklfkbjpnmar", sum := "f88e754b80f05fd472163e97d589dd4947906746efa705a8e964514f2b229b7f", func := "loop.example/g00468/laws.FnExactThreadNew", spec := "fnExactThreadNew", apart := false }
def FnExactThreadNewSaid : Prop := fnExactThreadNewRow.holds Try.pinned (OpenSpec.ofChange fnExactThreadNewSpec)

/-- ITS FALSE NEIGHBOUR: 'it returns false'. Refute it at one input. -/
def fnExactThreadNewWrong : ChangeSpec := { name := "fnExactThreadNew", fn := fun _ => fun
  | [d] => { results := [.lit (.bool false)], args := [d] }
  | _ => none }
def FnExactThreadNewWrongFalsely : Prop := fnExactThreadNewRow.holds Try.pinned (OpenSpec.ofChange fnExactThreadNewWrong)

/-- 'laws.FnExactThreadDone': WHATEVER THE INPUT: true; the input reads as it did. -/
def fnExactThreadDoneSpec : ChangeSpec := { name := "fnExactThreadDone", fn := fun _ => fun
  | [d] => { results := [.lit (.bool true)], args := [d] }
  | _ => none }
def fnExactThreadDoneRow : OpenClaim := { program := "ytemeklfkbjpnmar", sum := "f88e754b80f05fd472163e97d589dd4947906746efa705a8e964514f2b229b7f", func := "loop.example/g00468/laws.FnExactThreadDone", spec := "fnExactThreadDone", apart := false }
def FnExactThreadDoneSaid : Prop := fnExactThreadDoneRow.holds Try.pinned (OpenSpec.ofChange fnExactThreadDoneSpec)

/-- ITS FALSE NEIGHBOUR: 'it returns false'. Refute it at one input. -/
def fnExactThreadDoneWrong : ChangeSpec := { name := "fnExactThreadDone", fn := fun _ => fun
  | [d] => { results := [.lit (.bool false)], args := [d] }
  | _ => none }
def FnExactThreadDoneWrongFalsely : Prop := fnExactThreadDoneRow.holds Try.pinned (OpenSpec.ofChange fnExactThreadDoneWrong)

/-- 'laws.FnExactPush': WHATEVER THE INPUT: true; the input reads as it did. -/
def fnExactPushSpec : ChangeSpec := { name := "fnExactPush", fn := fun _ => fun
  | [d1, d2] => { results := [.lit (.bool true)], args := [d1, d2] }
  | _ => none }
def fnExactPushRow : OpenClaim := { program := "ytemeklfkbjpnmar", sum := "f88e754b80f05fd472163e97d589dd4947906746efa705a8e964514f2b229b7f", func := "loop.example/g00468/laws.FnExactPush", spec := "fnExactPush", apart := false }
def FnExactPushSaid : Prop := fnExactPushRow.holds Try.pinned (OpenSpec.ofChange fnExactPushSpec)

/-- ITS FALSE NEIGHBOUR: 'it returns false'. Refute it at one input. -/
def fnExactPushWrong : ChangeSpec := { name := "fnExactPush", fn := fun _ => fun
  | [d1, d2] => { results := [.lit (.bool false)], args := [d1, d2] }
  | _ => none }
def FnExactPushWrongFalsely : Prop := fnExactPushRow.holds Try.pinned (OpenSpec.ofChange fnExactPushWrong)

/-- 'laws.FnExactTop': WHATEVER THE INPUT: true; the input reads as it did. -/
def fnExactTopSpec : ChangeSpec := { name := "fnExactTop", fn := fun _ => fun
  | [d] => { results := [.lit (.bool true)], args := [d] }
  | _ => none }
def fnExactTopRow : OpenClaim := { program := "ytemeklfkbjpnmar", sum := "f88e754b80f05fd472163e97d589dd4947906746efa705a8e964514f2b229b7f", func := "loop.example/g00468/laws.FnExactTop", spec := "fnExactTop", apart := false }
def FnExactTopSaid : Prop := fnExactTopRow.holds Try.pinned (OpenSpec.ofChange fnExactTopSpec)

/-- ITS FALSE NEIGHBOUR: 'it returns false'. Refute it at one input. -/
def fnExactTopWrong : ChangeSpec := { name := "fnExactTop", fn := fun _ => fun
  | [d] => { results := [.lit (.bool false)], args := [d] }
  | _ => none }
def FnExactTopWrongFalsely : Prop := fnExactTopRow.holds Try.pinned (OpenSpec.ofChange fnExactTopWrong)

/- THE SECOND FORM. 'bulk': how many values and letters a reading holds, each counted each time it is reached (what is shared counts as often as it is met; a slice's spare places count too). A statement '..UptoSaid' is the law's where the arguments, and the package variables that the reading takes, are together of bulk at most 1048576: NARROWER than '..Said'. Prove '..Said' where nothing that the law and all that it calls make is longer than what came in: it says more and counts as full. Else prove '..UptoSaid'. A law counts once. -/
mutual
def uptoBulk {H : Type} : DataW H → Nat
  | .lit (.string bytes) => bytes.length + 1
  | .lit _ => 1
  | .nil => 1
  | .ptr d => uptoBulk d + 1
  | .slice elems spare => uptoBulkAll elems + uptoBulkAll spare + 1
  | .agg parts => uptoBulkAll parts + 1
  | .iface _ d => uptoBulk d + 1
  | .map entries => uptoBulkEntries entries + 1
  | .held _ => 1
def uptoBulkAll {H : Type} : List (DataW H) → Nat
  | [] => 0
  | d :: r => uptoBulk d + uptoBulkAll r
def uptoBulkEntries {H : Type} : List (Lit × DataW H) → Nat
  | [] => 0
  | x :: r => uptoBulkEntry x + uptoBulkEntries r
def uptoBulkEntry {H : Type} : Lit × DataW H → Nat
  | (.string bytes, d) => bytes.length + uptoBulk d + 1
  | (_, d) => uptoBulk d + 1
 end
def uptoSmall : (H : Type) → List (DataW H) → Bool := fun _ ds => decide (uptoBulkAll ds ≤ 1048576)
def OpenSpec.upto (s : _root_.Go.ChangeSpec) : _root_.Go.OpenSpec := { _root_.Go.OpenSpec.ofChange s with cond := some uptoSmall }

/-- 'laws.FnExactQuiet', WHERE WHAT IT READS IS OF BULK AT MOST 1048576: true; the input reads as it did. -/
def fnExactQuietUptoRow : OpenClaim := { program := "ytemeklfkbjpnmar", sum := "f88e754b80f05fd472163e97d589dd4947906746efa705a8e964514f2b229b7f", func := "loop.example/g00468/laws.FnExactQuiet", spec := "fnExactQuiet", unfollowed := true, recurses := true, apart := false, narrowed := true }
def FnExactQuietUptoSaid : Prop := fnExactQuietUptoRow.holds Try.pinned (OpenSpec.upto fnExactQuietSpec)

/-- 'laws.FnExactThreadOk', WHERE WHAT IT READS IS OF BULK AT MOST 1048576: true; the input reads as it did. -/
def fnExactThreadOkUptoRow : OpenClaim := { program := "ytemeklfkbjpnmar", sum := "f88e754b80f05fd472163e97d589dd4947906746efa705a8e964514f2b229b7f", func := "loop.example/g00468/laws.FnExactThreadOk", spec := "fnExactThreadOk", unfollowed := true, recurses := true, apart := false, narrowed := true }
def FnExactThreadOkUptoSaid : Prop := fnExactThreadOkUptoRow.holds Try.pinned (OpenSpec.upto fnExactThreadOkSpec)

/-- 'laws.FnExactThreadNew', WHERE WHAT IT READS IS OF BULK AT MOST 1048576: true; the input reads as it did. -/
def fnExactThreadNewUptoRow : OpenClaim := { program := "ytemeklfkbjpnmar", sum := "f88e754b80f05fd472163e97d589dd4947906746efa705a8e964514f2b229b7f", func := "loop.example/g00468/laws.FnExactThreadNew", spec := "fnExactThreadNew", apart := false, narrowed := true }
def FnExactThreadNewUptoSaid : Prop := fnExactThreadNewUptoRow.holds Try.pinned (OpenSpec.upto fnExactThreadNewSpec)

/-- 'laws.FnExactThreadDone', WHERE WHAT IT READS IS OF BULK AT MOST 1048576: true; the input reads as it did. -/
def fnExactThreadDoneUptoRow : OpenClaim := { program := "ytemeklfkbjpnmar", sum := "f88e754b80f05fd472163e97d589dd4947906746efa705a8e964514f2b229b7f", func := "loop.example/g00468/laws.FnExactThreadDone", spec := "fnExactThreadDone", apart := false, narrowed := true }
def FnExactThreadDoneUptoSaid : Prop := fnExactThreadDoneUptoRow.holds Try.pinned (OpenSpec.upto fnExactThreadDoneSpec)

/-- 'laws.FnExactPush', WHERE WHAT IT READS IS OF BULK AT MOST 1048576: true; the input reads as it did. -/
def fnExactPushUptoRow : OpenClaim := { program := "ytemeklfkbjpnmar", sum := "f88e754b80f05fd472163e97d589dd4947906746efa705a8e964514f2b229b7f", func := "loop.example/g00468/laws.FnExactPush", spec := "fnExactPush", apart := false, narrowed := true }
def FnExactPushUptoSaid : Prop := fnExactPushUptoRow.holds Try.pinned (OpenSpec.upto fnExactPushSpec)

/-- 'laws.FnExactTop', WHERE WHAT IT READS IS OF BULK AT MOST 1048576: true; the input reads as it did. -/
def fnExactTopUptoRow : OpenClaim := { program := "ytemeklfkbjpnmar", sum := "f88e754b80f05fd472163e97d589dd4947906746efa705a8e964514f2b229b7f", func := "loop.example/g00468/laws.FnExactTop", spec := "fnExactTop", apart := false, narrowed := true }
def FnExactTopUptoSaid : Prop := fnExactTopUptoRow.holds Try.pinned (OpenSpec.upto fnExactTopSpec)

end Rows
end Go.Proofs.Ytemeklfkbjpnmar
