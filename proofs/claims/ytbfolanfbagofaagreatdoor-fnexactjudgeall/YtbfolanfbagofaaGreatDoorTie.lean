/-
  DERIVED. GIVEN WITH THE SEED: THE PROGRAM's TIES (one call each: nine closed facts by the kernel) AND EACH ROW's TIE, after the 31st guide's Derived/Test/Toyas{Tie, Card}.lean. No idea stands in it: it is a product of the set-up. Laid BY PROGRAM, IN A SANDBOX (cutbox-door.mjs). By AI agents, Wed Nov 11 2026. No macro, syntax, notation, axiom, sorry.
-/
import Derived.Test.YtbfolanfbagofaaGreatDoorRows
import Derived.LaidByTextLater
import Derived.SevenTiedAt
import Derived.LaidSub
import Derived.LaidOnce
namespace Go.Proofs.YtbfolanfbagofaaGreatDoor
open Go
set_option maxRecDepth 100000
theorem seatTie1 : Tryz.prog.laidByTextLater [("loop.example/g00468/impl.wordNames", Rows.laid_loop_example_g00468_impl_wordNames), ("loop.example/g00468/impl.errNoMachine", Rows.laid_loop_example_g00468_impl_errNoMachine), ("loop.example/g00468/impl.errNotSo", Rows.laid_loop_example_g00468_impl_errNotSo), ("loop.example/g00468/impl.errNotThen", Rows.laid_loop_example_g00468_impl_errNotThen), ("loop.example/g00468/impl.errNotBehind", Rows.laid_loop_example_g00468_impl_errNotBehind)] [.data, .sentinel, .sentinel, .sentinel, .sentinel] true :=
  Program.laidByTextLater_by_one 110 8 41 (by kernel_rfl) (by kernel_rfl) (by kernel_rfl) (by kernel_rfl) (by kernel_rfl) (by kernel_rfl) (fun _ _ => by kernel_rfl)
theorem noOwnUnsafe : Tryz.pinned.checked.prog.headLifts.contains "ownunsafe" = false := by kernel_rfl
theorem tie : Tryz.prog.laidByTextLater [("loop.example/g00468/impl.wordNames", Rows.laid_loop_example_g00468_impl_wordNames), ("loop.example/g00468/impl.errNoMachine", Rows.laid_loop_example_g00468_impl_errNoMachine), ("loop.example/g00468/impl.errNotSo", Rows.laid_loop_example_g00468_impl_errNotSo), ("loop.example/g00468/impl.errNotThen", Rows.laid_loop_example_g00468_impl_errNotThen), ("loop.example/g00468/impl.errNotBehind", Rows.laid_loop_example_g00468_impl_errNotBehind)] [.data, .sentinel, .sentinel, .sentinel, .sentinel] true :=
  Program.laidByTextLater.sub seatTie1 ["loop.example/g00468/impl.wordNames", "loop.example/g00468/impl.errNoMachine", "loop.example/g00468/impl.errNotSo", "loop.example/g00468/impl.errNotThen", "loop.example/g00468/impl.errNotBehind"] (by kernel_rfl) (by kernel_rfl)
theorem fnExactJudgeAll_row_tie : Rows.fnExactJudgeAllRow.laidByTextAt .later Tryz.pinned [.data, .sentinel, .sentinel, .sentinel, .sentinel] true :=
  OpenClaim.laidByTextAt_later rfl rfl tie noOwnUnsafe
theorem fnExactJudgeAllUpto_row_tie : Rows.fnExactJudgeAllUptoRow.laidByTextAt .later Tryz.pinned [.data, .sentinel, .sentinel, .sentinel, .sentinel] true :=
  OpenClaim.laidByTextAt_later rfl rfl tie noOwnUnsafe
end Go.Proofs.YtbfolanfbagofaaGreatDoor
