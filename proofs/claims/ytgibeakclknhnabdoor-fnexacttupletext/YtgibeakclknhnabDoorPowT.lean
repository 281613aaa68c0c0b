/- The table of powers of ten, as the library's text lays it. -/
import Derived.Test.YtgibeakclknhnabDoorImplDig
import Derived.Lib.LaidTab
import Derived.Lib.SmallJoins
namespace Go.Proofs.YtgibeakclknhnabDoor
open Go.ChangeShapes Go.WideShapes Go.ChangeAt Go.RowKit Go.Joins

/-- The table that the program reads. -/
structure PowT (w : World) : Prop where
  pow : Lib.TabIs Tryd.prog w "internal/strconv.uint64pow10" .u64 Lib.pow10Tab
theorem PowT.below {w w' : World} {B : Nat} (h : PowT w) (hb : Below B w w') (hB : w.heap.size ≤ B) : PowT w' := ⟨Joins.tab_stays gTab h.pow hb hB⟩
end Go.Proofs.YtgibeakclknhnabDoor
