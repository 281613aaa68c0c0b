/- The laws' own functions on data. -/
import Derived.Test.YtgibeakclknhnabDoorDatVd
import Derived.Test.YtgibeakclknhnabDoorDatO
import Derived.Deep.RegionHeld3
import Derived.Deep.Cut
import Derived.Handy
namespace Go.Proofs.YtgibeakclknhnabDoor
open Go.ChangeShapes Go.WideShapes Go.ChangeAt Go.RowKit Go.Joins
set_option linter.unusedSimpArgs false

set_option maxRecDepth 100000 in
theorem flatValue : Flat Tryd.prog 54 tyValue := by
  refine Flat.st 54 _ [[.i], [.i], [.s]] Tryd.underlying54 rfl (by kernel_rfl) ?_ ?_
  · intro i f g hf hg
    have hi : i < 3 := by have := (List.getElem?_eq_some_iff.1 hg).1; simpa using this
    rcases (show i = 0 ∨ i = 1 ∨ i = 2 by omega) with rfl | rfl | rfl <;> (simp at hf hg; subst hf hg)
    · exact ⟨rfl, by kernel_rfl⟩
    · exact ⟨rfl, by kernel_rfl⟩
    · exact ⟨rfl, by kernel_rfl⟩
  · intro i f g hf hg
    have hi : i < 3 := by have := (List.getElem?_eq_some_iff.1 hg).1; simpa using this
    rcases (show i = 0 ∨ i = 1 ∨ i = 2 by omega) with rfl | rfl | rfl <;> (simp at hf hg; subst hf hg)
    · exact Flat.i _ Tryd.underlying3
    · exact Flat.i _ Tryd.underlying3
    · exact Flat.s _ Tryd.underlying9
end Go.Proofs.YtgibeakclknhnabDoor
