/- The laws' own functions on data. -/
import Derived.Test.YtmgofehafjogfaaDatCd
import Derived.Test.YtmgofehafjogfaaDatO
import Derived.Deep.RegionHeld3
import Derived.Deep.Cut
import Derived.Handy
namespace Go.Proofs.Ytmgofehafjogfaa
open Go.ChangeShapes Go.WideShapes Go.ChangeAt Go.RowKit Go.Joins
set_option linter.unusedSimpArgs false

set_option maxRecDepth 100000 in
theorem flatCol : Flat Try.prog 124 tyCol := by
  refine Flat.st 124 _ [[.s], [.i], [.b]] Try.underlying124 rfl (by kernel_rfl) ?_ ?_
  · intro i f g hf hg
    have hi : i < 3 := by have := (List.getElem?_eq_some_iff.1 hg).1; simpa using this
    rcases (show i = 0 ∨ i = 1 ∨ i = 2 by omega) with rfl | rfl | rfl <;> (simp at hf hg; subst hf hg)
    · exact ⟨rfl, by kernel_rfl⟩
    · exact ⟨rfl, by kernel_rfl⟩
    · exact ⟨rfl, by kernel_rfl⟩
  · intro i f g hf hg
    have hi : i < 3 := by have := (List.getElem?_eq_some_iff.1 hg).1; simpa using this
    rcases (show i = 0 ∨ i = 1 ∨ i = 2 by omega) with rfl | rfl | rfl <;> (simp at hf hg; subst hf hg)
    · exact Flat.s _ Try.underlying9
    · exact Flat.i _ Try.underlying3
    · exact Flat.b _ Try.underlying4
set_option maxRecDepth 100000 in
theorem flatIndex : Flat Try.prog 126 tyIndex := by
  refine Flat.st 126 _ [[.s], [.l 3 1 [.i]], [.b]] Try.underlying126 rfl (by kernel_rfl) ?_ ?_
  · intro i f g hf hg
    have hi : i < 3 := by have := (List.getElem?_eq_some_iff.1 hg).1; simpa using this
    rcases (show i = 0 ∨ i = 1 ∨ i = 2 by omega) with rfl | rfl | rfl <;> (simp at hf hg; subst hf hg)
    · exact ⟨rfl, by kernel_rfl⟩
    · exact ⟨rfl, by kernel_rfl⟩
    · exact ⟨rfl, by kernel_rfl⟩
  · intro i f g hf hg
    have hi : i < 3 := by have := (List.getElem?_eq_some_iff.1 hg).1; simpa using this
    rcases (show i = 0 ∨ i = 1 ∨ i = 2 by omega) with rfl | rfl | rfl <;> (simp at hf hg; subst hf hg)
    · exact Flat.s _ Try.underlying9
    · exact Flat.l _ _ 3 1 _ Try.underlying25 rfl (by decide) (by kernel_rfl) (Flat.i _ Try.underlying3)
    · exact Flat.b _ Try.underlying4
set_option maxRecDepth 100000 in
theorem flatSchema : Flat Try.prog 52 tySchema := by
  refine Flat.st 52 _ [[.l 75 3 tyCol], [.l 3 1 [.i]], [.l 105 3 tyIndex]] Try.underlying52 rfl (by kernel_rfl) ?_ ?_
  · intro i f g hf hg
    have hi : i < 3 := by have := (List.getElem?_eq_some_iff.1 hg).1; simpa using this
    rcases (show i = 0 ∨ i = 1 ∨ i = 2 by omega) with rfl | rfl | rfl <;> (simp at hf hg; subst hf hg)
    · exact ⟨rfl, by kernel_rfl⟩
    · exact ⟨rfl, by kernel_rfl⟩
    · exact ⟨rfl, by kernel_rfl⟩
  · intro i f g hf hg
    have hi : i < 3 := by have := (List.getElem?_eq_some_iff.1 hg).1; simpa using this
    rcases (show i = 0 ∨ i = 1 ∨ i = 2 by omega) with rfl | rfl | rfl <;> (simp at hf hg; subst hf hg)
    · exact Flat.l _ _ 75 3 _ Try.underlying49 rfl (by decide) (by kernel_rfl) flatCol
    · exact Flat.l _ _ 3 1 _ Try.underlying25 rfl (by decide) (by kernel_rfl) (Flat.i _ Try.underlying3)
    · exact Flat.l _ _ 105 3 _ Try.underlying50 rfl (by decide) (by kernel_rfl) flatIndex
end Go.Proofs.Ytmgofehafjogfaa
