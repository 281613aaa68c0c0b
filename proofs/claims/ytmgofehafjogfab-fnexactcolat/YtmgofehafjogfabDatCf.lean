/- The laws' own functions on data. -/
import Derived.Test.YtmgofehafjogfabDatCd
import Derived.Test.YtmgofehafjogfabDatO
import Derived.Deep.RegionHeld3
import Derived.Deep.Cut
import Derived.Handy
namespace Go.Proofs.Ytmgofehafjogfab
open Go.ChangeShapes Go.WideShapes Go.ChangeAt Go.RowKit Go.Joins
set_option linter.unusedSimpArgs false

set_option maxRecDepth 100000 in
theorem flatCol : Flat Try.prog 69 tyCol := by
  refine Flat.st 69 _ [[.s], [.i], [.b]] Try.underlying69 rfl (by kernel_rfl) ?_ ?_
  · intro i f g hf hg
    have hi : i < 3 := by have := (List.getElem?_eq_some_iff.1 hg).1; simpa using this
    rcases (show i = 0 ∨ i = 1 ∨ i = 2 by omega) with rfl | rfl | rfl <;> (simp at hf hg; subst hf hg)
    · exact ⟨rfl, by kernel_rfl⟩
    · exact ⟨rfl, by kernel_rfl⟩
    · exact ⟨rfl, by kernel_rfl⟩
  · intro i f g hf hg
    have hi : i < 3 := by have := (List.getElem?_eq_some_iff.1 hg).1; simpa using this
    rcases (show i = 0 ∨ i = 1 ∨ i = 2 by omega) with rfl | rfl | rfl <;> (simp at hf hg; subst hf hg)
    · exact Flat.s _ Try.underlying9
    · exact Flat.i _ Try.underlying3
    · exact Flat.b _ Try.underlying4
set_option maxRecDepth 100000 in
theorem flatIndex : Flat Try.prog 72 tyIndex := by
  refine Flat.st 72 _ [[.s], [.l 3 1 [.i]], [.b]] Try.underlying72 rfl (by kernel_rfl) ?_ ?_
  · intro i f g hf hg
    have hi : i < 3 := by have := (List.getElem?_eq_some_iff.1 hg).1; simpa using this
    rcases (show i = 0 ∨ i = 1 ∨ i = 2 by omega) with rfl | rfl | rfl <;> (simp at hf hg; subst hf hg)
    · exact ⟨rfl, by kernel_rfl⟩
    · exact ⟨rfl, by kernel_rfl⟩
    · exact ⟨rfl, by kernel_rfl⟩
  · intro i f g hf hg
    have hi : i < 3 := by have := (List.getElem?_eq_some_iff.1 hg).1; simpa using this
    rcases (show i = 0 ∨ i = 1 ∨ i = 2 by omega) with rfl | rfl | rfl <;> (simp at hf hg; subst hf hg)
    · exact Flat.s _ Try.underlying9
    · exact Flat.l _ _ 3 1 _ Try.underlying23 rfl (by decide) (by kernel_rfl) (Flat.i _ Try.underlying3)
    · exact Flat.b _ Try.underlying4
set_option maxRecDepth 100000 in
theorem flatSchema : Flat Try.prog 26 tySchema := by
  refine Flat.st 26 _ [[.l 65 3 tyCol], [.l 3 1 [.i]], [.l 75 3 tyIndex]] Try.underlying26 rfl (by kernel_rfl) ?_ ?_
  · intro i f g hf hg
    have hi : i < 3 := by have := (List.getElem?_eq_some_iff.1 hg).1; simpa using this
    rcases (show i = 0 ∨ i = 1 ∨ i = 2 by omega) with rfl | rfl | rfl <;> (simp at hf hg; subst hf hg)
    · exact ⟨rfl, by kernel_rfl⟩
    · exact ⟨rfl, by kernel_rfl⟩
    · exact ⟨rfl, by kernel_rfl⟩
  · intro i f g hf hg
    have hi : i < 3 := by have := (List.getElem?_eq_some_iff.1 hg).1; simpa using this
    rcases (show i = 0 ∨ i = 1 ∨ i = 2 by omega) with rfl | rfl | rfl <;> (simp at hf hg; subst hf hg)
    · exact Flat.l _ _ 65 3 _ Try.underlying22 rfl (by decide) (by kernel_rfl) flatCol
    · exact Flat.l _ _ 3 1 _ Try.underlying23 rfl (by decide) (by kernel_rfl) (Flat.i _ Try.underlying3)
    · exact Flat.l _ _ 75 3 _ Try.underlying24 rfl (by decide) (by kernel_rfl) flatIndex
end Go.Proofs.Ytmgofehafjogfab
