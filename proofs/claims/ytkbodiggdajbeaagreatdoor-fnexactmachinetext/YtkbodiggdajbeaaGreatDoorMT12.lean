/- Texts joined: DatP. -/
import Derived.Test.YtkbodiggdajbeaaGreatDoorMT05
import Derived.Test.YtkbodiggdajbeaaGreatDoorMT06
import Derived.Deep.RegionHeld3
import Derived.Deep.Cut
import Derived.Handy
/- The laws' own functions on data. -/
namespace Go.Proofs.YtkbodiggdajbeaaGreatDoor
open Go.ChangeShapes Go.WideShapes Go.ChangeAt Go.RowKit Go.Joins
set_option linter.unusedSimpArgs false

set_option maxRecDepth 100000 in
theorem flatOp : Flat Tryz.prog 84 tyOp := by
  refine Flat.st 84 _ [[.i], [.i], [.i]] Tryz.underlying84 rfl (by kernel_rfl) ?_ ?_
  · intro i f g hf hg
    have hi : i < 3 := by have := (List.getElem?_eq_some_iff.1 hg).1; simpa using this
    rcases (show i = 0 ∨ i = 1 ∨ i = 2 by omega) with rfl | rfl | rfl <;> (simp at hf hg; subst hf hg)
    · exact ⟨rfl, by kernel_rfl⟩
    · exact ⟨rfl, by kernel_rfl⟩
    · exact ⟨rfl, by kernel_rfl⟩
  · intro i f g hf hg
    have hi : i < 3 := by have := (List.getElem?_eq_some_iff.1 hg).1; simpa using this
    rcases (show i = 0 ∨ i = 1 ∨ i = 2 by omega) with rfl | rfl | rfl <;> (simp at hf hg; subst hf hg)
    · exact Flat.i _ Tryz.underlying3
    · exact Flat.i _ Tryz.underlying3
    · exact Flat.i _ Tryz.underlying3
set_option maxRecDepth 100000 in
theorem flatPair : Flat Tryz.prog 178 tyPair := by
  refine Flat.st 178 _ [[.i], [.i]] Tryz.underlying178 rfl (by kernel_rfl) ?_ ?_
  · intro i f g hf hg
    have hi : i < 2 := by have := (List.getElem?_eq_some_iff.1 hg).1; simpa using this
    rcases (show i = 0 ∨ i = 1 by omega) with rfl | rfl <;> (simp at hf hg; subst hf hg)
    · exact ⟨rfl, by kernel_rfl⟩
    · exact ⟨rfl, by kernel_rfl⟩
  · intro i f g hf hg
    have hi : i < 2 := by have := (List.getElem?_eq_some_iff.1 hg).1; simpa using this
    rcases (show i = 0 ∨ i = 1 by omega) with rfl | rfl <;> (simp at hf hg; subst hf hg)
    · exact Flat.i _ Tryz.underlying3
    · exact Flat.i _ Tryz.underlying3
set_option maxRecDepth 100000 in
theorem flatHelp : Flat Tryz.prog 182 tyHelp := by
  refine Flat.st 182 _ [[.i], [.i], [.i], [.i]] Tryz.underlying182 rfl (by kernel_rfl) ?_ ?_
  · intro i f g hf hg
    have hi : i < 4 := by have := (List.getElem?_eq_some_iff.1 hg).1; simpa using this
    rcases (show i = 0 ∨ i = 1 ∨ i = 2 ∨ i = 3 by omega) with rfl | rfl | rfl | rfl <;> (simp at hf hg; subst hf hg)
    · exact ⟨rfl, by kernel_rfl⟩
    · exact ⟨rfl, by kernel_rfl⟩
    · exact ⟨rfl, by kernel_rfl⟩
    · exact ⟨rfl, by kernel_rfl⟩
  · intro i f g hf hg
    have hi : i < 4 := by have := (List.getElem?_eq_some_iff.1 hg).1; simpa using this
    rcases (show i = 0 ∨ i = 1 ∨ i = 2 ∨ i = 3 by omega) with rfl | rfl | rfl | rfl <;> (simp at hf hg; subst hf hg)
    · exact Flat.i _ Tryz.underlying3
    · exact Flat.i _ Tryz.underlying3
    · exact Flat.i _ Tryz.underlying3
    · exact Flat.i _ Tryz.underlying3
set_option maxRecDepth 100000 in
theorem flatEntry : Flat Tryz.prog 199 tyEntry := by
  refine Flat.st 199 _ [[.i], [.i], [.i]] Tryz.underlying199 rfl (by kernel_rfl) ?_ ?_
  · intro i f g hf hg
    have hi : i < 3 := by have := (List.getElem?_eq_some_iff.1 hg).1; simpa using this
    rcases (show i = 0 ∨ i = 1 ∨ i = 2 by omega) with rfl | rfl | rfl <;> (simp at hf hg; subst hf hg)
    · exact ⟨rfl, by kernel_rfl⟩
    · exact ⟨rfl, by kernel_rfl⟩
    · exact ⟨rfl, by kernel_rfl⟩
  · intro i f g hf hg
    have hi : i < 3 := by have := (List.getElem?_eq_some_iff.1 hg).1; simpa using this
    rcases (show i = 0 ∨ i = 1 ∨ i = 2 by omega) with rfl | rfl | rfl <;> (simp at hf hg; subst hf hg)
    · exact Flat.i _ Tryz.underlying3
    · exact Flat.i _ Tryz.underlying3
    · exact Flat.i _ Tryz.underlying3
set_option maxRecDepth 100000 in
theorem flatWord : Flat Tryz.prog 147 tyWord := by
  refine Flat.st 147 _ [[.i], [.i], [.i]] Tryz.underlying147 rfl (by kernel_rfl) ?_ ?_
  · intro i f g hf hg
    have hi : i < 3 := by have := (List.getElem?_eq_some_iff.1 hg).1; simpa using this
    rcases (show i = 0 ∨ i = 1 ∨ i = 2 by omega) with rfl | rfl | rfl <;> (simp at hf hg; subst hf hg)
    · exact ⟨rfl, by kernel_rfl⟩
    · exact ⟨rfl, by kernel_rfl⟩
    · exact ⟨rfl, by kernel_rfl⟩
  · intro i f g hf hg
    have hi : i < 3 := by have := (List.getElem?_eq_some_iff.1 hg).1; simpa using this
    rcases (show i = 0 ∨ i = 1 ∨ i = 2 by omega) with rfl | rfl | rfl <;> (simp at hf hg; subst hf hg)
    · exact Flat.i _ Tryz.underlying3
    · exact Flat.i _ Tryz.underlying3
    · exact Flat.i _ Tryz.underlying3
set_option maxRecDepth 100000 in
theorem flatRes : Flat Tryz.prog 85 tyRes := by
  refine Flat.st 85 _ [[.i], [.l 3 1 [.i]]] Tryz.underlying85 rfl (by kernel_rfl) ?_ ?_
  · intro i f g hf hg
    have hi : i < 2 := by have := (List.getElem?_eq_some_iff.1 hg).1; simpa using this
    rcases (show i = 0 ∨ i = 1 by omega) with rfl | rfl <;> (simp at hf hg; subst hf hg)
    · exact ⟨rfl, by kernel_rfl⟩
    · exact ⟨rfl, by kernel_rfl⟩
  · intro i f g hf hg
    have hi : i < 2 := by have := (List.getElem?_eq_some_iff.1 hg).1; simpa using this
    rcases (show i = 0 ∨ i = 1 by omega) with rfl | rfl <;> (simp at hf hg; subst hf hg)
    · exact Flat.i _ Tryz.underlying3
    · exact Flat.l _ _ 3 1 _ Tryz.underlying28 rfl (by decide) (by kernel_rfl) (Flat.i _ Tryz.underlying3)
set_option maxRecDepth 100000 in
theorem flatRows : Flat Tryz.prog 30 tyRows := by
  refine Flat.st 30 _ [[.l 3 1 [.i]], [.i]] Tryz.underlying30 rfl (by kernel_rfl) ?_ ?_
  · intro i f g hf hg
    have hi : i < 2 := by have := (List.getElem?_eq_some_iff.1 hg).1; simpa using this
    rcases (show i = 0 ∨ i = 1 by omega) with rfl | rfl <;> (simp at hf hg; subst hf hg)
    · exact ⟨rfl, by kernel_rfl⟩
    · exact ⟨rfl, by kernel_rfl⟩
  · intro i f g hf hg
    have hi : i < 2 := by have := (List.getElem?_eq_some_iff.1 hg).1; simpa using this
    rcases (show i = 0 ∨ i = 1 by omega) with rfl | rfl <;> (simp at hf hg; subst hf hg)
    · exact Flat.l _ _ 3 1 _ Tryz.underlying28 rfl (by decide) (by kernel_rfl) (Flat.i _ Tryz.underlying3)
    · exact Flat.i _ Tryz.underlying3
set_option maxRecDepth 100000 in
theorem flatThread : Flat Tryz.prog 82 tyThread := by
  refine Flat.st 82 _ [[.l 57 3 tyOp], [.i], [.b], [.l 176 2 tyPair], [.l 180 4 tyHelp]] Tryz.underlying82 rfl (by kernel_rfl) ?_ ?_
  · intro i f g hf hg
    have hi : i < 5 := by have := (List.getElem?_eq_some_iff.1 hg).1; simpa using this
    rcases (show i = 0 ∨ i = 1 ∨ i = 2 ∨ i = 3 ∨ i = 4 by omega) with rfl | rfl | rfl | rfl | rfl <;> (simp at hf hg; subst hf hg)
    · exact ⟨rfl, by kernel_rfl⟩
    · exact ⟨rfl, by kernel_rfl⟩
    · exact ⟨rfl, by kernel_rfl⟩
    · exact ⟨rfl, by kernel_rfl⟩
    · exact ⟨rfl, by kernel_rfl⟩
  · intro i f g hf hg
    have hi : i < 5 := by have := (List.getElem?_eq_some_iff.1 hg).1; simpa using this
    rcases (show i = 0 ∨ i = 1 ∨ i = 2 ∨ i = 3 ∨ i = 4 by omega) with rfl | rfl | rfl | rfl | rfl <;> (simp at hf hg; subst hf hg)
    · exact Flat.l _ _ 57 3 _ Tryz.underlying78 rfl (by decide) (by kernel_rfl) flatOp
    · exact Flat.i _ Tryz.underlying3
    · exact Flat.b _ Tryz.underlying4
    · exact Flat.l _ _ 176 2 _ Tryz.underlying79 rfl (by decide) (by kernel_rfl) flatPair
    · exact Flat.l _ _ 180 4 _ Tryz.underlying80 rfl (by decide) (by kernel_rfl) flatHelp
set_option maxRecDepth 100000 in
theorem flatDesc : Flat Tryz.prog 127 tyDesc := by
  refine Flat.st 127 _ [[.i], [.i], [.l 139 3 tyEntry], tyRes] Tryz.underlying127 rfl (by kernel_rfl) ?_ ?_
  · intro i f g hf hg
    have hi : i < 4 := by have := (List.getElem?_eq_some_iff.1 hg).1; simpa using this
    rcases (show i = 0 ∨ i = 1 ∨ i = 2 ∨ i = 3 by omega) with rfl | rfl | rfl | rfl <;> (simp at hf hg; subst hf hg)
    · exact ⟨rfl, by kernel_rfl⟩
    · exact ⟨rfl, by kernel_rfl⟩
    · exact ⟨rfl, by kernel_rfl⟩
    · exact ⟨rfl, by kernel_rfl⟩
  · intro i f g hf hg
    have hi : i < 4 := by have := (List.getElem?_eq_some_iff.1 hg).1; simpa using this
    rcases (show i = 0 ∨ i = 1 ∨ i = 2 ∨ i = 3 by omega) with rfl | rfl | rfl | rfl <;> (simp at hf hg; subst hf hg)
    · exact Flat.i _ Tryz.underlying3
    · exact Flat.i _ Tryz.underlying3
    · exact Flat.l _ _ 139 3 _ Tryz.underlying125 rfl (by decide) (by kernel_rfl) flatEntry
    · exact flatRes
set_option maxRecDepth 100000 in
theorem flatMem : Flat Tryz.prog 25 tyMem := by
  refine Flat.st 25 _ [[.l 134 3 tyWord], [.l 137 5 tyDesc]] Tryz.underlying25 rfl (by kernel_rfl) ?_ ?_
  · intro i f g hf hg
    have hi : i < 2 := by have := (List.getElem?_eq_some_iff.1 hg).1; simpa using this
    rcases (show i = 0 ∨ i = 1 by omega) with rfl | rfl <;> (simp at hf hg; subst hf hg)
    · exact ⟨rfl, by kernel_rfl⟩
    · exact ⟨rfl, by kernel_rfl⟩
  · intro i f g hf hg
    have hi : i < 2 := by have := (List.getElem?_eq_some_iff.1 hg).1; simpa using this
    rcases (show i = 0 ∨ i = 1 by omega) with rfl | rfl <;> (simp at hf hg; subst hf hg)
    · exact Flat.l _ _ 134 3 _ Tryz.underlying22 rfl (by decide) (by kernel_rfl) flatWord
    · exact Flat.l _ _ 137 5 _ Tryz.underlying23 rfl (by decide) (by kernel_rfl) flatDesc
set_option maxRecDepth 100000 in
theorem flatCall : Flat Tryz.prog 87 tyCall := by
  refine Flat.st 87 _ [[.i], tyOp, [.i], [.i], [.i], tyRes] Tryz.underlying87 rfl (by kernel_rfl) ?_ ?_
  · intro i f g hf hg
    have hi : i < 6 := by have := (List.getElem?_eq_some_iff.1 hg).1; simpa using this
    rcases (show i = 0 ∨ i = 1 ∨ i = 2 ∨ i = 3 ∨ i = 4 ∨ i = 5 by omega) with rfl | rfl | rfl | rfl | rfl | rfl <;> (simp at hf hg; subst hf hg)
    · exact ⟨rfl, by kernel_rfl⟩
    · exact ⟨rfl, by kernel_rfl⟩
    · exact ⟨rfl, by kernel_rfl⟩
    · exact ⟨rfl, by kernel_rfl⟩
    · exact ⟨rfl, by kernel_rfl⟩
    · exact ⟨rfl, by kernel_rfl⟩
  · intro i f g hf hg
    have hi : i < 6 := by have := (List.getElem?_eq_some_iff.1 hg).1; simpa using this
    rcases (show i = 0 ∨ i = 1 ∨ i = 2 ∨ i = 3 ∨ i = 4 ∨ i = 5 by omega) with rfl | rfl | rfl | rfl | rfl | rfl <;> (simp at hf hg; subst hf hg)
    · exact Flat.i _ Tryz.underlying3
    · exact flatOp
    · exact Flat.i _ Tryz.underlying3
    · exact Flat.i _ Tryz.underlying3
    · exact Flat.i _ Tryz.underlying3
    · exact flatRes
set_option maxRecDepth 100000 in
theorem flatMachine : Flat Tryz.prog 32 tyMachine := by
  refine Flat.st 32 _ [tyMem, [.l 100 5 tyThread], [.i], [.l 61 9 tyCall], [.l 3 1 [.i]], tyRows] Tryz.underlying32 rfl (by kernel_rfl) ?_ ?_
  · intro i f g hf hg
    have hi : i < 6 := by have := (List.getElem?_eq_some_iff.1 hg).1; simpa using this
    rcases (show i = 0 ∨ i = 1 ∨ i = 2 ∨ i = 3 ∨ i = 4 ∨ i = 5 by omega) with rfl | rfl | rfl | rfl | rfl | rfl <;> (simp at hf hg; subst hf hg)
    · exact ⟨rfl, by kernel_rfl⟩
    · exact ⟨rfl, by kernel_rfl⟩
    · exact ⟨rfl, by kernel_rfl⟩
    · exact ⟨rfl, by kernel_rfl⟩
    · exact ⟨rfl, by kernel_rfl⟩
    · exact ⟨rfl, by kernel_rfl⟩
  · intro i f g hf hg
    have hi : i < 6 := by have := (List.getElem?_eq_some_iff.1 hg).1; simpa using this
    rcases (show i = 0 ∨ i = 1 ∨ i = 2 ∨ i = 3 ∨ i = 4 ∨ i = 5 by omega) with rfl | rfl | rfl | rfl | rfl | rfl <;> (simp at hf hg; subst hf hg)
    · exact flatMem
    · exact Flat.l _ _ 100 5 _ Tryz.underlying26 rfl (by decide) (by kernel_rfl) flatThread
    · exact Flat.i _ Tryz.underlying3
    · exact Flat.l _ _ 61 9 _ Tryz.underlying27 rfl (by decide) (by kernel_rfl) flatCall
    · exact Flat.l _ _ 3 1 _ Tryz.underlying28 rfl (by decide) (by kernel_rfl) (Flat.i _ Tryz.underlying3)
    · exact flatRows
end Go.Proofs.YtkbodiggdajbeaaGreatDoor
