/- Texts joined: DatP. -/
import Derived.Test.YtlkdjeneggfhgaaGreatDoorQR14
import Derived.Deep.RegionHeld3
import Derived.Deep.Cut
import Derived.Handy
set_option maxHeartbeats 200000
set_option maxRecDepth 100000
namespace Go.Proofs.YtlkdjeneggfhgaaGreatDoor
section
open Go.ChangeShapes Go.WideShapes Go.ChangeAt Go.RowKit Go.Joins
set_option linter.unusedSimpArgs false
theorem flatOp : Flat Tryz.prog 96 tyOp := by
 refine Flat.st 96 _ [[.i], [.i], [.i]] Tryz.underlying96 rfl (by kernel_rfl) ?_ ?_
 · intro i f g hf hg
   have hi : i < 3 := by have := (List.getElem?_eq_some_iff.1 hg).1; simpa using this
   rcases (show i = 0 ∨ i = 1 ∨ i = 2 by omega) with rfl | rfl | rfl <;> (simp at hf hg; subst hf hg)
   · exact ⟨rfl, by kernel_rfl⟩
   · exact ⟨rfl, by kernel_rfl⟩
   · exact ⟨rfl, by kernel_rfl⟩
 · intro i f g hf hg
   have hi : i < 3 := by have := (List.getElem?_eq_some_iff.1 hg).1; simpa using this
   rcases (show i = 0 ∨ i = 1 ∨ i = 2 by omega) with rfl | rfl | rfl <;> (simp at hf hg; subst hf hg)
   · exact Flat.i _ Tryz.underlying3
   · exact Flat.i _ Tryz.underlying3
   · exact Flat.i _ Tryz.underlying3
theorem flatPair : Flat Tryz.prog 213 tyPair := by
 refine Flat.st 213 _ [[.i], [.i]] Tryz.underlying213 rfl (by kernel_rfl) ?_ ?_
 · intro i f g hf hg
   have hi : i < 2 := by have := (List.getElem?_eq_some_iff.1 hg).1; simpa using this
   rcases (show i = 0 ∨ i = 1 by omega) with rfl | rfl <;> (simp at hf hg; subst hf hg)
   · exact ⟨rfl, by kernel_rfl⟩
   · exact ⟨rfl, by kernel_rfl⟩
 · intro i f g hf hg
   have hi : i < 2 := by have := (List.getElem?_eq_some_iff.1 hg).1; simpa using this
   rcases (show i = 0 ∨ i = 1 by omega) with rfl | rfl <;> (simp at hf hg; subst hf hg)
   · exact Flat.i _ Tryz.underlying3
   · exact Flat.i _ Tryz.underlying3
theorem flatHelp : Flat Tryz.prog 215 tyHelp := by
 refine Flat.st 215 _ [[.i], [.i], [.i], [.i]] Tryz.underlying215 rfl (by kernel_rfl) ?_ ?_
 · intro i f g hf hg
   have hi : i < 4 := by have := (List.getElem?_eq_some_iff.1 hg).1; simpa using this
   rcases (show i = 0 ∨ i = 1 ∨ i = 2 ∨ i = 3 by omega) with rfl | rfl | rfl | rfl <;> (simp at hf hg; subst hf hg)
   · exact ⟨rfl, by kernel_rfl⟩
   · exact ⟨rfl, by kernel_rfl⟩
   · exact ⟨rfl, by kernel_rfl⟩
   · exact ⟨rfl, by kernel_rfl⟩
 · intro i f g hf hg
   have hi : i < 4 := by have := (List.getElem?_eq_some_iff.1 hg).1; simpa using this
   rcases (show i = 0 ∨ i = 1 ∨ i = 2 ∨ i = 3 by omega) with rfl | rfl | rfl | rfl <;> (simp at hf hg; subst hf hg)
   · exact Flat.i _ Tryz.underlying3
   · exact Flat.i _ Tryz.underlying3
   · exact Flat.i _ Tryz.underlying3
   · exact Flat.i _ Tryz.underlying3
theorem flatEntry : Flat Tryz.prog 251 tyEntry := by
 refine Flat.st 251 _ [[.i], [.i], [.i]] Tryz.underlying251 rfl (by kernel_rfl) ?_ ?_
 · intro i f g hf hg
   have hi : i < 3 := by have := (List.getElem?_eq_some_iff.1 hg).1; simpa using this
   rcases (show i = 0 ∨ i = 1 ∨ i = 2 by omega) with rfl | rfl | rfl <;> (simp at hf hg; subst hf hg)
   · exact ⟨rfl, by kernel_rfl⟩
   · exact ⟨rfl, by kernel_rfl⟩
   · exact ⟨rfl, by kernel_rfl⟩
 · intro i f g hf hg
   have hi : i < 3 := by have := (List.getElem?_eq_some_iff.1 hg).1; simpa using this
   rcases (show i = 0 ∨ i = 1 ∨ i = 2 by omega) with rfl | rfl | rfl <;> (simp at hf hg; subst hf hg)
   · exact Flat.i _ Tryz.underlying3
   · exact Flat.i _ Tryz.underlying3
   · exact Flat.i _ Tryz.underlying3
theorem flatWord : Flat Tryz.prog 165 tyWord := by
 refine Flat.st 165 _ [[.i], [.i], [.i]] Tryz.underlying165 rfl (by kernel_rfl) ?_ ?_
 · intro i f g hf hg
   have hi : i < 3 := by have := (List.getElem?_eq_some_iff.1 hg).1; simpa using this
   rcases (show i = 0 ∨ i = 1 ∨ i = 2 by omega) with rfl | rfl | rfl <;> (simp at hf hg; subst hf hg)
   · exact ⟨rfl, by kernel_rfl⟩
   · exact ⟨rfl, by kernel_rfl⟩
   · exact ⟨rfl, by kernel_rfl⟩
 · intro i f g hf hg
   have hi : i < 3 := by have := (List.getElem?_eq_some_iff.1 hg).1; simpa using this
   rcases (show i = 0 ∨ i = 1 ∨ i = 2 by omega) with rfl | rfl | rfl <;> (simp at hf hg; subst hf hg)
   · exact Flat.i _ Tryz.underlying3
   · exact Flat.i _ Tryz.underlying3
   · exact Flat.i _ Tryz.underlying3
theorem flatRes : Flat Tryz.prog 97 tyRes := by
 refine Flat.st 97 _ [[.i], [.l 3 1 [.i]]] Tryz.underlying97 rfl (by kernel_rfl) ?_ ?_
 · intro i f g hf hg
   have hi : i < 2 := by have := (List.getElem?_eq_some_iff.1 hg).1; simpa using this
   rcases (show i = 0 ∨ i = 1 by omega) with rfl | rfl <;> (simp at hf hg; subst hf hg)
   · exact ⟨rfl, by kernel_rfl⟩
   · exact ⟨rfl, by kernel_rfl⟩
 · intro i f g hf hg
   have hi : i < 2 := by have := (List.getElem?_eq_some_iff.1 hg).1; simpa using this
   rcases (show i = 0 ∨ i = 1 by omega) with rfl | rfl <;> (simp at hf hg; subst hf hg)
   · exact Flat.i _ Tryz.underlying3
   · exact Flat.l _ _ 3 1 _ Tryz.underlying28 rfl (by decide) (by kernel_rfl) (Flat.i _ Tryz.underlying3)
theorem flatRows : Flat Tryz.prog 30 tyRows := by
 refine Flat.st 30 _ [[.l 3 1 [.i]], [.i]] Tryz.underlying30 rfl (by kernel_rfl) ?_ ?_
 · intro i f g hf hg
   have hi : i < 2 := by have := (List.getElem?_eq_some_iff.1 hg).1; simpa using this
   rcases (show i = 0 ∨ i = 1 by omega) with rfl | rfl <;> (simp at hf hg; subst hf hg)
   · exact ⟨rfl, by kernel_rfl⟩
   · exact ⟨rfl, by kernel_rfl⟩
 · intro i f g hf hg
   have hi : i < 2 := by have := (List.getElem?_eq_some_iff.1 hg).1; simpa using this
   rcases (show i = 0 ∨ i = 1 by omega) with rfl | rfl <;> (simp at hf hg; subst hf hg)
   · exact Flat.l _ _ 3 1 _ Tryz.underlying28 rfl (by decide) (by kernel_rfl) (Flat.i _ Tryz.underlying3)
   · exact Flat.i _ Tryz.underlying3
theorem flatThread : Flat Tryz.prog 94 tyThread := by
 refine Flat.st 94 _ [[.l 59 3 tyOp], [.i], [.b], [.l 161 2 tyPair], [.l 163 4 tyHelp]] Tryz.underlying94 rfl (by kernel_rfl) ?_ ?_
 · intro i f g hf hg
   have hi : i < 5 := by have := (List.getElem?_eq_some_iff.1 hg).1; simpa using this
   rcases (show i = 0 ∨ i = 1 ∨ i = 2 ∨ i = 3 ∨ i = 4 by omega) with rfl | rfl | rfl | rfl | rfl <;> (simp at hf hg; subst hf hg)
   · exact ⟨rfl, by kernel_rfl⟩
   · exact ⟨rfl, by kernel_rfl⟩
   · exact ⟨rfl, by kernel_rfl⟩
   · exact ⟨rfl, by kernel_rfl⟩
   · exact ⟨rfl, by kernel_rfl⟩
 · intro i f g hf hg
   have hi : i < 5 := by have := (List.getElem?_eq_some_iff.1 hg).1; simpa using this
   rcases (show i = 0 ∨ i = 1 ∨ i = 2 ∨ i = 3 ∨ i = 4 by omega) with rfl | rfl | rfl | rfl | rfl <;> (simp at hf hg; subst hf hg)
   · exact Flat.l _ _ 59 3 _ Tryz.underlying90 rfl (by decide) (by kernel_rfl) flatOp
   · exact Flat.i _ Tryz.underlying3
   · exact Flat.b _ Tryz.underlying4
   · exact Flat.l _ _ 161 2 _ Tryz.underlying91 rfl (by decide) (by kernel_rfl) flatPair
   · exact Flat.l _ _ 163 4 _ Tryz.underlying92 rfl (by decide) (by kernel_rfl) flatHelp
theorem flatDesc : Flat Tryz.prog 141 tyDesc := by
 refine Flat.st 141 _ [[.i], [.i], [.l 154 3 tyEntry], tyRes] Tryz.underlying141 rfl (by kernel_rfl) ?_ ?_
 · intro i f g hf hg
   have hi : i < 4 := by have := (List.getElem?_eq_some_iff.1 hg).1; simpa using this
   rcases (show i = 0 ∨ i = 1 ∨ i = 2 ∨ i = 3 by omega) with rfl | rfl | rfl | rfl <;> (simp at hf hg; subst hf hg)
   · exact ⟨rfl, by kernel_rfl⟩
   · exact ⟨rfl, by kernel_rfl⟩
   · exact ⟨rfl, by kernel_rfl⟩
   · exact ⟨rfl, by kernel_rfl⟩
 · intro i f g hf hg
   have hi : i < 4 := by have := (List.getElem?_eq_some_iff.1 hg).1; simpa using this
   rcases (show i = 0 ∨ i = 1 ∨ i = 2 ∨ i = 3 by omega) with rfl | rfl | rfl | rfl <;> (simp at hf hg; subst hf hg)
   · exact Flat.i _ Tryz.underlying3
   · exact Flat.i _ Tryz.underlying3
   · exact Flat.l _ _ 154 3 _ Tryz.underlying139 rfl (by decide) (by kernel_rfl) flatEntry
   · exact flatRes
theorem flatMem : Flat Tryz.prog 25 tyMem := by
 refine Flat.st 25 _ [[.l 151 3 tyWord], [.l 149 5 tyDesc]] Tryz.underlying25 rfl (by kernel_rfl) ?_ ?_
 · intro i f g hf hg
   have hi : i < 2 := by have := (List.getElem?_eq_some_iff.1 hg).1; simpa using this
   rcases (show i = 0 ∨ i = 1 by omega) with rfl | rfl <;> (simp at hf hg; subst hf hg)
   · exact ⟨rfl, by kernel_rfl⟩
   · exact ⟨rfl, by kernel_rfl⟩
 · intro i f g hf hg
   have hi : i < 2 := by have := (List.getElem?_eq_some_iff.1 hg).1; simpa using this
   rcases (show i = 0 ∨ i = 1 by omega) with rfl | rfl <;> (simp at hf hg; subst hf hg)
   · exact Flat.l _ _ 151 3 _ Tryz.underlying22 rfl (by decide) (by kernel_rfl) flatWord
   · exact Flat.l _ _ 149 5 _ Tryz.underlying23 rfl (by decide) (by kernel_rfl) flatDesc
theorem flatCall : Flat Tryz.prog 99 tyCall := by
 refine Flat.st 99 _ [[.i], tyOp, [.i], [.i], [.i], tyRes] Tryz.underlying99 rfl (by kernel_rfl) ?_ ?_
 · intro i f g hf hg
   have hi : i < 6 := by have := (List.getElem?_eq_some_iff.1 hg).1; simpa using this
   rcases (show i = 0 ∨ i = 1 ∨ i = 2 ∨ i = 3 ∨ i = 4 ∨ i = 5 by omega) with rfl | rfl | rfl | rfl | rfl | rfl <;> (simp at hf hg; subst hf hg)
   · exact ⟨rfl, by kernel_rfl⟩
   · exact ⟨rfl, by kernel_rfl⟩
   · exact ⟨rfl, by kernel_rfl⟩
   · exact ⟨rfl, by kernel_rfl⟩
   · exact ⟨rfl, by kernel_rfl⟩
   · exact ⟨rfl, by kernel_rfl⟩
 · intro i f g hf hg
   have hi : i < 6 := by have := (List.getElem?_eq_some_iff.1 hg).1; simpa using this
   rcases (show i = 0 ∨ i = 1 ∨ i = 2 ∨ i = 3 ∨ i = 4 ∨ i = 5 by omega) with rfl | rfl | rfl | rfl | rfl | rfl <;> (simp at hf hg; subst hf hg)
   · exact Flat.i _ Tryz.underlying3
   · exact flatOp
   · exact Flat.i _ Tryz.underlying3
   · exact Flat.i _ Tryz.underlying3
   · exact Flat.i _ Tryz.underlying3
   · exact flatRes
theorem flatMachine : Flat Tryz.prog 32 tyMachine := by
 refine Flat.st 32 _ [tyMem, [.l 107 5 tyThread], [.i], [.l 63 9 tyCall], [.l 3 1 [.i]], tyRows] Tryz.underlying32 rfl (by kernel_rfl) ?_ ?_
 · intro i f g hf hg
   have hi : i < 6 := by have := (List.getElem?_eq_some_iff.1 hg).1; simpa using this
   rcases (show i = 0 ∨ i = 1 ∨ i = 2 ∨ i = 3 ∨ i = 4 ∨ i = 5 by omega) with rfl | rfl | rfl | rfl | rfl | rfl <;> (simp at hf hg; subst hf hg)
   · exact ⟨rfl, by kernel_rfl⟩
   · exact ⟨rfl, by kernel_rfl⟩
   · exact ⟨rfl, by kernel_rfl⟩
   · exact ⟨rfl, by kernel_rfl⟩
   · exact ⟨rfl, by kernel_rfl⟩
   · exact ⟨rfl, by kernel_rfl⟩
 · intro i f g hf hg
   have hi : i < 6 := by have := (List.getElem?_eq_some_iff.1 hg).1; simpa using this
   rcases (show i = 0 ∨ i = 1 ∨ i = 2 ∨ i = 3 ∨ i = 4 ∨ i = 5 by omega) with rfl | rfl | rfl | rfl | rfl | rfl <;> (simp at hf hg; subst hf hg)
   · exact flatMem
   · exact Flat.l _ _ 107 5 _ Tryz.underlying26 rfl (by decide) (by kernel_rfl) flatThread
   · exact Flat.i _ Tryz.underlying3
   · exact Flat.l _ _ 63 9 _ Tryz.underlying27 rfl (by decide) (by kernel_rfl) flatCall
   · exact Flat.l _ _ 3 1 _ Tryz.underlying28 rfl (by decide) (by kernel_rfl) (Flat.i _ Tryz.underlying3)
   · exact flatRows
end
end Go.Proofs.YtlkdjeneggfhgaaGreatDoor
