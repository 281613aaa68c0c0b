/- Texts joined: DatP, Fin9. -/
import Derived.Test.YthdpicmcgofghasGreatMA27
import Derived.Test.YthdpicmcgofghasGreatMA28
import Derived.Deep.RegionHeld3
import Derived.Deep.Cut
import Derived.Handy
import Derived.Test.YthdpicmcgofghasGreatMA31
import Derived.Test.YthdpicmcgofghasGreatMA24
/- The laws' own functions on data. -/
namespace Go.Proofs.YthdpicmcgofghasGreat
open Go.ChangeShapes Go.WideShapes Go.ChangeAt Go.RowKit Go.Joins
set_option linter.unusedSimpArgs false

set_option maxRecDepth 100000 in
theorem flatOp : Flat Tryz.prog 84 tyOp := by
  refine Flat.st 84 _ [[.i], [.i], [.i]] Tryz.underlying84 rfl (by kernel_rfl) ?_ ?_
  · intro i f g hf hg
    have hi : i < 3 := by have := (List.getElem?_eq_some_iff.1 hg).1; simpa using this
    rcases (show i = 0 ∨ i = 1 ∨ i = 2 by omega) with rfl | rfl | rfl <;> (simp at hf hg; subst hf hg)
    · exact ⟨rfl, by kernel_rfl⟩
    · exact ⟨rfl, by kernel_rfl⟩
    · exact ⟨rfl, by kernel_rfl⟩
  · intro i f g hf hg
    have hi : i < 3 := by have := (List.getElem?_eq_some_iff.1 hg).1; simpa using this
    rcases (show i = 0 ∨ i = 1 ∨ i = 2 by omega) with rfl | rfl | rfl <;> (simp at hf hg; subst hf hg)
    · exact Flat.i _ Tryz.underlying3
    · exact Flat.i _ Tryz.underlying3
    · exact Flat.i _ Tryz.underlying3
set_option maxRecDepth 100000 in
theorem flatPair : Flat Tryz.prog 167 tyPair := by
  refine Flat.st 167 _ [[.i], [.i]] Tryz.underlying167 rfl (by kernel_rfl) ?_ ?_
  · intro i f g hf hg
    have hi : i < 2 := by have := (List.getElem?_eq_some_iff.1 hg).1; simpa using this
    rcases (show i = 0 ∨ i = 1 by omega) with rfl | rfl <;> (simp at hf hg; subst hf hg)
    · exact ⟨rfl, by kernel_rfl⟩
    · exact ⟨rfl, by kernel_rfl⟩
  · intro i f g hf hg
    have hi : i < 2 := by have := (List.getElem?_eq_some_iff.1 hg).1; simpa using this
    rcases (show i = 0 ∨ i = 1 by omega) with rfl | rfl <;> (simp at hf hg; subst hf hg)
    · exact Flat.i _ Tryz.underlying3
    · exact Flat.i _ Tryz.underlying3
set_option maxRecDepth 100000 in
theorem flatHelp : Flat Tryz.prog 169 tyHelp := by
  refine Flat.st 169 _ [[.i], [.i], [.i], [.i]] Tryz.underlying169 rfl (by kernel_rfl) ?_ ?_
  · intro i f g hf hg
    have hi : i < 4 := by have := (List.getElem?_eq_some_iff.1 hg).1; simpa using this
    rcases (show i = 0 ∨ i = 1 ∨ i = 2 ∨ i = 3 by omega) with rfl | rfl | rfl | rfl <;> (simp at hf hg; subst hf hg)
    · exact ⟨rfl, by kernel_rfl⟩
    · exact ⟨rfl, by kernel_rfl⟩
    · exact ⟨rfl, by kernel_rfl⟩
    · exact ⟨rfl, by kernel_rfl⟩
  · intro i f g hf hg
    have hi : i < 4 := by have := (List.getElem?_eq_some_iff.1 hg).1; simpa using this
    rcases (show i = 0 ∨ i = 1 ∨ i = 2 ∨ i = 3 by omega) with rfl | rfl | rfl | rfl <;> (simp at hf hg; subst hf hg)
    · exact Flat.i _ Tryz.underlying3
    · exact Flat.i _ Tryz.underlying3
    · exact Flat.i _ Tryz.underlying3
    · exact Flat.i _ Tryz.underlying3
set_option maxRecDepth 100000 in
theorem flatEntry : Flat Tryz.prog 192 tyEntry := by
  refine Flat.st 192 _ [[.i], [.i], [.i]] Tryz.underlying192 rfl (by kernel_rfl) ?_ ?_
  · intro i f g hf hg
    have hi : i < 3 := by have := (List.getElem?_eq_some_iff.1 hg).1; simpa using this
    rcases (show i = 0 ∨ i = 1 ∨ i = 2 by omega) with rfl | rfl | rfl <;> (simp at hf hg; subst hf hg)
    · exact ⟨rfl, by kernel_rfl⟩
    · exact ⟨rfl, by kernel_rfl⟩
    · exact ⟨rfl, by kernel_rfl⟩
  · intro i f g hf hg
    have hi : i < 3 := by have := (List.getElem?_eq_some_iff.1 hg).1; simpa using this
    rcases (show i = 0 ∨ i = 1 ∨ i = 2 by omega) with rfl | rfl | rfl <;> (simp at hf hg; subst hf hg)
    · exact Flat.i _ Tryz.underlying3
    · exact Flat.i _ Tryz.underlying3
    · exact Flat.i _ Tryz.underlying3
set_option maxRecDepth 100000 in
theorem flatWord : Flat Tryz.prog 141 tyWord := by
  refine Flat.st 141 _ [[.i], [.i], [.i]] Tryz.underlying141 rfl (by kernel_rfl) ?_ ?_
  · intro i f g hf hg
    have hi : i < 3 := by have := (List.getElem?_eq_some_iff.1 hg).1; simpa using this
    rcases (show i = 0 ∨ i = 1 ∨ i = 2 by omega) with rfl | rfl | rfl <;> (simp at hf hg; subst hf hg)
    · exact ⟨rfl, by kernel_rfl⟩
    · exact ⟨rfl, by kernel_rfl⟩
    · exact ⟨rfl, by kernel_rfl⟩
  · intro i f g hf hg
    have hi : i < 3 := by have := (List.getElem?_eq_some_iff.1 hg).1; simpa using this
    rcases (show i = 0 ∨ i = 1 ∨ i = 2 by omega) with rfl | rfl | rfl <;> (simp at hf hg; subst hf hg)
    · exact Flat.i _ Tryz.underlying3
    · exact Flat.i _ Tryz.underlying3
    · exact Flat.i _ Tryz.underlying3
set_option maxRecDepth 100000 in
theorem flatRes : Flat Tryz.prog 86 tyRes := by
  refine Flat.st 86 _ [[.i], [.l 3 1 [.i]]] Tryz.underlying86 rfl (by kernel_rfl) ?_ ?_
  · intro i f g hf hg
    have hi : i < 2 := by have := (List.getElem?_eq_some_iff.1 hg).1; simpa using this
    rcases (show i = 0 ∨ i = 1 by omega) with rfl | rfl <;> (simp at hf hg; subst hf hg)
    · exact ⟨rfl, by kernel_rfl⟩
    · exact ⟨rfl, by kernel_rfl⟩
  · intro i f g hf hg
    have hi : i < 2 := by have := (List.getElem?_eq_some_iff.1 hg).1; simpa using this
    rcases (show i = 0 ∨ i = 1 by omega) with rfl | rfl <;> (simp at hf hg; subst hf hg)
    · exact Flat.i _ Tryz.underlying3
    · exact Flat.l _ _ 3 1 _ Tryz.underlying28 rfl (by decide) (by kernel_rfl) (Flat.i _ Tryz.underlying3)
set_option maxRecDepth 100000 in
theorem flatRows : Flat Tryz.prog 30 tyRows := by
  refine Flat.st 30 _ [[.l 3 1 [.i]], [.i]] Tryz.underlying30 rfl (by kernel_rfl) ?_ ?_
  · intro i f g hf hg
    have hi : i < 2 := by have := (List.getElem?_eq_some_iff.1 hg).1; simpa using this
    rcases (show i = 0 ∨ i = 1 by omega) with rfl | rfl <;> (simp at hf hg; subst hf hg)
    · exact ⟨rfl, by kernel_rfl⟩
    · exact ⟨rfl, by kernel_rfl⟩
  · intro i f g hf hg
    have hi : i < 2 := by have := (List.getElem?_eq_some_iff.1 hg).1; simpa using this
    rcases (show i = 0 ∨ i = 1 by omega) with rfl | rfl <;> (simp at hf hg; subst hf hg)
    · exact Flat.l _ _ 3 1 _ Tryz.underlying28 rfl (by decide) (by kernel_rfl) (Flat.i _ Tryz.underlying3)
    · exact Flat.i _ Tryz.underlying3
set_option maxRecDepth 100000 in
theorem flatThread : Flat Tryz.prog 81 tyThread := by
  refine Flat.st 81 _ [[.l 104 3 tyOp], [.i], [.b], [.l 110 2 tyPair], [.l 112 4 tyHelp]] Tryz.underlying81 rfl (by kernel_rfl) ?_ ?_
  · intro i f g hf hg
    have hi : i < 5 := by have := (List.getElem?_eq_some_iff.1 hg).1; simpa using this
    rcases (show i = 0 ∨ i = 1 ∨ i = 2 ∨ i = 3 ∨ i = 4 by omega) with rfl | rfl | rfl | rfl | rfl <;> (simp at hf hg; subst hf hg)
    · exact ⟨rfl, by kernel_rfl⟩
    · exact ⟨rfl, by kernel_rfl⟩
    · exact ⟨rfl, by kernel_rfl⟩
    · exact ⟨rfl, by kernel_rfl⟩
    · exact ⟨rfl, by kernel_rfl⟩
  · intro i f g hf hg
    have hi : i < 5 := by have := (List.getElem?_eq_some_iff.1 hg).1; simpa using this
    rcases (show i = 0 ∨ i = 1 ∨ i = 2 ∨ i = 3 ∨ i = 4 by omega) with rfl | rfl | rfl | rfl | rfl <;> (simp at hf hg; subst hf hg)
    · exact Flat.l _ _ 104 3 _ Tryz.underlying77 rfl (by decide) (by kernel_rfl) flatOp
    · exact Flat.i _ Tryz.underlying3
    · exact Flat.b _ Tryz.underlying4
    · exact Flat.l _ _ 110 2 _ Tryz.underlying78 rfl (by decide) (by kernel_rfl) flatPair
    · exact Flat.l _ _ 112 4 _ Tryz.underlying79 rfl (by decide) (by kernel_rfl) flatHelp
set_option maxRecDepth 100000 in
theorem flatDesc : Flat Tryz.prog 135 tyDesc := by
  refine Flat.st 135 _ [[.i], [.i], [.l 98 3 tyEntry], tyRes] Tryz.underlying135 rfl (by kernel_rfl) ?_ ?_
  · intro i f g hf hg
    have hi : i < 4 := by have := (List.getElem?_eq_some_iff.1 hg).1; simpa using this
    rcases (show i = 0 ∨ i = 1 ∨ i = 2 ∨ i = 3 by omega) with rfl | rfl | rfl | rfl <;> (simp at hf hg; subst hf hg)
    · exact ⟨rfl, by kernel_rfl⟩
    · exact ⟨rfl, by kernel_rfl⟩
    · exact ⟨rfl, by kernel_rfl⟩
    · exact ⟨rfl, by kernel_rfl⟩
  · intro i f g hf hg
    have hi : i < 4 := by have := (List.getElem?_eq_some_iff.1 hg).1; simpa using this
    rcases (show i = 0 ∨ i = 1 ∨ i = 2 ∨ i = 3 by omega) with rfl | rfl | rfl | rfl <;> (simp at hf hg; subst hf hg)
    · exact Flat.i _ Tryz.underlying3
    · exact Flat.i _ Tryz.underlying3
    · exact Flat.l _ _ 98 3 _ Tryz.underlying133 rfl (by decide) (by kernel_rfl) flatEntry
    · exact flatRes
set_option maxRecDepth 100000 in
theorem flatMem : Flat Tryz.prog 25 tyMem := by
  refine Flat.st 25 _ [[.l 95 3 tyWord], [.l 93 5 tyDesc]] Tryz.underlying25 rfl (by kernel_rfl) ?_ ?_
  · intro i f g hf hg
    have hi : i < 2 := by have := (List.getElem?_eq_some_iff.1 hg).1; simpa using this
    rcases (show i = 0 ∨ i = 1 by omega) with rfl | rfl <;> (simp at hf hg; subst hf hg)
    · exact ⟨rfl, by kernel_rfl⟩
    · exact ⟨rfl, by kernel_rfl⟩
  · intro i f g hf hg
    have hi : i < 2 := by have := (List.getElem?_eq_some_iff.1 hg).1; simpa using this
    rcases (show i = 0 ∨ i = 1 by omega) with rfl | rfl <;> (simp at hf hg; subst hf hg)
    · exact Flat.l _ _ 95 3 _ Tryz.underlying22 rfl (by decide) (by kernel_rfl) flatWord
    · exact Flat.l _ _ 93 5 _ Tryz.underlying23 rfl (by decide) (by kernel_rfl) flatDesc
set_option maxRecDepth 100000 in
theorem flatCall : Flat Tryz.prog 88 tyCall := by
  refine Flat.st 88 _ [[.i], tyOp, [.i], [.i], [.i], tyRes] Tryz.underlying88 rfl (by kernel_rfl) ?_ ?_
  · intro i f g hf hg
    have hi : i < 6 := by have := (List.getElem?_eq_some_iff.1 hg).1; simpa using this
    rcases (show i = 0 ∨ i = 1 ∨ i = 2 ∨ i = 3 ∨ i = 4 ∨ i = 5 by omega) with rfl | rfl | rfl | rfl | rfl | rfl <;> (simp at hf hg; subst hf hg)
    · exact ⟨rfl, by kernel_rfl⟩
    · exact ⟨rfl, by kernel_rfl⟩
    · exact ⟨rfl, by kernel_rfl⟩
    · exact ⟨rfl, by kernel_rfl⟩
    · exact ⟨rfl, by kernel_rfl⟩
    · exact ⟨rfl, by kernel_rfl⟩
  · intro i f g hf hg
    have hi : i < 6 := by have := (List.getElem?_eq_some_iff.1 hg).1; simpa using this
    rcases (show i = 0 ∨ i = 1 ∨ i = 2 ∨ i = 3 ∨ i = 4 ∨ i = 5 by omega) with rfl | rfl | rfl | rfl | rfl | rfl <;> (simp at hf hg; subst hf hg)
    · exact Flat.i _ Tryz.underlying3
    · exact flatOp
    · exact Flat.i _ Tryz.underlying3
    · exact Flat.i _ Tryz.underlying3
    · exact Flat.i _ Tryz.underlying3
    · exact flatRes
set_option maxRecDepth 100000 in
theorem flatMachine : Flat Tryz.prog 32 tyMachine := by
  refine Flat.st 32 _ [tyMem, [.l 60 5 tyThread], [.i], [.l 106 9 tyCall], [.l 3 1 [.i]], tyRows] Tryz.underlying32 rfl (by kernel_rfl) ?_ ?_
  · intro i f g hf hg
    have hi : i < 6 := by have := (List.getElem?_eq_some_iff.1 hg).1; simpa using this
    rcases (show i = 0 ∨ i = 1 ∨ i = 2 ∨ i = 3 ∨ i = 4 ∨ i = 5 by omega) with rfl | rfl | rfl | rfl | rfl | rfl <;> (simp at hf hg; subst hf hg)
    · exact ⟨rfl, by kernel_rfl⟩
    · exact ⟨rfl, by kernel_rfl⟩
    · exact ⟨rfl, by kernel_rfl⟩
    · exact ⟨rfl, by kernel_rfl⟩
    · exact ⟨rfl, by kernel_rfl⟩
    · exact ⟨rfl, by kernel_rfl⟩
  · intro i f g hf hg
    have hi : i < 6 := by have := (List.getElem?_eq_some_iff.1 hg).1; simpa using this
    rcases (show i = 0 ∨ i = 1 ∨ i = 2 ∨ i = 3 ∨ i = 4 ∨ i = 5 by omega) with rfl | rfl | rfl | rfl | rfl | rfl <;> (simp at hf hg; subst hf hg)
    · exact flatMem
    · exact Flat.l _ _ 60 5 _ Tryz.underlying26 rfl (by decide) (by kernel_rfl) flatThread
    · exact Flat.i _ Tryz.underlying3
    · exact Flat.l _ _ 106 9 _ Tryz.underlying27 rfl (by decide) (by kernel_rfl) flatCall
    · exact Flat.l _ _ 3 1 _ Tryz.underlying28 rfl (by decide) (by kernel_rfl) (Flat.i _ Tryz.underlying3)
    · exact flatRows
end Go.Proofs.YthdpicmcgofghasGreat

/- spec.Finished, impl.Finished, walked. -/
namespace Go.Proofs.YthdpicmcgofghasGreat
open Go.ChangeShapes Go.WideShapes Go.ChangeAt Go.RowKit

structure FinGood (M : MaD) : Prop where
  ok : MachGood M
  all : ∀ i, i < M.nt → (M.ts i).pc = ((M.ts i).n0 : Int)
theorem enters_done : Enters 42 := by
  intro args w
  have hf := Tryz.func42
  go_simp
set_option maxHeartbeats 1000000 in
theorem specDone9 (a0 : Option Addr) (n0 c0 : Nat) (pc : Int) (v2 v3 v4 : Value) (w : World) : Calls Tryz.prog 40 #[.agg #[.slice a0 n0 c0, .int .i64 pc, v2, v3, v4]] w fun e w' => e = .returned (.bool (decide (pc = (n0 : Int)))) ∧ Below w.heap.size w w' := by
  have HB : Hid (Below w.heap.size w (w.alloc (.cells #[.slice a0 n0 c0, .int .i64 pc, v2, v3, v4] 60))) := (Below.refl _ w).alloc (Nat.le_refl _) _
  by_cases h : pc = (n0 : Int)
  · have h' : (pc == (n0 : Int)) = true := by simp [h]
    rw [show decide (pc = (n0 : Int)) = true from decide_eq_true h]
    clear h
    go_enter Tryz.func40, Tryz.ntmps40
    go_wp2
    go_ret
    exact ⟨rfl, HB.out⟩
  · have h' : (pc == (n0 : Int)) = false := by simp [h]
    rw [show decide (pc = (n0 : Int)) = false from decide_eq_false h]
    clear h
    go_enter Tryz.func40, Tryz.ntmps40
    go_wp2
    go_ret
    exact ⟨rfl, HB.out⟩
set_option maxHeartbeats 1000000 in
theorem implDone9 (a0 : Option Addr) (n0 c0 : Nat) (pc : Int) (v2 v3 v4 : Value) (w : World) : Calls Tryz.prog 42 #[.agg #[.slice a0 n0 c0, .int .i64 pc, v2, v3, v4]] w fun e w' => e = .returned (.bool (decide (pc = (n0 : Int)))) ∧ Below w.heap.size w w' := by
  have HB : Hid (Below w.heap.size w (w.alloc (.cells #[.slice a0 n0 c0, .int .i64 pc, v2, v3, v4] 60))) := (Below.refl _ w).alloc (Nat.le_refl _) _
  by_cases h : pc = (n0 : Int)
  · have h' : (pc == (n0 : Int)) = true := by simp [h]
    rw [show decide (pc = (n0 : Int)) = true from decide_eq_true h]
    clear h
    go_enter Tryz.func42, Tryz.ntmps42
    go_wp2
    go_ret
    exact ⟨rfl, HB.out⟩
  · have h' : (pc == (n0 : Int)) = false := by simp [h]
    rw [show decide (pc = (n0 : Int)) = false from decide_eq_false h]
    clear h
    go_enter Tryz.func42, Tryz.ntmps42
    go_wp2
    go_ret
    exact ⟨rfl, HB.out⟩

set_option maxHeartbeats 8000000 in
set_option maxRecDepth 100000 in
theorem specFinished_any (wa : Option Addr) (wc : Nat) (da : Option Addr) (dc : Nat) (ta : Option Addr) (tc : Nat) (ca : Option Addr) (cc : Nat) (oa : Option Addr) (oc : Nat) (ha : Option Addr) (hc : Nat) (M : MaD) (w : World) (h : MaAt w wa da ta ca oa ha M) :
    Calls Tryz.prog 10 #[MaV wa wc da dc ta tc ca cc oa oc ha hc M] w fun e w' => ∃ ok, (e = .returned (.bool ok) ∧ (ok = true ↔ FinGood M)) ∧ Below w.heap.size w w' := by
  obtain ⟨G, hG⟩ : ∃ G : Prop, FinGood M = G := ⟨_, rfl⟩
  rw [hG]
  have HM : Hid (MaAt w wa da ta ca oa ha M) := h
  have HG : Hid (G ↔ FinGood M) := by show _ ↔ _; rw [hG]
  have HN : Hid (M.nt = M.nt) := rfl
  obtain ⟨MO, hMO⟩ : ∃ MO : Prop, MachGood M = MO := ⟨_, rfl⟩
  have HMO : Hid (MachGood M = MO) := hMO
  obtain ⟨nw, ws, nd, ds, nt, ts, tm, nc, f, no, os, nh, hs, st⟩ := M
  have H3 : Hid (ThsAt w ta nt ts) := h.ths
  have hnt := h.ths.1
  dsimp only at hnt
  have HG : Hid (G ↔ (MO ∧ ∀ i, i < nt → (ts i).pc = ((ts i).n0 : Int))) := by
    show _ ↔ _
    rw [HG.out, ← HMO.out]
    exact ⟨fun h => ⟨h.ok, h.all⟩, fun h => ⟨h.1, h.2⟩⟩
  show Calls Tryz.prog 10 #[.agg #[.slice wa nw wc, .slice da nd dc, .slice ta nt tc, .int .i64 tm, .slice ca nc cc, .slice oa no oc, .slice ha nh hc, .int .i64 st]] w fun e w' => ∃ ok, (e = .returned (.bool ok) ∧ (ok = true ↔ G)) ∧ Below w.heap.size w w'
  obtain ⟨W, hW⟩ : ∃ W, w.alloc (.cells #[.slice wa nw wc, .slice da nd dc, .slice ta nt tc, .int .i64 tm, .slice ca nc cc, .slice oa no oc, .slice ha nh hc, .int .i64 st] 43) = W := ⟨_, rfl⟩
  have hb0 : Below w.heap.size w W := by rw [← hW]; exact (Below.refl _ w).alloc (Nat.le_refl _) _
  have BX : Hid (Box W w.heap.size #[.slice wa nw wc, .slice da nd dc, .slice ta nt tc, .int .i64 tm, .slice ca nc cc, .slice oa no oc, .slice ha nh hc, .int .i64 st] 43) := by rw [← hW]; exact box_of w _ _
  have HB0 : Hid (Below w.heap.size w W) := hb0
  have HW : Hid (w.alloc (.cells #[.slice wa nw wc, .slice da nd dc, .slice ta nt tc, .int .i64 tm, .slice ca nc cc, .slice oa no oc, .slice ha nh hc, .int .i64 st] 43) = W) := hW
  clear h hb0 hW hG hMO HN
  go_enter Tryz.func10, Tryz.ntmps10
  go_wp2_with fail
  rw [HW.out]
  refine (specMachineOk_any wa wc da dc ta tc ca cc oa oc ha hc ⟨nw, ws, nd, ds, nt, ts, tm, nc, f, no, os, nh, hs, st⟩ W (HM.out.below HB0.out (Nat.le_refl _))).mono ?_
  rintro e w1 ⟨r, ⟨rfl, hr⟩, hb1⟩
  have HR : Hid (r = true ↔ MO) := by show _ ↔ _; rw [← HMO.out]; exact hr
  have BX1 : Hid (Box w1 w.heap.size #[.slice wa nw wc, .slice da nd dc, .slice ta nt tc, .int .i64 tm, .slice ca nc cc, .slice oa no oc, .slice ha nh hc, .int .i64 st] 43) := BX.out.below hb1 BX.out.lt
  have HB1 : Hid (Below w.heap.size w w1) := HB0.out.trans (hb1.mono HB0.out.size)
  obtain ⟨z0, z1, z2, z3, z4, z5, z6, z7⟩ := eight_of BX1.out
  have L1 : w.heap.size < w1.heap.size := BX1.out.lt
  clear hr hb1
  rcases r with _ | _
  · have HNO : Hid (¬ G) := fun hg => by have := HR.out.2 (HG.out.1 hg).1; cases this
    go_wp2
    go_ret
    exact ⟨false, ⟨rfl, by simp [HNO.out]⟩, HB1.out⟩
  have HOK : Hid MO := HR.out.1 (by first | rfl | trivial)
  go_wp2
  go_loopw [3] (fun i wr => ∃ k : Nat, k ≤ nt ∧ i = .int .i64 (k : Int) ∧ (∀ j, j < k → (ts j).pc = ((ts j).n0 : Int)) ∧ Below w1.heap.size w1 wr) (fun i _ => nt - (intOf i).toNat)
  case atStart => exact ⟨0, Nat.zero_le _, rfl, (fun j h => by omega), Below.refl _ _⟩
  case round =>
    clear z0 z1 z2 z3 z4 z5 z6 z7 L1
    obtain ⟨k, hk, rfl, hall, hb⟩ := hrel
    have HALL : Hid (∀ j, j < k → (ts j).pc = ((ts j).n0 : Int)) := hall
    have HB : Hid (Below w1.heap.size w1 wr) := hb
    have HBW : Hid (Below w.heap.size w wr) := HB1.out.trans (hb.mono HB1.out.size)
    have BR : Hid (Box wr w.heap.size #[.slice wa nw wc, .slice da nd dc, .slice ta nt tc, .int .i64 tm, .slice ca nc cc, .slice oa no oc, .slice ha nh hc, .int .i64 st] 43) := BX1.out.below hb BX1.out.lt
    have L1 : w.heap.size < wr.heap.size := BR.out.lt
    obtain ⟨z0, z1, z2, z3, z4, z5, z6, z7⟩ := eight_of BR.out
    clear hall hb
    by_cases hlt : k < nt
    · have hk0 : (0 : Int) ≤ (k : Int) := by omega
      have hk1 : (k : Int) < (nt : Int) := by omega
      rcases (H3.out.below HBW.out (Nat.le_refl _)).2 with h0 | ⟨p1, o1, rfl, g1⟩
      · omega
      obtain ⟨a0, c0, a1, c1, a2, c2, hTC, _, _⟩ := g1 k hlt
      obtain ⟨e0, e1, e2, e3, e4⟩ := hTC
      obtain ⟨n0, hn0⟩ : ∃ x, (ts k).n0 = x := ⟨_, rfl⟩
      obtain ⟨pc, hpc⟩ : ∃ x, (ts k).pc = x := ⟨_, rfl⟩
      have HN0 : Hid ((ts k).n0 = n0) := hn0
      have HPC : Hid ((ts k).pc = pc) := hpc
      rw [hn0] at e0
      rw [hpc] at e1
      clear g1 hn0 hpc
      go_wp2_with fail
      refine (specDone9 a0 n0 c0 pc _ _ _ _).mono ?_
      rintro e w2 ⟨rfl, hb2⟩
      have HB2 : Hid (Below w1.heap.size w1 w2) := HB.out.trans (hb2.mono HB.out.size)
      have HBW2 : Hid (Below w.heap.size w w2) := HBW.out.trans (hb2.mono HBW.out.size)
      clear hb2 e0 e1 e2 e3 e4
      by_cases hd : pc = (n0 : Int)
      · rw [show decide (pc = (n0 : Int)) = true from decide_eq_true hd]
        have HK : Hid ((ts k).pc = ((ts k).n0 : Int)) := by show _ = _; rw [HPC.out, HN0.out]; exact hd
        clear hd
        go_wp2
        exact ⟨⟨k + 1, by omega, by go_num, all_next HALL.out HK.out, HB2.out⟩, by simp [intOf]; omega⟩
      · rw [show decide (pc = (n0 : Int)) = false from decide_eq_false hd]
        have HNO : Hid (¬ G) := fun hg => hd (by have := (HG.out.1 hg).2 k hlt; rw [HPC.out, HN0.out] at this; exact this)
        clear hd
        go_wp2
        go_ret
        exact ⟨false, ⟨rfl, by simp [HNO.out]⟩, HBW2.out⟩
    · obtain rfl : nt = k := by omega
      have HYES : Hid G := HG.out.2 ⟨HOK.out, HALL.out⟩
      go_wp2
      go_ret
      exact ⟨true, ⟨rfl, by simp [HYES.out]⟩, HBW.out⟩

set_option maxHeartbeats 8000000 in
set_option maxRecDepth 100000 in
theorem implFinished_any (wa : Option Addr) (wc : Nat) (da : Option Addr) (dc : Nat) (ta : Option Addr) (tc : Nat) (ca : Option Addr) (cc : Nat) (oa : Option Addr) (oc : Nat) (ha : Option Addr) (hc : Nat) (M : MaD) (w : World) (h : MaAt w wa da ta ca oa ha M) (hcap : CapAt w da M.nd M.ds) (hwf : ∀ x ∈ M.hs, (Lit.int .i64 x).wf = true) (hhc : M.nh ≤ hc) :
    Calls Tryz.prog 11 #[MaV wa wc da dc ta tc ca cc oa oc ha hc M] w fun e w' => ∃ ok, (e = .returned (.bool ok) ∧ (ok = true ↔ FinGood M)) ∧ Below w.heap.size w w' := by
  obtain ⟨G, hG⟩ : ∃ G : Prop, FinGood M = G := ⟨_, rfl⟩
  rw [hG]
  have HM : Hid (MaAt w wa da ta ca oa ha M) := h
  have HG : Hid (G ↔ FinGood M) := by show _ ↔ _; rw [hG]
  have HN : Hid (M.nt = M.nt) := rfl
  obtain ⟨MO, hMO⟩ : ∃ MO : Prop, MachGood M = MO := ⟨_, rfl⟩
  have HMO : Hid (MachGood M = MO) := hMO
  have HC : Hid (CapAt w da M.nd M.ds) := hcap
  have HWF : Hid (∀ x ∈ M.hs, (Lit.int .i64 x).wf = true) := hwf
  clear hcap hwf
  obtain ⟨nw, ws, nd, ds, nt, ts, tm, nc, f, no, os, nh, hs, st⟩ := M
  have H3 : Hid (ThsAt w ta nt ts) := h.ths
  have hnt := h.ths.1
  dsimp only at hnt
  have HG : Hid (G ↔ (MO ∧ ∀ i, i < nt → (ts i).pc = ((ts i).n0 : Int))) := by
    show _ ↔ _
    rw [HG.out, ← HMO.out]
    exact ⟨fun h => ⟨h.ok, h.all⟩, fun h => ⟨h.1, h.2⟩⟩
  show Calls Tryz.prog 11 #[.agg #[.slice wa nw wc, .slice da nd dc, .slice ta nt tc, .int .i64 tm, .slice ca nc cc, .slice oa no oc, .slice ha nh hc, .int .i64 st]] w fun e w' => ∃ ok, (e = .returned (.bool ok) ∧ (ok = true ↔ G)) ∧ Below w.heap.size w w'
  obtain ⟨W, hW⟩ : ∃ W, w.alloc (.cells #[.slice wa nw wc, .slice da nd dc, .slice ta nt tc, .int .i64 tm, .slice ca nc cc, .slice oa no oc, .slice ha nh hc, .int .i64 st] 43) = W := ⟨_, rfl⟩
  have hb0 : Below w.heap.size w W := by rw [← hW]; exact (Below.refl _ w).alloc (Nat.le_refl _) _
  have BX : Hid (Box W w.heap.size #[.slice wa nw wc, .slice da nd dc, .slice ta nt tc, .int .i64 tm, .slice ca nc cc, .slice oa no oc, .slice ha nh hc, .int .i64 st] 43) := by rw [← hW]; exact box_of w _ _
  have HB0 : Hid (Below w.heap.size w W) := hb0
  have HW : Hid (w.alloc (.cells #[.slice wa nw wc, .slice da nd dc, .slice ta nt tc, .int .i64 tm, .slice ca nc cc, .slice oa no oc, .slice ha nh hc, .int .i64 st] 43) = W) := hW
  clear h hb0 hW hG hMO HN
  go_enter Tryz.func11, Tryz.ntmps11
  go_wp2_with fail
  rw [HW.out]
  refine (implMachineOk_any wa wc da dc ta tc ca cc oa oc ha hc ⟨nw, ws, nd, ds, nt, ts, tm, nc, f, no, os, nh, hs, st⟩ W (HM.out.below HB0.out (Nat.le_refl _)) (HC.out.below HB0.out (Nat.le_refl _)) HWF.out hhc).mono ?_
  rintro e w1 ⟨r, ⟨rfl, hr⟩, hb1⟩
  have HR : Hid (r = true ↔ MO) := by show _ ↔ _; rw [← HMO.out]; exact hr
  have BX1 : Hid (Box w1 w.heap.size #[.slice wa nw wc, .slice da nd dc, .slice ta nt tc, .int .i64 tm, .slice ca nc cc, .slice oa no oc, .slice ha nh hc, .int .i64 st] 43) := BX.out.below hb1 BX.out.lt
  have HB1 : Hid (Below w.heap.size w w1) := HB0.out.trans (hb1.mono HB0.out.size)
  obtain ⟨z0, z1, z2, z3, z4, z5, z6, z7⟩ := eight_of BX1.out
  have L1 : w.heap.size < w1.heap.size := BX1.out.lt
  clear hr hb1
  rcases r with _ | _
  · have HNO : Hid (¬ G) := fun hg => by have := HR.out.2 (HG.out.1 hg).1; cases this
    go_wp2
    go_ret
    exact ⟨false, ⟨rfl, by simp [HNO.out]⟩, HB1.out⟩
  have HOK : Hid MO := HR.out.1 (by first | rfl | trivial)
  go_wp2_with fail
  obtain ⟨z, hlie, hth⟩ := (H3.out.below HB1.out (Nat.le_refl _)).lie
  refine (allThread 42 #[] ta nt tc _ _ _ _ _ (fun j => decide ((ts j).pc = ((ts j).n0 : Int))) w1 hnt hlie (fun j hj W' hW' => implDone9 (z j).1.1 (ts j).n0 (z j).1.2 (ts j).pc _ _ _ W') enters_done).mono ?_
  rintro e w2 ⟨r, ⟨rfl, hr⟩, hb2⟩
  have HR2 : Hid (r = true ↔ G) := by show _ ↔ _; rw [HG.out, hr]; exact ⟨fun h => ⟨HOK.out, fun i hi => of_decide_eq_true (h i hi)⟩, fun h i hi => decide_eq_true (h.2 i hi)⟩
  have HB2 : Hid (Below w.heap.size w w2) := HB1.out.trans (hb2.mono HB1.out.size)
  clear hr hb2 hlie hth
  rcases r with _ | _
  · go_wp2
    go_ret
    exact ⟨false, ⟨rfl, HR2.out⟩, HB2.out⟩
  · go_wp2
    go_ret
    exact ⟨true, ⟨rfl, ⟨fun _ => HR2.out.1 (by first | rfl | trivial), fun _ => rfl⟩⟩, HB2.out⟩
end Go.Proofs.YthdpicmcgofghasGreat
