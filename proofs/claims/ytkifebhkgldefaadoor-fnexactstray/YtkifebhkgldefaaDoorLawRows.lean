/- The laws' own helpers for rows, walked: toRows (new rows that read alike), szRows, eqRows. -/
import Derived.Test.YtkifebhkgldefaaDoorInts
import Derived.Handy
namespace Go.Proofs.YtkifebhkgldefaaDoor
open Go.ChangeShapes Go.WideShapes Go.ChangeAt Go.RowKit

/-- Rows as a value. -/
abbrev RowsV (a : Option Addr) (n c : Nat) (st : Int) : Value := .agg #[.slice a n c, .int .i64 st]

set_option maxHeartbeats 1000000 in
theorem eqRows_any (a1 a2 : Option Addr) (n1 n2 c1 c2 : Nat) (s1 s2 : Int) (xs ys : List Int) (w : World) (h1 : IntAt w a1 n1 xs) (h2 : IntAt w a2 n2 ys) :
    Calls Tryd.prog 11 #[RowsV a1 n1 c1 s1, RowsV a2 n2 c2 s2] w fun e w' => e = .returned (.bool (decide (xs = ys) && decide (s1 = s2))) ∧ Below w.heap.size w w' := by
  have H1 : Hid (IntAt w a1 n1 xs) := h1
  have H2 : Hid (IntAt w a2 n2 ys) := h2
  clear h1 h2
  go_enter Tryd.func11, Tryd.ntmps11
  go_wp2_with fail
  have hb0 : Below w.heap.size w ((w.alloc (.cells #[.slice a1 n1 c1, .int .i64 s1] 24)).alloc (.cells #[.slice a2 n2 c2, .int .i64 s2] 24)) := ((Below.refl _ w).alloc (Nat.le_refl _) _).alloc (by simp) _
  refine (eqIntS_any a1 a2 n1 n2 c1 c2 xs ys _ (H1.out.below hb0 (Nat.le_refl _)) (H2.out.below hb0 (Nat.le_refl _))).mono ?_
  rintro e w1 ⟨rfl, m, rfl⟩
  have hb1 := below_drewN hb0 m
  clear hb0
  by_cases hx : xs = ys
  · rw [show decide (xs = ys) = true from decide_eq_true hx]
    by_cases hs : s1 = s2
    · subst hs
      go_wp2
      go_ret
      exact ⟨by simp, hb1⟩
    · have hs' : (s1 != s2) = true := by simpa using hs
      have HS : Hid (¬ s1 = s2) := hs
      clear hs
      go_wp2
      go_ret
      exact ⟨by simp [HS.out], hb1⟩
  · rw [show decide (xs = ys) = false from decide_eq_false hx]
    have HX : Hid (¬ xs = ys) := hx
    clear hx
    go_wp2
    go_ret
    exact ⟨by simp [HX.out], hb1⟩

theorem eqRows_same (a1 a2 : Option Addr) (n1 n2 c1 c2 : Nat) (st : Int) (xs : List Int) (w : World) (h1 : IntAt w a1 n1 xs) (h2 : IntAt w a2 n2 xs) :
    Calls Tryd.prog 11 #[RowsV a1 n1 c1 st, RowsV a2 n2 c2 st] w fun e w' => e = .returned (.bool true) ∧ Below w.heap.size w w' := by
  have := eqRows_any a1 a2 n1 n2 c1 c2 st st xs xs w h1 h2
  simpa using this
end Go.Proofs.YtkifebhkgldefaaDoor
