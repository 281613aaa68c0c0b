/- The laws' own helpers for rows, walked: toRows (new rows that read alike), szRows, eqRows. -/
import Derived.Test.YtlnhmmpmnflagaoInts
import Derived.Handy
namespace Go.Proofs.Ytlnhmmpmnflagao
open Go.ChangeShapes Go.WideShapes Go.ChangeAt Go.RowKit

/-- Rows as a value. -/
abbrev RowsV (a : Option Addr) (n c : Nat) (st : Int) : Value := .agg #[.slice a n c, .int .i64 st]

set_option maxHeartbeats 1000000 in
theorem toRows_any (a : Option Addr) (n c : Nat) (st : Int) (xs : List Int) (w : World) (h : IntAt w a n xs) :
    Calls Try.prog 17 #[RowsV a n c st] w fun e w' => e = .returned (RowsV (some ⟨w.heap.size + 3, 0, none⟩) n n st) ∧ w'.ownsRow (w.heap.size + 3) 3 1 (.slice (some ⟨w.heap.size + 3, 0, none⟩) n n) n (xs.map I) ∧ Below w.heap.size w w' := by
  have HA : Hid (IntAt w a n xs) := h
  clear h
  go_enter Try.func17, Try.ntmps17
  go_wp2_with fail
  have hb0 : Below w.heap.size w (((w.alloc (.cells #[.slice a n c, .int .i64 st] 37)).alloc (.cells #[.slice none 0 0, .int .i64 0] 40)).alloc (.cells #[.slice none 0 0, .int .i64 0] 40)) :=
    (((Below.refl _ w).alloc (Nat.le_refl _) _).alloc (by simp) _).alloc (by simp; omega) _
  refine (toIntS_any a n c xs _ (HA.out.below hb0 (Nat.le_refl _))).mono ?_
  rintro e w1 ⟨rfl, own1, hb1⟩
  simp only [World.size_alloc] at own1 hb1
  have hs1 := hb1.size
  simp only [World.size_alloc] at hs1
  have c01 : w1.cell? ⟨w.heap.size, 1, none⟩ = some (.int .i64 st) := by rw [hb1.cell (show w.heap.size < w.heap.size + 1 + 1 + 1 by omega), World.cell?_alloc_past _ _ _ (by simp; omega), World.cell?_alloc_past _ _ _ (by simp), World.cell?_alloc_at _ _ _ _ rfl]; rfl
  have c10 : w1.cell? ⟨w.heap.size + 1, 0, none⟩ = some (.slice none 0 0) := by rw [hb1.cell (show w.heap.size + 1 < w.heap.size + 1 + 1 + 1 by omega)]; simp [World.cell?_alloc_past, World.cell?_alloc_at]
  have c11 : w1.cell? ⟨w.heap.size + 1, 1, none⟩ = some (.int .i64 0) := by rw [hb1.cell (show w.heap.size + 1 < w.heap.size + 1 + 1 + 1 by omega)]; simp [World.cell?_alloc_past, World.cell?_alloc_at]
  have c20 : w1.cell? ⟨w.heap.size + 1 + 1, 0, none⟩ = some (.slice none 0 0) := by rw [hb1.cell (show w.heap.size + 1 + 1 < w.heap.size + 1 + 1 + 1 by omega)]; simp [World.cell?_alloc_at]
  have c21 : w1.cell? ⟨w.heap.size + 1 + 1, 1, none⟩ = some (.int .i64 0) := by rw [hb1.cell (show w.heap.size + 1 + 1 < w.heap.size + 1 + 1 + 1 by omega)]; simp [World.cell?_alloc_at]
  have f10 : w1.frozen? ⟨w.heap.size + 1, 0, none⟩ = false := by rw [hb1.frozen (show w.heap.size + 1 < w.heap.size + 1 + 1 + 1 by omega)]; simp [World.frozen?_alloc_past, World.frozen?_alloc_at]
  have f11 : w1.frozen? ⟨w.heap.size + 1, 1, none⟩ = false := by rw [hb1.frozen (show w.heap.size + 1 < w.heap.size + 1 + 1 + 1 by omega)]; simp [World.frozen?_alloc_past, World.frozen?_alloc_at]
  have f20 : w1.frozen? ⟨w.heap.size + 1 + 1, 0, none⟩ = false := by rw [hb1.frozen (show w.heap.size + 1 + 1 < w.heap.size + 1 + 1 + 1 by omega)]; simp [World.frozen?_alloc_at]
  have f21 : w1.frozen? ⟨w.heap.size + 1 + 1, 1, none⟩ = false := by rw [hb1.frozen (show w.heap.size + 1 + 1 < w.heap.size + 1 + 1 + 1 by omega)]; simp [World.frozen?_alloc_at]
  have hbw : Below w.heap.size w w1 := hb0.trans (hb1.mono (by omega))
  have HO : Hid (w1.ownsRow (w.heap.size + 1 + 1 + 1) 3 1 (.slice (some ⟨w.heap.size + 1 + 1 + 1, 0, none⟩) n n) n (xs.map I)) := own1
  clear hb0 hb1 own1
  go_wp2
  (try simp only [Exit.inBlock, Exit.then])
  refine bodyPost_ret (by simp [results, Try.results17, go_sem, c10, c11]; try rfl) rfl ?_
  exact ⟨rfl, ownsRow_setCell_below (ownsRow_setCell_below (ownsRow_setCell_below (ownsRow_setCell_below HO.out (by simp) _) (by simp) _) (by simp) _) (by simp) _,
    (((hbw.setCell (by simp; omega) _).setCell (by simp; omega) _).setCell (by simp) _).setCell (by simp) _⟩

theorem szRows_small (a : Option Addr) (n c : Nat) (st : Int) (w : World) (hn : n ≤ 1048576) :
    Calls Try.prog 15 #[RowsV a n c st, .int .i64 1048576] w fun e w' => (∃ m : Int, e = .returned (.int .i64 m) ∧ 0 ≤ m) ∧ Below w.heap.size w w' := by
  have h0 : ¬ (1048576 - (n : Int) < 0) := by omega
  go_enter Try.func15, Try.ntmps15
  go_wp2
  go_ret
  exact ⟨⟨_, rfl, by omega⟩, (Below.refl _ _).alloc (Nat.le_refl _) _⟩
theorem szRows_big (a : Option Addr) (n c : Nat) (st : Int) (w : World) (hn : ¬ n ≤ 1048576) (hm : n ≤ 9223372036854775807) :
    Calls Try.prog 15 #[RowsV a n c st, .int .i64 1048576] w fun e w' => e = .returned (.int .i64 (-1)) ∧ Below w.heap.size w w' := by
  have h0 : 1048576 - (n : Int) < 0 := by omega
  go_enter Try.func15, Try.ntmps15
  go_wp2
  go_ret
  exact ⟨rfl, (Below.refl _ _).alloc (Nat.le_refl _) _⟩

set_option maxHeartbeats 1000000 in
theorem eqRows_any (a1 a2 : Option Addr) (n1 n2 c1 c2 : Nat) (s1 s2 : Int) (xs ys : List Int) (w : World) (h1 : IntAt w a1 n1 xs) (h2 : IntAt w a2 n2 ys) :
    Calls Try.prog 19 #[RowsV a1 n1 c1 s1, RowsV a2 n2 c2 s2] w fun e w' => e = .returned (.bool (decide (xs = ys) && decide (s1 = s2))) ∧ Below w.heap.size w w' := by
  have H1 : Hid (IntAt w a1 n1 xs) := h1
  have H2 : Hid (IntAt w a2 n2 ys) := h2
  clear h1 h2
  go_enter Try.func19, Try.ntmps19
  go_wp2_with fail
  have hb0 : Below w.heap.size w ((w.alloc (.cells #[.slice a1 n1 c1, .int .i64 s1] 40)).alloc (.cells #[.slice a2 n2 c2, .int .i64 s2] 40)) := ((Below.refl _ w).alloc (Nat.le_refl _) _).alloc (by simp) _
  refine (eqIntS_any a1 a2 n1 n2 c1 c2 xs ys _ (H1.out.below hb0 (Nat.le_refl _)) (H2.out.below hb0 (Nat.le_refl _))).mono ?_
  rintro e w1 ⟨rfl, m, rfl⟩
  have hb1 := below_drewN hb0 m
  clear hb0
  by_cases hx : xs = ys
  · rw [show decide (xs = ys) = true from decide_eq_true hx]
    by_cases hs : s1 = s2
    · subst hs
      go_wp2
      go_ret
      exact ⟨by simp, hb1⟩
    · have hs' : (s1 != s2) = true := by simpa using hs
      have HS : Hid (¬ s1 = s2) := hs
      clear hs
      go_wp2
      go_ret
      exact ⟨by simp [HS.out], hb1⟩
  · rw [show decide (xs = ys) = false from decide_eq_false hx]
    have HX : Hid (¬ xs = ys) := hx
    clear hx
    go_wp2
    go_ret
    exact ⟨by simp [HX.out], hb1⟩

theorem eqRows_same (a1 a2 : Option Addr) (n1 n2 c1 c2 : Nat) (st : Int) (xs : List Int) (w : World) (h1 : IntAt w a1 n1 xs) (h2 : IntAt w a2 n2 xs) :
    Calls Try.prog 19 #[RowsV a1 n1 c1 st, RowsV a2 n2 c2 st] w fun e w' => e = .returned (.bool true) ∧ Below w.heap.size w w' := by
  have := eqRows_any a1 a2 n1 n2 c1 c2 st st xs xs w h1 h2
  simpa using this
end Go.Proofs.Ytlnhmmpmnflagao
