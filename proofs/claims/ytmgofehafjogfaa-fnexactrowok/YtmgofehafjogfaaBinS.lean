/- slices.BinarySearch of numbers in order. -/
import Derived.Test.YtmgofehafjogfaaSortI
import Derived.Deep.LoopGhost
import Derived.Deep.Draws
namespace Go.Proofs.Ytmgofehafjogfaa
open Go.ChangeShapes Go.WideShapes Go.ChangeAt Go.RowKit

set_option maxHeartbeats 8000000 in
set_option maxRecDepth 100000 in
theorem nanS_any (x : Int) (w : World) : Calls Try.prog 103 #[.int .i64 x] w fun e w' => e = .returned (.bool false) ∧ w' = w := by
  have hx : (x != x) = false := by simp
  go_enter Try.func103, Try.ntmps103
  go_wp2
  go_ret
  exact ⟨rfl, rfl⟩
set_option maxHeartbeats 8000000 in
set_option maxRecDepth 100000 in
theorem binary_any (a : Option Addr) (n c : Nat) (zs : List Int) (x : Int) (w : World) (hn : n ≤ 2097152) (h : IntAt w a n zs) (hs : ∀ p q, p < q → q < n → zs.getD p 0 ≤ zs.getD q 0) :
    Calls Try.prog 86 #[.slice a n c, .int .i64 x] w fun e w' => (∃ r : Int, e = .returned (.tuple #[.int .i64 r, .bool (decide (x ∈ zs))])) ∧ w' = w := by
  obtain ⟨R, hR⟩ : ∃ R, decide (x ∈ zs) = R := ⟨_, rfl⟩
  have HR : Hid (decide (x ∈ zs) = R) := hR
  rw [hR]
  have H : Hid (IntAt w a n zs) := h
  have S : Hid (∀ p q, p < q → q < n → zs.getD p 0 ≤ zs.getD q 0) := hs
  have hl := h.1
  clear h hs hR
  have RT : Hid (∀ i, i < n → zs.getD i 0 = x → R = true) := fun i hi e => by
    rw [← HR.out]
    refine decide_eq_true ?_
    rw [List.getD, List.getElem?_eq_getElem (by omega)] at e
    rw [← e]
    exact List.getElem_mem _
  have RF : Hid ((∀ i, i < n → ¬ zs.getD i 0 = x) → R = false) := fun hno => by
    rw [← HR.out]
    refine decide_eq_false fun hm => ?_
    obtain ⟨i, hi, e⟩ := List.getElem_of_mem hm
    exact hno i (by omega) (by rw [List.getD, List.getElem?_eq_getElem hi]; exact e)
  clear HR
  go_enter Try.func86, Try.ntmps86
  go_wp2
  go_loopg [7, 8] n (fun g s7 s8 wr => ∃ lo hi : Nat, s7 = .int .i64 lo ∧ s8 = .int .i64 hi ∧ lo ≤ hi ∧ hi ≤ n ∧ hi - lo ≤ g ∧ wr = w ∧ (∀ t, t < lo → zs.getD t 0 < x) ∧ (∀ t, hi ≤ t → t < n → x ≤ zs.getD t 0))
  case atStart => exact ⟨0, n, rfl, rfl, Nat.zero_le _, Nat.le_refl _, by omega, rfl, fun t ht => absurd ht (Nat.not_lt_zero _), fun t h1 h2 => by omega⟩
  case round =>
    obtain ⟨lo, hi, rfl, rfl, hlh, hin, hg, rfl, h1, h2⟩ := hrel
    have I : Hid ((∀ t, t < lo → zs.getD t 0 < x) ∧ (∀ t, hi ≤ t → t < n → x ≤ zs.getD t 0)) := ⟨h1, h2⟩
    clear h1 h2
    by_cases hlt : lo < hi
    · rcases H.out.2.2 with h0 | ⟨p1, o1, rfl, g1⟩
      · omega
      have cm := g1 ((lo + hi) / 2) (by omega)
      clear g1
      generalize hy : zs.getD ((lo + hi) / 2) 0 = y at cm
      have Y : Hid (zs.getD ((lo + hi) / 2) 0 = y) := hy
      clear hy
      by_cases hyx : y < x
      · go_wp2_with (first | (refine (lessC_any _ _ _).mono ?_; rintro e w' ⟨rfl, rfl⟩))
        go_roundg (hi - ((lo + hi) / 2 + 1))
        case measure => omega
        case rel =>
          refine ⟨(lo + hi) / 2 + 1, hi, by rw [show ((lo : Int) + (hi : Int)) / 2 + 1 = (((lo + hi) / 2 + 1 : Nat) : Int) by omega], rfl, by omega, hin, Nat.le_refl _, rfl, fun t ht => ?_, I.out.2⟩
          by_cases e : t = (lo + hi) / 2
          · rw [e, Y.out]; exact hyx
          · have := S.out t ((lo + hi) / 2) (by omega) (by omega)
            rw [Y.out] at this
            omega
      · go_wp2_with (first | (refine (lessC_any _ _ _).mono ?_; rintro e w' ⟨rfl, rfl⟩))
        go_roundg ((lo + hi) / 2 - lo)
        case measure => omega
        case rel =>
          refine ⟨lo, (lo + hi) / 2, rfl, by rw [show ((lo : Int) + (hi : Int)) / 2 = (((lo + hi) / 2 : Nat) : Int) by omega], by omega, by omega, Nat.le_refl _, rfl, I.out.1, fun t ht htn => ?_⟩
          by_cases e : t = (lo + hi) / 2
          · rw [e, Y.out]; omega
          · have := S.out ((lo + hi) / 2) t (by omega) htn
            rw [Y.out] at this
            omega
    · have : hi = lo := by omega
      subst this
      by_cases hn1 : hi < n
      · rcases H.out.2.2 with h0 | ⟨p1, o1, rfl, g1⟩
        · omega
        have cl := g1 hi (by omega)
        clear g1
        generalize hy : zs.getD hi 0 = y at cl
        have Y : Hid (zs.getD hi 0 = y) := hy
        clear hy
        by_cases hyx : y = x
        · have hrv : Hid (R = true) := RT.out hi hn1 (by rw [Y.out]; exact hyx)
          subst hyx
          go_wp2_with (first | (refine (nanS_any _ _).mono ?_; rintro e w' ⟨rfl, rfl⟩))
          go_ret2
          exact ⟨⟨hi, by rw [hrv.out]; first | rfl | simp⟩, rfl⟩
        · have hne : (y == x) = false := by simp [hyx]
          have hrv : Hid (R = false) := RF.out fun i hi' e => by
            rcases Nat.lt_trichotomy i hi with h1 | h1 | h1
            · have := I.out.1 i h1; omega
            · rw [h1, Y.out] at e; exact hyx e
            · have h3 := S.out hi i h1 hi'
              have h4 := I.out.2 hi (Nat.le_refl _) hn1
              rw [Y.out] at h3 h4
              omega
          clear hyx
          go_wp2_with (first | (refine (nanS_any _ _).mono ?_; rintro e w' ⟨rfl, rfl⟩))
          go_ret2
          exact ⟨⟨hi, by rw [hrv.out]; first | rfl | simp [*]⟩, rfl⟩
      · have hrv : Hid (R = false) := RF.out fun i hi' e => by
          have := I.out.1 i (by omega); omega
        go_wp2_with (first | (refine (nanS_any _ _).mono ?_; rintro e w' ⟨rfl, rfl⟩))
        go_ret2
        exact ⟨⟨hi, by rw [hrv.out]; first | rfl | simp [*]⟩, rfl⟩
end Go.Proofs.Ytmgofehafjogfaa
