/- slices.Index and slices.Contains of numbers. -/
import Derived.Test.YtmgofehafjogfaaIntAt
import Derived.Below
namespace Go.Proofs.Ytmgofehafjogfaa
open Go.ChangeShapes Go.WideShapes Go.ChangeAt Go.RowKit

set_option maxHeartbeats 8000000 in
set_option maxRecDepth 100000 in
theorem indexI_any (a : Option Addr) (n c : Nat) (xs : List Int) (x : Int) (w : World) (h : IntAt w a n xs) :
    Calls Try.prog 104 #[.slice a n c, .int .i64 x] w fun e w' => ∃ r : Int, (e = .returned (.int .i64 r) ∧ (0 ≤ r ↔ x ∈ xs)) ∧ w' = w := by
  have H : Hid (IntAt w a n xs) := h
  have hl := h.1
  have hn := h.2.1
  clear h
  go_enter Try.func104, Try.ntmps104
  go_wp2
  go_loopw [8] (fun i wr => ∃ k : Nat, k ≤ n ∧ i = .int .i64 k ∧ (∀ y ∈ xs.take k, ¬ x = y) ∧ wr = w) (fun i _ => n - (intOf i).toNat)
  case atStart => exact ⟨0, Nat.zero_le _, rfl, fun j hj => by simp at hj, rfl⟩
  case round =>
    obtain ⟨k, hk, rfl, hno, rfl⟩ := hrel
    have HNO : Hid (∀ y ∈ xs.take k, ¬ x = y) := hno
    clear hno
    by_cases hlt : k < n
    · rcases H.out.2.2 with h0 | ⟨p1, o1, rfl, g1⟩
      · omega
      have hk0 : (0 : Int) ≤ (k : Int) := by omega
      have hk1 : (k : Int) < (n : Int) := by omega
      have e1 := g1 k hlt
      obtain ⟨y, hy⟩ : ∃ y, xs.getD k 0 = y := ⟨_, rfl⟩
      rw [hy] at e1
      have HX : Hid (xs[k]? = some y) := by
        show _ = _
        rw [← hy, List.getD, List.getElem?_eq_getElem (by omega)]
        rfl
      clear g1 hy
      by_cases e : x = y
      · have HM : Hid (x ∈ xs) := by rw [e]; exact List.mem_of_getElem? HX.out
        subst e
        go_wp2
        go_ret
        exact ⟨k, ⟨rfl, fun _ => HM.out, fun _ => by omega⟩, rfl⟩
      · have hne : (x == y) = false := by simp [e]
        have HN : Hid (∀ z ∈ xs.take (k + 1), ¬ x = z) := fun z hz => by
          rw [List.take_add_one, HX.out] at hz
          rcases List.mem_append.1 hz with h1 | h1
          · exact HNO.out z h1
          · simp at h1; rw [h1]; exact e
        clear e
        go_wp2
        exact ⟨⟨k + 1, by omega, by go_num, HN.out, trivial⟩, by simp [intOf]; omega⟩
    · obtain rfl : k = n := by omega
      have HV : Hid (¬ x ∈ xs) := fun h => HNO.out x (by rw [List.take_of_length_le (by omega)]; exact h) rfl
      go_wp2
      go_ret
      exact ⟨-1, ⟨rfl, fun h => absurd h (by omega), fun h => absurd h HV.out⟩, rfl⟩
set_option maxHeartbeats 8000000 in
set_option maxRecDepth 100000 in
theorem containsI_any (a : Option Addr) (n c : Nat) (xs : List Int) (x : Int) (w : World) (h : IntAt w a n xs) :
    Calls Try.prog 87 #[.slice a n c, .int .i64 x] w fun e w' => e = .returned (.bool (decide (x ∈ xs))) ∧ w' = w := by
  have HC : Hid (IntAt w a n xs) := h
  clear h
  go_enter Try.func87, Try.ntmps87
  go_wp2_with fail
  refine (indexI_any a n c xs x _ HC.out).mono ?_
  rintro e w1 ⟨r, ⟨rfl, hr⟩, rfl⟩
  have HV : Hid (decide (0 ≤ r) = decide (x ∈ xs)) := decide_eq_decide.2 hr
  clear hr
  go_wp2
  go_ret
  exact ⟨by rw [HV.out]; rfl, rfl⟩
end Go.Proofs.Ytmgofehafjogfaa
