/- spec.HowMany, walked at four numbers. -/
import Derived.Test.YtkifebhkgldefaaDoorWordsM
import Derived.Test.YtkifebhkgldefaaDoorValOk
import Derived.Test.YtkifebhkgldefaaDoorIntAt
namespace Go.Proofs.YtkifebhkgldefaaDoor
open Go.ChangeShapes Go.WideShapes Go.ChangeAt Go.RowKit

/-- How many of the first k are of class c. -/
def cntK (xs : List Int) (c : Int) : Nat → Int
  | 0 => 0
  | k + 1 => cntK xs c k + bitW (xs.getD k 0) c
theorem bitW_le (y c : Int) : 0 ≤ bitW y c ∧ bitW y c ≤ 1 := by unfold bitW; split <;> omega
theorem cntK_le (xs : List Int) (c : Int) (k : Nat) : 0 ≤ cntK xs c k ∧ cntK xs c k ≤ (k : Int) := by
  induction k with
  | zero => simp [cntK]
  | succ k ih =>
    have := bitW_le (xs.getD k 0) c
    simp only [cntK]
    omega
theorem cntK_four (xs : List Int) (c : Int) : cntK xs c 4 = clsW (xs.getD 0 0) (xs.getD 1 0) (xs.getD 2 0) (xs.getD 3 0) c := by
  simp [cntK, clsW]

theorem l1Bit_any (b : Bool) (w : World) : Calls Tryd.prog 55 #[.bool b] w fun e w' => e = .returned (.int .i64 (if b then 1 else 0)) ∧ w' = w := by
  cases b
  · go_enter Tryd.func55, Tryd.ntmps55
    go_wp2
    go_ret
    exact ⟨rfl, rfl⟩
  · go_enter Tryd.func55, Tryd.ntmps55
    go_wp2
    go_ret
    exact ⟨rfl, rfl⟩

set_option maxHeartbeats 1000000 in
theorem specHowMany_four (a : Option Addr) (cp : Nat) (st c : Int) (xs : List Int) (w : World) (hA : IntAt w a 4 xs) :
    Calls Tryd.prog 47 #[.agg #[.slice a 4 cp, .int .i64 st], .int .i64 c] w fun e w' => e = .returned (.int .i64 (cntK xs c 4)) ∧ Below w.heap.size w w' := by
  have HA : Hid (IntAt w a 4 xs) := hA
  clear hA
  go_enter Tryd.func47, Tryd.ntmps47
  go_wp2
  go_loopw [5, 6] (fun q i wr => ∃ k : Nat, k ≤ 4 ∧ q = .int .i64 (cntK xs c k) ∧ i = .int .i64 (k : Int) ∧ Below (w.heap.size + 1) (w.alloc (.cells #[.slice a 4 cp, .int .i64 st] 24)) wr) (fun _ i _ => 4 - (intOf i).toNat)
  case atStart => exact ⟨0, Nat.zero_le _, rfl, rfl, Below.refl _ _⟩
  case round =>
    obtain ⟨k, hk, rfl, rfl, hb⟩ := hrel
    have hbw : Below w.heap.size w wr := ((Below.refl _ w).alloc (Nat.le_refl _) _).trans (hb.mono (Nat.le_succ _))
    have hc0 : wr.cell? ⟨w.heap.size, 0, none⟩ = some (.slice a 4 cp) := by rw [hb.cell (by simp)]; simp
    by_cases hlt : k < 4
    · rcases (HA.out.below hbw (Nat.le_refl _)).2.2 with h0 | ⟨p1, o1, rfl, g1⟩
      · omega
      have e1 := g1 k hlt
      obtain ⟨x, hx⟩ : ∃ x, xs.getD k 0 = x := ⟨_, rfl⟩
      rw [hx] at e1
      obtain ⟨q, hq⟩ : ∃ q, cntK xs c k = q := ⟨_, rfl⟩
      have hqb := cntK_le xs c k
      have hnext : Hid (cntK xs c (k + 1) = cntK xs c k + bitW x c) := by rw [← hx]; rfl
      rw [hq] at hqb ⊢
      have HQ : Hid (cntK xs c k = q) := hq
      clear g1 hx hq
      by_cases hv : 1 ≤ x ∧ x ≤ 6
      · by_cases hc : classN x = c
        · have hbit : Hid (bitW x c = 1) := by simp [Hid, bitW, hv, hc]
          have hcc : (classN x == c) = true := by simpa using hc
          clear hc
          go_wp2_with (first
            | (go_at_call 43; refine (specValOk_any x _).mono ?_; rintro e w1 ⟨rfl, rfl⟩; rw [show decide (1 ≤ x ∧ x ≤ 6) = true from decide_eq_true hv])
            | (go_at_call 56; refine (specClassOf_any x _).mono ?_; rintro e w1 ⟨rfl, rfl⟩)
            | (go_at_call 55; refine (l1Bit_any _ _).mono ?_; rintro e w1 ⟨rfl, rfl⟩))
          exact ⟨⟨k + 1, by omega, by rw [hnext.out, HQ.out, hbit.out], by go_num, hb⟩, by simp [intOf]; omega⟩
        · have hbit : Hid (bitW x c = 0) := by simp [Hid, bitW, hc]
          have hcc : (classN x == c) = false := by simpa using hc
          clear hc
          go_wp2_with (first
            | (go_at_call 43; refine (specValOk_any x _).mono ?_; rintro e w1 ⟨rfl, rfl⟩; rw [show decide (1 ≤ x ∧ x ≤ 6) = true from decide_eq_true hv])
            | (go_at_call 56; refine (specClassOf_any x _).mono ?_; rintro e w1 ⟨rfl, rfl⟩)
            | (go_at_call 55; refine (l1Bit_any _ _).mono ?_; rintro e w1 ⟨rfl, rfl⟩))
          exact ⟨⟨k + 1, by omega, by rw [hnext.out, HQ.out, hbit.out, Int.add_zero], by go_num, hb⟩, by simp [intOf]; omega⟩
      · have hbit : Hid (bitW x c = 0) := by simp [Hid, bitW, hv]
        go_wp2_with (first
          | (go_at_call 43; refine (specValOk_any x _).mono ?_; rintro e w1 ⟨rfl, rfl⟩; rw [show decide (1 ≤ x ∧ x ≤ 6) = false from decide_eq_false hv])
          | (go_at_call 55; refine (l1Bit_any _ _).mono ?_; rintro e w1 ⟨rfl, rfl⟩))
        exact ⟨⟨k + 1, by omega, by rw [hnext.out, HQ.out, hbit.out, Int.add_zero], by go_num, hb⟩, by simp [intOf]; omega⟩
    · obtain rfl : k = 4 := by omega
      go_wp2
      go_ret
      exact ⟨rfl, hbw⟩
end Go.Proofs.YtkifebhkgldefaaDoor
