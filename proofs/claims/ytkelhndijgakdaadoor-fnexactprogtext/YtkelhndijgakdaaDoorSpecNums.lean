/- The specification's NumsText, walked: the numerals with commas between. -/
import Derived.Test.YtkelhndijgakdaaDoorIntAt
import Derived.Test.YtkelhndijgakdaaDoorNums2
import Derived.Test.YtkelhndijgakdaaDoorDig
import Derived.Test.YtkelhndijgakdaaDoorStr
namespace Go.Proofs.YtkelhndijgakdaaDoor
open Go.ChangeShapes Go.WideShapes Go.ChangeAt Go.RowKit Go.Lib

theorem app_str (a b : ByteArray) : (a ++ b).data.toList = a.data.toList ++ b.data.toList := by simp

set_option maxHeartbeats 1000000 in
theorem specNums_any (a : Option Addr) (n c : Nat) (xs : List Int) (w : World) (h : IntAt w a n xs) (hi : In64s xs) :
    Calls Tryd.prog 31 #[.slice a n c] w fun e w' => (∃ s : ByteArray, e = .returned (.string s) ∧ s.data.toList = numsB xs) ∧ Below w.heap.size w w' := by
  have HH : Hid (IntAt w a n xs) := h
  have L1 : Hid (xs.length = n) := h.1
  have b1 := h.2.1
  have HI : Hid (In64s xs) := hi
  clear h hi
  go_enter Tryd.func31, Tryd.ntmps31
  go_wp2
  go_loopw [3, 4] (fun out i wr => ∃ (k : Nat) (s : ByteArray), k ≤ n ∧ i = .int .i64 (k : Int) ∧ out = .string s ∧ s.data.toList = numsB (xs.take k) ∧ Below w.heap.size w wr) (fun _ i _ => n - (intOf i).toNat)
  case atStart => exact ⟨0, _, Nat.zero_le _, rfl, rfl, by simp [numsB_nil], Below.refl _ _⟩
  case round =>
    obtain ⟨k, s, hk, rfl, rfl, hs, hb⟩ := hrel
    have hsz : s.size ≤ 22 * k := by
      have h1 := numsB_len k (xs.take k) (by have := L1.out; rw [List.length_take]; omega) (in64_take HI.out k)
      rw [← hs] at h1
      simpa using h1
    have HS : Hid (s.data.toList = numsB (xs.take k)) := hs
    clear hs
    by_cases hlt : k < n
    · rcases (HH.out.below hb (Nat.le_refl _)).2.2 with h0 | ⟨p1, o1, rfl, g1⟩
      · omega
      have e1 := g1 k hlt
      obtain ⟨h0, h1⟩ := in64_at HI.out k (by have := L1.out; omega)
      obtain ⟨x, hx⟩ : ∃ x, xs.getD k 0 = x := ⟨_, rfl⟩
      have HT : Hid (xs.take (k + 1) = xs.take k ++ [x]) := by rw [← hx]; exact take_snocI (by have := L1.out; omega)
      rw [hx] at e1 h0 h1
      have hil := itoa_length_le x h0 h1
      clear g1 hx
      by_cases hz : k = 0
      · subst hz
        rw [Nat.add_zero] at e1
        go_wp2_with (go_at_call 22; refine (digits_any x h0 h1 _).mono ?_; rintro e w1 ⟨⟨s1, rfl, hs1⟩, hg1⟩; have hz1 : s1.size ≤ 21 := by (rw [← hs1] at hil; simpa using hil))
        go_roundw
        case rel => exact ⟨1, _, by omega, by go_num, rfl, by rw [app_str, HS.out, hs1, HT.out]; simp [numsB, join_nil, join_one], hb.trans (hg1.mono hb.size)⟩
        case measure => simp [intOf]; omega
      · go_wp2_with (go_at_call 22; refine (digits_any x h0 h1 _).mono ?_; rintro e w1 ⟨⟨s1, rfl, hs1⟩, hg1⟩; have hz1 : s1.size ≤ 21 := by (rw [← hs1] at hil; simpa using hil))
        exact ⟨⟨k + 1, _, by omega, by go_num, rfl, by rw [app_str, app_str, HS.out, hs1, HT.out, numsB_snoc _ _ (by have := L1.out; intro e; have := congrArg List.length e; rw [List.length_take, List.length_nil] at this; omega)], hb.trans (hg1.mono hb.size)⟩, by simp [intOf]; omega⟩
    · have l1 := L1.out
      have e := List.take_of_length_le (show xs.length ≤ k by omega)
      go_wp2
      go_ret
      exact ⟨⟨s, rfl, by rw [HS.out, e]⟩, hb⟩
end Go.Proofs.YtkelhndijgakdaaDoor
