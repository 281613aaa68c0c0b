/- spec.l4Ints and spec.ResSame, walked at any lists. -/
import Derived.Test.YtkifebhkgldefaaDoorResV
import Derived.Handy
namespace Go.Proofs.YtkifebhkgldefaaDoor
open Go.ChangeShapes Go.WideShapes Go.ChangeAt Go.RowKit

set_option maxHeartbeats 1000000 in
theorem l4Ints_any (a1 a2 : Option Addr) (n1 n2 c1 c2 : Nat) (xs ys : List Int) (w : World) (h1 : IntAt w a1 n1 xs) (h2 : IntAt w a2 n2 ys) :
    Calls Tryd.prog 29 #[.slice a1 n1 c1, .slice a2 n2 c2] w fun e w' => e = .returned (.bool (decide (xs = ys))) ∧ Below w.heap.size w w' := by
  have H1 : Hid (IntAt w a1 n1 xs) := h1
  have H2 : Hid (IntAt w a2 n2 ys) := h2
  have L1 : Hid (xs.length = n1) := h1.1
  have L2 : Hid (ys.length = n2) := h2.1
  have b1 := h1.2.1
  have b2 := h2.2.1
  obtain ⟨B, hB⟩ : ∃ B, decide (xs = ys) = B := ⟨_, rfl⟩
  rw [hB]
  have HB : Hid (decide (xs = ys) = B) := hB
  clear h1 h2 hB
  go_enter Tryd.func29, Tryd.ntmps29
  go_wp2
  go_loopw [5] (fun i wr => ∃ k : Nat, (k ≤ n1 ∧ k ≤ n2) ∧ i = .int .i64 k ∧ xs.take k = ys.take k ∧ Below w.heap.size w wr) (fun i _ => n1 - (intOf i).toNat)
  case atStart => exact ⟨0, ⟨Nat.zero_le _, Nat.zero_le _⟩, rfl, rfl, Below.refl _ _⟩
  case round =>
    obtain ⟨k, ⟨hk1, hk2⟩, rfl, ht, hb⟩ := hrel
    have HT : Hid (xs.take k = ys.take k) := ht
    clear ht
    by_cases hlt1 : k < n1
    · by_cases hlt2 : k < n2
      · rcases (H1.out.below hb (Nat.le_refl _)).2.2 with h | ⟨p1, o1, rfl, g1⟩
        · omega
        rcases (H2.out.below hb (Nat.le_refl _)).2.2 with h | ⟨p2, o2, rfl, g2⟩
        · omega
        obtain ⟨x, hx⟩ : ∃ x, xs.getD k 0 = x := ⟨_, rfl⟩
        obtain ⟨y, hy⟩ : ∃ y, ys.getD k 0 = y := ⟨_, rfl⟩
        have e1 := g1 k hlt1
        have e2 := g2 k hlt2
        rw [hx] at e1
        rw [hy] at e2
        have HX : Hid (xs.getD k 0 = x) := hx
        have HY : Hid (ys.getD k 0 = y) := hy
        clear g1 g2 hx hy
        go_wp2
        go_region
        go_wp2
        · have hd : (x != y) = true := by assumption
          go_ret
          refine ⟨?_, hb.drew⟩
          have e : xs ≠ ys := fun e => by rw [← HX.out, ← HY.out, e] at hd; simp at hd
          rw [← HB.out]
          simp [e]
        · have hd : (x != y) = false := by assumption
          have l1 := L1.out
          have l2 := L2.out
          exact ⟨⟨k + 1, ⟨by omega, by omega⟩, by go_num, take_nextI (by omega) (by omega) HT.out (by rw [HX.out, HY.out]; simpa using hd), hb.drew⟩, by simp [intOf]; omega⟩
      · have hne : ((n1 : Int) == (n2 : Int)) = false := by simp; omega
        go_wp2
        go_ret
        refine ⟨?_, hb⟩
        have e : xs ≠ ys := fun e => by have l1 := L1.out; have l2 := L2.out; rw [e] at l1; omega
        rw [← HB.out]
        simp [e]
    · by_cases hn : n1 = n2
      · subst hn
        go_wp2
        go_ret
        refine ⟨?_, hb⟩
        have e : xs = ys := by
          have := HT.out
          rwa [List.take_of_length_le (by have := L1.out; omega), List.take_of_length_le (by have := L2.out; omega)] at this
        rw [← HB.out]
        simp [e]
      · have hne : ((n1 : Int) == (n2 : Int)) = false := by simp; omega
        go_wp2
        go_ret
        refine ⟨?_, hb⟩
        have e : xs ≠ ys := fun e => by have l1 := L1.out; have l2 := L2.out; rw [e] at l1; omega
        rw [← HB.out]
        simp [e]

end Go.Proofs.YtkifebhkgldefaaDoor
