/- The laws' own looking whether what was marked is held. -/
import Derived.Test.YtbdfopokimpeiaqMarkO
namespace Go.Proofs.Ytbdfopokimpeiaq
open Go.ChangeShapes Go.WideShapes Go.ChangeAt Go.RowKit Go.Joins

set_option maxHeartbeats 1000000 in
theorem heldWordS_o (a : Option Addr) (n c : Nat) (k0 : Int) (w : World) (hk0 : 0 ≤ k0) (hk1 : k0 ≤ 4611686018427387904) (h : TripAt w a n (asc k0 (n * 3))) :
    Calls Try.prog 66 #[.slice a n c, .int .i64 k0] w fun e w' => e = .returned (.int .i64 (k0 + (n : Int) * 3)) ∧ Below w.heap.size w w' := by
  have HH : Hid (TripAt w a n (asc k0 (n * 3))) := h
  have hn := h.2.1
  clear h
  go_enter Try.func66, Try.ntmps66
  go_wp2
  go_loopw [1, 5] (fun q i wr => ∃ j : Nat, j ≤ n ∧ q = .int .i64 (k0 + (j : Int) * 3) ∧ i = .int .i64 (j : Int) ∧ Below w.heap.size w wr) (fun _ i _ => n - (intOf i).toNat)
  case atStart => exact ⟨0, Nat.zero_le _, by simp, rfl, Below.refl _ _⟩
  case round =>
    obtain ⟨j, hj, rfl, rfl, hb⟩ := hrel
    have HB : Hid (Below w.heap.size w wr) := hb
    by_cases hlt : j < n
    · have hj0 : (0 : Int) ≤ (j : Int) := by omega
      have hj1 : (j : Int) < (n : Int) := by omega
      rcases (HH.out.below hb (Nat.le_refl _)).2.2 with h0 | ⟨p1, o1, rfl, g1⟩
      · omega
      have e1 := g1 (j * 3) (by omega)
      have e2 := g1 (j * 3 + 1) (by omega)
      have e3 := g1 (j * 3 + 2) (by omega)
      obtain ⟨q, hq⟩ : ∃ q : Int, k0 + (j : Int) * 3 = q := ⟨_, rfl⟩
      have HQ : Hid (k0 + (j : Int) * 3 = q) := hq
      have hq0 : 0 ≤ q := by omega
      have hq1 : q ≤ 4611686021573115904 := by omega
      rw [asc_at (by omega), show k0 + ((j * 3 : Nat) : Int) = q by push_cast; omega] at e1
      rw [asc_at (by omega), show k0 + ((j * 3 + 1 : Nat) : Int) = q + 1 by push_cast; omega, ← Nat.add_assoc] at e2
      rw [asc_at (by omega), show k0 + ((j * 3 + 2 : Nat) : Int) = q + 1 + 1 by push_cast; omega, ← Nat.add_assoc] at e3
      rw [hq]
      clear g1 hq hb
      go_wp2
      exact ⟨⟨j + 1, by omega, by have := HQ.out; congr 1; push_cast; omega, by go_num, HB.out⟩, by simp [intOf]; omega⟩
    · obtain rfl : j = n := by omega
      go_wp2
      go_ret
      exact ⟨rfl, HB.out⟩
set_option maxHeartbeats 1000000 in
theorem heldEntryS_o (a : Option Addr) (n c : Nat) (k0 : Int) (w : World) (hk0 : 0 ≤ k0) (hk1 : k0 ≤ 4611686018427387904) (h : TripAt w a n (asc k0 (n * 3))) :
    Calls Try.prog 93 #[.slice a n c, .int .i64 k0] w fun e w' => e = .returned (.int .i64 (k0 + (n : Int) * 3)) ∧ Below w.heap.size w w' := by
  have HH : Hid (TripAt w a n (asc k0 (n * 3))) := h
  have hn := h.2.1
  clear h
  go_enter Try.func93, Try.ntmps93
  go_wp2
  go_loopw [1, 5] (fun q i wr => ∃ j : Nat, j ≤ n ∧ q = .int .i64 (k0 + (j : Int) * 3) ∧ i = .int .i64 (j : Int) ∧ Below w.heap.size w wr) (fun _ i _ => n - (intOf i).toNat)
  case atStart => exact ⟨0, Nat.zero_le _, by simp, rfl, Below.refl _ _⟩
  case round =>
    obtain ⟨j, hj, rfl, rfl, hb⟩ := hrel
    have HB : Hid (Below w.heap.size w wr) := hb
    by_cases hlt : j < n
    · have hj0 : (0 : Int) ≤ (j : Int) := by omega
      have hj1 : (j : Int) < (n : Int) := by omega
      rcases (HH.out.below hb (Nat.le_refl _)).2.2 with h0 | ⟨p1, o1, rfl, g1⟩
      · omega
      have e1 := g1 (j * 3) (by omega)
      have e2 := g1 (j * 3 + 1) (by omega)
      have e3 := g1 (j * 3 + 2) (by omega)
      obtain ⟨q, hq⟩ : ∃ q : Int, k0 + (j : Int) * 3 = q := ⟨_, rfl⟩
      have HQ : Hid (k0 + (j : Int) * 3 = q) := hq
      have hq0 : 0 ≤ q := by omega
      have hq1 : q ≤ 4611686021573115904 := by omega
      rw [asc_at (by omega), show k0 + ((j * 3 : Nat) : Int) = q by push_cast; omega] at e1
      rw [asc_at (by omega), show k0 + ((j * 3 + 1 : Nat) : Int) = q + 1 by push_cast; omega, ← Nat.add_assoc] at e2
      rw [asc_at (by omega), show k0 + ((j * 3 + 2 : Nat) : Int) = q + 1 + 1 by push_cast; omega, ← Nat.add_assoc] at e3
      rw [hq]
      clear g1 hq hb
      go_wp2
      exact ⟨⟨j + 1, by omega, by have := HQ.out; congr 1; push_cast; omega, by go_num, HB.out⟩, by simp [intOf]; omega⟩
    · obtain rfl : j = n := by omega
      go_wp2
      go_ret
      exact ⟨rfl, HB.out⟩
set_option maxHeartbeats 1000000 in
theorem heldIntS_o (a : Option Addr) (n c : Nat) (k0 : Int) (w : World) (hk0 : 0 ≤ k0) (hk1 : k0 ≤ 4611686018427387904) (hn : n ≤ 1048576) (h : IntAt w a n (asc k0 n)) :
    Calls Try.prog 22 #[.slice a n c, .int .i64 k0] w fun e w' => e = .returned (.int .i64 (k0 + (n : Int))) ∧ Below w.heap.size w w' := by
  have HH : Hid (IntAt w a n (asc k0 n)) := h
  clear h
  go_enter Try.func22, Try.ntmps22
  go_wp2
  go_loopw [1, 5] (fun q i wr => ∃ j : Nat, j ≤ n ∧ q = .int .i64 (k0 + (j : Int)) ∧ i = .int .i64 (j : Int) ∧ Below w.heap.size w wr) (fun _ i _ => n - (intOf i).toNat)
  case atStart => exact ⟨0, Nat.zero_le _, by simp, rfl, Below.refl _ _⟩
  case round =>
    obtain ⟨j, hj, rfl, rfl, hb⟩ := hrel
    have HB : Hid (Below w.heap.size w wr) := hb
    by_cases hlt : j < n
    · have hj0 : (0 : Int) ≤ (j : Int) := by omega
      have hj1 : (j : Int) < (n : Int) := by omega
      rcases (HH.out.below hb (Nat.le_refl _)).2.2 with h0 | ⟨p1, o1, rfl, g1⟩
      · omega
      have e1 := g1 j (by omega)
      obtain ⟨q, hq⟩ : ∃ q : Int, k0 + (j : Int) = q := ⟨_, rfl⟩
      have HQ : Hid (k0 + (j : Int) = q) := hq
      have hq0 : 0 ≤ q := by omega
      have hq1 : q ≤ 4611686021573115904 := by omega
      rw [asc_at (by omega), hq] at e1
      rw [hq]
      clear g1 hq hb
      go_wp2
      exact ⟨⟨j + 1, by omega, by have := HQ.out; congr 1; push_cast; omega, by go_num, HB.out⟩, by simp [intOf]; omega⟩
    · obtain rfl : j = n := by omega
      go_wp2
      go_ret
      exact ⟨rfl, HB.out⟩
end Go.Proofs.Ytbdfopokimpeiaq
