/- slices.IndexFunc and slices.ContainsFunc over words, with impl.isMark. -/
import Derived.Test.YtbdfopokimpeiarIsMark
import Derived.Test.YtbdfopokimpeiarTrip
namespace Go.Proofs.Ytbdfopokimpeiar
open Go.ChangeShapes Go.WideShapes Go.ChangeAt Go.RowKit

set_option maxHeartbeats 1000000 in
set_option maxRecDepth 100000 in
theorem indexW_any (a : Option Addr) (m c : Nat) (fs : List Int) (w : World) (h : TripAt w a m fs) :
    Calls Try.prog 31 #[.slice a m c, .func (.func 17) #[] #[]] w fun e w' => ∃ r : Int, (e = .returned (.int .i64 r) ∧ (0 ≤ r ↔ ∃ i, i < m ∧ ((fs.getD (i * 3 + 1) 0) != 0) = true)) ∧ Below w.heap.size w w' := by
  have H : Hid (TripAt w a m fs) := h
  have hm := h.2.1
  clear h
  go_enter Try.func31, Try.ntmps31
  go_wp2
  go_loopw [8] (fun i wr => ∃ k : Nat, k ≤ m ∧ i = .int .i64 k ∧ (∀ i, i < k → ¬ ((fs.getD (i * 3 + 1) 0) != 0) = true) ∧ Below w.heap.size w wr) (fun i _ => m - (intOf i).toNat)
  case atStart => exact ⟨0, Nat.zero_le _, rfl, fun i hi => by omega, Below.refl _ _⟩
  case round =>
    obtain ⟨k, hk, rfl, hno, hbr⟩ := hrel
    have HNO : Hid (∀ i, i < k → ¬ ((fs.getD (i * 3 + 1) 0) != 0) = true) := hno
    clear hno
    by_cases hlt : k < m
    · rcases (H.out.below hbr (Nat.le_refl _)).2.2 with h0 | ⟨p1, o1, rfl, g1⟩
      · omega
      have hk0 : (0 : Int) ≤ (k : Int) := by omega
      have hk1 : (k : Int) < (m : Int) := by omega
      have e1 := g1 (k * 3) (by omega)
      have e2 := g1 (k * 3 + 1) (by omega)
      have e3 := g1 (k * 3 + 2) (by omega)
      obtain ⟨x, hx⟩ : ∃ x, fs.getD (k * 3) 0 = x := ⟨_, rfl⟩
      obtain ⟨y, hy⟩ : ∃ y, fs.getD (k * 3 + 1) 0 = y := ⟨_, rfl⟩
      obtain ⟨z, hz⟩ : ∃ z, fs.getD (k * 3 + 2) 0 = z := ⟨_, rfl⟩
      have HY : Hid (fs.getD (k * 3 + 1) 0 = y) := hy
      rw [hx] at e1
      rw [hy, ← Nat.add_assoc] at e2
      rw [hz, ← Nat.add_assoc] at e3
      clear g1 hx hy hz
      go_wp2_with fail
      refine (isMark_any x y z _).mono ?_
      rintro e w1 ⟨rfl, hb1⟩
      have hb2 := hbr.trans (hb1.mono hbr.size)
      clear hb1 e1 e2 e3
      rcases hp : (y != 0) with _ | _
      · have HN : Hid (∀ i, i < k + 1 → ¬ ((fs.getD (i * 3 + 1) 0) != 0) = true) := fun i hi => by
          by_cases e : i = k
          · rw [e, HY.out, hp]; simp
          · exact HNO.out i (by omega)
        clear hp
        go_wp2
        exact ⟨⟨k + 1, by omega, by go_num, HN.out, hb2⟩, by simp [intOf]; omega⟩
      · have HV : Hid (∃ i, i < m ∧ ((fs.getD (i * 3 + 1) 0) != 0) = true) := ⟨k, hlt, by rw [HY.out]; exact hp⟩
        clear hp
        go_wp2
        go_ret
        exact ⟨k, ⟨rfl, fun _ => HV.out, fun _ => by omega⟩, hb2⟩
    · obtain rfl : k = m := by omega
      have HV : Hid (¬ ∃ i, i < k ∧ ((fs.getD (i * 3 + 1) 0) != 0) = true) := fun ⟨i, h1, h2⟩ => HNO.out i h1 h2
      go_wp2
      go_ret
      exact ⟨-1, ⟨rfl, fun h => absurd h (by omega), fun h => absurd h HV.out⟩, hbr⟩
set_option maxHeartbeats 1000000 in
theorem containsW_any (a : Option Addr) (m c : Nat) (fs : List Int) (w : World) (h : TripAt w a m fs) :
    Calls Try.prog 16 #[.slice a m c, .func (.func 17) #[] #[]] w fun e w' => ∃ ok : Bool, (e = .returned (.bool ok) ∧ (ok = true ↔ ∃ i, i < m ∧ ((fs.getD (i * 3 + 1) 0) != 0) = true)) ∧ Below w.heap.size w w' := by
  have HC : Hid (Calls Try.prog 31 #[.slice a m c, .func (.func 17) #[] #[]] w fun e w' => ∃ r : Int, (e = .returned (.int .i64 r) ∧ (0 ≤ r ↔ ∃ i, i < m ∧ ((fs.getD (i * 3 + 1) 0) != 0) = true)) ∧ Below w.heap.size w w') := indexW_any a m c fs w h
  clear h
  go_enter Try.func16, Try.ntmps16
  go_wp2_with fail
  refine HC.out.mono ?_
  rintro e w1 ⟨r, ⟨rfl, hr⟩, hb1⟩
  have HR : Hid _ := hr
  clear hr HC
  go_wp2
  go_ret
  exact ⟨decide (0 ≤ r), ⟨rfl, by rw [decide_eq_true_iff]; exact HR.out⟩, hb1⟩
end Go.Proofs.Ytbdfopokimpeiar
