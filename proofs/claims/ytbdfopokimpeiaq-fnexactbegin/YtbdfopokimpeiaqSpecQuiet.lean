/- spec.l7Marks and spec.Quiet, walked at any Mem. -/
import Derived.Test.YtbdfopokimpeiaqSpecMem
namespace Go.Proofs.Ytbdfopokimpeiaq
open Go.ChangeShapes Go.WideShapes Go.ChangeAt Go.RowKit

/-- There is a mark of thread t (below 0: of any). -/
def Marked (fs : List Int) (m : Nat) (t : Int) : Prop := ∃ i, i < m ∧ 0 < fs.getD (i * 3 + 1) 0 ∧ (t < 0 ∨ fs.getD (i * 3 + 1) 0 = t + 1)
def QuietM (fs : List Int) (m : Nat) (ds : List DK) : Prop := MemGood fs m ds ∧ ¬ Marked fs m (-1)
set_option maxHeartbeats 2000000 in
theorem l7Marks_any (wa : Option Addr) (m wc : Nat) (fs : List Int) (da : Option Addr) (n dc : Nat) (t : Int) (w : World) (h1 : TripAt w wa m fs) (ht : -1 ≤ t ∧ t ≤ 1000) :
    Calls Try.prog 69 #[MemV wa m wc da n dc, .int .i64 t] w fun e w' => ∃ ok, (e = .returned (.bool ok) ∧ (ok = true ↔ Marked fs m t)) ∧ Below w.heap.size w w' := by
  have hm := h1.2.1
  obtain ⟨W, hW⟩ : ∃ W, w.alloc (.cells #[.slice wa m wc, .slice da n dc] 46) = W := ⟨_, rfl⟩
  have hb0 : Below w.heap.size w W := by rw [← hW]; exact (Below.refl _ w).alloc (Nat.le_refl _) _
  have BX : Hid (Box W w.heap.size #[.slice wa m wc, .slice da n dc] 46) := by rw [← hW]; exact box_of w _ _
  have H1 : Hid (TripAt W wa m fs) := h1.below hb0 (Nat.le_refl _)
  have HB0 : Hid (Below w.heap.size w W) := hb0
  have HW : Hid (w.alloc (.cells #[.slice wa m wc, .slice da n dc] 46) = W) := hW
  clear h1 hW hb0
  go_enter Try.func69, Try.ntmps69
  go_wp2
  go_loopw [5] (fun i wr => ∃ k : Nat, k ≤ m ∧ i = .int .i64 (k : Int) ∧ (∀ i, i < k → ¬ (0 < fs.getD (i * 3 + 1) 0 ∧ (t < 0 ∨ fs.getD (i * 3 + 1) 0 = t + 1))) ∧ Below W.heap.size W wr) (fun i _ => m - (intOf i).toNat)
  case atStart => exact ⟨0, Nat.zero_le _, rfl, fun i h => by omega, by rw [HW.out]; exact Below.refl _ _⟩
  case round =>
    obtain ⟨k, hk, rfl, hall, hb⟩ := hrel
    have HALL : Hid (∀ i, i < k → ¬ (0 < fs.getD (i * 3 + 1) 0 ∧ (t < 0 ∨ fs.getD (i * 3 + 1) 0 = t + 1))) := hall
    have HB : Hid (Below W.heap.size W wr) := hb
    have BR : Hid (Box wr w.heap.size #[.slice wa m wc, .slice da n dc] 46) := BX.out.below hb BX.out.lt
    have c0 := BR.out.cell 0
    have c1 := BR.out.cell 1
    simp only [List.getElem?_toArray, List.getElem?_cons_zero, List.getElem?_cons_succ] at c0 c1
    clear hall hb
    by_cases hlt : k < m
    · have hk0 : (0 : Int) ≤ (k : Int) := by omega
      have hk1 : (k : Int) < (m : Int) := by omega
      rcases (H1.out.below HB.out (Nat.le_refl _)).2.2 with h0 | ⟨p1, o1, rfl, g1⟩
      · omega
      have e2 := g1 (k * 3 + 1) (by omega)
      obtain ⟨y, hy⟩ : ∃ y, fs.getD (k * 3 + 1) 0 = y := ⟨_, rfl⟩
      rw [hy, ← Nat.add_assoc] at e2
      have HY : Hid (fs.getD (k * 3 + 1) 0 = y) := hy
      clear g1 hy
      by_cases hy0 : 0 < y
      · by_cases ht0 : t < 0
        · have HYES : Hid (Marked fs m t) := ⟨k, hlt, by rw [HY.out]; exact hy0, .inl ht0⟩
          go_wp2
          go_ret
          exact ⟨true, ⟨rfl, by simp [HYES.out]⟩, HB0.out.trans (HB.out.mono HB0.out.size)⟩
        · have ht0' : decide (t < 0) = false := by simpa using ht0
          by_cases hyt : y = t + 1
          · have hyt' : (y == t + 1) = true := by simpa using hyt
            have HYES : Hid (Marked fs m t) := ⟨k, hlt, by rw [HY.out]; exact hy0, .inr (by rw [HY.out]; exact hyt)⟩
            clear hyt
            go_wp2
            go_ret
            first | exact ⟨true, ⟨rfl, by simp [HYES.out]⟩, HB0.out.trans (HB.out.mono HB0.out.size)⟩ | exact ⟨.inr ⟨rfl, HYES.out⟩, HB0.out.trans (HB.out.mono HB0.out.size)⟩
          · have hyt' : (y == t + 1) = false := by simpa using hyt
            have HNX : Hid (∀ i, i < k + 1 → ¬ (0 < fs.getD (i * 3 + 1) 0 ∧ (t < 0 ∨ fs.getD (i * 3 + 1) 0 = t + 1))) := fun i hi => by
              by_cases e : i = k
              · rw [e, HY.out]; exact fun h => by omega
              · exact HALL.out i (by omega)
            clear hyt
            go_wp2
            exact ⟨⟨k + 1, by omega, by go_num, HNX.out, HB.out⟩, by simp [intOf]; omega⟩
      · have hy0' : decide (0 < y) = false := by simpa using hy0
        have HNX : Hid (∀ i, i < k + 1 → ¬ (0 < fs.getD (i * 3 + 1) 0 ∧ (t < 0 ∨ fs.getD (i * 3 + 1) 0 = t + 1))) := fun i hi => by
          by_cases e : i = k
          · rw [e, HY.out]; exact fun h => hy0 h.1
          · exact HALL.out i (by omega)
        clear hy0
        go_wp2
        exact ⟨⟨k + 1, by omega, by go_num, HNX.out, HB.out⟩, by simp [intOf]; omega⟩
    · obtain rfl : k = m := by omega
      have HNO : Hid (¬ Marked fs k t) := fun ⟨i, h1, h2⟩ => HALL.out i h1 h2
      go_wp2
      go_ret
      exact ⟨false, ⟨rfl, by simp [HNO.out]⟩, HB0.out.trans (HB.out.mono HB0.out.size)⟩
end Go.Proofs.Ytbdfopokimpeiaq
