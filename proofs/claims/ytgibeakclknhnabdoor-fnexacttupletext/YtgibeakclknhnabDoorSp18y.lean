/- spec.TupleText, walked. -/
import Derived.Test.YtgibeakclknhnabDoorTxt18
import Derived.Test.YtgibeakclknhnabDoorSpecVx
import Derived.Deep.Cut
namespace Go.Proofs.YtgibeakclknhnabDoor
open Go.ChangeShapes Go.WideShapes Go.ChangeAt Go.RowKit
open Go.Lib (join join_nil join_one join_cons joinTail itoa itoa_length_le)

theorem app_strV (a b : ByteArray) : (a ++ b).data.toList = a.data.toList ++ b.data.toList := by simp
set_option maxHeartbeats 4000000 in
set_option maxRecDepth 100000 in
theorem specTupleText_any (a : Option Addr) (n c : Nat) (L : List Va3) (w : World) (h : VasAt w a n L) :
    Calls Tryd.prog 14 #[.slice a n c] w fun e w' => TextSays e (txtsB L) ∧ Below w.heap.size w w' := by
  have HH : Hid (VasAt w a n L) := h
  have hl := h.1
  have hn := h.2.1
  clear h
  go_enter Tryd.func14, Tryd.ntmps14
  go_wp2
  go_loopw [3, 4] (fun out i wr => ∃ (k : Nat) (s : ByteArray), k ≤ n ∧ i = .int .i64 (k : Int) ∧ out = .string s ∧ s.data.toList = txtsB (L.take k) ∧ Below w.heap.size w wr) (fun _ i _ => n - (RowKit.intOf i).toNat)
  case atStart => exact ⟨0, _, Nat.zero_le _, rfl, rfl, by simp [txtsB, join_nil], Below.refl _ _⟩
  case round =>
    obtain ⟨k, s, hk, rfl, rfl, hs, hb⟩ := hrel
    have hsz : s.size ≤ 42 * k := by
      have h1 := txtsB_len k (L.take k) (by rw [List.length_take]; omega)
      rw [← hs] at h1
      simpa using h1
    have HS : Hid (s.data.toList = txtsB (L.take k)) := hs
    have HBW : Hid (Below w.heap.size w wr) := hb
    clear hs hb
    by_cases hlt : k < n
    · rcases (HH.out.below HBW.out (Nat.le_refl _)).2.2 with h0 | ⟨p1, o1, rfl, g1⟩
      · omega
      obtain ⟨x, hx⟩ : ∃ x, L[k]? = some x := ⟨_, List.getElem?_eq_getElem (by omega)⟩
      obtain ⟨e0, e1, e2⟩ := g1 k x hx
      have HT : Hid (L.take (k + 1) = L.take k ++ [x]) := take_snocV hx
      have HVL : Hid ((valB x.1 x.2.1 x.2.2).length ≤ 41) := valB_le _ _ _
      have hk0 : (0 : Int) ≤ (k : Int) := by omega
      have hk1 : (k : Int) < (n : Int) := by omega
      obtain ⟨x0, x1, x2⟩ := x
      dsimp only at e0 e1 e2 HVL
      clear g1 hx
      by_cases hz : k = 0
      · subst hz
        rw [Nat.zero_mul, Nat.add_zero] at e0 e1 e2
        go_wp2_with
          (go_at_call 25
           refine (specValueText_any x0 x1 x2 _).mono ?_
           rintro e w1 ⟨⟨s1, rfl, hs1⟩, hg1⟩
           have hz1 : s1.size ≤ 41 := by
             have h1 := HVL.out
             rw [← hs1] at h1
             simpa using h1
           have HS1 : Hid (s1.data.toList = valB x0 x1 x2) := hs1
           have HG1 : Hid (Below wr.heap.size wr w1) := hg1
           clear hs1 hg1)
        go_roundw
        case rel => exact ⟨1, _, by omega, by go_num, rfl, by rw [app_strV, HS.out, HS1.out, HT.out]; simp [txtsB, join_nil, join_one], HBW.out.trans (HG1.out.mono HBW.out.size)⟩
        case measure => simp [RowKit.intOf]; omega
      · have hz0 : (0 : Int) < (k : Int) := by omega
        go_wp2_with
          (go_at_call 25
           refine (specValueText_any x0 x1 x2 _).mono ?_
           rintro e w1 ⟨⟨s1, rfl, hs1⟩, hg1⟩
           have hz1 : s1.size ≤ 41 := by
             have h1 := HVL.out
             rw [← hs1] at h1
             simpa using h1
           have HS1 : Hid (s1.data.toList = valB x0 x1 x2) := hs1
           have HG1 : Hid (Below wr.heap.size wr w1) := hg1
           clear hs1 hg1)
        exact ⟨⟨k + 1, _, by omega, by go_num, rfl, by rw [app_strV, app_strV, HS.out, HS1.out, HT.out, txtsB_snoc _ _ (by intro e; have := congrArg List.length e; rw [List.length_take, List.length_nil] at this; omega)], HBW.out.trans (HG1.out.mono HBW.out.size)⟩, by simp [RowKit.intOf]; omega⟩
    · have e := List.take_of_length_le (show L.length ≤ k by omega)
      go_wp2
      go_ret
      exact ⟨⟨s, rfl, by rw [HS.out, e]⟩, HBW.out⟩
end Go.Proofs.YtgibeakclknhnabDoor
