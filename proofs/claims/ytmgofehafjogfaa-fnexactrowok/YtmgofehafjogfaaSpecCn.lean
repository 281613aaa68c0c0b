/- spec.ColNameOk, walked. -/
import Derived.Test.YtmgofehafjogfaaSchL
import Derived.Test.YtmgofehafjogfaaInB
import Derived.Test.YtmgofehafjogfaaRows
import Derived.Deep.Cut
namespace Go.Proofs.Ytmgofehafjogfaa
open Go.ChangeShapes Go.WideShapes Go.ChangeAt Go.RowKit

set_option maxHeartbeats 4000000 in
set_option maxRecDepth 100000 in
theorem specColNameOk_any (s : ByteArray) (hs : s.size ≤ 9223372036854775807) (w : World) :
    Calls Try.prog 20 #[.string s] w fun e w' => e = .returned (.bool (decide (CnGood s))) ∧ w' = w := by
  obtain ⟨B, hB⟩ : ∃ B, decide (CnGood s) = B := ⟨_, rfl⟩
  rw [hB]
  have HB : Hid (decide (CnGood s) = B) := hB
  clear hB
  go_enter Try.func20, Try.ntmps20
  go_wp2
  go_loopw [3] (fun i wr => ∃ j : Nat, j ≤ s.size ∧ i = .int .i64 (j : Int) ∧ (∀ b ∈ s.data.toList.take j, lowB b) ∧ wr = w) (fun i _ => s.size - (RowKit.intOf i).toNat)
  case atStart => exact ⟨0, Nat.zero_le _, rfl, fun x hx => by simp at hx, rfl⟩
  case round =>
    obtain ⟨j, hj, rfl, hg, rfl⟩ := hrel
    have HG : Hid (∀ b ∈ s.data.toList.take j, lowB b) := hg
    clear hg
    by_cases hlt : j < s.size
    · have hk0 : (0 : Int) ≤ (j : Int) := by omega
      have hk1 : (j : Int) < (s.size : Int) := by omega
      have hb? : s.data.toList[j]? = some (s[j]'hlt) := by
        rw [Array.getElem?_toList]
        exact Array.getElem?_eq_getElem hlt
      have hbd : j < s.data.size := hlt
      obtain ⟨b, hbq⟩ : ∃ b, s[j]'hlt = b := ⟨_, rfl⟩
      rw [hbq] at hb?
      have HQ : Hid (s.data.toList[j]? = some b) := hb?
      clear hb?
      by_cases h1 : (b.toNat : Int) < 97
      · have HBV : Hid (B = false) := by
          show _ = _
          rw [← HB.out]
          exact decide_eq_false fun h => by have := (h.1 _ (List.mem_of_getElem? HQ.out)).1; omega
        go_wp2
        go_ret
        exact ⟨by rw [HBV.out]; rfl, rfl⟩
      by_cases h2 : (122 : Int) < (b.toNat : Int)
      · have HBV : Hid (B = false) := by
          show _ = _
          rw [← HB.out]
          exact decide_eq_false fun h => by have := (h.1 _ (List.mem_of_getElem? HQ.out)).2; omega
        go_wp2
        go_ret
        exact ⟨by rw [HBV.out]; rfl, rfl⟩
      have hall : Hid (∀ x ∈ s.data.toList.take (j + 1), lowB x) := take_all HG.out HQ.out ⟨by omega, by omega⟩
      go_wp2
      go_roundw
      case rel => exact ⟨j + 1, by omega, by go_num, hall.out, trivial⟩
      case measure => simp [RowKit.intOf]; omega
    · obtain rfl : j = s.size := by omega
      have HBV : Hid (inB (s.size : Int) 1 12 = B) := by
        have h1 := HG.out
        rw [List.take_of_length_le (by simp)] at h1
        show _ = _
        rw [← HB.out]
        unfold inB
        exact decide_eq_decide.2 ⟨fun h => ⟨h1, by omega, by omega⟩, fun h => by have := h.2; omega⟩
      go_wp2_with fail
      refine (l1In_g _ _ _ _).mono ?_
      rintro e w2 ⟨rfl, rfl⟩
      rw [HBV.out]
      go_wp2
      go_ret
      exact ⟨rfl, rfl⟩
end Go.Proofs.Ytmgofehafjogfaa
