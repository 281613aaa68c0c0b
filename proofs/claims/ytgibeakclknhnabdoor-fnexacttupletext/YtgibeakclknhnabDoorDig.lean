/- The specification's Digits, walked: it hands back the decimal numeral of its argument, and nothing that was there turns. -/
import Derived.Test.YtgibeakclknhnabDoorRows
import Derived.Test.YtgibeakclknhnabDoorNums
import Derived.WalkKit
import Derived.ProofKit
import Derived.Laws.BytesArg
namespace Go.Proofs.YtgibeakclknhnabDoor
open Go.ChangeShapes Go.WideShapes Go.ChangeAt Go.RowKit Go.Lib

theorem one_byte (w : World) (z : Int) :
    (convert 22 9 (.slice (some ⟨w.heap.size, 0, none⟩) 1 1)).run Tryd.prog (w.alloc (.cells #[.int .u8 z] 5)) = .ok (.string ⟨#[UInt8.ofNat z.toNat]⟩) (w.alloc (.cells #[.int .u8 z] 5)) := by
  have h := run_convert_bytes_arg (P := Tryd.prog) (w.alloc (.cells #[.int .u8 z] 5)) 22 5 Tryd.underlying22 Tryd.underlying5 w.heap.size 0 1 1 [z] rfl (fun i hi => by
    have : i = 0 := by omega
    subst this; simp [go_sem]) 9 Tryd.underlying9
  simpa [strOfNums] using h

theorem cons_str (x : UInt8) (s : ByteArray) : (({ data := #[x] } : ByteArray) ++ s).data.toList = x :: s.data.toList := by simp
theorem left_str {N k : Nat} {s : ByteArray} (hk : ¬ k = 0) (h : LeftD N k s.data.toList) : LeftD N (k / 10) (({ data := #[48 + UInt8.ofNat (k % 10)] } : ByteArray) ++ s).data.toList := by
  rw [cons_str]
  have := left_step (by omega) h
  rwa [UInt8.ofNat_add] at this

theorem left_str0 {N k : Nat} {s : ByteArray} (hk : ¬ k = 0) (hr : k % 10 = 0) (h : LeftD N k s.data.toList) : LeftD N (k / 10) (({ data := #[48] } : ByteArray) ++ s).data.toList := by
  have := left_str hk h
  rwa [hr] at this

set_option maxHeartbeats 400000 in
theorem digits_pos (N : Nat) (h0 : 0 < N) (hN : N ≤ 9223372036854775807) (w : World) :
    Calls Tryd.prog 37 #[.int .i64 (N : Int)] w fun e w' => (∃ s : ByteArray, e = .returned (.string s) ∧ s.data.toList = decDigits N) ∧ Below w.heap.size w w' := by
  have hcv := one_byte
  go_enter Tryd.func37, Tryd.ntmps37
  go_wp2
  go_loopw [0, 4] (fun n out w' => ∃ (k : Nat) (s : ByteArray), k ≤ N ∧ n = .int .i64 k ∧ out = .string s ∧ LeftD N k s.data.toList ∧ Below w.heap.size w w') (fun n _ _ => (RowKit.intOf n).toNat)
  case atStart => exact ⟨N, _, Nat.le_refl _, rfl, rfl, left_start N h0, Below.refl _ _⟩
  case round =>
    obtain ⟨k, s, hk, rfl, rfl, hL, hg⟩ := hrel
    by_cases hz : k = 0
    · go_wp2
      go_ret
      exact ⟨⟨s, rfl, hL.1 hz⟩, hg⟩
    · have hsz : s.size ≤ 20 := by simpa using left_len hL (by omega)
      go_wp2
      go_roundw
      case rel =>
        exact ⟨k / 10, _, by omega, by go_num, rfl, left_str hz hL, hg.alloc hg.size _⟩
      case measure => simp [RowKit.intOf]; omega

set_option maxHeartbeats 400000 in
theorem digits_neg (N : Nat) (h0 : 0 < N) (hN : N ≤ 9223372036854775808) (w : World) :
    Calls Tryd.prog 37 #[.int .i64 (-(N : Int))] w fun e w' => (∃ s : ByteArray, e = .returned (.string s) ∧ s.data.toList = 45 :: decDigits N) ∧ Below w.heap.size w w' := by
  have hcv := one_byte
  have ht := neg_tmod
  have hd := neg_tdiv
  go_enter Tryd.func37, Tryd.ntmps37
  go_wp2
  go_loopw [0, 4] (fun n out w' => ∃ (k : Nat) (s : ByteArray), k ≤ N ∧ n = .int .i64 (-(k : Int)) ∧ out = .string s ∧ LeftD N k s.data.toList ∧ Below w.heap.size w w') (fun n _ _ => (RowKit.intOf n).natAbs)
  case atStart => exact ⟨N, _, Nat.le_refl _, rfl, rfl, left_start N h0, Below.refl _ _⟩
  case round =>
    obtain ⟨k, s, hk, rfl, rfl, hL, hg⟩ := hrel
    have hsz : s.size ≤ 20 := by simpa using left_len hL (by omega)
    by_cases hz : k = 0
    · go_wp2
      go_ret
      refine ⟨⟨_, rfl, ?_⟩, hg⟩
      rw [cons_str, hL.1 hz]
    · have hm : k % 10 < 10 := Nat.mod_lt _ (by omega)
      by_cases hr : k % 10 = 0
      · go_wp2
        exact ⟨⟨k / 10, _, by omega, by go_num, rfl, left_str0 hz hr hL, hg.alloc hg.size _⟩, by simp [RowKit.intOf]; omega⟩
      · go_wp2
        exact ⟨⟨k / 10, _, by omega, by go_num, rfl, left_str hz hL, hg.alloc hg.size _⟩, by simp [RowKit.intOf]; omega⟩

/-- The specification's Digits at any int. -/
theorem digits_any (n : Int) (h0 : -9223372036854775808 ≤ n) (h1 : n ≤ 9223372036854775807) (w : World) :
    Calls Tryd.prog 37 #[.int .i64 n] w fun e w' => (∃ s : ByteArray, e = .returned (.string s) ∧ s.data.toList = itoa n) ∧ Below w.heap.size w w' := by
  by_cases hp : 0 < n
  · obtain ⟨k, rfl⟩ : ∃ k : Nat, n = (k : Int) := ⟨n.toNat, by omega⟩
    rw [itoa_of_pos]
    exact digits_pos k (by omega) (by omega) w
  · by_cases hz : n = 0
    · subst hz
      rw [itoa_zero]
      go_enter Tryd.func37, Tryd.ntmps37
      go_wp2
      go_ret
      exact ⟨⟨_, rfl, rfl⟩, Below.refl _ _⟩
    · obtain ⟨k, rfl⟩ : ∃ k : Nat, n = -(k : Int) := ⟨n.natAbs, by omega⟩
      rw [itoa_of_neg k (by omega)]
      exact digits_neg k (by omega) (by omega) w
end Go.Proofs.YtgibeakclknhnabDoor
