/- The laws' own helper markText, walked: of a number from 1 on it hands back the letter m and the number's decimal numeral; of any other m0. -/
import Derived.Test.YtmgofehafjogfaaDig
import Derived.Test.YtmgofehafjogfaaStr
namespace Go.Proofs.Ytmgofehafjogfaa
open Go.ChangeShapes Go.WideShapes Go.ChangeAt Go.RowKit Go.Lib

/-- What markText hands back of k. -/
def markS (k : Nat) : List UInt8 := 109 :: decDigits k
theorem markS_len (k : Nat) (h : k < 18446744073709551616) : (markS k).length ≤ 21 := by
  have := nDigits_le20 k h
  rw [← decDigits_length] at this
  simp [markS]; omega

set_option maxHeartbeats 400000 in
theorem markText_any (N : Nat) (h0 : 0 < N) (hN : N ≤ 9223372036854775807) (w : World) :
    Calls Try.prog 76 #[.int .i64 (N : Int)] w fun e w' => e = .returned (.string ⟨(markS N).toArray⟩) ∧ Below w.heap.size w w' := by
  have hcv := one_byte
  go_enter Try.func76, Try.ntmps76
  go_wp2
  go_loopw [0, 3] (fun n out w' => ∃ (k : Nat) (s : ByteArray), k ≤ N ∧ n = .int .i64 k ∧ out = .string s ∧ LeftD N k s.data.toList ∧ Below w.heap.size w w') (fun n _ _ => (intOf n).toNat)
  case atStart => exact ⟨N, _, Nat.le_refl _, rfl, rfl, left_start N h0, Below.refl _ _⟩
  case round =>
    obtain ⟨k, s, hk, rfl, rfl, hL, hg⟩ := hrel
    have hsz : s.size ≤ 20 := by simpa using left_len hL (by omega)
    by_cases hz : k = 0
    · go_wp2
      go_ret
      exact ⟨ret_str (by rw [cons_str, hL.1 hz]; rfl), hg⟩
    · go_wp2
      go_roundw
      case rel =>
        exact ⟨k / 10, _, by omega, by go_num, rfl, left_str hz hL, hg.alloc hg.size _⟩
      case measure => simp [intOf]; omega
end Go.Proofs.Ytmgofehafjogfaa
