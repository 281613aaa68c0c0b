/- Plain facts on decimal digits, of no program: what one step of dividing by ten leaves of a numeral. -/
import Derived.Lib.ItoaNum
import Derived.Lib.ItoaLen
namespace Go.Proofs.Ytmgofehafjogfaa
open Go.Lib

theorem dec_small {u : Nat} (h : u < 10) : decDigits u = [UInt8.ofNat (48 + u)] := by rw [decDigits, dif_pos h]
theorem dec_big {u : Nat} (h : ¬ u < 10) : decDigits u = decDigits (u / 10) ++ [UInt8.ofNat (48 + u % 10)] := by rw [decDigits, dif_neg h]

/-- What the loop of the specification's Digits keeps: k is still to be written, l is written already. -/
def LeftD (N k : Nat) (l : List UInt8) : Prop := (k = 0 → l = decDigits N) ∧ (0 < k → decDigits k ++ l = decDigits N)

theorem left_start (N : Nat) (h : 0 < N) : LeftD N N [] := ⟨fun e => by omega, fun _ => by simp⟩

theorem left_step {N k : Nat} {l : List UInt8} (hk : 0 < k) (h : LeftD N k l) : LeftD N (k / 10) (UInt8.ofNat (48 + k % 10) :: l) := by
  have h2 := h.2 hk
  by_cases hs : k < 10
  · rw [dec_small hs] at h2
    have e0 : k / 10 = 0 := by omega
    have e1 : k % 10 = k := by omega
    rw [e0, e1]
    exact ⟨fun _ => h2, fun e => by omega⟩
  · rw [dec_big hs] at h2
    refine ⟨fun e => by omega, fun _ => ?_⟩
    rw [← h2]; simp

theorem left_len {N k : Nat} {l : List UInt8} (h : LeftD N k l) (hN : N < 18446744073709551616) : l.length ≤ 20 := by
  have hn := nDigits_le20 N hN
  rw [← decDigits_length] at hn
  by_cases hk : k = 0
  · rw [h.1 hk]; exact hn
  · have := h.2 (by omega)
    rw [← this] at hn
    simp at hn; omega

theorem itoa_zero : itoa 0 = [48] := by decide +kernel
theorem itoa_of_pos (k : Nat) : itoa (k : Int) = decDigits k := by unfold itoa; rw [if_neg (by omega)]; simp
theorem itoa_of_neg (k : Nat) (h : 0 < k) : itoa (-(k : Int)) = 45 :: decDigits k := by unfold itoa; rw [if_pos (by omega)]; simp

theorem neg_tmod (k : Nat) : (-(k : Int)).tmod 10 = -((k % 10 : Nat) : Int) := by
  rw [Int.neg_tmod, Int.tmod_eq_emod_of_nonneg (by omega)]; rfl
theorem neg_tdiv (k : Nat) : (-(k : Int)).tdiv 10 = -((k / 10 : Nat) : Int) := by
  rw [Int.neg_tdiv, Int.tdiv_eq_ediv_of_nonneg (by omega)]; rfl
end Go.Proofs.Ytmgofehafjogfaa
