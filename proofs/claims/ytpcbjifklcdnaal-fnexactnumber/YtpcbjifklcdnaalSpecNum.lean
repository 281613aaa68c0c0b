/- The specification's Number, walked: of a text that is a number its value and true, of any other 0 and false. -/
import Derived.Test.YtpcbjifklcdnaalDig
import Derived.Test.YtpcbjifklcdnaalVal
import Derived.Test.YtpcbjifklcdnaalStr
namespace Go.Proofs.Ytpcbjifklcdnaal
open Go.ChangeShapes Go.WideShapes Go.ChangeAt Go.RowKit Go.Lib

/-- What both programs' Number hands back. -/
def NumEnds (l : List UInt8) (e : Ending) : Prop :=
  (Num l ∧ e = .returned (.tuple #[.int .i64 (val l : Int), .bool true])) ∨ (¬ Num l ∧ e = .returned (.tuple #[.int .i64 0, .bool false]))

theorem str_of {a b : ByteArray} (h : (!a.toList == b.toList) = false) : a.data.toList = b.data.toList := by
  simpa [ByteArray.toList_eq] using h

set_option maxHeartbeats 400000 in
theorem specNumber_any (s : ByteArray) (hs : s.size ≤ maxLen) (w : World) :
    Calls Try.prog 5 #[.string s] w fun e w' => NumEnds s.data.toList e ∧ Below w.heap.size w w' := by
  unfold maxLen at hs
  by_cases h1 : s.size < 1
  · go_enter Try.func5, Try.ntmps5
    go_wp2
    go_ret2
    exact ⟨.inr ⟨fun h => by have := h.1; simp at this; omega, rfl⟩, Below.refl _ _⟩
  by_cases h6 : 6 < s.size
  · go_enter Try.func5, Try.ntmps5
    go_wp2
    go_ret2
    exact ⟨.inr ⟨fun h => by have := h.2.1; simp at this; omega, rfl⟩, Below.refl _ _⟩
  go_enter Try.func5, Try.ntmps5
  go_wp2
  go_loop [4, 5] (fun n i => ∃ k : Nat, k ≤ s.size ∧ i = .int .i64 k ∧ n = .int .i64 (val (s.data.toList.take k) : Int) ∧ Digs (s.data.toList.take k)) (fun _ i => s.size - (intOf i).toNat)
  case atStart => exact ⟨0, Nat.zero_le _, rfl, rfl, digs_nil⟩
  case round =>
    obtain ⟨k, hk, rfl, rfl, hd⟩ := hrel
    have hv : val (s.data.toList.take k) ≤ 999999 := val_le6 _ hd (by rw [List.length_take]; omega)
    by_cases hlt : k < s.size
    · have HS : Hid (s.data.toList.take (k + 1) = s.data.toList.take k ++ [s[k]]) := take_snoc s k hlt
      have hb : s[k].toNat < 256 := UInt8.toNat_lt _
      by_cases ha : s[k].toNat < 48
      · go_wp2
        go_ret2
        exact ⟨.inr ⟨not_num_at s k hlt (.inl ha), rfl⟩, Below.refl _ _⟩
      by_cases hc : 57 < s[k].toNat
      · go_wp2
        go_ret2
        exact ⟨.inr ⟨not_num_at s k hlt (.inr hc), rfl⟩, Below.refl _ _⟩
      go_wp2
      go_round
      case rel =>
        exact ⟨k + 1, by omega, by go_num, by rw [HS.out, val_snoc]; go_num, by rw [HS.out]; exact digs_snoc hd (by omega) (by omega)⟩
      case measure => simp [intOf]; omega
    · have e := take_all s k (by omega)
      rw [e] at hd hv ⊢
      go_wp2_with (go_at_call 12; refine (digits_any _ (by omega) (by omega) _).mono ?_; rintro e w' ⟨⟨s', rfl, hs'⟩, hg⟩)
      · have hne : (!s'.toList == s.toList) = true := by assumption
        go_ret2
        refine ⟨.inr ⟨fun hn => ?_, rfl⟩, hg⟩
        rw [str_eq (hs'.trans (by rw [itoa_of_pos, num_dec hn]))] at hne
        simp at hne
      · have heq : (!s'.toList == s.toList) = false := by simp_all
        go_ret2
        refine ⟨.inl ⟨num_of_dec (by simp; omega) (by simp; omega) hd ?_, rfl⟩, hg⟩
        rw [← itoa_of_pos, ← hs', str_of heq]
end Go.Proofs.Ytpcbjifklcdnaal
