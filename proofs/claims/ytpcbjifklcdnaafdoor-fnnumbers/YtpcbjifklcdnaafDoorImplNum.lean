/- The program's Number, walked: what is no number is a panic that its deferred function recovers; of a text that is a number its value and true, of any other 0 and false. -/
import Derived.Test.YtpcbjifklcdnaafDoorSpecNum
import Derived.Defers
import Derived.Recover
import Derived.WalkSmall
namespace Go.Proofs.YtpcbjifklcdnaafDoor
open Go.ChangeShapes Go.WideShapes Go.ChangeAt Go.RowKit Go.Lib

theorem digit_yes (n : Int) (h1 : 48 ≤ n) (h2 : n ≤ 57) (w : World) :
    Calls Tryd.prog 27 #[.int .u8 n] w fun e w' => e = .returned (.int .i64 (n - 48)) ∧ w' = w := by
  go_enter Tryd.func27, Tryd.ntmps27
  go_wp2
  go_ret
  exact ⟨rfl, rfl⟩

/-- A panic with some text. -/
def Cried (e : Ending) : Prop := ∃ s : ByteArray, e = .panicked [{ v := .iface 9 (.string s), recovered := false }]

theorem digit_no (n : Int) (h1 : n < 48 ∨ 57 < n) (h2 : 0 ≤ n) (h3 : n ≤ 255) (w : World) :
    Calls Tryd.prog 27 #[.int .u8 n] w fun e w' => Cried e ∧ w' = w := by
  rcases h1 with h1 | h1
  · go_enter Tryd.func27, Tryd.ntmps27
    go_wp2
    exact ⟨rfl, ⟨_, rfl⟩, rfl⟩
  · go_enter Tryd.func27, Tryd.ntmps27
    go_wp2
    exact ⟨rfl, ⟨_, rfl⟩, rfl⟩

set_option maxHeartbeats 400000 in
theorem must_any (s : ByteArray) (hs : s.size ≤ maxLen) (w : World) :
    Calls Tryd.prog 21 #[.string s] w fun e w' => ((Num s.data.toList ∧ e = .returned (.int .i64 (val s.data.toList : Int))) ∨ (¬ Num s.data.toList ∧ Cried e)) ∧ w' = w := by
  unfold maxLen at hs
  by_cases h1 : s.size = 0
  · go_enter Tryd.func21, Tryd.ntmps21
    go_wp2
    exact ⟨rfl, .inr ⟨fun h => by have := h.1; simp at this; omega, _, rfl⟩, rfl⟩
  by_cases h6 : 6 < s.size
  · go_enter Tryd.func21, Tryd.ntmps21
    go_wp2
    exact ⟨rfl, .inr ⟨fun h => by have := h.2.1; simp at this; omega, _, rfl⟩, rfl⟩
  have h0 : 0 < s.size := by omega
  have hz : ((s.size : Int) == 0) = false := beq_false_of_ne (by omega)
  have hhead := head_get s h0
  have HH : Hid (s.data.toList.head? = some s[0]) := hhead
  clear hhead
  have hb0 : s[0].toNat < 256 := UInt8.toNat_lt _
  by_cases h2 : s[0].toNat = 48 ∧ 1 < s.size
  · obtain ⟨h2, h3⟩ := h2
    go_enter Tryd.func21, Tryd.ntmps21
    go_wp2
    exact ⟨rfl, .inr ⟨fun h => by
      have h4 := h.2.2.2
      rw [HH.out] at h4
      rcases h4 with h4 | h4
      · simp at h4; omega
      · exact h4 (congrArg some (UInt8.toNat_inj.1 h2)), _, rfl⟩, rfl⟩
  have hN : ∀ e : Digs s.data.toList, Num s.data.toList := fun e => ⟨by simp; omega, by simp; omega, e, by
    by_cases h3 : s.size = 1
    · exact .inl (by simpa using h3)
    · refine .inr fun h => h2 ⟨?_, by omega⟩
      rw [HH.out] at h
      simp at h
      rw [h]; rfl⟩
  have HN : Hid (∀ e : Digs s.data.toList, Num s.data.toList) := hN
  clear hN HH
  have hq : (((s[0].toNat : Int) == 48) = true ∧ ¬ (1 < s.size)) ∨ ((s[0].toNat : Int) == 48) = false := by
    by_cases h3 : s[0].toNat = 48
    · exact .inl ⟨by simp [h3], fun h => h2 ⟨h3, h⟩⟩
    · exact .inr (beq_false_of_ne (by omega))
  clear h2
  rcases hq with ⟨h3, h4⟩ | h3
  all_goals
    go_enter Tryd.func21, Tryd.ntmps21
    go_wp2
    go_loop [3, 4] (fun n i => ∃ k : Nat, k ≤ s.size ∧ i = .int .i64 k ∧ n = .int .i64 (val (s.data.toList.take k) : Int) ∧ Digs (s.data.toList.take k)) (fun _ i => s.size - (intOf i).toNat)
    case atStart => exact ⟨0, Nat.zero_le _, rfl, rfl, digs_nil⟩
    case round =>
      obtain ⟨k, hk, rfl, rfl, hd⟩ := hrel
      have hv : val (s.data.toList.take k) ≤ 999999 := val_le6 _ hd (by rw [List.length_take]; omega)
      by_cases hlt : k < s.size
      · have HS : Hid (s.data.toList.take (k + 1) = s.data.toList.take k ++ [s[k]]) := take_snoc s k hlt
        have hb : s[k].toNat < 256 := UInt8.toNat_lt _
        by_cases ha : s[k].toNat < 48 ∨ 57 < s[k].toNat
        · go_wp2_with (go_at_call 27; refine (digit_no _ (by omega) (by omega) (by omega) _).mono ?_; rintro e w' ⟨⟨x, rfl⟩, rfl⟩)
          exact ⟨rfl, .inr ⟨not_num_at s k hlt ha, _, rfl⟩, rfl⟩
        · go_wp2_with (go_at_call 27; refine (digit_yes _ (by omega) (by omega) _).mono ?_; rintro e w' ⟨rfl, rfl⟩)
          go_round
          case rel => exact ⟨k + 1, by omega, by go_num, by rw [HS.out, val_snoc]; go_num, by rw [HS.out]; exact digs_snoc hd (by omega) (by omega)⟩
          case measure => simp [intOf]; omega
      · have e := take_all s k (by omega)
        rw [e] at hd hv ⊢
        go_wp2
        go_ret
        exact ⟨.inl ⟨HN.out hd, rfl⟩, rfl⟩

theorem catch_panicking (u : TypeId) (pv : Value) (older : List PanicEntry) (w : World) :
    CallsD Tryd.prog 20 #[] (.panicking ({ v := .iface u pv, recovered := false } :: older)) w fun e u' w' =>
      e = .returned (.tuple #[]) ∧ u' = .panicking ({ v := .iface u pv, recovered := true } :: older) ∧ w' = w := by
  refine callsD_of_wpS Tryd.func20 rfl fun c₀ cs hu => ?_
  apply wpS_region
  simp [wpOpsS, go_sem, recoverD, hu, Tryd.ntmps20, bodyPostS, results, Tryd.results20]

theorem catch_idle (w : World) :
    CallsD Tryd.prog 20 #[] .returning w fun e u' w' => e = .returned (.tuple #[]) ∧ u' = .returning ∧ w' = w := by
  refine callsD_of_wpS Tryd.func20 rfl fun c₀ cs hu => ?_
  apply wpS_region
  simp [wpOpsS, go_sem, recoverD, hu, Tryd.ntmps20, bodyPostS, results, Tryd.results20]
  cases c₀
  simp_all

set_option maxHeartbeats 400000 in
theorem implNumber_any (s : ByteArray) (hs : s.size ≤ maxLen) (w : World) :
    Calls Tryd.prog 7 #[.string s] w fun e w' => NumEnds s.data.toList e ∧ w' = w := by
  go_enter_defers Tryd.func7, Tryd.ntmps7
  go_wp2_with (go_at_call 21; refine (must_any s hs _).mono ?_; rintro e w' ⟨⟨hn, rfl⟩ | ⟨hn, x, rfl⟩, rfl⟩)
  · refine leaves_cons (f := 20) (args := #[]) (by simp) (by simp [go_sem]) ?_
    refine (catch_idle _).mono ?_
    rintro e u' w'' ⟨rfl, rfl, rfl⟩
    simp [Leaves, settle, results, Tryd.results7, go_sem, NumEnds, hn]
  · refine leaves_cons (f := 20) (args := #[]) (by simp) (by simp [go_sem]) ?_
    refine (catch_panicking 9 _ [] _).mono ?_
    rintro e u' w'' ⟨rfl, rfl, rfl⟩
    simp [Leaves, settle, results, Tryd.results7, go_sem, NumEnds, hn]
end Go.Proofs.YtpcbjifklcdnaafDoor
