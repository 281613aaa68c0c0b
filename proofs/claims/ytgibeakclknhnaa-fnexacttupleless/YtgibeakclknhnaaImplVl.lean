/- The program's ValueLess: which way to ask is a method value of the two. -/
import Derived.Test.YtgibeakclknhnaaVal17
import Derived.Test.YtgibeakclknhnaaRows
import Derived.Deep.Cut
namespace Go.Proofs.Ytgibeakclknhnaa
open Go.ChangeShapes Go.WideShapes Go.ChangeAt Go.RowKit

theorem Box.six {w : World} {b : Nat} {T : TypeId} {x0 x1 x2 x3 x4 x5 : Value} (h : Box w b #[x0, x1, x2, x3, x4, x5] T) : w.cell? ⟨b, 0, none⟩ = some x0 ∧ w.cell? ⟨b, 1, none⟩ = some x1 ∧ w.cell? ⟨b, 2, none⟩ = some x2 ∧ w.cell? ⟨b, 3, none⟩ = some x3 ∧ w.cell? ⟨b, 4, none⟩ = some x4 ∧ w.cell? ⟨b, 5, none⟩ = some x5 := ⟨h.cell 0, h.cell 1, h.cell 2, h.cell 3, h.cell 4, h.cell 5⟩
set_option maxHeartbeats 4000000 in
set_option maxRecDepth 100000 in
theorem lessByKind_any (k n : Int) (s : ByteArray) (k' n' : Int) (s' : ByteArray) (w : World) :
    Calls Try.prog 57 #[.agg #[.int .i64 k, .int .i64 n, .string s, .int .i64 k', .int .i64 n', .string s']] w fun e w' => e = .returned (.bool (decide (k < k'))) ∧ Below w.heap.size w w' := by
  obtain ⟨W, hW⟩ : ∃ W, w.alloc (.cells #[.int .i64 k, .int .i64 n, .string s, .int .i64 k', .int .i64 n', .string s'] 62) = W := ⟨_, rfl⟩
  have HB0 : Hid (Below w.heap.size w W) := by rw [← hW]; exact (Below.refl _ w).alloc (Nat.le_refl _) _
  have X0 : Hid (Box W w.heap.size #[.int .i64 k, .int .i64 n, .string s, .int .i64 k', .int .i64 n', .string s'] 62) := by rw [← hW]; exact box_of w _ _
  have HW : Hid (w.alloc (.cells #[.int .i64 k, .int .i64 n, .string s, .int .i64 k', .int .i64 n', .string s'] 62) = W) := hW
  obtain ⟨c0, c1, c2, c3, c4, c5⟩ := X0.out.six
  clear hW
  go_enter Try.func57, Try.ntmps57
  go_upto_region 1 with (fail)
  rw [HW.out]
  go_wp2
  go_ret
  exact ⟨rfl, HB0.out⟩
set_option maxHeartbeats 4000000 in
set_option maxRecDepth 100000 in
theorem lessByN_any (k n : Int) (s : ByteArray) (k' n' : Int) (s' : ByteArray) (w : World) :
    Calls Try.prog 58 #[.agg #[.int .i64 k, .int .i64 n, .string s, .int .i64 k', .int .i64 n', .string s']] w fun e w' => e = .returned (.bool (decide (n < n'))) ∧ Below w.heap.size w w' := by
  obtain ⟨W, hW⟩ : ∃ W, w.alloc (.cells #[.int .i64 k, .int .i64 n, .string s, .int .i64 k', .int .i64 n', .string s'] 62) = W := ⟨_, rfl⟩
  have HB0 : Hid (Below w.heap.size w W) := by rw [← hW]; exact (Below.refl _ w).alloc (Nat.le_refl _) _
  have X0 : Hid (Box W w.heap.size #[.int .i64 k, .int .i64 n, .string s, .int .i64 k', .int .i64 n', .string s'] 62) := by rw [← hW]; exact box_of w _ _
  have HW : Hid (w.alloc (.cells #[.int .i64 k, .int .i64 n, .string s, .int .i64 k', .int .i64 n', .string s'] 62) = W) := hW
  obtain ⟨c0, c1, c2, c3, c4, c5⟩ := X0.out.six
  clear hW
  go_enter Try.func58, Try.ntmps58
  go_upto_region 1 with (fail)
  rw [HW.out]
  go_wp2
  go_ret
  exact ⟨rfl, HB0.out⟩
set_option maxHeartbeats 4000000 in
set_option maxRecDepth 100000 in
theorem lessByS_any (k n : Int) (s : ByteArray) (k' n' : Int) (s' : ByteArray) (w : World) :
    Calls Try.prog 59 #[.agg #[.int .i64 k, .int .i64 n, .string s, .int .i64 k', .int .i64 n', .string s']] w fun e w' => e = .returned (.bool (Op.bytesLess s.toList s'.toList)) ∧ Below w.heap.size w w' := by
  obtain ⟨W, hW⟩ : ∃ W, w.alloc (.cells #[.int .i64 k, .int .i64 n, .string s, .int .i64 k', .int .i64 n', .string s'] 62) = W := ⟨_, rfl⟩
  have HB0 : Hid (Below w.heap.size w W) := by rw [← hW]; exact (Below.refl _ w).alloc (Nat.le_refl _) _
  have X0 : Hid (Box W w.heap.size #[.int .i64 k, .int .i64 n, .string s, .int .i64 k', .int .i64 n', .string s'] 62) := by rw [← hW]; exact box_of w _ _
  have HW : Hid (w.alloc (.cells #[.int .i64 k, .int .i64 n, .string s, .int .i64 k', .int .i64 n', .string s'] 62) = W) := hW
  obtain ⟨c0, c1, c2, c3, c4, c5⟩ := X0.out.six
  clear hW
  go_enter Try.func59, Try.ntmps59
  go_upto_region 1 with (fail)
  rw [HW.out]
  go_wp2
  go_ret
  exact ⟨rfl, HB0.out⟩
set_option maxHeartbeats 4000000 in
set_option maxRecDepth 100000 in
theorem less_kind (k n : Int) (s : ByteArray) (k' n' : Int) (s' : ByteArray) (w : World) (hk : ¬ k = k') :
    Calls Try.prog 49 #[.agg #[.int .i64 k, .int .i64 n, .string s, .int .i64 k', .int .i64 n', .string s']] w fun e w' => e = .returned (.func (.func 57) #[.agg #[.int .i64 k, .int .i64 n, .string s, .int .i64 k', .int .i64 n', .string s']] #[]) ∧ Below w.heap.size w w' := by
  have hmf : ∀ (fn : Fn) (first cap : Array Value) (w : World), (Instr.makeFunc fn first cap).run Try.prog w = .ok (.func fn first cap) w := fun _ _ _ _ => rfl
  obtain ⟨W, hW⟩ : ∃ W, w.alloc (.cells #[.int .i64 k, .int .i64 n, .string s, .int .i64 k', .int .i64 n', .string s'] 62) = W := ⟨_, rfl⟩
  have HB0 : Hid (Below w.heap.size w W) := by rw [← hW]; exact (Below.refl _ w).alloc (Nat.le_refl _) _
  have X0 : Hid (Box W w.heap.size #[.int .i64 k, .int .i64 n, .string s, .int .i64 k', .int .i64 n', .string s'] 62) := by rw [← hW]; exact box_of w _ _
  have HW : Hid (w.alloc (.cells #[.int .i64 k, .int .i64 n, .string s, .int .i64 k', .int .i64 n', .string s'] 62) = W) := hW
  obtain ⟨c0, c1, c2, c3, c4, c5⟩ := X0.out.six
  clear hW
  have hb : (k == k') = false := by simpa using hk
  have hc : (k != k') = true := by simpa using hk
  go_enter Try.func49, Try.ntmps49
  go_upto_region 1 with (fail)
  rw [HW.out]
  go_wp2
  go_ret
  exact ⟨rfl, HB0.out⟩
set_option maxHeartbeats 4000000 in
set_option maxRecDepth 100000 in
theorem less_n (k n : Int) (s : ByteArray) (k' n' : Int) (s' : ByteArray) (w : World) (hk : k = k') (hn : ¬ n = n') :
    Calls Try.prog 49 #[.agg #[.int .i64 k, .int .i64 n, .string s, .int .i64 k', .int .i64 n', .string s']] w fun e w' => e = .returned (.func (.func 58) #[.agg #[.int .i64 k, .int .i64 n, .string s, .int .i64 k', .int .i64 n', .string s']] #[]) ∧ Below w.heap.size w w' := by
  have hmf : ∀ (fn : Fn) (first cap : Array Value) (w : World), (Instr.makeFunc fn first cap).run Try.prog w = .ok (.func fn first cap) w := fun _ _ _ _ => rfl
  obtain ⟨W, hW⟩ : ∃ W, w.alloc (.cells #[.int .i64 k, .int .i64 n, .string s, .int .i64 k', .int .i64 n', .string s'] 62) = W := ⟨_, rfl⟩
  have HB0 : Hid (Below w.heap.size w W) := by rw [← hW]; exact (Below.refl _ w).alloc (Nat.le_refl _) _
  have X0 : Hid (Box W w.heap.size #[.int .i64 k, .int .i64 n, .string s, .int .i64 k', .int .i64 n', .string s'] 62) := by rw [← hW]; exact box_of w _ _
  have HW : Hid (w.alloc (.cells #[.int .i64 k, .int .i64 n, .string s, .int .i64 k', .int .i64 n', .string s'] 62) = W) := hW
  obtain ⟨c0, c1, c2, c3, c4, c5⟩ := X0.out.six
  clear hW
  subst hk
  have hb : (n == n') = false := by simpa using hn
  have hc : (n != n') = true := by simpa using hn
  go_enter Try.func49, Try.ntmps49
  go_upto_region 1 with (fail)
  rw [HW.out]
  go_wp2
  go_ret
  exact ⟨rfl, HB0.out⟩
set_option maxHeartbeats 4000000 in
set_option maxRecDepth 100000 in
theorem less_s (k n : Int) (s : ByteArray) (k' n' : Int) (s' : ByteArray) (w : World) (hk : k = k') (hn : n = n') :
    Calls Try.prog 49 #[.agg #[.int .i64 k, .int .i64 n, .string s, .int .i64 k', .int .i64 n', .string s']] w fun e w' => e = .returned (.func (.func 59) #[.agg #[.int .i64 k, .int .i64 n, .string s, .int .i64 k', .int .i64 n', .string s']] #[]) ∧ Below w.heap.size w w' := by
  have hmf : ∀ (fn : Fn) (first cap : Array Value) (w : World), (Instr.makeFunc fn first cap).run Try.prog w = .ok (.func fn first cap) w := fun _ _ _ _ => rfl
  obtain ⟨W, hW⟩ : ∃ W, w.alloc (.cells #[.int .i64 k, .int .i64 n, .string s, .int .i64 k', .int .i64 n', .string s'] 62) = W := ⟨_, rfl⟩
  have HB0 : Hid (Below w.heap.size w W) := by rw [← hW]; exact (Below.refl _ w).alloc (Nat.le_refl _) _
  have X0 : Hid (Box W w.heap.size #[.int .i64 k, .int .i64 n, .string s, .int .i64 k', .int .i64 n', .string s'] 62) := by rw [← hW]; exact box_of w _ _
  have HW : Hid (w.alloc (.cells #[.int .i64 k, .int .i64 n, .string s, .int .i64 k', .int .i64 n', .string s'] 62) = W) := hW
  obtain ⟨c0, c1, c2, c3, c4, c5⟩ := X0.out.six
  clear hW
  subst hk hn
  go_enter Try.func49, Try.ntmps49
  go_upto_region 1 with (fail)
  rw [HW.out]
  go_wp2
  go_ret
  exact ⟨rfl, HB0.out⟩
set_option maxHeartbeats 4000000 in
set_option maxRecDepth 100000 in
theorem implValueLess_any (k n : Int) (s : ByteArray) (k' n' : Int) (s' : ByteArray) (w : World) :
    Calls Try.prog 31 #[VaV k n s, VaV k' n' s'] w fun e w' => e = .returned (.bool (lessV k n s k' n' s')) ∧ Below w.heap.size w w' := by
  obtain ⟨W, hW⟩ : ∃ W, (w.alloc (.cells #[.int .i64 k, .int .i64 n, .string s] 44)).alloc (.cells #[.int .i64 k', .int .i64 n', .string s'] 44) = W := ⟨_, rfl⟩
  have HB0 : Hid (Below w.heap.size w W) := by rw [← hW]; exact ((Below.refl _ w).alloc (Nat.le_refl _) _).alloc (by simp) _
  have X0 : Hid (Box W w.heap.size #[.int .i64 k, .int .i64 n, .string s] 44) := by rw [← hW]; exact (box_of w _ _).alloc _
  have X1 : Hid (Box W (w.heap.size + 1) #[.int .i64 k', .int .i64 n', .string s'] 44) := by rw [← hW]; have := box_of (w.alloc (.cells #[.int .i64 k, .int .i64 n, .string s] 44)) #[.int .i64 k', .int .i64 n', .string s'] 44; rwa [World.size_alloc] at this
  have HW : Hid ((w.alloc (.cells #[.int .i64 k, .int .i64 n, .string s] 44)).alloc (.cells #[.int .i64 k', .int .i64 n', .string s'] 44) = W) := hW
  obtain ⟨c0, c1, c2⟩ := X0.out.triV
  obtain ⟨d0, d1, d2⟩ := X1.out.triV
  clear hW
  by_cases hk : k = k'
  · by_cases hn : n = n'
    · have HK : Hid (k = k' ∧ n = n') := ⟨hk, hn⟩
      clear hk hn
      have HL : Hid (lessV k n s k' n' s' = Op.bytesLess s.toList s'.toList) := by show _ = _; unfold lessV; rw [if_pos HK.out.1, if_pos HK.out.2]
      rw [HL.out]
      go_enter Try.func31, Try.ntmps31
      go_upto_region 1 with (fail)
      rw [HW.out]
      go_wp2_with fail
      refine (less_s k n s k' n' s' _ HK.out.1 HK.out.2).mono ?_
      rintro e w1 ⟨rfl, hb1⟩
      have HB1 : Hid (Below w.heap.size w w1) := HB0.out.trans (hb1.mono HB0.out.size)
      clear hb1 c0 c1 c2 d0 d1 d2
      go_wp2_with fail
      refine (lessByS_any k n s k' n' s' _).mono ?_
      rintro e w2 ⟨rfl, hb2⟩
      have HB2 : Hid (Below w.heap.size w w2) := HB1.out.trans (hb2.mono HB1.out.size)
      clear hb2
      go_wp2
      go_ret
      exact ⟨rfl, HB2.out⟩
    · have HK : Hid (k = k' ∧ ¬ n = n') := ⟨hk, hn⟩
      clear hk hn
      have HL : Hid (lessV k n s k' n' s' = decide (n < n')) := by show _ = _; unfold lessV; rw [if_pos HK.out.1, if_neg HK.out.2]
      rw [HL.out]
      go_enter Try.func31, Try.ntmps31
      go_upto_region 1 with (fail)
      rw [HW.out]
      go_wp2_with fail
      refine (less_n k n s k' n' s' _ HK.out.1 HK.out.2).mono ?_
      rintro e w1 ⟨rfl, hb1⟩
      have HB1 : Hid (Below w.heap.size w w1) := HB0.out.trans (hb1.mono HB0.out.size)
      clear hb1 c0 c1 c2 d0 d1 d2
      go_wp2_with fail
      refine (lessByN_any k n s k' n' s' _).mono ?_
      rintro e w2 ⟨rfl, hb2⟩
      have HB2 : Hid (Below w.heap.size w w2) := HB1.out.trans (hb2.mono HB1.out.size)
      clear hb2
      go_wp2
      go_ret
      exact ⟨rfl, HB2.out⟩
  · have HK : Hid (¬ k = k') := hk
    clear hk
    have HL : Hid (lessV k n s k' n' s' = decide (k < k')) := by show _ = _; unfold lessV; rw [if_neg HK.out]
    rw [HL.out]
    go_enter Try.func31, Try.ntmps31
    go_upto_region 1 with (fail)
    rw [HW.out]
    go_wp2_with fail
    refine (less_kind k n s k' n' s' _ HK.out).mono ?_
    rintro e w1 ⟨rfl, hb1⟩
    have HB1 : Hid (Below w.heap.size w w1) := HB0.out.trans (hb1.mono HB0.out.size)
    clear hb1 c0 c1 c2 d0 d1 d2
    go_wp2_with fail
    refine (lessByKind_any k n s k' n' s' _).mono ?_
    rintro e w2 ⟨rfl, hb2⟩
    have HB2 : Hid (Below w.heap.size w w2) := HB1.out.trans (hb2.mono HB1.out.size)
    clear hb2
    go_wp2
    go_ret
    exact ⟨rfl, HB2.out⟩
end Go.Proofs.Ytgibeakclknhnaa
