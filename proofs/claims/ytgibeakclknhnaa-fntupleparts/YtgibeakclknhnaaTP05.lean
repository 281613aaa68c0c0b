/- Texts joined: ImplVl, ImplVs, ImplTls, ImplAi, ImplAx, ImplAv. -/
import Derived.Test.YtgibeakclknhnaaTP01
import Derived.Test.YtgibeakclknhnaaRows
import Derived.Deep.Cut
import Derived.Test.YtgibeakclknhnaaTP04
import Derived.Test.YtgibeakclknhnaaTP03
import Derived.Deep.RegionHeld3
import Derived.Test.YtgibeakclknhnaaTP02
import Derived.Maps.AppendAt
import Derived.Maps.Range
set_option maxHeartbeats 4000000
set_option maxRecDepth 100000
namespace Go.Proofs.Ytgibeakclknhnaa
section
open Go.ChangeShapes Go.WideShapes Go.ChangeAt Go.RowKit
theorem Box.six {w : World} {b : Nat} {T : TypeId} {x0 x1 x2 x3 x4 x5 : Value} (h : Box w b #[x0, x1, x2, x3, x4, x5] T) : w.cell? ⟨b, 0, none⟩ = some x0 ∧ w.cell? ⟨b, 1, none⟩ = some x1 ∧ w.cell? ⟨b, 2, none⟩ = some x2 ∧ w.cell? ⟨b, 3, none⟩ = some x3 ∧ w.cell? ⟨b, 4, none⟩ = some x4 ∧ w.cell? ⟨b, 5, none⟩ = some x5 := ⟨h.cell 0, h.cell 1, h.cell 2, h.cell 3, h.cell 4, h.cell 5⟩
theorem lessByKind_any (k n : Int) (s : ByteArray) (k' n' : Int) (s' : ByteArray) (w : World) :
    Calls Try.prog 57 #[.agg #[.int .i64 k, .int .i64 n, .string s, .int .i64 k', .int .i64 n', .string s']] w fun e w' => e = .returned (.bool (decide (k < k'))) ∧ Below w.heap.size w w' := by
  obtain ⟨W, hW⟩ : ∃ W, w.alloc (.cells #[.int .i64 k, .int .i64 n, .string s, .int .i64 k', .int .i64 n', .string s'] 62) = W := ⟨_, rfl⟩
  have HB0 : Hid (Below w.heap.size w W) := by rw [← hW]; exact (Below.refl _ w).alloc (Nat.le_refl _) _
  have X0 : Hid (Box W w.heap.size #[.int .i64 k, .int .i64 n, .string s, .int .i64 k', .int .i64 n', .string s'] 62) := by rw [← hW]; exact box_of w _ _
  have HW : Hid (w.alloc (.cells #[.int .i64 k, .int .i64 n, .string s, .int .i64 k', .int .i64 n', .string s'] 62) = W) := hW
  obtain ⟨c0, c1, c2, c3, c4, c5⟩ := X0.out.six
  clear hW
  go_enter Try.func57, Try.ntmps57
  go_upto_region 1 with (fail)
  rw [HW.out]
  go_wp2
  go_ret
  exact ⟨rfl, HB0.out⟩
theorem lessByN_any (k n : Int) (s : ByteArray) (k' n' : Int) (s' : ByteArray) (w : World) :
    Calls Try.prog 58 #[.agg #[.int .i64 k, .int .i64 n, .string s, .int .i64 k', .int .i64 n', .string s']] w fun e w' => e = .returned (.bool (decide (n < n'))) ∧ Below w.heap.size w w' := by
  obtain ⟨W, hW⟩ : ∃ W, w.alloc (.cells #[.int .i64 k, .int .i64 n, .string s, .int .i64 k', .int .i64 n', .string s'] 62) = W := ⟨_, rfl⟩
  have HB0 : Hid (Below w.heap.size w W) := by rw [← hW]; exact (Below.refl _ w).alloc (Nat.le_refl _) _
  have X0 : Hid (Box W w.heap.size #[.int .i64 k, .int .i64 n, .string s, .int .i64 k', .int .i64 n', .string s'] 62) := by rw [← hW]; exact box_of w _ _
  have HW : Hid (w.alloc (.cells #[.int .i64 k, .int .i64 n, .string s, .int .i64 k', .int .i64 n', .string s'] 62) = W) := hW
  obtain ⟨c0, c1, c2, c3, c4, c5⟩ := X0.out.six
  clear hW
  go_enter Try.func58, Try.ntmps58
  go_upto_region 1 with (fail)
  rw [HW.out]
  go_wp2
  go_ret
  exact ⟨rfl, HB0.out⟩
theorem lessByS_any (k n : Int) (s : ByteArray) (k' n' : Int) (s' : ByteArray) (w : World) :
    Calls Try.prog 59 #[.agg #[.int .i64 k, .int .i64 n, .string s, .int .i64 k', .int .i64 n', .string s']] w fun e w' => e = .returned (.bool (Op.bytesLess s.toList s'.toList)) ∧ Below w.heap.size w w' := by
  obtain ⟨W, hW⟩ : ∃ W, w.alloc (.cells #[.int .i64 k, .int .i64 n, .string s, .int .i64 k', .int .i64 n', .string s'] 62) = W := ⟨_, rfl⟩
  have HB0 : Hid (Below w.heap.size w W) := by rw [← hW]; exact (Below.refl _ w).alloc (Nat.le_refl _) _
  have X0 : Hid (Box W w.heap.size #[.int .i64 k, .int .i64 n, .string s, .int .i64 k', .int .i64 n', .string s'] 62) := by rw [← hW]; exact box_of w _ _
  have HW : Hid (w.alloc (.cells #[.int .i64 k, .int .i64 n, .string s, .int .i64 k', .int .i64 n', .string s'] 62) = W) := hW
  obtain ⟨c0, c1, c2, c3, c4, c5⟩ := X0.out.six
  clear hW
  go_enter Try.func59, Try.ntmps59
  go_upto_region 1 with (fail)
  rw [HW.out]
  go_wp2
  go_ret
  exact ⟨rfl, HB0.out⟩
theorem less_kind (k n : Int) (s : ByteArray) (k' n' : Int) (s' : ByteArray) (w : World) (hk : ¬ k = k') :
    Calls Try.prog 49 #[.agg #[.int .i64 k, .int .i64 n, .string s, .int .i64 k', .int .i64 n', .string s']] w fun e w' => e = .returned (.func (.func 57) #[.agg #[.int .i64 k, .int .i64 n, .string s, .int .i64 k', .int .i64 n', .string s']] #[]) ∧ Below w.heap.size w w' := by
  have hmf : ∀ (fn : Fn) (first cap : Array Value) (w : World), (Instr.makeFunc fn first cap).run Try.prog w = .ok (.func fn first cap) w := fun _ _ _ _ => rfl
  obtain ⟨W, hW⟩ : ∃ W, w.alloc (.cells #[.int .i64 k, .int .i64 n, .string s, .int .i64 k', .int .i64 n', .string s'] 62) = W := ⟨_, rfl⟩
  have HB0 : Hid (Below w.heap.size w W) := by rw [← hW]; exact (Below.refl _ w).alloc (Nat.le_refl _) _
  have X0 : Hid (Box W w.heap.size #[.int .i64 k, .int .i64 n, .string s, .int .i64 k', .int .i64 n', .string s'] 62) := by rw [← hW]; exact box_of w _ _
  have HW : Hid (w.alloc (.cells #[.int .i64 k, .int .i64 n, .string s, .int .i64 k', .int .i64 n', .string s'] 62) = W) := hW
  obtain ⟨c0, c1, c2, c3, c4, c5⟩ := X0.out.six
  clear hW
  have hb : (k == k') = false := by simpa using hk
  have hc : (k != k') = true := by simpa using hk
  go_enter Try.func49, Try.ntmps49
  go_upto_region 1 with (fail)
  rw [HW.out]
  go_wp2
  go_ret
  exact ⟨rfl, HB0.out⟩
theorem less_n (k n : Int) (s : ByteArray) (k' n' : Int) (s' : ByteArray) (w : World) (hk : k = k') (hn : ¬ n = n') :
    Calls Try.prog 49 #[.agg #[.int .i64 k, .int .i64 n, .string s, .int .i64 k', .int .i64 n', .string s']] w fun e w' => e = .returned (.func (.func 58) #[.agg #[.int .i64 k, .int .i64 n, .string s, .int .i64 k', .int .i64 n', .string s']] #[]) ∧ Below w.heap.size w w' := by
  have hmf : ∀ (fn : Fn) (first cap : Array Value) (w : World), (Instr.makeFunc fn first cap).run Try.prog w = .ok (.func fn first cap) w := fun _ _ _ _ => rfl
  obtain ⟨W, hW⟩ : ∃ W, w.alloc (.cells #[.int .i64 k, .int .i64 n, .string s, .int .i64 k', .int .i64 n', .string s'] 62) = W := ⟨_, rfl⟩
  have HB0 : Hid (Below w.heap.size w W) := by rw [← hW]; exact (Below.refl _ w).alloc (Nat.le_refl _) _
  have X0 : Hid (Box W w.heap.size #[.int .i64 k, .int .i64 n, .string s, .int .i64 k', .int .i64 n', .string s'] 62) := by rw [← hW]; exact box_of w _ _
  have HW : Hid (w.alloc (.cells #[.int .i64 k, .int .i64 n, .string s, .int .i64 k', .int .i64 n', .string s'] 62) = W) := hW
  obtain ⟨c0, c1, c2, c3, c4, c5⟩ := X0.out.six
  clear hW
  subst hk
  have hb : (n == n') = false := by simpa using hn
  have hc : (n != n') = true := by simpa using hn
  go_enter Try.func49, Try.ntmps49
  go_upto_region 1 with (fail)
  rw [HW.out]
  go_wp2
  go_ret
  exact ⟨rfl, HB0.out⟩
theorem less_s (k n : Int) (s : ByteArray) (k' n' : Int) (s' : ByteArray) (w : World) (hk : k = k') (hn : n = n') :
    Calls Try.prog 49 #[.agg #[.int .i64 k, .int .i64 n, .string s, .int .i64 k', .int .i64 n', .string s']] w fun e w' => e = .returned (.func (.func 59) #[.agg #[.int .i64 k, .int .i64 n, .string s, .int .i64 k', .int .i64 n', .string s']] #[]) ∧ Below w.heap.size w w' := by
  have hmf : ∀ (fn : Fn) (first cap : Array Value) (w : World), (Instr.makeFunc fn first cap).run Try.prog w = .ok (.func fn first cap) w := fun _ _ _ _ => rfl
  obtain ⟨W, hW⟩ : ∃ W, w.alloc (.cells #[.int .i64 k, .int .i64 n, .string s, .int .i64 k', .int .i64 n', .string s'] 62) = W := ⟨_, rfl⟩
  have HB0 : Hid (Below w.heap.size w W) := by rw [← hW]; exact (Below.refl _ w).alloc (Nat.le_refl _) _
  have X0 : Hid (Box W w.heap.size #[.int .i64 k, .int .i64 n, .string s, .int .i64 k', .int .i64 n', .string s'] 62) := by rw [← hW]; exact box_of w _ _
  have HW : Hid (w.alloc (.cells #[.int .i64 k, .int .i64 n, .string s, .int .i64 k', .int .i64 n', .string s'] 62) = W) := hW
  obtain ⟨c0, c1, c2, c3, c4, c5⟩ := X0.out.six
  clear hW
  subst hk hn
  go_enter Try.func49, Try.ntmps49
  go_upto_region 1 with (fail)
  rw [HW.out]
  go_wp2
  go_ret
  exact ⟨rfl, HB0.out⟩
theorem implValueLess_any (k n : Int) (s : ByteArray) (k' n' : Int) (s' : ByteArray) (w : World) :
    Calls Try.prog 31 #[VaV k n s, VaV k' n' s'] w fun e w' => e = .returned (.bool (lessV k n s k' n' s')) ∧ Below w.heap.size w w' := by
  obtain ⟨W, hW⟩ : ∃ W, (w.alloc (.cells #[.int .i64 k, .int .i64 n, .string s] 44)).alloc (.cells #[.int .i64 k', .int .i64 n', .string s'] 44) = W := ⟨_, rfl⟩
  have HB0 : Hid (Below w.heap.size w W) := by rw [← hW]; exact ((Below.refl _ w).alloc (Nat.le_refl _) _).alloc (by simp) _
  have X0 : Hid (Box W w.heap.size #[.int .i64 k, .int .i64 n, .string s] 44) := by rw [← hW]; exact (box_of w _ _).alloc _
  have X1 : Hid (Box W (w.heap.size + 1) #[.int .i64 k', .int .i64 n', .string s'] 44) := by rw [← hW]; have := box_of (w.alloc (.cells #[.int .i64 k, .int .i64 n, .string s] 44)) #[.int .i64 k', .int .i64 n', .string s'] 44; rwa [World.size_alloc] at this
  have HW : Hid ((w.alloc (.cells #[.int .i64 k, .int .i64 n, .string s] 44)).alloc (.cells #[.int .i64 k', .int .i64 n', .string s'] 44) = W) := hW
  obtain ⟨c0, c1, c2⟩ := X0.out.triV
  obtain ⟨d0, d1, d2⟩ := X1.out.triV
  clear hW
  by_cases hk : k = k'
  · by_cases hn : n = n'
    · have HK : Hid (k = k' ∧ n = n') := ⟨hk, hn⟩
      clear hk hn
      have HL : Hid (lessV k n s k' n' s' = Op.bytesLess s.toList s'.toList) := by show _ = _; unfold lessV; rw [if_pos HK.out.1, if_pos HK.out.2]
      rw [HL.out]
      go_enter Try.func31, Try.ntmps31
      go_upto_region 1 with (fail)
      rw [HW.out]
      go_wp2_with fail
      refine (less_s k n s k' n' s' _ HK.out.1 HK.out.2).mono ?_
      rintro e w1 ⟨rfl, hb1⟩
      have HB1 : Hid (Below w.heap.size w w1) := HB0.out.trans (hb1.mono HB0.out.size)
      clear hb1 c0 c1 c2 d0 d1 d2
      go_wp2_with fail
      refine (lessByS_any k n s k' n' s' _).mono ?_
      rintro e w2 ⟨rfl, hb2⟩
      have HB2 : Hid (Below w.heap.size w w2) := HB1.out.trans (hb2.mono HB1.out.size)
      clear hb2
      go_wp2
      go_ret
      exact ⟨rfl, HB2.out⟩
    · have HK : Hid (k = k' ∧ ¬ n = n') := ⟨hk, hn⟩
      clear hk hn
      have HL : Hid (lessV k n s k' n' s' = decide (n < n')) := by show _ = _; unfold lessV; rw [if_pos HK.out.1, if_neg HK.out.2]
      rw [HL.out]
      go_enter Try.func31, Try.ntmps31
      go_upto_region 1 with (fail)
      rw [HW.out]
      go_wp2_with fail
      refine (less_n k n s k' n' s' _ HK.out.1 HK.out.2).mono ?_
      rintro e w1 ⟨rfl, hb1⟩
      have HB1 : Hid (Below w.heap.size w w1) := HB0.out.trans (hb1.mono HB0.out.size)
      clear hb1 c0 c1 c2 d0 d1 d2
      go_wp2_with fail
      refine (lessByN_any k n s k' n' s' _).mono ?_
      rintro e w2 ⟨rfl, hb2⟩
      have HB2 : Hid (Below w.heap.size w w2) := HB1.out.trans (hb2.mono HB1.out.size)
      clear hb2
      go_wp2
      go_ret
      exact ⟨rfl, HB2.out⟩
  · have HK : Hid (¬ k = k') := hk
    clear hk
    have HL : Hid (lessV k n s k' n' s' = decide (k < k')) := by show _ = _; unfold lessV; rw [if_neg HK.out]
    rw [HL.out]
    go_enter Try.func31, Try.ntmps31
    go_upto_region 1 with (fail)
    rw [HW.out]
    go_wp2_with fail
    refine (less_kind k n s k' n' s' _ HK.out).mono ?_
    rintro e w1 ⟨rfl, hb1⟩
    have HB1 : Hid (Below w.heap.size w w1) := HB0.out.trans (hb1.mono HB0.out.size)
    clear hb1 c0 c1 c2 d0 d1 d2
    go_wp2_with fail
    refine (lessByKind_any k n s k' n' s' _).mono ?_
    rintro e w2 ⟨rfl, hb2⟩
    have HB2 : Hid (Below w.heap.size w w2) := HB1.out.trans (hb2.mono HB1.out.size)
    clear hb2
    go_wp2
    go_ret
    exact ⟨rfl, HB2.out⟩
theorem implValueSame_any (k n : Int) (s : ByteArray) (k' n' : Int) (s' : ByteArray) (w : World) :
    Calls Try.prog 30 #[VaV k n s, VaV k' n' s'] w fun e w' => e = .returned (.bool (sameV k n s k' n' s')) ∧ Below w.heap.size w w' := by
  obtain ⟨W, hW⟩ : ∃ W, (w.alloc (.cells #[.int .i64 k, .int .i64 n, .string s] 44)).alloc (.cells #[.int .i64 k', .int .i64 n', .string s'] 44) = W := ⟨_, rfl⟩
  have HB0 : Hid (Below w.heap.size w W) := by rw [← hW]; exact ((Below.refl _ w).alloc (Nat.le_refl _) _).alloc (by simp) _
  have X0 : Hid (Box W w.heap.size #[.int .i64 k, .int .i64 n, .string s] 44) := by rw [← hW]; exact (box_of w _ _).alloc _
  have X1 : Hid (Box W (w.heap.size + 1) #[.int .i64 k', .int .i64 n', .string s'] 44) := by rw [← hW]; have := box_of (w.alloc (.cells #[.int .i64 k, .int .i64 n, .string s] 44)) #[.int .i64 k', .int .i64 n', .string s'] 44; rwa [World.size_alloc] at this
  have HW : Hid ((w.alloc (.cells #[.int .i64 k, .int .i64 n, .string s] 44)).alloc (.cells #[.int .i64 k', .int .i64 n', .string s'] 44) = W) := hW
  obtain ⟨c0, c1, c2⟩ := X0.out.triV
  obtain ⟨d0, d1, d2⟩ := X1.out.triV
  obtain ⟨B, hB⟩ : ∃ B, sameV k n s k' n' s' = B := ⟨_, rfl⟩
  have heq : ∀ w : World, (binOp .eql 44 (.agg #[.int .i64 k, .int .i64 n, .string s]) (.agg #[.int .i64 k', .int .i64 n', .string s'])).run Try.prog w = .ok (.bool B) w := fun w => by rw [← hB]; exact eql_va k n s k' n' s' w
  rw [hB]
  clear hW hB
  go_enter Try.func30, Try.ntmps30
  go_upto_region 1 with (fail)
  rw [HW.out]
  go_wp2
  go_ret
  exact ⟨rfl, HB0.out⟩
theorem tls_one (a1 a2 : Option Addr) (n1 n2 c1 c2 : Nat) (L M : List Va3) (w : World) (h : VasAt w a1 n1 L) (h' : VasAt w a2 n2 M) (hm : n1 ≤ n2) :
    Calls Try.prog 10 #[.slice a1 n1 c1, .slice a2 n2 c2] w fun e w' => e = .returned (.bool (tupLess L M)) ∧ Below w.heap.size w w' := by
  obtain ⟨B, hB⟩ : ∃ B, tupLess L M = B := ⟨_, rfl⟩
  rw [hB]
  have HB : Hid (tupLess (L.drop 0) (M.drop 0) = B) := hB
  have HL : Hid (VasAt w a1 n1 L) := h
  have HM : Hid (VasAt w a2 n2 M) := h'
  have hl := h.1
  have hn := h.2.1
  have hl' := h'.1
  have hn' := h'.2.1
  clear hB h h'
  go_enter Try.func10, Try.ntmps10
  have hm1 : (n1 : Int) ≤ (n2 : Int) := by omega
  go_wp2
  go_loopw [11] (fun i wr => ∃ j : Nat, j ≤ n1 ∧ j ≤ n2 ∧ i = .int .i64 (j : Int) ∧ tupLess (L.drop j) (M.drop j) = B ∧ Below w.heap.size w wr) (fun i _ => n1 - (RowKit.intOf i).toNat)
  case atStart => exact ⟨0, Nat.zero_le _, Nat.zero_le _, rfl, HB.out, Below.refl _ _⟩
  case round =>
    obtain ⟨j, hj, hj', rfl, ht, hb⟩ := hrel
    have HT : Hid (tupLess (L.drop j) (M.drop j) = B) := ht
    have HBW : Hid (Below w.heap.size w wr) := hb
    clear ht hb
    by_cases hlt : j < n1 ∧ j < n2
    · obtain ⟨hlt1, hlt2⟩ := hlt
      rcases (HL.out.below HBW.out (Nat.le_refl _)).2.2 with h0 | ⟨p1, o1, rfl, g1⟩
      · omega
      rcases (HM.out.below HBW.out (Nat.le_refl _)).2.2 with h0 | ⟨p2, o2, rfl, g2⟩
      · omega
      obtain ⟨x, hx⟩ : ∃ x, L[j]? = some x := ⟨_, List.getElem?_eq_getElem (by omega)⟩
      obtain ⟨y, hy⟩ : ∃ y, M[j]? = some y := ⟨_, List.getElem?_eq_getElem (by omega)⟩
      obtain ⟨e0, e1, e2⟩ := g1 j x hx
      obtain ⟨f0, f1, f2⟩ := g2 j y hy
      have hstep := tup_step hx hy
      rw [HT.out] at hstep
      obtain ⟨k, m, s⟩ := x
      obtain ⟨k', m', s'⟩ := y
      dsimp only at e0 e1 e2 f0 f1 f2 hstep
      have HST : Hid (B = if sameV k m s k' m' s' = true then tupLess (L.drop (j + 1)) (M.drop (j + 1)) else lessV k m s k' m' s') := hstep
      have LP1 : p1 < wr.heap.size := World.block_lt_of_cell? wr _ e0
      have LP2 : p2 < wr.heap.size := World.block_lt_of_cell? wr _ f0
      have KS : Hid (∀ z, Below wr.heap.size wr z → z.cell? ⟨p1, o1 + j * 3, none⟩ = some (.int .i64 k) ∧ z.cell? ⟨p1, o1 + j * 3 + 1, none⟩ = some (.int .i64 m) ∧ z.cell? ⟨p1, o1 + j * 3 + 2, none⟩ = some (.string s) ∧ z.cell? ⟨p2, o2 + j * 3, none⟩ = some (.int .i64 k') ∧ z.cell? ⟨p2, o2 + j * 3 + 1, none⟩ = some (.int .i64 m') ∧ z.cell? ⟨p2, o2 + j * 3 + 2, none⟩ = some (.string s')) := fun z hb => ⟨(hb.cell LP1).trans e0, (hb.cell LP1).trans e1, (hb.cell LP1).trans e2, (hb.cell LP2).trans f0, (hb.cell LP2).trans f1, (hb.cell LP2).trans f2⟩
      have HD0 : Hid (Below wr.heap.size wr wr.drew) := (Below.refl _ _).drew
      have K0 : Hid (wr.drew.cell? ⟨p1, o1 + j * 3, none⟩ = some (.int .i64 k) ∧ wr.drew.cell? ⟨p1, o1 + j * 3 + 1, none⟩ = some (.int .i64 m) ∧ wr.drew.cell? ⟨p1, o1 + j * 3 + 2, none⟩ = some (.string s) ∧ wr.drew.cell? ⟨p2, o2 + j * 3, none⟩ = some (.int .i64 k') ∧ wr.drew.cell? ⟨p2, o2 + j * 3 + 1, none⟩ = some (.int .i64 m') ∧ wr.drew.cell? ⟨p2, o2 + j * 3 + 2, none⟩ = some (.string s')) := KS.out _ HD0.out
      have hk0 : (0 : Int) ≤ (j : Int) := by omega
      have hk1 : (j : Int) < (n1 : Int) := by omega
      have hk2 : (j : Int) < (n2 : Int) := by omega
      obtain ⟨b1, hb1⟩ : ∃ b1, sameV k m s k' m' s' = b1 := ⟨_, rfl⟩
      have HB1 : Hid (sameV k m s k' m' s' = b1) := hb1
      have hmin : (j : Int) < min (n1 : Int) (n2 : Int) := by omega
      clear g1 g2 hx hy hstep hb1 e0 e1 e2 f0 f1 f2
      go_upto_region 4 with (fail)
      go_region_held3 (fun w' => w'.cell? ⟨p1, o1 + j * 3, none⟩ = some (.int .i64 k) ∧ w'.cell? ⟨p1, o1 + j * 3 + 1, none⟩ = some (.int .i64 m) ∧ w'.cell? ⟨p1, o1 + j * 3 + 2, none⟩ = some (.string s) ∧ w'.cell? ⟨p2, o2 + j * 3, none⟩ = some (.int .i64 k') ∧ w'.cell? ⟨p2, o2 + j * 3 + 1, none⟩ = some (.int .i64 m') ∧ w'.cell? ⟨p2, o2 + j * 3 + 2, none⟩ = some (.string s'))
        (first | (with_reducible exact K1.out) | (with_reducible exact K0.out) | go_keep)
        (first
        | (go_at_call 30
           refine (implValueSame_any k m s k' m' s' wr.drew).mono ?_
           rintro e w1 ⟨rfl, hb⟩
           rw [HB1.out]
           have hb' : Below wr.heap.size wr w1 := HD0.out.trans hb
           have HW1 : Hid (Below wr.heap.size wr w1) := hb'
           have K1 : Hid (w1.cell? ⟨p1, o1 + j * 3, none⟩ = some (.int .i64 k) ∧ w1.cell? ⟨p1, o1 + j * 3 + 1, none⟩ = some (.int .i64 m) ∧ w1.cell? ⟨p1, o1 + j * 3 + 2, none⟩ = some (.string s) ∧ w1.cell? ⟨p2, o2 + j * 3, none⟩ = some (.int .i64 k') ∧ w1.cell? ⟨p2, o2 + j * 3 + 1, none⟩ = some (.int .i64 m') ∧ w1.cell? ⟨p2, o2 + j * 3 + 2, none⟩ = some (.string s')) := KS.out _ hb'
           clear hb hb'))
      have HW01 : Hid (Below w.heap.size w w1) := HBW.out.trans (HW1.out.mono HBW.out.size)
      rcases b1 with _ | _
      · have HBL : Hid (lessV k m s k' m' s' = B) := by
          have h1 := HST.out
          rw [HB1.out, if_neg (by decide)] at h1
          exact h1.symm
        have HD1 : Hid (Below wr.heap.size wr w1.drew) := HW1.out.drew
        have K2 : Hid (w1.drew.cell? ⟨p1, o1 + j * 3, none⟩ = some (.int .i64 k) ∧ w1.drew.cell? ⟨p1, o1 + j * 3 + 1, none⟩ = some (.int .i64 m) ∧ w1.drew.cell? ⟨p1, o1 + j * 3 + 2, none⟩ = some (.string s) ∧ w1.drew.cell? ⟨p2, o2 + j * 3, none⟩ = some (.int .i64 k') ∧ w1.drew.cell? ⟨p2, o2 + j * 3 + 1, none⟩ = some (.int .i64 m') ∧ w1.drew.cell? ⟨p2, o2 + j * 3 + 2, none⟩ = some (.string s')) := KS.out _ HD1.out
        go_upto_region 5 with (fail)
        go_region_held3 (fun w' => w'.cell? ⟨p1, o1 + j * 3, none⟩ = some (.int .i64 k) ∧ w'.cell? ⟨p1, o1 + j * 3 + 1, none⟩ = some (.int .i64 m) ∧ w'.cell? ⟨p1, o1 + j * 3 + 2, none⟩ = some (.string s) ∧ w'.cell? ⟨p2, o2 + j * 3, none⟩ = some (.int .i64 k') ∧ w'.cell? ⟨p2, o2 + j * 3 + 1, none⟩ = some (.int .i64 m') ∧ w'.cell? ⟨p2, o2 + j * 3 + 2, none⟩ = some (.string s'))
          (first | (with_reducible exact K3.out) | (with_reducible exact K2.out) | go_keep)
          (first
          | (go_at_call 31
             refine (implValueLess_any k m s k' m' s' w1.drew).mono ?_
             rintro e w2 ⟨rfl, hb⟩
             rw [HBL.out]
             have hb' : Below wr.heap.size wr w2 := HD1.out.trans (hb.mono HW1.out.size)
             have HW2 : Hid (Below wr.heap.size wr w2) := hb'
             have K3 : Hid (w2.cell? ⟨p1, o1 + j * 3, none⟩ = some (.int .i64 k) ∧ w2.cell? ⟨p1, o1 + j * 3 + 1, none⟩ = some (.int .i64 m) ∧ w2.cell? ⟨p1, o1 + j * 3 + 2, none⟩ = some (.string s) ∧ w2.cell? ⟨p2, o2 + j * 3, none⟩ = some (.int .i64 k') ∧ w2.cell? ⟨p2, o2 + j * 3 + 1, none⟩ = some (.int .i64 m') ∧ w2.cell? ⟨p2, o2 + j * 3 + 2, none⟩ = some (.string s')) := KS.out _ hb'
             clear hb hb'))
        go_wp2
        go_ret
        exact ⟨rfl, HBW.out.trans (HW2.out.mono HBW.out.size)⟩
      · have HNX : Hid (tupLess (L.drop (j + 1)) (M.drop (j + 1)) = B) := by
          have h1 := HST.out
          rw [HB1.out, if_pos rfl] at h1
          exact h1.symm
        go_wp2
        go_roundw
        case rel => exact ⟨j + 1, by omega, by omega, by go_num, HNX.out, HW01.out⟩
        case measure => simp [RowKit.intOf]; omega
    · have HE : Hid (decide (n1 < n2) = B) := by
        show _ = _
        rw [← HT.out, tup_end (by omega) (by omega) (by rw [hl, hl']; exact hlt), hl, hl']
      go_wp2
      go_ret
      exact ⟨by rw [← HE.out]; rfl, HBW.out⟩
theorem tls_two (a1 a2 : Option Addr) (n1 n2 c1 c2 : Nat) (L M : List Va3) (w : World) (h : VasAt w a1 n1 L) (h' : VasAt w a2 n2 M) (hm : n2 < n1) :
    Calls Try.prog 10 #[.slice a1 n1 c1, .slice a2 n2 c2] w fun e w' => e = .returned (.bool (tupLess L M)) ∧ Below w.heap.size w w' := by
  obtain ⟨B, hB⟩ : ∃ B, tupLess L M = B := ⟨_, rfl⟩
  rw [hB]
  have HB : Hid (tupLess (L.drop 0) (M.drop 0) = B) := hB
  have HL : Hid (VasAt w a1 n1 L) := h
  have HM : Hid (VasAt w a2 n2 M) := h'
  have hl := h.1
  have hn := h.2.1
  have hl' := h'.1
  have hn' := h'.2.1
  clear hB h h'
  go_enter Try.func10, Try.ntmps10
  have hm1 : (n2 : Int) < (n1 : Int) := by omega
  go_wp2
  go_loopw [11] (fun i wr => ∃ j : Nat, j ≤ n1 ∧ j ≤ n2 ∧ i = .int .i64 (j : Int) ∧ tupLess (L.drop j) (M.drop j) = B ∧ Below w.heap.size w wr) (fun i _ => n1 - (RowKit.intOf i).toNat)
  case atStart => exact ⟨0, Nat.zero_le _, Nat.zero_le _, rfl, HB.out, Below.refl _ _⟩
  case round =>
    obtain ⟨j, hj, hj', rfl, ht, hb⟩ := hrel
    have HT : Hid (tupLess (L.drop j) (M.drop j) = B) := ht
    have HBW : Hid (Below w.heap.size w wr) := hb
    clear ht hb
    by_cases hlt : j < n1 ∧ j < n2
    · obtain ⟨hlt1, hlt2⟩ := hlt
      rcases (HL.out.below HBW.out (Nat.le_refl _)).2.2 with h0 | ⟨p1, o1, rfl, g1⟩
      · omega
      rcases (HM.out.below HBW.out (Nat.le_refl _)).2.2 with h0 | ⟨p2, o2, rfl, g2⟩
      · omega
      obtain ⟨x, hx⟩ : ∃ x, L[j]? = some x := ⟨_, List.getElem?_eq_getElem (by omega)⟩
      obtain ⟨y, hy⟩ : ∃ y, M[j]? = some y := ⟨_, List.getElem?_eq_getElem (by omega)⟩
      obtain ⟨e0, e1, e2⟩ := g1 j x hx
      obtain ⟨f0, f1, f2⟩ := g2 j y hy
      have hstep := tup_step hx hy
      rw [HT.out] at hstep
      obtain ⟨k, m, s⟩ := x
      obtain ⟨k', m', s'⟩ := y
      dsimp only at e0 e1 e2 f0 f1 f2 hstep
      have HST : Hid (B = if sameV k m s k' m' s' = true then tupLess (L.drop (j + 1)) (M.drop (j + 1)) else lessV k m s k' m' s') := hstep
      have LP1 : p1 < wr.heap.size := World.block_lt_of_cell? wr _ e0
      have LP2 : p2 < wr.heap.size := World.block_lt_of_cell? wr _ f0
      have KS : Hid (∀ z, Below wr.heap.size wr z → z.cell? ⟨p1, o1 + j * 3, none⟩ = some (.int .i64 k) ∧ z.cell? ⟨p1, o1 + j * 3 + 1, none⟩ = some (.int .i64 m) ∧ z.cell? ⟨p1, o1 + j * 3 + 2, none⟩ = some (.string s) ∧ z.cell? ⟨p2, o2 + j * 3, none⟩ = some (.int .i64 k') ∧ z.cell? ⟨p2, o2 + j * 3 + 1, none⟩ = some (.int .i64 m') ∧ z.cell? ⟨p2, o2 + j * 3 + 2, none⟩ = some (.string s')) := fun z hb => ⟨(hb.cell LP1).trans e0, (hb.cell LP1).trans e1, (hb.cell LP1).trans e2, (hb.cell LP2).trans f0, (hb.cell LP2).trans f1, (hb.cell LP2).trans f2⟩
      have HD0 : Hid (Below wr.heap.size wr wr.drew) := (Below.refl _ _).drew
      have K0 : Hid (wr.drew.cell? ⟨p1, o1 + j * 3, none⟩ = some (.int .i64 k) ∧ wr.drew.cell? ⟨p1, o1 + j * 3 + 1, none⟩ = some (.int .i64 m) ∧ wr.drew.cell? ⟨p1, o1 + j * 3 + 2, none⟩ = some (.string s) ∧ wr.drew.cell? ⟨p2, o2 + j * 3, none⟩ = some (.int .i64 k') ∧ wr.drew.cell? ⟨p2, o2 + j * 3 + 1, none⟩ = some (.int .i64 m') ∧ wr.drew.cell? ⟨p2, o2 + j * 3 + 2, none⟩ = some (.string s')) := KS.out _ HD0.out
      have hk0 : (0 : Int) ≤ (j : Int) := by omega
      have hk1 : (j : Int) < (n1 : Int) := by omega
      have hk2 : (j : Int) < (n2 : Int) := by omega
      obtain ⟨b1, hb1⟩ : ∃ b1, sameV k m s k' m' s' = b1 := ⟨_, rfl⟩
      have HB1 : Hid (sameV k m s k' m' s' = b1) := hb1
      have hmin : (j : Int) < min (n1 : Int) (n2 : Int) := by omega
      clear g1 g2 hx hy hstep hb1 e0 e1 e2 f0 f1 f2
      go_upto_region 4 with (fail)
      go_region_held3 (fun w' => w'.cell? ⟨p1, o1 + j * 3, none⟩ = some (.int .i64 k) ∧ w'.cell? ⟨p1, o1 + j * 3 + 1, none⟩ = some (.int .i64 m) ∧ w'.cell? ⟨p1, o1 + j * 3 + 2, none⟩ = some (.string s) ∧ w'.cell? ⟨p2, o2 + j * 3, none⟩ = some (.int .i64 k') ∧ w'.cell? ⟨p2, o2 + j * 3 + 1, none⟩ = some (.int .i64 m') ∧ w'.cell? ⟨p2, o2 + j * 3 + 2, none⟩ = some (.string s'))
        (first | (with_reducible exact K1.out) | (with_reducible exact K0.out) | go_keep)
        (first
        | (go_at_call 30
           refine (implValueSame_any k m s k' m' s' wr.drew).mono ?_
           rintro e w1 ⟨rfl, hb⟩
           rw [HB1.out]
           have hb' : Below wr.heap.size wr w1 := HD0.out.trans hb
           have HW1 : Hid (Below wr.heap.size wr w1) := hb'
           have K1 : Hid (w1.cell? ⟨p1, o1 + j * 3, none⟩ = some (.int .i64 k) ∧ w1.cell? ⟨p1, o1 + j * 3 + 1, none⟩ = some (.int .i64 m) ∧ w1.cell? ⟨p1, o1 + j * 3 + 2, none⟩ = some (.string s) ∧ w1.cell? ⟨p2, o2 + j * 3, none⟩ = some (.int .i64 k') ∧ w1.cell? ⟨p2, o2 + j * 3 + 1, none⟩ = some (.int .i64 m') ∧ w1.cell? ⟨p2, o2 + j * 3 + 2, none⟩ = some (.string s')) := KS.out _ hb'
           clear hb hb'))
      have HW01 : Hid (Below w.heap.size w w1) := HBW.out.trans (HW1.out.mono HBW.out.size)
      rcases b1 with _ | _
      · have HBL : Hid (lessV k m s k' m' s' = B) := by
          have h1 := HST.out
          rw [HB1.out, if_neg (by decide)] at h1
          exact h1.symm
        have HD1 : Hid (Below wr.heap.size wr w1.drew) := HW1.out.drew
        have K2 : Hid (w1.drew.cell? ⟨p1, o1 + j * 3, none⟩ = some (.int .i64 k) ∧ w1.drew.cell? ⟨p1, o1 + j * 3 + 1, none⟩ = some (.int .i64 m) ∧ w1.drew.cell? ⟨p1, o1 + j * 3 + 2, none⟩ = some (.string s) ∧ w1.drew.cell? ⟨p2, o2 + j * 3, none⟩ = some (.int .i64 k') ∧ w1.drew.cell? ⟨p2, o2 + j * 3 + 1, none⟩ = some (.int .i64 m') ∧ w1.drew.cell? ⟨p2, o2 + j * 3 + 2, none⟩ = some (.string s')) := KS.out _ HD1.out
        go_upto_region 5 with (fail)
        go_region_held3 (fun w' => w'.cell? ⟨p1, o1 + j * 3, none⟩ = some (.int .i64 k) ∧ w'.cell? ⟨p1, o1 + j * 3 + 1, none⟩ = some (.int .i64 m) ∧ w'.cell? ⟨p1, o1 + j * 3 + 2, none⟩ = some (.string s) ∧ w'.cell? ⟨p2, o2 + j * 3, none⟩ = some (.int .i64 k') ∧ w'.cell? ⟨p2, o2 + j * 3 + 1, none⟩ = some (.int .i64 m') ∧ w'.cell? ⟨p2, o2 + j * 3 + 2, none⟩ = some (.string s'))
          (first | (with_reducible exact K3.out) | (with_reducible exact K2.out) | go_keep)
          (first
          | (go_at_call 31
             refine (implValueLess_any k m s k' m' s' w1.drew).mono ?_
             rintro e w2 ⟨rfl, hb⟩
             rw [HBL.out]
             have hb' : Below wr.heap.size wr w2 := HD1.out.trans (hb.mono HW1.out.size)
             have HW2 : Hid (Below wr.heap.size wr w2) := hb'
             have K3 : Hid (w2.cell? ⟨p1, o1 + j * 3, none⟩ = some (.int .i64 k) ∧ w2.cell? ⟨p1, o1 + j * 3 + 1, none⟩ = some (.int .i64 m) ∧ w2.cell? ⟨p1, o1 + j * 3 + 2, none⟩ = some (.string s) ∧ w2.cell? ⟨p2, o2 + j * 3, none⟩ = some (.int .i64 k') ∧ w2.cell? ⟨p2, o2 + j * 3 + 1, none⟩ = some (.int .i64 m') ∧ w2.cell? ⟨p2, o2 + j * 3 + 2, none⟩ = some (.string s')) := KS.out _ hb'
             clear hb hb'))
        go_wp2
        go_ret
        exact ⟨rfl, HBW.out.trans (HW2.out.mono HBW.out.size)⟩
      · have HNX : Hid (tupLess (L.drop (j + 1)) (M.drop (j + 1)) = B) := by
          have h1 := HST.out
          rw [HB1.out, if_pos rfl] at h1
          exact h1.symm
        go_wp2
        go_roundw
        case rel => exact ⟨j + 1, by omega, by omega, by go_num, HNX.out, HW01.out⟩
        case measure => simp [RowKit.intOf]; omega
    · have HE : Hid (decide (n1 < n2) = B) := by
        show _ = _
        rw [← HT.out, tup_end (by omega) (by omega) (by rw [hl, hl']; exact hlt), hl, hl']
      go_wp2
      go_ret
      exact ⟨by rw [← HE.out]; rfl, HBW.out⟩
theorem implTupleLess_any (a1 a2 : Option Addr) (n1 n2 c1 c2 : Nat) (L M : List Va3) (w : World) (h : VasAt w a1 n1 L) (h' : VasAt w a2 n2 M) :
    Calls Try.prog 10 #[.slice a1 n1 c1, .slice a2 n2 c2] w fun e w' => e = .returned (.bool (tupLess L M)) ∧ Below w.heap.size w w' := by
  rcases Nat.lt_or_ge n2 n1 with hm | hm
  · exact tls_two a1 a2 n1 n2 c1 c2 L M w h h' hm
  · exact tls_one a1 a2 n1 n2 c1 c2 L M w h h' hm
open Go.Lib (byteCells byteCells_length byteCells_append)

def Grw (w : World) (v : Value) (w' : World) (v' : Value) : Prop := w.grownBy w' v.ownBlock ∧ ∀ j, v'.ownBlock = some j → w.heap.size ≤ j ∨ v.ownBlock = some j
theorem Grw.refl (w : World) (v : Value) : Grw w v w v := ⟨⟨rfl, rfl, rfl, Nat.le_refl _, fun _ _ _ => rfl⟩, fun _ h => .inr h⟩
theorem Grw.trans {w w1 w2 : World} {v v1 v2 : Value} (h : Grw w v w1 v1) (k : Grw w1 v1 w2 v2) : Grw w v w2 v2 :=
  ⟨h.1.andThen k.1 h.2, fun j e => (k.2 j e).elim (fun x => .inl (Nat.le_trans h.1.size x)) (h.2 j)⟩
theorem Grw.alloc {w w1 : World} {v v1 : Value} (h : Grw w v w1 v1) (o : Obj) : Grw w v (w1.alloc o) v1 := ⟨h.1.trans (World.grownBy_alloc w1 o _), h.2⟩
theorem Grw.below {w w1 w2 : World} {v v1 : Value} (h : Grw w v w1 v1) (hb : Below w1.heap.size w1 w2) : Grw w v w2 v1 := ⟨h.1.trans ⟨hb.os, hb.tape, hb.output, hb.size, fun k hk _ => hb.block k hk⟩, h.2⟩
theorem Grw.bel {a w w' : World} {v v' : Value} {B : Nat} (h : Grw w v w' v') (hb : Below B a w) (hs : B ≤ w.heap.size) (hv : ∀ k, v.ownBlock = some k → B ≤ k) : Below B a w' := below_app hb hs hv h.1
theorem Grw.box {w w' : World} {v v' : Value} {b : Nat} {cs : Array Value} {T : TypeId} (h : Grw w v w' v') (hb : Box w b cs T) (hne : ∀ k, v.ownBlock = some k → k ≠ b) : Box w' b cs T :=
  (h.1.block b hb.lt (fun e => hne b e.symm rfl)).trans hb
theorem list_appG {ops : Array Oper} {rest : List Oper} {o : Oper} {a : Act} (w : World) {Q : Exit → Act → World → Prop} (hg : o.guard = none) (s x : Operand)
    (ho : o.op = .call { callee := .builtin .append, args := #[s, x], argTypes := #[22, 22] })
    (base : Nat) (v : Value) (l : List UInt8) (hs : a.eval s = v) (hown : BOwn w base v l)
    (ad : Addr) (c : Nat) (news : List UInt8) (hx : a.eval x = .slice (some ad) news.length c) (hnews : ∀ j u, (byteCells news)[j]? = some u → w.cell? (ad.add j) = some u)
    (hle : l.length + news.length ≤ 1099511627776) (hbase : base ≤ w.heap.size)
    (h : ∀ v' w', BOwn w' base v' (l ++ news) → (∀ w0 v0, Grw w0 v0 w v → Grw w0 v0 w' v') → wpList Try.prog ops Q rest (a.put o.dst v') w') : wpList Try.prog ops Q (o :: rest) a w := by
  obtain ⟨i0, hi, hz0, hz1, hz2⟩ := info_parts infoByte
  refine wpList_append_own_at (w := w) hg s x 22 ho base 5 i0 (.int .u8 0) 1 1 Try.underlying22 hi hz0 hz1 hz2 (by rfl) (by decide) v l.length (byteCells l) hs hown ad news.length c (byteCells news) hx (by simp [byteCells_length]) hnews bcell_one (by unfold maxLen; omega) (by omega) hbase ?_
  intro v' w' hown' hgrow _ hat
  refine h v' w' ?_ (fun w0 v0 h0 => h0.trans ⟨hgrow, fun j e => hat.elim (fun x => .inr (x ▸ e)) (fun x => .inl (by rw [x] at e; cases e; exact Nat.le_refl _))⟩)
  unfold BOwn
  rw [byteCells_append, List.length_append]
  exact hown'
def AppSays (base : Nat) (w : World) (v : Value) (l : List UInt8) (e : Ending) (w' : World) : Prop := ∃ v', e = .returned v' ∧ BOwn w' base v' l ∧ Grw w v w' v'
theorem shift_byte2 {m : Nat} {j : Nat} (h : j < 8) : (m : Int) / 2 ^ (8 * (7 - j)) % 256 = ((m / 256 ^ (8 - 1 - j) % 256 : Nat) : Int) := by
  have h1 := shift_byte (m := m) h
  rw [show (56 - 8 * (j : Int)).toNat = 8 * (7 - j) by omega] at h1
  exact h1
theorem appendInt_any (base : Nat) (v : Value) (l : List UInt8) (n : Int) (hn : -1000000000000 ≤ n ∧ n ≤ 1000000000000) (m : Nat) (hm : n + 4611686018427387904 = (m : Int)) (w : World) (ho : BOwn w base v l) (hl : l.length ≤ 1000000) (hb : base ≤ w.heap.size) :
    Calls Try.prog 52 #[v, .int .i64 n] w fun e w' => AppSays base w v (l ++ beN 8 m) e w' := by
  have HO0 : Hid (BOwn w base v l) := ho
  have HSB : Hid (base ≤ w.heap.size) := hb
  have HLL : Hid (l.length ≤ 1000000) := hl
  have hm0 : (0 : Int) ≤ (m : Int) := by omega
  have hm1 : (m : Int) ≤ 9223372036854775807 := by omega
  have hadd : wrap64 (n + 4611686018427387904) = (m : Int) := by rw [hm]; unfold wrap64; omega
  clear ho hl hb hm hn
  go_enter Try.func52, Try.ntmps52
  go_wp2
  go_loopw [0, 6] (fun u i wr => ∃ j : Nat, j ≤ 8 ∧ i = .int .i64 (j : Int) ∧ BOwn wr base u (l ++ (beN 8 m).take j) ∧ Grw w v wr u) (fun _ i _ => (8 - RowKit.intOf i).toNat)
  case atStart => exact ⟨0, Nat.zero_le _, rfl, by rw [List.take_zero, List.append_nil]; exact HO0.out, Grw.refl _ _⟩
  case round =>
    obtain ⟨j, hj, rfl, ho, hk⟩ := hrel
    have HO : Hid (BOwn wr base u0 (l ++ (beN 8 m).take j)) := ho
    have HKP : Hid (Grw w v wr u0) := hk
    have HSZ : Hid (base ≤ wr.heap.size) := Nat.le_trans HSB.out hk.1.size
    clear ho hk
    by_cases hlt : j < 8
    · have hk0 : (0 : Int) ≤ (j : Int) := by omega
      have hk1 : (j : Int) < 8 := by omega
      have HSH := shift_byte2 (m := m) hlt
      obtain ⟨q, hq⟩ : ∃ q : Nat, m / 256 ^ (8 - 1 - j) % 256 = q := ⟨_, rfl⟩
      have hq256 : q < 256 := by omega
      have HNEW : Hid ((l ++ (beN 8 m).take j) ++ [UInt8.ofNat q] = l ++ (beN 8 m).take (j + 1)) := by show _ = _; rw [beN_succ hlt, hq, List.append_assoc]
      rw [hq] at HSH
      have HLEN : Hid ((l ++ (beN 8 m).take j).length ≤ 1000008) := by show _ ≤ _; rw [List.length_append, List.length_take]; have := HLL.out; omega
      have HQ : Hid (.int .u8 (q : Int) = (Value.int .u8 ((UInt8.ofNat q).toNat : Int))) := by show _ = _; rw [u8_nat hq256]
      clear hq
      go_upto_region 4 with (fail)
      (try rw [hadd])
      go_wp2_with
        (at_builtin
         refine list_appG _ rfl _ _ rfl base u0 _ rfl (HO.out.alloc _) ⟨wr.heap.size, 0, none⟩ 1 [UInt8.ofNat q] rfl (bnews _ _ rfl _ (by rw [HQ.out]; rfl)) (by have := HLEN.out; simp only [List.length_cons, List.length_nil]; omega) (by have := HSZ.out; simp; omega) ?_
         intro v1 w1 hown hbel
         have HO1 : Hid (BOwn w1 base v1 _) := hown
         have HK1 : Hid (Grw w v w1 v1) := hbel _ _ (HKP.out.alloc _)
         have HS1 : Hid (base ≤ w1.heap.size) := Nat.le_trans HSB.out HK1.out.1.size
         clear hown hbel)
      have HO1' := HO1
      rw [HNEW.out] at HO1'
      go_roundw
      case rel => exact ⟨j + 1, by omega, by go_num, HO1'.out, HK1.out⟩
      case measure => simp [RowKit.intOf]; omega
    · obtain rfl : 8 = j := by omega
      have HT : Hid (BOwn wr base u0 (l ++ beN 8 m)) := by
        have h1 := HO.out
        rw [List.take_of_length_le (by rw [beN_length]; exact Nat.le_refl _)] at h1
        exact h1
      go_wp2
      go_ret
      exact ⟨_, rfl, HT.out, HKP.out⟩
open Go.Lib (byteCells byteCells_length byteCells_append)

theorem appendText_any (base : Nat) (v : Value) (l : List UInt8) (s : ByteArray) (hs : s.size ≤ 20) (w : World) (ho : BOwn w base v l) (hl : l.length ≤ 1000000) (hb : base ≤ w.heap.size) :
    Calls Try.prog 53 #[v, .string s] w fun e w' => AppSays base w v (l ++ (escB s.data.toList ++ [0, 1])) e w' := by
  have HO0 : Hid (BOwn w base v l) := ho
  have HSB : Hid (base ≤ w.heap.size) := hb
  have HLL : Hid (l.length ≤ 1000000) := hl
  clear ho hl hb
  go_enter Try.func53, Try.ntmps53
  go_wp2
  go_loopw [0, 8] (fun u i wr => ∃ j : Nat, j ≤ s.size ∧ i = .int .i64 (j : Int) ∧ BOwn wr base u (l ++ escB (s.data.toList.take j)) ∧ Grw w v wr u) (fun _ i _ => s.size - (RowKit.intOf i).toNat)
  case atStart => exact ⟨0, Nat.zero_le _, rfl, by rw [List.take_zero]; show BOwn _ _ _ (l ++ []); rw [List.append_nil]; exact HO0.out, Grw.refl _ _⟩
  case round =>
    obtain ⟨j, hj, rfl, ho, hk⟩ := hrel
    have HO : Hid (BOwn wr base u0 (l ++ escB (s.data.toList.take j))) := ho
    have HKP : Hid (Grw w v wr u0) := hk
    have HSZ : Hid (base ≤ wr.heap.size) := Nat.le_trans HSB.out hk.1.size
    have HLEN : Hid ((l ++ escB (s.data.toList.take j)).length ≤ 1000041) := by
      show _ ≤ _
      have h1 := escB_le (s.data.toList.take j)
      have h2 := HLL.out
      rw [List.length_take] at h1
      rw [List.length_append]
      omega
    clear ho hk
    by_cases hlt : j < s.size
    · have hk0 : (0 : Int) ≤ (j : Int) := by omega
      have hk1 : (j : Int) < (s.size : Int) := by omega
      have hbd : j < s.data.size := hlt
      have hb? : s.data.toList[j]? = some (s[j]'hlt) := by
        rw [Array.getElem?_toList]
        exact Array.getElem?_eq_getElem hlt
      obtain ⟨b, hbq⟩ : ∃ b, s[j]'hlt = b := ⟨_, rfl⟩
      have HX := escB_succ hb?
      rw [hbq] at HX
      go_upto_region 5 with
        (at_builtin
         refine list_appG _ rfl _ _ rfl base u0 _ rfl (HO.out.alloc _) ⟨wr.heap.size, 0, none⟩ 1 [b] rfl (bnews _ _ rfl _ rfl) (by have := HLEN.out; simp only [List.length_cons, List.length_nil]; omega) (by have := HSZ.out; simp; omega) ?_
         intro v1 w1 hown hbel
         have HO1 : Hid (BOwn w1 base v1 _) := hown
         have HK1 : Hid (Grw w v w1 v1) := hbel _ _ (HKP.out.alloc _)
         have HS1 : Hid (base ≤ w1.heap.size) := Nat.le_trans HSB.out HK1.out.1.size
         clear hown hbel)
      by_cases hb0 : b = 0
      · have hbe : ((b.toNat : Int) == 0) = true := by rw [hb0]; rfl
        rw [if_pos hb0] at HX
        have HNEW : Hid (((l ++ escB (s.data.toList.take j)) ++ [b]) ++ [255] = l ++ escB (s.data.toList.take (j + 1))) := by show _ = _; rw [HX, hb0]; simp
        have HLE1 : Hid (((l ++ escB (s.data.toList.take j)) ++ [b]).length ≤ 1000042) := by show _ ≤ _; rw [List.length_append]; exact Nat.add_le_add_right HLEN.out 1
        clear HX hb0
        have HKP := HK1
        go_wp2_with
          (at_builtin
           refine list_appG _ rfl _ _ rfl base v1 _ rfl (HO1.out.alloc _) ⟨w1.heap.size, 0, none⟩ 1 [255] rfl (bnews _ _ rfl _ rfl) (by have := HLE1.out; simp only [List.length_cons, List.length_nil]; omega) (by have := HS1.out; simp; omega) ?_
           intro v2 w2 hown hbel
           have HO2 : Hid (BOwn w2 base v2 _) := hown
           have HK2 : Hid (Grw w v w2 v2) := hbel _ _ (HKP.out.alloc _)
           have HS2 : Hid (base ≤ w2.heap.size) := Nat.le_trans HSB.out HK2.out.1.size
           clear hown hbel)
        have HO2' := HO2
        rw [HNEW.out] at HO2'
        go_roundw
        case rel => exact ⟨j + 1, by omega, by go_num, HO2'.out, HK2.out⟩
        case measure => simp [RowKit.intOf]; omega
      · have hbe : ((b.toNat : Int) == 0) = false := by
          rw [beq_eq_false_iff_ne]
          have := u8_pos hb0
          omega
        rw [if_neg hb0] at HX
        have HNEW : Hid ((l ++ escB (s.data.toList.take j)) ++ [b] = l ++ escB (s.data.toList.take (j + 1))) := by show _ = _; rw [HX, List.append_assoc]
        have HO1' := HO1
        rw [HNEW.out] at HO1'
        clear HX hb0
        go_wp2
        go_roundw
        case rel => exact ⟨j + 1, by omega, by go_num, HO1'.out, HK1.out⟩
        case measure => simp [RowKit.intOf]; omega
    · obtain rfl : s.size = j := by omega
      have HT : Hid (BOwn wr base u0 (l ++ escB s.data.toList)) := by
        have h1 := HO.out
        rw [List.take_of_length_le (by simp)] at h1
        exact h1
      have HLT := HLEN
      rw [List.take_of_length_le (by simp)] at HLT
      go_wp2_with
        (at_builtin
         refine list_appG _ rfl _ _ rfl base u0 _ rfl (HT.out.alloc _) ⟨wr.heap.size, 0, none⟩ 2 [0, 1] rfl (bnews _ _ rfl _ rfl) (by have := HLT.out; simp only [List.length_cons, List.length_nil]; omega) (by have := HSZ.out; simp; omega) ?_
         intro v1 w1 hown hbel
         have HO1 : Hid (BOwn w1 base v1 _) := hown
         have HK1 : Hid (Grw w v w1 v1) := hbel _ _ (HKP.out.alloc _)
         have HS1 : Hid (base ≤ w1.heap.size) := Nat.le_trans HSB.out HK1.out.1.size
         clear hown hbel)
      go_ret
      have hfin := HO1.out
      rw [List.append_assoc] at hfin
      exact ⟨_, rfl, hfin, HK1.out⟩
open Go.Lib (byteCells byteCells_length byteCells_append)

theorem appV_null (base : Nat) (v : Value) (l : List UInt8) (w : World) (ho : BOwn w base v l) (hl : l.length ≤ 1000) (hb : base ≤ w.heap.size) :
    Calls Try.prog 37 #[v, VaV 0 0 ⟨#[]⟩] w fun e w' => AppSays base w v (l ++ [1]) e w' := by
  obtain ⟨W, hW⟩ : ∃ W, w.alloc (.cells #[.int .i64 0, .int .i64 0, .string ⟨#[]⟩] 44) = W := ⟨_, rfl⟩
  have HKP : Hid (Grw w v W v) := by rw [← hW]; exact (Grw.refl w v).alloc _
  have X0 : Hid (Box W w.heap.size #[.int .i64 0, .int .i64 0, .string ⟨#[]⟩] 44) := by rw [← hW]; exact box_of w _ _
  have HO : Hid (BOwn W base v l) := by rw [← hW]; exact ho.alloc _
  have HNE : Hid (∀ k, v.ownBlock = some k → k ≠ w.heap.size) := fun k e h => by have := own_lt ho k e; omega
  have HSB : Hid (base ≤ w.heap.size) := hb
  have HSZ : Hid (base ≤ W.heap.size) := Nat.le_trans hb HKP.out.1.size
  have HLEN : Hid (l.length ≤ 1000) := hl
  have HW : Hid (w.alloc (.cells #[.int .i64 0, .int .i64 0, .string ⟨#[]⟩] 44) = W) := hW
  obtain ⟨c0, c1, c2⟩ := X0.out.triV
  clear hW ho hl hb
  go_enter Try.func37, Try.ntmps37
  go_upto_region 1 with (fail)
  rw [HW.out]
  go_upto_region 2 with
    (at_builtin
     refine list_appG _ rfl _ _ rfl base v _ rfl (HO.out.alloc _) ⟨W.heap.size, 0, none⟩ 1 [1] rfl (bnews _ _ rfl _ rfl) (by have := HLEN.out; simp only [List.length_cons, List.length_nil]; omega) (by have := HSZ.out; simp; omega) ?_
     intro v1 w1 hown hbel
     have HO1 : Hid (BOwn w1 base v1 _) := hown
     have HK1 : Hid (Grw w v w1 v1) := hbel _ _ (HKP.out.alloc _)
     have HS1 : Hid (base ≤ w1.heap.size) := Nat.le_trans HSB.out HK1.out.1.size
     have HG1 : Hid (Grw W v w1 v1) := hbel _ _ ((Grw.refl W v).alloc _)
     clear hown hbel)
  have HKG : Hid (Grw W v w1 v1) := HG1.out
  have X1 : Hid (Box w1 w.heap.size #[.int .i64 0, .int .i64 0, .string ⟨#[]⟩] 44) := HKG.out.box X0.out HNE.out
  have HLE1 : Hid ((l ++ [1]).length ≤ 1001) := by show _ ≤ _; rw [List.length_append]; exact Nat.add_le_add_right HLEN.out 1
  clear c0 c1 c2
  obtain ⟨c0, c1, c2⟩ := X1.out.triV
  go_wp2
  go_ret
  exact ⟨_, rfl, HO1.out, HK1.out⟩
theorem appV_no (base : Nat) (v : Value) (l : List UInt8) (w : World) (ho : BOwn w base v l) (hl : l.length ≤ 1000) (hb : base ≤ w.heap.size) :
    Calls Try.prog 37 #[v, VaV 1 0 ⟨#[]⟩] w fun e w' => AppSays base w v (l ++ [2, 0]) e w' := by
  obtain ⟨W, hW⟩ : ∃ W, w.alloc (.cells #[.int .i64 1, .int .i64 0, .string ⟨#[]⟩] 44) = W := ⟨_, rfl⟩
  have HKP : Hid (Grw w v W v) := by rw [← hW]; exact (Grw.refl w v).alloc _
  have X0 : Hid (Box W w.heap.size #[.int .i64 1, .int .i64 0, .string ⟨#[]⟩] 44) := by rw [← hW]; exact box_of w _ _
  have HO : Hid (BOwn W base v l) := by rw [← hW]; exact ho.alloc _
  have HNE : Hid (∀ k, v.ownBlock = some k → k ≠ w.heap.size) := fun k e h => by have := own_lt ho k e; omega
  have HSB : Hid (base ≤ w.heap.size) := hb
  have HSZ : Hid (base ≤ W.heap.size) := Nat.le_trans hb HKP.out.1.size
  have HLEN : Hid (l.length ≤ 1000) := hl
  have HW : Hid (w.alloc (.cells #[.int .i64 1, .int .i64 0, .string ⟨#[]⟩] 44) = W) := hW
  obtain ⟨c0, c1, c2⟩ := X0.out.triV
  clear hW ho hl hb
  go_enter Try.func37, Try.ntmps37
  go_upto_region 1 with (fail)
  rw [HW.out]
  go_upto_region 2 with
    (at_builtin
     refine list_appG _ rfl _ _ rfl base v _ rfl (HO.out.alloc _) ⟨W.heap.size, 0, none⟩ 1 [2] rfl (bnews _ _ rfl _ rfl) (by have := HLEN.out; simp only [List.length_cons, List.length_nil]; omega) (by have := HSZ.out; simp; omega) ?_
     intro v1 w1 hown hbel
     have HO1 : Hid (BOwn w1 base v1 _) := hown
     have HK1 : Hid (Grw w v w1 v1) := hbel _ _ (HKP.out.alloc _)
     have HS1 : Hid (base ≤ w1.heap.size) := Nat.le_trans HSB.out HK1.out.1.size
     have HG1 : Hid (Grw W v w1 v1) := hbel _ _ ((Grw.refl W v).alloc _)
     clear hown hbel)
  have HKG : Hid (Grw W v w1 v1) := HG1.out
  have X1 : Hid (Box w1 w.heap.size #[.int .i64 1, .int .i64 0, .string ⟨#[]⟩] 44) := HKG.out.box X0.out HNE.out
  have HLE1 : Hid ((l ++ [2]).length ≤ 1001) := by show _ ≤ _; rw [List.length_append]; exact Nat.add_le_add_right HLEN.out 1
  clear c0 c1 c2
  obtain ⟨c0, c1, c2⟩ := X1.out.triV
  have HKP := HK1
  go_wp2_with
    (at_builtin
     refine list_appG _ rfl _ _ rfl base v1 _ rfl (HO1.out.alloc _) ⟨w1.heap.size, 0, none⟩ 1 [0] rfl (bnews _ _ rfl _ rfl) (by have := HLE1.out; simp only [List.length_cons, List.length_nil]; omega) (by have := HS1.out; simp; omega) ?_
     intro v2 w2 hown hbel
     have HO2 : Hid (BOwn w2 base v2 _) := hown
     have HK2 : Hid (Grw w v w2 v2) := hbel _ _ (HKP.out.alloc _)
     have HS2 : Hid (base ≤ w2.heap.size) := Nat.le_trans HSB.out HK2.out.1.size
     clear hown hbel)
  go_ret
  have hfin := HO2.out
  rw [List.append_assoc] at hfin
  exact ⟨_, rfl, hfin, HK2.out⟩
theorem appV_yes (base : Nat) (v : Value) (l : List UInt8) (w : World) (ho : BOwn w base v l) (hl : l.length ≤ 1000) (hb : base ≤ w.heap.size) :
    Calls Try.prog 37 #[v, VaV 1 1 ⟨#[]⟩] w fun e w' => AppSays base w v (l ++ [2, 1]) e w' := by
  obtain ⟨W, hW⟩ : ∃ W, w.alloc (.cells #[.int .i64 1, .int .i64 1, .string ⟨#[]⟩] 44) = W := ⟨_, rfl⟩
  have HKP : Hid (Grw w v W v) := by rw [← hW]; exact (Grw.refl w v).alloc _
  have X0 : Hid (Box W w.heap.size #[.int .i64 1, .int .i64 1, .string ⟨#[]⟩] 44) := by rw [← hW]; exact box_of w _ _
  have HO : Hid (BOwn W base v l) := by rw [← hW]; exact ho.alloc _
  have HNE : Hid (∀ k, v.ownBlock = some k → k ≠ w.heap.size) := fun k e h => by have := own_lt ho k e; omega
  have HSB : Hid (base ≤ w.heap.size) := hb
  have HSZ : Hid (base ≤ W.heap.size) := Nat.le_trans hb HKP.out.1.size
  have HLEN : Hid (l.length ≤ 1000) := hl
  have HW : Hid (w.alloc (.cells #[.int .i64 1, .int .i64 1, .string ⟨#[]⟩] 44) = W) := hW
  obtain ⟨c0, c1, c2⟩ := X0.out.triV
  clear hW ho hl hb
  go_enter Try.func37, Try.ntmps37
  go_upto_region 1 with (fail)
  rw [HW.out]
  go_upto_region 2 with
    (at_builtin
     refine list_appG _ rfl _ _ rfl base v _ rfl (HO.out.alloc _) ⟨W.heap.size, 0, none⟩ 1 [2] rfl (bnews _ _ rfl _ rfl) (by have := HLEN.out; simp only [List.length_cons, List.length_nil]; omega) (by have := HSZ.out; simp; omega) ?_
     intro v1 w1 hown hbel
     have HO1 : Hid (BOwn w1 base v1 _) := hown
     have HK1 : Hid (Grw w v w1 v1) := hbel _ _ (HKP.out.alloc _)
     have HS1 : Hid (base ≤ w1.heap.size) := Nat.le_trans HSB.out HK1.out.1.size
     have HG1 : Hid (Grw W v w1 v1) := hbel _ _ ((Grw.refl W v).alloc _)
     clear hown hbel)
  have HKG : Hid (Grw W v w1 v1) := HG1.out
  have X1 : Hid (Box w1 w.heap.size #[.int .i64 1, .int .i64 1, .string ⟨#[]⟩] 44) := HKG.out.box X0.out HNE.out
  have HLE1 : Hid ((l ++ [2]).length ≤ 1001) := by show _ ≤ _; rw [List.length_append]; exact Nat.add_le_add_right HLEN.out 1
  clear c0 c1 c2
  obtain ⟨c0, c1, c2⟩ := X1.out.triV
  have HKP := HK1
  go_wp2_with
    (at_builtin
     refine list_appG _ rfl _ _ rfl base v1 _ rfl (HO1.out.alloc _) ⟨w1.heap.size, 0, none⟩ 1 [1] rfl (bnews _ _ rfl _ rfl) (by have := HLE1.out; simp only [List.length_cons, List.length_nil]; omega) (by have := HS1.out; simp; omega) ?_
     intro v2 w2 hown hbel
     have HO2 : Hid (BOwn w2 base v2 _) := hown
     have HK2 : Hid (Grw w v w2 v2) := hbel _ _ (HKP.out.alloc _)
     have HS2 : Hid (base ≤ w2.heap.size) := Nat.le_trans HSB.out HK2.out.1.size
     clear hown hbel)
  go_ret
  have hfin := HO2.out
  rw [List.append_assoc] at hfin
  exact ⟨_, rfl, hfin, HK2.out⟩
theorem appV_int (base : Nat) (v : Value) (l : List UInt8) (n : Int) (hn : -1000000000000 ≤ n ∧ n ≤ 1000000000000) (m : Nat) (hm : n + 4611686018427387904 = (m : Int)) (w : World) (ho : BOwn w base v l) (hl : l.length ≤ 1000) (hb : base ≤ w.heap.size) :
    Calls Try.prog 37 #[v, VaV 2 n ⟨#[]⟩] w fun e w' => AppSays base w v (l ++ (3 :: beN 8 m)) e w' := by
  have HN : Hid (-1000000000000 ≤ n ∧ n ≤ 1000000000000) := hn
  have HM : Hid (n + 4611686018427387904 = (m : Int)) := hm
  clear hn hm
  obtain ⟨W, hW⟩ : ∃ W, w.alloc (.cells #[.int .i64 2, .int .i64 n, .string ⟨#[]⟩] 44) = W := ⟨_, rfl⟩
  have HKP : Hid (Grw w v W v) := by rw [← hW]; exact (Grw.refl w v).alloc _
  have X0 : Hid (Box W w.heap.size #[.int .i64 2, .int .i64 n, .string ⟨#[]⟩] 44) := by rw [← hW]; exact box_of w _ _
  have HO : Hid (BOwn W base v l) := by rw [← hW]; exact ho.alloc _
  have HNE : Hid (∀ k, v.ownBlock = some k → k ≠ w.heap.size) := fun k e h => by have := own_lt ho k e; omega
  have HSB : Hid (base ≤ w.heap.size) := hb
  have HSZ : Hid (base ≤ W.heap.size) := Nat.le_trans hb HKP.out.1.size
  have HLEN : Hid (l.length ≤ 1000) := hl
  have HW : Hid (w.alloc (.cells #[.int .i64 2, .int .i64 n, .string ⟨#[]⟩] 44) = W) := hW
  obtain ⟨c0, c1, c2⟩ := X0.out.triV
  clear hW ho hl hb
  go_enter Try.func37, Try.ntmps37
  go_upto_region 1 with (fail)
  rw [HW.out]
  go_upto_region 2 with
    (at_builtin
     refine list_appG _ rfl _ _ rfl base v _ rfl (HO.out.alloc _) ⟨W.heap.size, 0, none⟩ 1 [3] rfl (bnews _ _ rfl _ rfl) (by have := HLEN.out; simp only [List.length_cons, List.length_nil]; omega) (by have := HSZ.out; simp; omega) ?_
     intro v1 w1 hown hbel
     have HO1 : Hid (BOwn w1 base v1 _) := hown
     have HK1 : Hid (Grw w v w1 v1) := hbel _ _ (HKP.out.alloc _)
     have HS1 : Hid (base ≤ w1.heap.size) := Nat.le_trans HSB.out HK1.out.1.size
     have HG1 : Hid (Grw W v w1 v1) := hbel _ _ ((Grw.refl W v).alloc _)
     clear hown hbel)
  have HKG : Hid (Grw W v w1 v1) := HG1.out
  have X1 : Hid (Box w1 w.heap.size #[.int .i64 2, .int .i64 n, .string ⟨#[]⟩] 44) := HKG.out.box X0.out HNE.out
  have HLE1 : Hid ((l ++ [3]).length ≤ 1001) := by show _ ≤ _; rw [List.length_append]; exact Nat.add_le_add_right HLEN.out 1
  clear c0 c1 c2
  obtain ⟨c0, c1, c2⟩ := X1.out.triV
  go_wp2_with fail
  refine (appendInt_any base v1 _ n HN.out m HM.out w1 HO1.out (by have := HLE1.out; omega) HS1.out).mono ?_
  rintro e w2 ⟨v2, rfl, hown, hg⟩
  have HO2 : Hid (BOwn w2 base v2 _) := hown
  have HK2 : Hid (Grw w v w2 v2) := HK1.out.trans hg
  clear hown hg c0 c1 c2
  go_wp2
  go_ret
  have hfin := HO2.out
  rw [List.append_assoc] at hfin
  exact ⟨_, rfl, hfin, HK2.out⟩
theorem appV_text (base : Nat) (v : Value) (l : List UInt8) (s : ByteArray) (hs : s.size ≤ 20) (w : World) (ho : BOwn w base v l) (hl : l.length ≤ 1000) (hb : base ≤ w.heap.size) :
    Calls Try.prog 37 #[v, VaV 3 0 s] w fun e w' => AppSays base w v (l ++ (4 :: (escB s.data.toList ++ [0, 1]))) e w' := by
  have HSS : Hid (s.size ≤ 20) := hs
  clear hs
  obtain ⟨W, hW⟩ : ∃ W, w.alloc (.cells #[.int .i64 3, .int .i64 0, .string s] 44) = W := ⟨_, rfl⟩
  have HKP : Hid (Grw w v W v) := by rw [← hW]; exact (Grw.refl w v).alloc _
  have X0 : Hid (Box W w.heap.size #[.int .i64 3, .int .i64 0, .string s] 44) := by rw [← hW]; exact box_of w _ _
  have HO : Hid (BOwn W base v l) := by rw [← hW]; exact ho.alloc _
  have HNE : Hid (∀ k, v.ownBlock = some k → k ≠ w.heap.size) := fun k e h => by have := own_lt ho k e; omega
  have HSB : Hid (base ≤ w.heap.size) := hb
  have HSZ : Hid (base ≤ W.heap.size) := Nat.le_trans hb HKP.out.1.size
  have HLEN : Hid (l.length ≤ 1000) := hl
  have HW : Hid (w.alloc (.cells #[.int .i64 3, .int .i64 0, .string s] 44) = W) := hW
  obtain ⟨c0, c1, c2⟩ := X0.out.triV
  clear hW ho hl hb
  go_enter Try.func37, Try.ntmps37
  go_upto_region 1 with (fail)
  rw [HW.out]
  go_upto_region 2 with
    (at_builtin
     refine list_appG _ rfl _ _ rfl base v _ rfl (HO.out.alloc _) ⟨W.heap.size, 0, none⟩ 1 [4] rfl (bnews _ _ rfl _ rfl) (by have := HLEN.out; simp only [List.length_cons, List.length_nil]; omega) (by have := HSZ.out; simp; omega) ?_
     intro v1 w1 hown hbel
     have HO1 : Hid (BOwn w1 base v1 _) := hown
     have HK1 : Hid (Grw w v w1 v1) := hbel _ _ (HKP.out.alloc _)
     have HS1 : Hid (base ≤ w1.heap.size) := Nat.le_trans HSB.out HK1.out.1.size
     have HG1 : Hid (Grw W v w1 v1) := hbel _ _ ((Grw.refl W v).alloc _)
     clear hown hbel)
  have HKG : Hid (Grw W v w1 v1) := HG1.out
  have X1 : Hid (Box w1 w.heap.size #[.int .i64 3, .int .i64 0, .string s] 44) := HKG.out.box X0.out HNE.out
  have HLE1 : Hid ((l ++ [4]).length ≤ 1001) := by show _ ≤ _; rw [List.length_append]; exact Nat.add_le_add_right HLEN.out 1
  clear c0 c1 c2
  obtain ⟨c0, c1, c2⟩ := X1.out.triV
  go_wp2_with fail
  refine (appendText_any base v1 _ s HSS.out w1 HO1.out (by have := HLE1.out; omega) HS1.out).mono ?_
  rintro e w2 ⟨v2, rfl, hown, hg⟩
  have HO2 : Hid (BOwn w2 base v2 _) := hown
  have HK2 : Hid (Grw w v w2 v2) := HK1.out.trans hg
  clear hown hg c0 c1 c2
  go_wp2
  go_ret
  have hfin := HO2.out
  rw [List.append_assoc] at hfin
  exact ⟨_, rfl, hfin, HK2.out⟩
theorem appendValue_any (base : Nat) (v : Value) (l : List UInt8) (x : Va3) (hg : VaGood x.1 x.2.1 x.2.2) (w : World) (ho : BOwn w base v l) (hl : l.length ≤ 1000) (hb : base ≤ w.heap.size) :
    Calls Try.prog 37 #[v, VaV x.1 x.2.1 x.2.2] w fun e w' => AppSays base w v (l ++ vaB x) e w' := by
  obtain ⟨k, n, s⟩ := x
  dsimp only at hg ⊢
  rcases hg with ⟨rfl, rfl, h2⟩ | ⟨rfl, h1, h2⟩ | ⟨rfl, h1, h2⟩ | ⟨rfl, rfl, h2⟩
  · rw [str_nil h2]
    exact appV_null base v l w ho hl hb
  · rw [str_nil h2]
    rcases (show n = 0 ∨ n = 1 by omega) with rfl | rfl
    · exact appV_no base v l w ho hl hb
    · exact appV_yes base v l w ho hl hb
  · rw [str_nil h2]
    exact appV_int base v l n h1 (n + 4611686018427387904).toNat (by omega) w ho hl hb
  · exact appV_text base v l s h2 w ho hl hb
end
end Go.Proofs.Ytgibeakclknhnaa
