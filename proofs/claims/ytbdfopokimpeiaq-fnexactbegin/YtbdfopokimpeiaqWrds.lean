/- Lists of words: the law's own functions on them. -/
import Derived.Test.YtbdfopokimpeiaqWrd1
import Derived.Deep.RegionHeld3
namespace Go.Proofs.Ytbdfopokimpeiaq
open Go.ChangeShapes Go.WideShapes Go.ChangeAt Go.RowKit

theorem infoWord : (Try.prog.info? 80).map (fun i => (i.zero, i.size, i.bytes)) = some (some (.agg #[.int .i64 0, .int .i64 0, .int .i64 0]), 3, 24) := by kernel_rfl
set_option maxHeartbeats 1000000 in
theorem toWordS_any (a : Option Addr) (n c : Nat) (fs : List Int) (w : World) (h : TripAt w a n fs) :
    Calls Try.prog 11 #[.slice a n c] w fun e w' => e = .returned (.slice (some ⟨w.heap.size, 0, none⟩) n n) ∧ w'.ownsRow w.heap.size 80 3 (.slice (some ⟨w.heap.size, 0, none⟩) n n) n (fs.map I) ∧ Below w.heap.size w w' := by
  have HH : Hid (TripAt w a n fs) := h
  have L1 : Hid (fs.length = n * 3) := h.1
  have hn : n ≤ 1048576 := h.2.1
  clear h
  obtain ⟨i0, hi, hz0, hz1, hz2⟩ := info_parts infoWord
  go_enter Try.func11, Try.ntmps11
  go_wp2_with (at_make; refine wpList_make_full _ rfl _ _ 27 rfl w.heap.size 80 i0 (.agg #[.int .i64 0, .int .i64 0, .int .i64 0]) 3 Try.underlying27 hi hz0 hz1 .i64 .i64 _ _ n rfl rfl rfl rfl (by rw [hz2]; omega) (by unfold maxLen; omega) (Nat.le_refl _) ?_; intro w1 own1 grow1)
  have own0 : w1.ownsRow w.heap.size 80 3 (.slice (some ⟨w.heap.size, 0, none⟩) n n) n ((uptoT fs 0 (n * 3)).map I) := by
    rw [made_trips] at own1
    simpa [uptoT] using own1
  have hb1 : Below w.heap.size w w1 := (Below.refl _ _).grown grow1 (Nat.le_refl _) (fun k e => by cases e)
  clear own1 grow1
  go_loopw [4] (fun i wr => ∃ k : Nat, k ≤ n ∧ i = .int .i64 (k : Int) ∧ wr.ownsRow w.heap.size 80 3 (.slice (some ⟨w.heap.size, 0, none⟩) n n) n ((uptoT fs (k * 3) (n * 3)).map I) ∧ Below w.heap.size w wr) (fun i _ => n - (intOf i).toNat)
  case atStart => exact ⟨0, Nat.zero_le _, rfl, own0, hb1⟩
  case round =>
    obtain ⟨k, hk, rfl, ho, hb⟩ := hrel
    clear own0 hb1
    by_cases hlt : k < n
    · rcases (HH.out.below hb (Nat.le_refl _)).2.2 with h0 | ⟨p1, o1, rfl, g1⟩
      · omega
      have hk0 : (0 : Int) ≤ (k : Int) := by omega
      have hk1 : (k : Int) < (n : Int) := by omega
      have e1 := g1 (k * 3) (by omega)
      have e2 := g1 (k * 3 + 1) (by omega)
      have e3 := g1 (k * 3 + 2) (by omega)
      obtain ⟨x, hx⟩ : ∃ x, fs.getD (k * 3) 0 = x := ⟨_, rfl⟩
      obtain ⟨y, hy⟩ : ∃ y, fs.getD (k * 3 + 1) 0 = y := ⟨_, rfl⟩
      obtain ⟨z, hz⟩ : ∃ z, fs.getD (k * 3 + 2) 0 = z := ⟨_, rfl⟩
      rw [hx] at e1
      rw [hy, ← Nat.add_assoc] at e2
      rw [hz, ← Nat.add_assoc] at e3
      have HO : Hid (wr.ownsRow w.heap.size 80 3 (.slice (some ⟨w.heap.size, 0, none⟩) n n) n ((uptoT fs (k * 3) (n * 3)).map I)) := ho
      have HX : Hid (fs.getD (k * 3) 0 = x ∧ fs.getD (k * 3 + 1) 0 = y ∧ fs.getD (k * 3 + 2) 0 = z) := ⟨hx, hy, hz⟩
      clear g1 hx hy hz ho
      go_wp2_with fail
      refine (toWord_any x y z _).mono ?_
      rintro e w2 ⟨rfl, hb2⟩
      have ho2 := owns_below HO.out hb2 (Nat.le_refl _)
      have hb02 : Below w.heap.size w w2 := hb.trans (hb2.mono hb.size)
      have hs1 := ho2.stored (k * 3) (I x)
      rw [← HX.out.1, uptoT_step L1.out (show k * 3 < n * 3 by omega), HX.out.1] at hs1
      have hs2 := hs1.1.stored (k * 3 + 1) (I y)
      rw [← HX.out.2.1, uptoT_step L1.out (show k * 3 + 1 < n * 3 by omega), HX.out.2.1] at hs2
      have hs3 := hs2.1.stored (k * 3 + 2) (I z)
      rw [← HX.out.2.2, uptoT_step L1.out (show k * 3 + 1 + 1 < n * 3 by omega), HX.out.2.2] at hs3
      have HS : Hid ((((w2.setCell ⟨w.heap.size, k * 3, none⟩ (I x)).setCell ⟨w.heap.size, k * 3 + 1, none⟩ (I y)).setCell ⟨w.heap.size, k * 3 + 2, none⟩ (I z)).ownsRow w.heap.size 80 3 (.slice (some ⟨w.heap.size, 0, none⟩) n n) n ((uptoT fs ((k + 1) * 3) (n * 3)).map I)) := by
        rw [show (k + 1) * 3 = k * 3 + 1 + 1 + 1 by omega]
        exact hs3.1
      have z0 := ho2.frozenAt (k * 3)
      have z1 := ho2.frozenAt (k * 3 + 1)
      have z2 := ho2.frozenAt (k * 3 + 2)
      have hc0 := ho2.cellAt (k * 3) (by omega)
      have hc1 := ho2.cellAt (k * 3 + 1) (by omega)
      have hc2 := ho2.cellAt (k * 3 + 2) (by omega)
      rw [List.getElem?_eq_getElem (by rw [ho2.1]; omega)] at hc0 hc1 hc2
      obtain ⟨u0, hu0⟩ : ∃ u, w2.cell? ⟨w.heap.size, k * 3, none⟩ = some u := ⟨_, hc0⟩
      obtain ⟨u1, hu1⟩ : ∃ u, w2.cell? ⟨w.heap.size, k * 3 + 1, none⟩ = some u := ⟨_, hc1⟩
      obtain ⟨u2, hu2⟩ : ∃ u, w2.cell? ⟨w.heap.size, k * 3 + 2, none⟩ = some u := ⟨_, hc2⟩
      clear hs1 hs2 hs3 ho2 hb2 hc0 hc1 hc2 e1 e2 e3
      go_wp2
      go_roundw
      case rel => exact ⟨k + 1, by omega, by go_num, HS.out, ((hb02.setCell (Nat.le_refl _) _).setCell (Nat.le_refl _) _).setCell (Nat.le_refl _) _⟩
      case measure => simp [intOf]; omega
    · obtain rfl : k = n := by omega
      rw [uptoT_end L1.out] at ho
      go_wp2
      go_ret
      exact ⟨rfl, ho, hb⟩

set_option maxHeartbeats 1000000 in
theorem eqWord_any (x y z x' y' z' : Int) (w : World) : Calls Try.prog 52 #[WordV x y z, WordV x' y' z'] w fun e w' => e = .returned (.bool (decide (x = x' ∧ y = y' ∧ z = z'))) ∧ Below w.heap.size w w' := by
  obtain ⟨B, hB⟩ : ∃ B, decide (x = x' ∧ y = y' ∧ z = z') = B := ⟨_, rfl⟩
  rw [hB]
  have HB : Hid (decide (x = x' ∧ y = y' ∧ z = z') = B) := hB
  clear hB
  have neb2 : ∀ a b : Int, (a = b ∧ (a != b) = false) ∨ (¬ a = b ∧ (a != b) = true) := fun a b => by
    by_cases h : a = b
    · exact .inl ⟨h, by simp [h]⟩
    · exact .inr ⟨h, by simp [h]⟩
  rcases neb2 x x' with ⟨h1, g1⟩ | ⟨h1, g1⟩ <;> rcases neb2 y y' with ⟨h2, g2⟩ | ⟨h2, g2⟩ <;> rcases neb2 z z' with ⟨h3, g3⟩ | ⟨h3, g3⟩
  all_goals
    have H1 : Hid _ := h1
    have H2 : Hid _ := h2
    have H3 : Hid _ := h3
    clear h1 h2 h3 neb2
    go_enter Try.func52, Try.ntmps52
    go_wp2
    iterate 3
      all_goals (try go_region)
      all_goals (try go_wp2)
    all_goals
      go_ret
      refine ⟨?_, (by
        have h0 := ((Below.refl w.heap.size w).alloc (Nat.le_refl _) (.cells #[.int .i64 x, .int .i64 y, .int .i64 z] 80)).alloc (by simp) (.cells #[.int .i64 x', .int .i64 y', .int .i64 z'] 80)
        first | exact h0 | exact h0.drew | exact h0.drew.drew | exact h0.drew.drew.drew)⟩
      rw [← HB.out]
      have h1 := H1.out
      have h2 := H2.out
      have h3 := H3.out
      first
        | (rw [decide_eq_true (show x = x' ∧ y = y' ∧ z = z' from ⟨h1, h2, h3⟩)]; rfl)
        | (rw [decide_eq_false (fun h : x = x' ∧ y = y' ∧ z = z' => h3 h.2.2)]; rfl)
        | (rw [decide_eq_false (fun h : x = x' ∧ y = y' ∧ z = z' => h2 h.2.1)]; rfl)
        | (rw [decide_eq_false (fun h : x = x' ∧ y = y' ∧ z = z' => h1 h.1)]; rfl)

set_option maxHeartbeats 1000000 in
theorem eqWordS_any (a1 a2 : Option Addr) (n1 n2 c1 c2 : Nat) (fs gs : List Int) (w : World) (h1 : TripAt w a1 n1 fs) (h2 : TripAt w a2 n2 gs) :
    Calls Try.prog 14 #[.slice a1 n1 c1, .slice a2 n2 c2] w fun e w' => e = .returned (.bool (decide (fs = gs))) ∧ Below w.heap.size w w' := by
  have H1 : Hid (TripAt w a1 n1 fs) := h1
  have H2 : Hid (TripAt w a2 n2 gs) := h2
  have L1 : Hid (fs.length = n1 * 3) := h1.1
  have L2 : Hid (gs.length = n2 * 3) := h2.1
  have b1 := h1.2.1
  have b2 := h2.2.1
  obtain ⟨B, hB⟩ : ∃ B, decide (fs = gs) = B := ⟨_, rfl⟩
  rw [hB]
  have HB : Hid (decide (fs = gs) = B) := hB
  clear h1 h2 hB
  by_cases hn : n1 = n2
  · subst hn
    go_enter Try.func14, Try.ntmps14
    go_wp2
    go_loopw [5] (fun i wr => ∃ k : Nat, k ≤ n1 ∧ i = .int .i64 k ∧ fs.take (k * 3) = gs.take (k * 3) ∧ Below w.heap.size w wr) (fun i _ => n1 - (intOf i).toNat)
    case atStart => exact ⟨0, Nat.zero_le _, rfl, rfl, Below.refl _ _⟩
    case round =>
      obtain ⟨k, hk1, rfl, ht, hb⟩ := hrel
      have HT : Hid (fs.take (k * 3) = gs.take (k * 3)) := ht
      clear ht
      by_cases hlt1 : k < n1
      · have hk0 : (0 : Int) ≤ (k : Int) := by omega
        have hk1' : (k : Int) < (n1 : Int) := by omega
        rcases (H1.out.below hb (Nat.le_refl _)).2.2 with h | ⟨p1, o1, rfl, g1⟩
        · omega
        rcases (H2.out.below hb (Nat.le_refl _)).2.2 with h | ⟨p2, o2, rfl, g2⟩
        · omega
        obtain ⟨x, hx⟩ : ∃ x, fs.getD (k * 3) 0 = x := ⟨_, rfl⟩
        obtain ⟨y, hy⟩ : ∃ y, fs.getD (k * 3 + 1) 0 = y := ⟨_, rfl⟩
        obtain ⟨z, hz⟩ : ∃ z, fs.getD (k * 3 + 2) 0 = z := ⟨_, rfl⟩
        obtain ⟨x', hx'⟩ : ∃ x, gs.getD (k * 3) 0 = x := ⟨_, rfl⟩
        obtain ⟨y', hy'⟩ : ∃ y, gs.getD (k * 3 + 1) 0 = y := ⟨_, rfl⟩
        obtain ⟨z', hz'⟩ : ∃ z, gs.getD (k * 3 + 2) 0 = z := ⟨_, rfl⟩
        have e1 := g1 (k * 3) (by omega)
        have e2 := g1 (k * 3 + 1) (by omega)
        have e3 := g1 (k * 3 + 2) (by omega)
        have e4 := g2 (k * 3) (by omega)
        have e5 := g2 (k * 3 + 1) (by omega)
        have e6 := g2 (k * 3 + 2) (by omega)
        rw [hx] at e1
        rw [hy, ← Nat.add_assoc] at e2
        rw [hz, ← Nat.add_assoc] at e3
        rw [hx'] at e4
        rw [hy', ← Nat.add_assoc] at e5
        rw [hz', ← Nat.add_assoc] at e6
        have HX : Hid (fs.getD (k * 3) 0 = x ∧ fs.getD (k * 3 + 1) 0 = y ∧ fs.getD (k * 3 + 2) 0 = z ∧ gs.getD (k * 3) 0 = x' ∧ gs.getD (k * 3 + 1) 0 = y' ∧ gs.getD (k * 3 + 2) 0 = z') := ⟨hx, hy, hz, hx', hy', hz'⟩
        clear g1 g2 hx hy hz hx' hy' hz'
        have q1 : p1 < wr.heap.size := World.block_lt_of_cell? wr _ e1
        have q2 : p2 < wr.heap.size := World.block_lt_of_cell? wr _ e4
        obtain ⟨D, hD⟩ : ∃ D, decide (x = x' ∧ y = y' ∧ z = z') = D := ⟨_, rfl⟩
        have HD : Hid (decide (x = x' ∧ y = y' ∧ z = z') = D) := hD
        clear hD
        go_wp2_with fail
        go_region_held3 (fun w' => w'.cell? ⟨p1, o1 + k * 3, none⟩ = some (I x) ∧ w'.cell? ⟨p1, o1 + k * 3 + 1, none⟩ = some (I y) ∧ w'.cell? ⟨p1, o1 + k * 3 + 2, none⟩ = some (I z) ∧ w'.cell? ⟨p2, o2 + k * 3, none⟩ = some (I x') ∧ w'.cell? ⟨p2, o2 + k * 3 + 1, none⟩ = some (I y') ∧ w'.cell? ⟨p2, o2 + k * 3 + 2, none⟩ = some (I z'))
          (first | (with_reducible exact K2.out) | go_keep)
          (first
          | (go_at_call 52
             refine (eqWord_any x y z x' y' z' _).mono ?_
             rintro e w2 ⟨rfl, hb2⟩
             rw [HD.out]
             have hb2' : Below wr.heap.size wr w2 := (Below.refl _ wr).drew.trans hb2
             have K2 : Hid (w2.cell? ⟨p1, o1 + k * 3, none⟩ = some (I x) ∧ w2.cell? ⟨p1, o1 + k * 3 + 1, none⟩ = some (I y) ∧ w2.cell? ⟨p1, o1 + k * 3 + 2, none⟩ = some (I z) ∧ w2.cell? ⟨p2, o2 + k * 3, none⟩ = some (I x') ∧ w2.cell? ⟨p2, o2 + k * 3 + 1, none⟩ = some (I y') ∧ w2.cell? ⟨p2, o2 + k * 3 + 2, none⟩ = some (I z')) := ⟨(hb2'.cell (show p1 < _ from q1)).trans e1, (hb2'.cell (show p1 < _ from q1)).trans e2, (hb2'.cell (show p1 < _ from q1)).trans e3, (hb2'.cell (show p2 < _ from q2)).trans e4, (hb2'.cell (show p2 < _ from q2)).trans e5, (hb2'.cell (show p2 < _ from q2)).trans e6⟩
             have hb02 : Below w.heap.size w w2 := hb.trans (hb2'.mono hb.size)
             clear hb2 hb2'))
        clear e1 e2 e3 e4 e5 e6 K2
        by_cases hh : x = x' ∧ y = y' ∧ z = z'
        · obtain rfl : D = true := by rw [← HD.out]; exact decide_eq_true hh
          have HH : Hid (x = x' ∧ y = y' ∧ z = z') := hh
          clear hh HD
          go_wp2
          have l1 := L1.out
          have l2 := L2.out
          obtain ⟨q1, q2, q3, q4, q5, q6⟩ := HX.out
          exact ⟨⟨k + 1, by omega, by go_num, take_three (by omega) (by omega) HT.out (by rw [q1, q4]; exact HH.out.1) (by rw [q2, q5]; exact HH.out.2.1) (by rw [q3, q6]; exact HH.out.2.2), hb02⟩, by simp [intOf]; omega⟩
        · obtain rfl : D = false := by rw [← HD.out]; exact decide_eq_false hh
          have HH : Hid (fs ≠ gs) := fun e => by
            obtain ⟨q1, q2, q3, q4, q5, q6⟩ := HX.out
            exact hh ⟨by rw [← q1, ← q4, e], by rw [← q2, ← q5, e], by rw [← q3, ← q6, e]⟩
          clear hh
          go_wp2
          go_ret
          refine ⟨?_, hb02⟩
          rw [← HB.out]
          simp [HH.out]
      · obtain rfl : k = n1 := by omega
        go_wp2
        go_ret
        refine ⟨?_, hb⟩
        have l1 := L1.out
        have l2 := L2.out
        have e : fs = gs := by
          have e0 := HT.out
          rwa [List.take_of_length_le (by omega), List.take_of_length_le (by omega)] at e0
        rw [← HB.out]
        simp [e]
  · have hne : ((n1 : Int) != (n2 : Int)) = true := by simp; omega
    have hxy : fs ≠ gs := fun e => by have l1 := L1.out; have l2 := L2.out; rw [e] at l1; omega
    have HX : Hid (fs ≠ gs) := hxy
    clear hxy
    go_enter Try.func14, Try.ntmps14
    go_wp2
    go_ret
    refine ⟨?_, Below.refl _ _⟩
    rw [← HB.out]
    simp [HX.out]
theorem szWordS_fits (a : Option Addr) (n c : Nat) (left : Int) (w : World) (h0 : 0 ≤ left) (h1 : left ≤ 1048576) (hn : (n : Int) ≤ left) :
    Calls Try.prog 8 #[.slice a n c, .int .i64 left] w fun e w' => e = .returned (.int .i64 (left - (n : Int))) ∧ w' = w := by
  have h2 : ¬ (left - (n : Int) < 0) := by omega
  go_enter Try.func8, Try.ntmps8
  go_wp2
  go_ret
  exact ⟨rfl, rfl⟩
theorem szWordS_big (a : Option Addr) (n c : Nat) (left : Int) (w : World) (h0 : 0 ≤ left) (h1 : left ≤ 1048576) (hn : ¬ (n : Int) ≤ left) (hm : n ≤ 9223372036854775807) :
    Calls Try.prog 8 #[.slice a n c, .int .i64 left] w fun e w' => e = .returned (.int .i64 (-1)) ∧ w' = w := by
  have h2 : left - (n : Int) < 0 := by omega
  go_enter Try.func8, Try.ntmps8
  go_wp2
  go_ret
  exact ⟨rfl, rfl⟩
end Go.Proofs.Ytbdfopokimpeiaq
