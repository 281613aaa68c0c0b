/- Texts joined: SpecDone, SpecRes, SpecAllow, SpecCopy. -/
import Derived.Test.YtecheopkfhfgkaaGreatLN06
import Derived.Test.YtecheopkfhfgkaaGreatLN01
import Derived.Test.YtecheopkfhfgkaaGreatLN02
import Derived.Handy
set_option maxHeartbeats 2000000
set_option maxRecDepth 100000
namespace Go.Proofs.YtecheopkfhfgkaaGreat
section
open Go.ChangeShapes Go.WideShapes Go.ChangeAt Go.RowKit
theorem l4Done_1 (a : Option Addr) (cp : Nat) (st v : Int) (k : Nat) (xs : List Int) (w : World) (hA : IntAt w a 4 xs) (hk : k < 4) :
    Calls Tryz.prog 63 #[.agg #[.slice a 4 cp, .int .i64 st], OpV 1 (k : Int) v] w fun e w' => DoneSays e w' (listM xs 1 (k : Int) v) (decide (DoneM xs st 1 (k : Int) v)) ∧ Below w.heap.size w w' := by
  have HA : Hid (IntAt w a 4 xs) := hA
  clear hA
  obtain ⟨B, hB⟩ : ∃ B, decide (DoneM xs st 1 (k : Int) v) = B := ⟨_, rfl⟩
  obtain ⟨zs, hzs⟩ : ∃ zs, listM xs 1 (k : Int) v = zs := ⟨_, rfl⟩
  rw [hB, hzs]
  have HB : Hid (decide (DoneM xs st 1 (k : Int) v) = B) := hB
  have HZ : Hid (listM xs 1 (k : Int) v = zs) := hzs
  clear hB hzs
  go_enter Tryz.func63, Tryz.ntmps63
  go_wp2_with fail
  have hb0 : Below w.heap.size w (((w.alloc (.cells #[.slice a 4 cp, .int .i64 st] 29)).alloc (.cells #[.int .i64 1, .int .i64 (k : Int), .int .i64 v] 49)).alloc (.cells #[] 3)) := (((Below.refl _ w).alloc (Nat.le_refl _) _).alloc (by simp) _).alloc (by simp; omega) _
  refine (specKeyOf_any a 4 cp st v xs _ (HA.out.below hb0 (Nat.le_refl _))).mono ?_
  rintro e w1 ⟨⟨q, rfl, hq⟩, hb1⟩
  have HQ : Hid (q = keyN xs v) := hq.keyN
  simp only [World.size_alloc] at hb1
  have hs1 := hb1.size
  simp only [World.size_alloc] at hs1
  have c0 : w1.cell? ⟨w.heap.size, 0, none⟩ = some (.slice a 4 cp) := by rw [hb1.cell (show w.heap.size < w.heap.size + 1 + 1 + 1 by omega), World.cell?_alloc_past _ _ _ (by simp; omega), World.cell?_alloc_past _ _ _ (by simp), World.cell?_alloc_at _ _ _ _ rfl]; rfl
  have c1 : w1.cell? ⟨w.heap.size, 1, none⟩ = some (.int .i64 st) := by rw [hb1.cell (show w.heap.size < w.heap.size + 1 + 1 + 1 by omega), World.cell?_alloc_past _ _ _ (by simp; omega), World.cell?_alloc_past _ _ _ (by simp), World.cell?_alloc_at _ _ _ _ rfl]; rfl
  have d0 : w1.cell? ⟨w.heap.size + 1, 0, none⟩ = some (.int .i64 1) := by rw [hb1.cell (show w.heap.size + 1 < w.heap.size + 1 + 1 + 1 by omega)]; simp [World.cell?_alloc_past, World.cell?_alloc_at]
  have d1 : w1.cell? ⟨w.heap.size + 1, 1, none⟩ = some (.int .i64 (k : Int)) := by rw [hb1.cell (show w.heap.size + 1 < w.heap.size + 1 + 1 + 1 by omega)]; simp [World.cell?_alloc_past, World.cell?_alloc_at]
  have hbw : Below w.heap.size w w1 := hb0.trans (hb1.mono (by omega))
  have HB1 : Hid (Below w.heap.size w w1) := hbw
  rcases (HA.out.below hbw (Nat.le_refl _)).2.2 with h0 | ⟨p1, o1, rfl, g1⟩
  · omega
  have e1 := g1 k hk
  obtain ⟨x, hx⟩ : ∃ x, xs.getD k 0 = x := ⟨_, rfl⟩
  rw [hx] at e1
  have HX : Hid (atK xs (k : Int) = x) := by simpa [Hid, atK] using hx
  clear g1 hx hq hb0 hb1 hbw
  go_wp2
  all_goals (try go_region)
  all_goals (try go_wp2)
  all_goals
    go_ret2
    rw [← HZ.out, ← HB.out]
    refine ⟨⟨some ⟨w.heap.size + 1 + 1, 0, none⟩, 0, ?_, rfl, by simp [listM], .inl rfl⟩, (by first | exact HB1.out | exact HB1.out.drew)⟩
    refine says_two rfl ?_
    unfold DoneM
    rw [← HQ.out]; rw [HX.out]
    first
      | (simp; done)
      | (simp; omega)
      | (simp at *; simp [*]; done)
      | (simp at *; omega)


theorem l4Done_2 (a : Option Addr) (cp : Nat) (st v : Int) (k : Nat) (xs : List Int) (w : World) (hA : IntAt w a 4 xs) (hk : k < 4) :
    Calls Tryz.prog 63 #[.agg #[.slice a 4 cp, .int .i64 st], OpV 2 (k : Int) v] w fun e w' => DoneSays e w' (listM xs 2 (k : Int) v) (decide (DoneM xs st 2 (k : Int) v)) ∧ Below w.heap.size w w' := by
  have HA : Hid (IntAt w a 4 xs) := hA
  clear hA
  obtain ⟨B, hB⟩ : ∃ B, decide (DoneM xs st 2 (k : Int) v) = B := ⟨_, rfl⟩
  obtain ⟨zs, hzs⟩ : ∃ zs, listM xs 2 (k : Int) v = zs := ⟨_, rfl⟩
  rw [hB, hzs]
  have HB : Hid (decide (DoneM xs st 2 (k : Int) v) = B) := hB
  have HZ : Hid (listM xs 2 (k : Int) v = zs) := hzs
  clear hB hzs
  go_enter Tryz.func63, Tryz.ntmps63
  go_wp2_with fail
  have hb0 : Below w.heap.size w (((w.alloc (.cells #[.slice a 4 cp, .int .i64 st] 29)).alloc (.cells #[.int .i64 2, .int .i64 (k : Int), .int .i64 v] 49)).alloc (.cells #[] 3)) := (((Below.refl _ w).alloc (Nat.le_refl _) _).alloc (by simp) _).alloc (by simp; omega) _
  refine (specKeyOf_any a 4 cp st v xs _ (HA.out.below hb0 (Nat.le_refl _))).mono ?_
  rintro e w1 ⟨⟨q, rfl, hq⟩, hb1⟩
  have HQ : Hid (q = keyN xs v) := hq.keyN
  simp only [World.size_alloc] at hb1
  have hs1 := hb1.size
  simp only [World.size_alloc] at hs1
  have c0 : w1.cell? ⟨w.heap.size, 0, none⟩ = some (.slice a 4 cp) := by rw [hb1.cell (show w.heap.size < w.heap.size + 1 + 1 + 1 by omega), World.cell?_alloc_past _ _ _ (by simp; omega), World.cell?_alloc_past _ _ _ (by simp), World.cell?_alloc_at _ _ _ _ rfl]; rfl
  have c1 : w1.cell? ⟨w.heap.size, 1, none⟩ = some (.int .i64 st) := by rw [hb1.cell (show w.heap.size < w.heap.size + 1 + 1 + 1 by omega), World.cell?_alloc_past _ _ _ (by simp; omega), World.cell?_alloc_past _ _ _ (by simp), World.cell?_alloc_at _ _ _ _ rfl]; rfl
  have d0 : w1.cell? ⟨w.heap.size + 1, 0, none⟩ = some (.int .i64 2) := by rw [hb1.cell (show w.heap.size + 1 < w.heap.size + 1 + 1 + 1 by omega)]; simp [World.cell?_alloc_past, World.cell?_alloc_at]
  have d1 : w1.cell? ⟨w.heap.size + 1, 1, none⟩ = some (.int .i64 (k : Int)) := by rw [hb1.cell (show w.heap.size + 1 < w.heap.size + 1 + 1 + 1 by omega)]; simp [World.cell?_alloc_past, World.cell?_alloc_at]
  have hbw : Below w.heap.size w w1 := hb0.trans (hb1.mono (by omega))
  have HB1 : Hid (Below w.heap.size w w1) := hbw
  rcases (HA.out.below hbw (Nat.le_refl _)).2.2 with h0 | ⟨p1, o1, rfl, g1⟩
  · omega
  have e1 := g1 k hk
  obtain ⟨x, hx⟩ : ∃ x, xs.getD k 0 = x := ⟨_, rfl⟩
  rw [hx] at e1
  have HX : Hid (atK xs (k : Int) = x) := by simpa [Hid, atK] using hx
  clear g1 hx hq hb0 hb1 hbw
  rcases neb x 0 with ⟨x0, x1⟩ | ⟨x0, x1⟩ <;> by_cases q0 : q < 0 <;> rcases eqb q (k : Int) with ⟨q1, q2⟩ | ⟨q1, q2⟩
  all_goals
    first
      | (exfalso; omega)
      | skip
  all_goals go_wp2
  all_goals (try have q3 : decide (q < 0) = false := decide_eq_false (by omega))
  all_goals (try have q4 : ¬ q < 0 := by omega)
  all_goals (have q5 : decide ((k : Int) < 0) = false := decide_eq_false (by omega))
  all_goals (have q6 : ¬ (k : Int) < 0 := by omega)
  all_goals (try go_region)
  all_goals (try go_wp2)
  all_goals
    go_ret2
    rw [← HZ.out, ← HB.out]
    refine ⟨⟨some ⟨w.heap.size + 1 + 1, 0, none⟩, 0, ?_, rfl, by simp [listM], .inl rfl⟩, (by first | exact HB1.out | exact HB1.out.drew)⟩
    refine says_two rfl ?_
    unfold DoneM
    rw [← HQ.out]; rw [HX.out]
    first
      | (simp; done)
      | (simp; omega)
      | (simp at *; simp [*]; done)
      | (simp at *; omega)


theorem l4Done_3 (a : Option Addr) (cp : Nat) (st v : Int) (k : Nat) (xs : List Int) (w : World) (hA : IntAt w a 4 xs) (hk : k < 4) :
    Calls Tryz.prog 63 #[.agg #[.slice a 4 cp, .int .i64 st], OpV 3 (k : Int) v] w fun e w' => DoneSays e w' (listM xs 3 (k : Int) v) (decide (DoneM xs st 3 (k : Int) v)) ∧ Below w.heap.size w w' := by
  have HA : Hid (IntAt w a 4 xs) := hA
  clear hA
  obtain ⟨B, hB⟩ : ∃ B, decide (DoneM xs st 3 (k : Int) v) = B := ⟨_, rfl⟩
  obtain ⟨zs, hzs⟩ : ∃ zs, listM xs 3 (k : Int) v = zs := ⟨_, rfl⟩
  rw [hB, hzs]
  have HB : Hid (decide (DoneM xs st 3 (k : Int) v) = B) := hB
  have HZ : Hid (listM xs 3 (k : Int) v = zs) := hzs
  clear hB hzs
  go_enter Tryz.func63, Tryz.ntmps63
  go_wp2_with fail
  have hb0 : Below w.heap.size w (((w.alloc (.cells #[.slice a 4 cp, .int .i64 st] 29)).alloc (.cells #[.int .i64 3, .int .i64 (k : Int), .int .i64 v] 49)).alloc (.cells #[] 3)) := (((Below.refl _ w).alloc (Nat.le_refl _) _).alloc (by simp) _).alloc (by simp; omega) _
  refine (specKeyOf_any a 4 cp st v xs _ (HA.out.below hb0 (Nat.le_refl _))).mono ?_
  rintro e w1 ⟨⟨q, rfl, hq⟩, hb1⟩
  have HQ : Hid (q = keyN xs v) := hq.keyN
  simp only [World.size_alloc] at hb1
  have hs1 := hb1.size
  simp only [World.size_alloc] at hs1
  have c0 : w1.cell? ⟨w.heap.size, 0, none⟩ = some (.slice a 4 cp) := by rw [hb1.cell (show w.heap.size < w.heap.size + 1 + 1 + 1 by omega), World.cell?_alloc_past _ _ _ (by simp; omega), World.cell?_alloc_past _ _ _ (by simp), World.cell?_alloc_at _ _ _ _ rfl]; rfl
  have c1 : w1.cell? ⟨w.heap.size, 1, none⟩ = some (.int .i64 st) := by rw [hb1.cell (show w.heap.size < w.heap.size + 1 + 1 + 1 by omega), World.cell?_alloc_past _ _ _ (by simp; omega), World.cell?_alloc_past _ _ _ (by simp), World.cell?_alloc_at _ _ _ _ rfl]; rfl
  have d0 : w1.cell? ⟨w.heap.size + 1, 0, none⟩ = some (.int .i64 3) := by rw [hb1.cell (show w.heap.size + 1 < w.heap.size + 1 + 1 + 1 by omega)]; simp [World.cell?_alloc_past, World.cell?_alloc_at]
  have d1 : w1.cell? ⟨w.heap.size + 1, 1, none⟩ = some (.int .i64 (k : Int)) := by rw [hb1.cell (show w.heap.size + 1 < w.heap.size + 1 + 1 + 1 by omega)]; simp [World.cell?_alloc_past, World.cell?_alloc_at]
  have hbw : Below w.heap.size w w1 := hb0.trans (hb1.mono (by omega))
  have HB1 : Hid (Below w.heap.size w w1) := hbw
  rcases (HA.out.below hbw (Nat.le_refl _)).2.2 with h0 | ⟨p1, o1, rfl, g1⟩
  · omega
  have e1 := g1 k hk
  obtain ⟨x, hx⟩ : ∃ x, xs.getD k 0 = x := ⟨_, rfl⟩
  rw [hx] at e1
  have HX : Hid (atK xs (k : Int) = x) := by simpa [Hid, atK] using hx
  clear g1 hx hq hb0 hb1 hbw
  go_wp2
  all_goals (try go_region)
  all_goals (try go_wp2)
  all_goals
    go_ret2
    rw [← HZ.out, ← HB.out]
    refine ⟨⟨some ⟨w.heap.size + 1 + 1, 0, none⟩, 0, ?_, rfl, by simp [listM], .inl rfl⟩, (by first | exact HB1.out | exact HB1.out.drew)⟩
    refine says_two rfl ?_
    unfold DoneM
    rw [← HQ.out]; rw [HX.out]
    first
      | (simp; done)
      | (simp; omega)
      | (simp at *; simp [*]; done)
      | (simp at *; omega)


theorem l4Done_4 (a : Option Addr) (cp : Nat) (st v : Int) (k : Nat) (xs : List Int) (w : World) (hA : IntAt w a 4 xs) (hk : k < 4) :
    Calls Tryz.prog 63 #[.agg #[.slice a 4 cp, .int .i64 st], OpV 4 (k : Int) v] w fun e w' => DoneSays e w' (listM xs 4 (k : Int) v) (decide (DoneM xs st 4 (k : Int) v)) ∧ Below w.heap.size w w' := by
  have HA : Hid (IntAt w a 4 xs) := hA
  clear hA
  obtain ⟨B, hB⟩ : ∃ B, decide (DoneM xs st 4 (k : Int) v) = B := ⟨_, rfl⟩
  obtain ⟨zs, hzs⟩ : ∃ zs, listM xs 4 (k : Int) v = zs := ⟨_, rfl⟩
  rw [hB, hzs]
  have HB : Hid (decide (DoneM xs st 4 (k : Int) v) = B) := hB
  have HZ : Hid (listM xs 4 (k : Int) v = zs) := hzs
  clear hB hzs
  go_enter Tryz.func63, Tryz.ntmps63
  go_wp2_with fail
  have hb0 : Below w.heap.size w (((w.alloc (.cells #[.slice a 4 cp, .int .i64 st] 29)).alloc (.cells #[.int .i64 4, .int .i64 (k : Int), .int .i64 v] 49)).alloc (.cells #[] 3)) := (((Below.refl _ w).alloc (Nat.le_refl _) _).alloc (by simp) _).alloc (by simp; omega) _
  refine (specKeyOf_any a 4 cp st v xs _ (HA.out.below hb0 (Nat.le_refl _))).mono ?_
  rintro e w1 ⟨⟨q, rfl, hq⟩, hb1⟩
  have HQ : Hid (q = keyN xs v) := hq.keyN
  simp only [World.size_alloc] at hb1
  have hs1 := hb1.size
  simp only [World.size_alloc] at hs1
  have c0 : w1.cell? ⟨w.heap.size, 0, none⟩ = some (.slice a 4 cp) := by rw [hb1.cell (show w.heap.size < w.heap.size + 1 + 1 + 1 by omega), World.cell?_alloc_past _ _ _ (by simp; omega), World.cell?_alloc_past _ _ _ (by simp), World.cell?_alloc_at _ _ _ _ rfl]; rfl
  have c1 : w1.cell? ⟨w.heap.size, 1, none⟩ = some (.int .i64 st) := by rw [hb1.cell (show w.heap.size < w.heap.size + 1 + 1 + 1 by omega), World.cell?_alloc_past _ _ _ (by simp; omega), World.cell?_alloc_past _ _ _ (by simp), World.cell?_alloc_at _ _ _ _ rfl]; rfl
  have d0 : w1.cell? ⟨w.heap.size + 1, 0, none⟩ = some (.int .i64 4) := by rw [hb1.cell (show w.heap.size + 1 < w.heap.size + 1 + 1 + 1 by omega)]; simp [World.cell?_alloc_past, World.cell?_alloc_at]
  have d1 : w1.cell? ⟨w.heap.size + 1, 1, none⟩ = some (.int .i64 (k : Int)) := by rw [hb1.cell (show w.heap.size + 1 < w.heap.size + 1 + 1 + 1 by omega)]; simp [World.cell?_alloc_past, World.cell?_alloc_at]
  have hbw : Below w.heap.size w w1 := hb0.trans (hb1.mono (by omega))
  have HB1 : Hid (Below w.heap.size w w1) := hbw
  rcases (HA.out.below hbw (Nat.le_refl _)).2.2 with h0 | ⟨p1, o1, rfl, g1⟩
  · omega
  have e1 := g1 k hk
  obtain ⟨x, hx⟩ : ∃ x, xs.getD k 0 = x := ⟨_, rfl⟩
  rw [hx] at e1
  have HX : Hid (atK xs (k : Int) = x) := by simpa [Hid, atK] using hx
  clear g1 hx hq hb0 hb1 hbw
  have hp1 := World.block_lt_of_cell? _ _ e1
  have f0 : (w1.alloc (.cells #[I x] 3)).cell? ⟨w.heap.size, 0, none⟩ = some (.slice (some ⟨p1, o1, none⟩) 4 cp) := by rw [World.cell?_alloc_past _ _ _ (show w.heap.size < w1.heap.size by omega)]; exact c0
  have f1 : (w1.alloc (.cells #[I x] 3)).cell? ⟨w.heap.size + 1, 1, none⟩ = some (.int .i64 (k : Int)) := by rw [World.cell?_alloc_past _ _ _ (show w.heap.size + 1 < w1.heap.size by omega)]; exact d1
  have f2 : (w1.alloc (.cells #[I x] 3)).cell? ⟨p1, o1 + k, none⟩ = some (I x) := by rw [World.cell?_alloc_past _ _ _ (show p1 < w1.heap.size from hp1)]; exact e1
  go_wp2
  all_goals (try go_region)
  all_goals (try go_wp2)
  all_goals
    go_ret2
    rw [← HZ.out, ← HB.out]
    refine ⟨⟨some ⟨w1.heap.size, 0, none⟩, 1, ?_, rfl, by simp [listM], .inr ⟨_, 0, rfl, fun i hi => ?_⟩⟩, (by first | exact HB1.out.alloc (by omega) _ | exact HB1.out.drew.alloc (by simp; omega) _ | exact (HB1.out.alloc (by omega) _).drew)⟩
    · refine says_two rfl ?_
      unfold DoneM
      rw [← HQ.out]; rw [HX.out]
      first
        | (simp; done)
        | (simp; omega)
        | (simp at *; simp [*]; done)
        | (simp at *; omega)
    · obtain rfl : i = 0 := by simp [listM] at hi; omega
      simp [listM, ← HX.out]


theorem l4Done_5 (a : Option Addr) (cp : Nat) (st v : Int) (k : Int) (xs : List Int) (w : World) (hA : IntAt w a 4 xs) :
    Calls Tryz.prog 63 #[.agg #[.slice a 4 cp, .int .i64 st], OpV 5 k v] w fun e w' => DoneSays e w' (listM xs 5 k v) (decide (DoneM xs st 5 k v)) ∧ Below w.heap.size w w' := by
  have HA : Hid (IntAt w a 4 xs) := hA
  clear hA
  obtain ⟨B, hB⟩ : ∃ B, decide (DoneM xs st 5 k v) = B := ⟨_, rfl⟩
  obtain ⟨zs, hzs⟩ : ∃ zs, listM xs 5 k v = zs := ⟨_, rfl⟩
  rw [hB, hzs]
  have HB : Hid (decide (DoneM xs st 5 k v) = B) := hB
  have HZ : Hid (listM xs 5 k v = zs) := hzs
  clear hB hzs
  go_enter Tryz.func63, Tryz.ntmps63
  go_wp2_with fail
  have hb0 : Below w.heap.size w (((w.alloc (.cells #[.slice a 4 cp, .int .i64 st] 29)).alloc (.cells #[.int .i64 5, .int .i64 k, .int .i64 v] 49)).alloc (.cells #[] 3)) := (((Below.refl _ w).alloc (Nat.le_refl _) _).alloc (by simp) _).alloc (by simp; omega) _
  refine (specKeyOf_any a 4 cp st v xs _ (HA.out.below hb0 (Nat.le_refl _))).mono ?_
  rintro e w1 ⟨⟨q, rfl, hq⟩, hb1⟩
  have HQ : Hid (q = keyN xs v) := hq.keyN
  simp only [World.size_alloc] at hb1
  have hs1 := hb1.size
  simp only [World.size_alloc] at hs1
  have c0 : w1.cell? ⟨w.heap.size, 0, none⟩ = some (.slice a 4 cp) := by rw [hb1.cell (show w.heap.size < w.heap.size + 1 + 1 + 1 by omega), World.cell?_alloc_past _ _ _ (by simp; omega), World.cell?_alloc_past _ _ _ (by simp), World.cell?_alloc_at _ _ _ _ rfl]; rfl
  have c1 : w1.cell? ⟨w.heap.size, 1, none⟩ = some (.int .i64 st) := by rw [hb1.cell (show w.heap.size < w.heap.size + 1 + 1 + 1 by omega), World.cell?_alloc_past _ _ _ (by simp; omega), World.cell?_alloc_past _ _ _ (by simp), World.cell?_alloc_at _ _ _ _ rfl]; rfl
  have d0 : w1.cell? ⟨w.heap.size + 1, 0, none⟩ = some (.int .i64 5) := by rw [hb1.cell (show w.heap.size + 1 < w.heap.size + 1 + 1 + 1 by omega)]; simp [World.cell?_alloc_past, World.cell?_alloc_at]
  have d1 : w1.cell? ⟨w.heap.size + 1, 1, none⟩ = some (.int .i64 k) := by rw [hb1.cell (show w.heap.size + 1 < w.heap.size + 1 + 1 + 1 by omega)]; simp [World.cell?_alloc_past, World.cell?_alloc_at]
  have hbw : Below w.heap.size w w1 := hb0.trans (hb1.mono (by omega))
  have HB1 : Hid (Below w.heap.size w w1) := hbw
  clear hq hb0 hb1 hbw
  go_wp2
  all_goals
    go_ret2
    rw [← HZ.out, ← HB.out]
    refine ⟨⟨some ⟨w1.heap.size, 0, none⟩, 1, ?_, rfl, by simp [listM], .inr ⟨_, 0, rfl, fun i hi => ?_⟩⟩, (by first | exact HB1.out.alloc (by omega) _ | exact HB1.out.drew.alloc (by simp; omega) _ | exact (HB1.out.alloc (by omega) _).drew)⟩
    · refine says_two rfl ?_
      unfold DoneM
      rw [← HQ.out]
      first
        | (simp; done)
        | (simp; omega)
        | (simp at *; simp [*]; done)
        | (simp at *; omega)
    · obtain rfl : i = 0 := by simp [listM] at hi; omega
      simp [listM, ← HQ.out]


theorem l4Done_6 (a : Option Addr) (cp : Nat) (st v : Int) (k : Int) (xs : List Int) (w : World) (hA : IntAt w a 4 xs) :
    Calls Tryz.prog 63 #[.agg #[.slice a 4 cp, .int .i64 st], OpV 6 k v] w fun e w' => DoneSays e w' (listM xs 6 k v) (decide (DoneM xs st 6 k v)) ∧ Below w.heap.size w w' := by
  have HA : Hid (IntAt w a 4 xs) := hA
  clear hA
  obtain ⟨B, hB⟩ : ∃ B, decide (DoneM xs st 6 k v) = B := ⟨_, rfl⟩
  obtain ⟨zs, hzs⟩ : ∃ zs, listM xs 6 k v = zs := ⟨_, rfl⟩
  rw [hB, hzs]
  have HB : Hid (decide (DoneM xs st 6 k v) = B) := hB
  have HZ : Hid (listM xs 6 k v = zs) := hzs
  clear hB hzs
  go_enter Tryz.func63, Tryz.ntmps63
  go_wp2_with fail
  have hb0 : Below w.heap.size w (((w.alloc (.cells #[.slice a 4 cp, .int .i64 st] 29)).alloc (.cells #[.int .i64 6, .int .i64 k, .int .i64 v] 49)).alloc (.cells #[] 3)) := (((Below.refl _ w).alloc (Nat.le_refl _) _).alloc (by simp) _).alloc (by simp; omega) _
  refine (specKeyOf_any a 4 cp st v xs _ (HA.out.below hb0 (Nat.le_refl _))).mono ?_
  rintro e w1 ⟨⟨q, rfl, hq⟩, hb1⟩
  have HQ : Hid (q = keyN xs v) := hq.keyN
  simp only [World.size_alloc] at hb1
  have hs1 := hb1.size
  simp only [World.size_alloc] at hs1
  have c0 : w1.cell? ⟨w.heap.size, 0, none⟩ = some (.slice a 4 cp) := by rw [hb1.cell (show w.heap.size < w.heap.size + 1 + 1 + 1 by omega), World.cell?_alloc_past _ _ _ (by simp; omega), World.cell?_alloc_past _ _ _ (by simp), World.cell?_alloc_at _ _ _ _ rfl]; rfl
  have c1 : w1.cell? ⟨w.heap.size, 1, none⟩ = some (.int .i64 st) := by rw [hb1.cell (show w.heap.size < w.heap.size + 1 + 1 + 1 by omega), World.cell?_alloc_past _ _ _ (by simp; omega), World.cell?_alloc_past _ _ _ (by simp), World.cell?_alloc_at _ _ _ _ rfl]; rfl
  have d0 : w1.cell? ⟨w.heap.size + 1, 0, none⟩ = some (.int .i64 6) := by rw [hb1.cell (show w.heap.size + 1 < w.heap.size + 1 + 1 + 1 by omega)]; simp [World.cell?_alloc_past, World.cell?_alloc_at]
  have d1 : w1.cell? ⟨w.heap.size + 1, 1, none⟩ = some (.int .i64 k) := by rw [hb1.cell (show w.heap.size + 1 < w.heap.size + 1 + 1 + 1 by omega)]; simp [World.cell?_alloc_past, World.cell?_alloc_at]
  have hbw : Below w.heap.size w w1 := hb0.trans (hb1.mono (by omega))
  have HB1 : Hid (Below w.heap.size w w1) := hbw
  clear hq hb0 hb1 hbw
  go_wp2_with (fail)
  refine (specHowMany_four a cp st k xs _ (HA.out.below HB1.out (Nat.le_refl _))).mono ?_
  rintro e w2 ⟨rfl, hb2⟩
  have HB2 : Hid (Below w.heap.size w w2) := HB1.out.trans (hb2.mono (by omega))
  have hs2 := hb2.size
  clear hb2
  go_wp2
  go_ret2
  rw [← HZ.out, ← HB.out]
  refine ⟨⟨some ⟨w2.heap.size, 0, none⟩, 1, ?_, rfl, by simp [listM], .inr ⟨_, 0, rfl, fun i hi => ?_⟩⟩, (by first | exact HB2.out.alloc (by omega) _ | exact HB2.out.drew.alloc (by simp; omega) _ | exact (HB2.out.alloc (by omega) _).drew)⟩
  · refine says_two rfl ?_
    unfold DoneM
    simp
  · obtain rfl : i = 0 := by simp [listM] at hi; omega
    simp [listM]


theorem l4Done_7 (a : Option Addr) (cp : Nat) (st v : Int) (k : Int) (xs : List Int) (w : World) (hA : IntAt w a 4 xs) :
    Calls Tryz.prog 63 #[.agg #[.slice a 4 cp, .int .i64 st], OpV 7 k v] w fun e w' => DoneSays e w' (listM xs 7 k v) (decide (DoneM xs st 7 k v)) ∧ Below w.heap.size w w' := by
  have HA : Hid (IntAt w a 4 xs) := hA
  clear hA
  obtain ⟨B, hB⟩ : ∃ B, decide (DoneM xs st 7 k v) = B := ⟨_, rfl⟩
  obtain ⟨zs, hzs⟩ : ∃ zs, listM xs 7 k v = zs := ⟨_, rfl⟩
  rw [hB, hzs]
  have HB : Hid (decide (DoneM xs st 7 k v) = B) := hB
  have HZ : Hid (listM xs 7 k v = zs) := hzs
  clear hB hzs
  go_enter Tryz.func63, Tryz.ntmps63
  go_wp2_with fail
  have hb0 : Below w.heap.size w (((w.alloc (.cells #[.slice a 4 cp, .int .i64 st] 29)).alloc (.cells #[.int .i64 7, .int .i64 k, .int .i64 v] 49)).alloc (.cells #[] 3)) := (((Below.refl _ w).alloc (Nat.le_refl _) _).alloc (by simp) _).alloc (by simp; omega) _
  refine (specKeyOf_any a 4 cp st v xs _ (HA.out.below hb0 (Nat.le_refl _))).mono ?_
  rintro e w1 ⟨⟨q, rfl, hq⟩, hb1⟩
  have HQ : Hid (q = keyN xs v) := hq.keyN
  simp only [World.size_alloc] at hb1
  have hs1 := hb1.size
  simp only [World.size_alloc] at hs1
  have c0 : w1.cell? ⟨w.heap.size, 0, none⟩ = some (.slice a 4 cp) := by rw [hb1.cell (show w.heap.size < w.heap.size + 1 + 1 + 1 by omega), World.cell?_alloc_past _ _ _ (by simp; omega), World.cell?_alloc_past _ _ _ (by simp), World.cell?_alloc_at _ _ _ _ rfl]; rfl
  have c1 : w1.cell? ⟨w.heap.size, 1, none⟩ = some (.int .i64 st) := by rw [hb1.cell (show w.heap.size < w.heap.size + 1 + 1 + 1 by omega), World.cell?_alloc_past _ _ _ (by simp; omega), World.cell?_alloc_past _ _ _ (by simp), World.cell?_alloc_at _ _ _ _ rfl]; rfl
  have d0 : w1.cell? ⟨w.heap.size + 1, 0, none⟩ = some (.int .i64 7) := by rw [hb1.cell (show w.heap.size + 1 < w.heap.size + 1 + 1 + 1 by omega)]; simp [World.cell?_alloc_past, World.cell?_alloc_at]
  have d1 : w1.cell? ⟨w.heap.size + 1, 1, none⟩ = some (.int .i64 k) := by rw [hb1.cell (show w.heap.size + 1 < w.heap.size + 1 + 1 + 1 by omega)]; simp [World.cell?_alloc_past, World.cell?_alloc_at]
  have hbw : Below w.heap.size w w1 := hb0.trans (hb1.mono (by omega))
  have HB1 : Hid (Below w.heap.size w w1) := hbw
  clear hq hb0 hb1 hbw
  obtain ⟨i0, hi, hz0, hz1, hz2⟩ := info_parts infoInt
  rcases (HA.out.below HB1.out (Nat.le_refl _)).2.2 with h0 | ⟨p1, o1, rfl, g1⟩
  · omega
  have G1 : Hid (∀ i, i < 4 → w1.cell? ⟨p1, o1 + i, none⟩ = some (I (xs.getD i 0))) := g1
  have HL : Hid (xs.length = 4) := HA.out.1
  clear g1
  have c0' : (w1.alloc (.cells #[] 3)).cell? ⟨w.heap.size, 0, none⟩ = some (.slice (some ⟨p1, o1, none⟩) 4 cp) := by rw [World.cell?_alloc_past _ _ _ (show w.heap.size < w1.heap.size by omega)]; exact c0
  go_wp2_with (at_builtin; refine wpList_append_own _ rfl _ _ 22 rfl w.heap.size 3 i0 (.int .i64 0) 1 8 Tryz.underlying22 hi hz0 hz1 hz2 rfl (by decide) _ 0 [] rfl ?own ⟨p1, o1, none⟩ 4 cp (xs.map I) rfl ?len ?c1 ?c2 ?c3 ?c4 ?c5 ?_)
  case own => exact own_empty (by omega)
  case len => exact news_len HL.out
  case c1 => exact news_at HL.out G1.out
  case c2 => exact news_one
  case c3 => unfold maxLen; omega
  case c4 => omega
  case c5 => simp; omega
  · intro v' w' hown hgrow _
    obtain ⟨a', c', rfl, hat⟩ := own_at hown (by omega)
    have hbe := below_appended HB1.out (by omega) hgrow
    have HE : Hid (IntAt w' a' 4 xs ∧ Below w.heap.size w w') := ⟨hat, hbe⟩
    clear hown hgrow hat hbe
    go_wp2
    go_ret2
    rw [← HZ.out, ← HB.out]
    have hzl : listM xs 7 k v = xs := by simp [listM]
    rw [hzl]
    refine ⟨⟨a', c', ?_, by rw [HL.out]; exact HE.out.1⟩, HE.out.2⟩
    rw [HL.out]
    refine says_two rfl ?_
    unfold DoneM
    simp


theorem l4Done_8 (a : Option Addr) (cp : Nat) (st v : Int) (k : Int) (xs : List Int) (w : World) (hA : IntAt w a 4 xs) :
    Calls Tryz.prog 63 #[.agg #[.slice a 4 cp, .int .i64 st], OpV 8 k v] w fun e w' => DoneSays e w' (listM xs 8 k v) (decide (DoneM xs st 8 k v)) ∧ Below w.heap.size w w' := by
  have HA : Hid (IntAt w a 4 xs) := hA
  clear hA
  obtain ⟨B, hB⟩ : ∃ B, decide (DoneM xs st 8 k v) = B := ⟨_, rfl⟩
  obtain ⟨zs, hzs⟩ : ∃ zs, listM xs 8 k v = zs := ⟨_, rfl⟩
  rw [hB, hzs]
  have HB : Hid (decide (DoneM xs st 8 k v) = B) := hB
  have HZ : Hid (listM xs 8 k v = zs) := hzs
  clear hB hzs
  go_enter Tryz.func63, Tryz.ntmps63
  go_wp2_with fail
  have hb0 : Below w.heap.size w (((w.alloc (.cells #[.slice a 4 cp, .int .i64 st] 29)).alloc (.cells #[.int .i64 8, .int .i64 k, .int .i64 v] 49)).alloc (.cells #[] 3)) := (((Below.refl _ w).alloc (Nat.le_refl _) _).alloc (by simp) _).alloc (by simp; omega) _
  refine (specKeyOf_any a 4 cp st v xs _ (HA.out.below hb0 (Nat.le_refl _))).mono ?_
  rintro e w1 ⟨⟨q, rfl, hq⟩, hb1⟩
  have HQ : Hid (q = keyN xs v) := hq.keyN
  simp only [World.size_alloc] at hb1
  have hs1 := hb1.size
  simp only [World.size_alloc] at hs1
  have c0 : w1.cell? ⟨w.heap.size, 0, none⟩ = some (.slice a 4 cp) := by rw [hb1.cell (show w.heap.size < w.heap.size + 1 + 1 + 1 by omega), World.cell?_alloc_past _ _ _ (by simp; omega), World.cell?_alloc_past _ _ _ (by simp), World.cell?_alloc_at _ _ _ _ rfl]; rfl
  have c1 : w1.cell? ⟨w.heap.size, 1, none⟩ = some (.int .i64 st) := by rw [hb1.cell (show w.heap.size < w.heap.size + 1 + 1 + 1 by omega), World.cell?_alloc_past _ _ _ (by simp; omega), World.cell?_alloc_past _ _ _ (by simp), World.cell?_alloc_at _ _ _ _ rfl]; rfl
  have d0 : w1.cell? ⟨w.heap.size + 1, 0, none⟩ = some (.int .i64 8) := by rw [hb1.cell (show w.heap.size + 1 < w.heap.size + 1 + 1 + 1 by omega)]; simp [World.cell?_alloc_past, World.cell?_alloc_at]
  have d1 : w1.cell? ⟨w.heap.size + 1, 1, none⟩ = some (.int .i64 k) := by rw [hb1.cell (show w.heap.size + 1 < w.heap.size + 1 + 1 + 1 by omega)]; simp [World.cell?_alloc_past, World.cell?_alloc_at]
  have hbw : Below w.heap.size w w1 := hb0.trans (hb1.mono (by omega))
  have HB1 : Hid (Below w.heap.size w w1) := hbw
  clear hq hb0 hb1 hbw
  go_wp2
  all_goals (try go_region)
  all_goals (try go_wp2)
  all_goals
    go_ret2
    rw [← HZ.out, ← HB.out]
    refine ⟨⟨some ⟨w.heap.size + 1 + 1, 0, none⟩, 0, ?_, rfl, by simp [listM], .inl rfl⟩, (by first | exact HB1.out | exact HB1.out.drew)⟩
    refine says_two rfl ?_
    unfold DoneM
    rw [← HQ.out]
    first
      | (simp; done)
      | (simp; omega)
      | (simp at *; simp [*]; done)
      | (simp at *; omega)


theorem l4Done_9 (a : Option Addr) (cp : Nat) (st v : Int) (k : Int) (xs : List Int) (w : World) (hA : IntAt w a 4 xs) :
    Calls Tryz.prog 63 #[.agg #[.slice a 4 cp, .int .i64 st], OpV 9 k v] w fun e w' => DoneSays e w' (listM xs 9 k v) (decide (DoneM xs st 9 k v)) ∧ Below w.heap.size w w' := by
  have HA : Hid (IntAt w a 4 xs) := hA
  clear hA
  obtain ⟨B, hB⟩ : ∃ B, decide (DoneM xs st 9 k v) = B := ⟨_, rfl⟩
  obtain ⟨zs, hzs⟩ : ∃ zs, listM xs 9 k v = zs := ⟨_, rfl⟩
  rw [hB, hzs]
  have HB : Hid (decide (DoneM xs st 9 k v) = B) := hB
  have HZ : Hid (listM xs 9 k v = zs) := hzs
  clear hB hzs
  go_enter Tryz.func63, Tryz.ntmps63
  go_wp2_with fail
  have hb0 : Below w.heap.size w (((w.alloc (.cells #[.slice a 4 cp, .int .i64 st] 29)).alloc (.cells #[.int .i64 9, .int .i64 k, .int .i64 v] 49)).alloc (.cells #[] 3)) := (((Below.refl _ w).alloc (Nat.le_refl _) _).alloc (by simp) _).alloc (by simp; omega) _
  refine (specKeyOf_any a 4 cp st v xs _ (HA.out.below hb0 (Nat.le_refl _))).mono ?_
  rintro e w1 ⟨⟨q, rfl, hq⟩, hb1⟩
  have HQ : Hid (q = keyN xs v) := hq.keyN
  simp only [World.size_alloc] at hb1
  have hs1 := hb1.size
  simp only [World.size_alloc] at hs1
  have c0 : w1.cell? ⟨w.heap.size, 0, none⟩ = some (.slice a 4 cp) := by rw [hb1.cell (show w.heap.size < w.heap.size + 1 + 1 + 1 by omega), World.cell?_alloc_past _ _ _ (by simp; omega), World.cell?_alloc_past _ _ _ (by simp), World.cell?_alloc_at _ _ _ _ rfl]; rfl
  have c1 : w1.cell? ⟨w.heap.size, 1, none⟩ = some (.int .i64 st) := by rw [hb1.cell (show w.heap.size < w.heap.size + 1 + 1 + 1 by omega), World.cell?_alloc_past _ _ _ (by simp; omega), World.cell?_alloc_past _ _ _ (by simp), World.cell?_alloc_at _ _ _ _ rfl]; rfl
  have d0 : w1.cell? ⟨w.heap.size + 1, 0, none⟩ = some (.int .i64 9) := by rw [hb1.cell (show w.heap.size + 1 < w.heap.size + 1 + 1 + 1 by omega)]; simp [World.cell?_alloc_past, World.cell?_alloc_at]
  have d1 : w1.cell? ⟨w.heap.size + 1, 1, none⟩ = some (.int .i64 k) := by rw [hb1.cell (show w.heap.size + 1 < w.heap.size + 1 + 1 + 1 by omega)]; simp [World.cell?_alloc_past, World.cell?_alloc_at]
  have hbw : Below w.heap.size w w1 := hb0.trans (hb1.mono (by omega))
  have HB1 : Hid (Below w.heap.size w w1) := hbw
  clear hq hb0 hb1 hbw
  go_wp2
  all_goals (try go_region)
  all_goals (try go_wp2)
  all_goals
    go_ret2
    rw [← HZ.out, ← HB.out]
    refine ⟨⟨some ⟨w.heap.size + 1 + 1, 0, none⟩, 0, ?_, rfl, by simp [listM], .inl rfl⟩, (by first | exact HB1.out | exact HB1.out.drew)⟩
    refine says_two rfl ?_
    unfold DoneM
    rw [← HQ.out]
    first
      | (simp; done)
      | (simp; omega)
      | (simp at *; simp [*]; done)
      | (simp at *; omega)


theorem l4Done_10 (a : Option Addr) (cp : Nat) (st v : Int) (k : Int) (xs : List Int) (w : World) (hA : IntAt w a 4 xs) :
    Calls Tryz.prog 63 #[.agg #[.slice a 4 cp, .int .i64 st], OpV 10 k v] w fun e w' => DoneSays e w' (listM xs 10 k v) (decide (DoneM xs st 10 k v)) ∧ Below w.heap.size w w' := by
  have HA : Hid (IntAt w a 4 xs) := hA
  clear hA
  obtain ⟨B, hB⟩ : ∃ B, decide (DoneM xs st 10 k v) = B := ⟨_, rfl⟩
  obtain ⟨zs, hzs⟩ : ∃ zs, listM xs 10 k v = zs := ⟨_, rfl⟩
  rw [hB, hzs]
  have HB : Hid (decide (DoneM xs st 10 k v) = B) := hB
  have HZ : Hid (listM xs 10 k v = zs) := hzs
  clear hB hzs
  go_enter Tryz.func63, Tryz.ntmps63
  go_wp2_with fail
  have hb0 : Below w.heap.size w (((w.alloc (.cells #[.slice a 4 cp, .int .i64 st] 29)).alloc (.cells #[.int .i64 10, .int .i64 k, .int .i64 v] 49)).alloc (.cells #[] 3)) := (((Below.refl _ w).alloc (Nat.le_refl _) _).alloc (by simp) _).alloc (by simp; omega) _
  refine (specKeyOf_any a 4 cp st v xs _ (HA.out.below hb0 (Nat.le_refl _))).mono ?_
  rintro e w1 ⟨⟨q, rfl, hq⟩, hb1⟩
  have HQ : Hid (q = keyN xs v) := hq.keyN
  simp only [World.size_alloc] at hb1
  have hs1 := hb1.size
  simp only [World.size_alloc] at hs1
  have c0 : w1.cell? ⟨w.heap.size, 0, none⟩ = some (.slice a 4 cp) := by rw [hb1.cell (show w.heap.size < w.heap.size + 1 + 1 + 1 by omega), World.cell?_alloc_past _ _ _ (by simp; omega), World.cell?_alloc_past _ _ _ (by simp), World.cell?_alloc_at _ _ _ _ rfl]; rfl
  have c1 : w1.cell? ⟨w.heap.size, 1, none⟩ = some (.int .i64 st) := by rw [hb1.cell (show w.heap.size < w.heap.size + 1 + 1 + 1 by omega), World.cell?_alloc_past _ _ _ (by simp; omega), World.cell?_alloc_past _ _ _ (by simp), World.cell?_alloc_at _ _ _ _ rfl]; rfl
  have d0 : w1.cell? ⟨w.heap.size + 1, 0, none⟩ = some (.int .i64 10) := by rw [hb1.cell (show w.heap.size + 1 < w.heap.size + 1 + 1 + 1 by omega)]; simp [World.cell?_alloc_past, World.cell?_alloc_at]
  have d1 : w1.cell? ⟨w.heap.size + 1, 1, none⟩ = some (.int .i64 k) := by rw [hb1.cell (show w.heap.size + 1 < w.heap.size + 1 + 1 + 1 by omega)]; simp [World.cell?_alloc_past, World.cell?_alloc_at]
  have hbw : Below w.heap.size w w1 := hb0.trans (hb1.mono (by omega))
  have HB1 : Hid (Below w.heap.size w w1) := hbw
  clear hq hb0 hb1 hbw
  have f1 : (w1.alloc (.cells #[I q] 3)).cell? ⟨w.heap.size, 1, none⟩ = some (.int .i64 st) := by rw [World.cell?_alloc_past _ _ _ (show w.heap.size < w1.heap.size by omega)]; exact c1
  go_wp2
  all_goals
    go_ret2
    rw [← HZ.out, ← HB.out]
    refine ⟨⟨some ⟨w1.heap.size, 0, none⟩, 1, ?_, rfl, by simp [listM], .inr ⟨_, 0, rfl, fun i hi => ?_⟩⟩, (by first | exact HB1.out.alloc (by omega) _ | exact HB1.out.drew.alloc (by simp; omega) _ | exact (HB1.out.alloc (by omega) _).drew)⟩
    · refine says_two rfl ?_
      unfold DoneM
      rw [← HQ.out]
      first
        | (simp; done)
        | (simp; omega)
        | (simp at *; simp [*]; done)
        | (simp at *; omega)
    · obtain rfl : i = 0 := by simp [listM] at hi; omega
      simp [listM, ← HQ.out]


theorem l4Done_any (a : Option Addr) (cp : Nat) (st kind k v : Int) (xs : List Int) (w : World) (hA : IntAt w a 4 xs) (ho : OpGood kind k v) :
    Calls Tryz.prog 63 #[.agg #[.slice a 4 cp, .int .i64 st], OpV kind k v] w fun e w' => DoneSays e w' (listM xs kind k v) (decide (DoneM xs st kind k v)) ∧ Below w.heap.size w w' := by
  have hkey := ho.2.1
  rcases kinds ho.1 with rfl | rfl | rfl | rfl | rfl | rfl | rfl | rfl | rfl | rfl
  · obtain ⟨n, rfl⟩ : ∃ n : Nat, k = n := ⟨k.toNat, by unfold KeyGood at hkey; omega⟩
    exact l4Done_1 a cp st v n xs w hA (by unfold KeyGood at hkey; omega)
  · obtain ⟨n, rfl⟩ : ∃ n : Nat, k = n := ⟨k.toNat, by unfold KeyGood at hkey; omega⟩
    exact l4Done_2 a cp st v n xs w hA (by unfold KeyGood at hkey; omega)
  · obtain ⟨n, rfl⟩ : ∃ n : Nat, k = n := ⟨k.toNat, by unfold KeyGood at hkey; omega⟩
    exact l4Done_3 a cp st v n xs w hA (by unfold KeyGood at hkey; omega)
  · obtain ⟨n, rfl⟩ : ∃ n : Nat, k = n := ⟨k.toNat, by unfold KeyGood at hkey; omega⟩
    exact l4Done_4 a cp st v n xs w hA (by unfold KeyGood at hkey; omega)
  · exact l4Done_5 a cp st v k xs w hA
  · exact l4Done_6 a cp st v k xs w hA
  · exact l4Done_7 a cp st v k xs w hA
  · exact l4Done_8 a cp st v k xs w hA
  · exact l4Done_9 a cp st v k xs w hA
  · exact l4Done_10 a cp st v k xs w hA
theorem l4Ints_any (a1 a2 : Option Addr) (n1 n2 c1 c2 : Nat) (xs ys : List Int) (w : World) (h1 : IntAt w a1 n1 xs) (h2 : IntAt w a2 n2 ys) :
    Calls Tryz.prog 64 #[.slice a1 n1 c1, .slice a2 n2 c2] w fun e w' => e = .returned (.bool (decide (xs = ys))) ∧ Below w.heap.size w w' := by
  have H1 : Hid (IntAt w a1 n1 xs) := h1
  have H2 : Hid (IntAt w a2 n2 ys) := h2
  have L1 : Hid (xs.length = n1) := h1.1
  have L2 : Hid (ys.length = n2) := h2.1
  have b1 := h1.2.1
  have b2 := h2.2.1
  obtain ⟨B, hB⟩ : ∃ B, decide (xs = ys) = B := ⟨_, rfl⟩
  rw [hB]
  have HB : Hid (decide (xs = ys) = B) := hB
  clear h1 h2 hB
  go_enter Tryz.func64, Tryz.ntmps64
  go_wp2
  go_loopw [5] (fun i wr => ∃ k : Nat, (k ≤ n1 ∧ k ≤ n2) ∧ i = .int .i64 k ∧ xs.take k = ys.take k ∧ Below w.heap.size w wr) (fun i _ => n1 - (intOf i).toNat)
  case atStart => exact ⟨0, ⟨Nat.zero_le _, Nat.zero_le _⟩, rfl, rfl, Below.refl _ _⟩
  case round =>
    obtain ⟨k, ⟨hk1, hk2⟩, rfl, ht, hb⟩ := hrel
    have HT : Hid (xs.take k = ys.take k) := ht
    clear ht
    by_cases hlt1 : k < n1
    · by_cases hlt2 : k < n2
      · rcases (H1.out.below hb (Nat.le_refl _)).2.2 with h | ⟨p1, o1, rfl, g1⟩
        · omega
        rcases (H2.out.below hb (Nat.le_refl _)).2.2 with h | ⟨p2, o2, rfl, g2⟩
        · omega
        obtain ⟨x, hx⟩ : ∃ x, xs.getD k 0 = x := ⟨_, rfl⟩
        obtain ⟨y, hy⟩ : ∃ y, ys.getD k 0 = y := ⟨_, rfl⟩
        have e1 := g1 k hlt1
        have e2 := g2 k hlt2
        rw [hx] at e1
        rw [hy] at e2
        have HX : Hid (xs.getD k 0 = x) := hx
        have HY : Hid (ys.getD k 0 = y) := hy
        clear g1 g2 hx hy
        go_wp2
        go_region
        go_wp2
        · have hd : (x != y) = true := by assumption
          go_ret
          refine ⟨?_, hb.drew⟩
          have e : xs ≠ ys := fun e => by rw [← HX.out, ← HY.out, e] at hd; simp at hd
          rw [← HB.out]
          simp [e]
        · have hd : (x != y) = false := by assumption
          have l1 := L1.out
          have l2 := L2.out
          exact ⟨⟨k + 1, ⟨by omega, by omega⟩, by go_num, take_nextI (by omega) (by omega) HT.out (by rw [HX.out, HY.out]; simpa using hd), hb.drew⟩, by simp [intOf]; omega⟩
      · have hne : ((n1 : Int) == (n2 : Int)) = false := by simp; omega
        go_wp2
        go_ret
        refine ⟨?_, hb⟩
        have e : xs ≠ ys := fun e => by have l1 := L1.out; have l2 := L2.out; rw [e] at l1; omega
        rw [← HB.out]
        simp [e]
    · by_cases hn : n1 = n2
      · subst hn
        go_wp2
        go_ret
        refine ⟨?_, hb⟩
        have e : xs = ys := by
          have := HT.out
          rwa [List.take_of_length_le (by have := L1.out; omega), List.take_of_length_le (by have := L2.out; omega)] at this
        rw [← HB.out]
        simp [e]
      · have hne : ((n1 : Int) == (n2 : Int)) = false := by simp; omega
        go_wp2
        go_ret
        refine ⟨?_, hb⟩
        have e : xs ≠ ys := fun e => by have l1 := L1.out; have l2 := L2.out; rw [e] at l1; omega
        rw [← HB.out]
        simp [e]
theorem specAllowed_any (a a2 : Option Addr) (n cp n2 c2 : Nat) (st kind k v code : Int) (xs ys : List Int) (w : World) (hA : IntAt w a n xs) (h2 : IntAt w a2 n2 ys) :
    Calls Tryz.prog 36 #[.agg #[.slice a n cp, .int .i64 st], OpV kind k v, ResV code a2 n2 c2] w fun e w' => Says e (AllowM xs st kind k v code ys) ∧ Below w.heap.size w w' := by
  have HA : Hid (IntAt w a n xs) := hA
  have H2 : Hid (IntAt w a2 n2 ys) := h2
  have hn2 := h2.2.1
  clear hA h2
  obtain ⟨P, hP⟩ : ∃ P, AllowM xs st kind k v code ys = P := ⟨_, rfl⟩
  rw [hP]
  have HP : Hid (AllowM xs st kind k v code ys = P) := hP
  clear hP
  go_enter Tryz.func36, Tryz.ntmps36
  go_wp2_with fail
  have HC : Hid (∀ wr, Below (w.heap.size + 1 + 1 + 1) (((w.alloc (.cells #[.slice a n cp, .int .i64 st] 29)).alloc (.cells #[.int .i64 kind, .int .i64 k, .int .i64 v] 49)).alloc (.cells #[.int .i64 code, .slice a2 n2 c2] 50)) wr → Args w #[.slice a n cp, .int .i64 st] #[.int .i64 kind, .int .i64 k, .int .i64 v] #[.int .i64 code, .slice a2 n2 c2] wr) := fun wr h => args_at w _ _ _ _ _ _ wr h
  have HB0 : Hid (Below w.heap.size w (((w.alloc (.cells #[.slice a n cp, .int .i64 st] 29)).alloc (.cells #[.int .i64 kind, .int .i64 k, .int .i64 v] 49)).alloc (.cells #[.int .i64 code, .slice a2 n2 c2] 50))) := (((Below.refl _ w).alloc (Nat.le_refl _) _).alloc (by simp) _).alloc (by simp; omega) _
  refine (specRowsOk_any a n cp st xs _ (HA.out.below HB0.out (Nat.le_refl _))).mono ?_
  rintro e w1 ⟨⟨ok1, rfl, hok1⟩, hb1⟩
  simp only [World.size_alloc] at hb1
  have HB1 : Hid (Below (w.heap.size + 1 + 1 + 1) (((w.alloc (.cells #[.slice a n cp, .int .i64 st] 29)).alloc (.cells #[.int .i64 kind, .int .i64 k, .int .i64 v] 49)).alloc (.cells #[.int .i64 code, .slice a2 n2 c2] 50)) w1) := hb1
  have HBw1 : Hid (Below w.heap.size w w1) := HB0.out.trans (hb1.mono (by omega))
  have HO : Hid (ok1 = true ↔ OkRows xs st) := hok1.trans (ok_iff HA.out.1)
  have hs1 := hb1.size
  simp only [World.size_alloc] at hs1
  have e0 := (HC.out _ hb1).2.1 0 _ rfl
  have e1 := (HC.out _ hb1).2.1 1 _ rfl
  have e2 := (HC.out _ hb1).2.1 2 _ rfl
  clear hok1 hb1
  cases ok1
  · have HN : Hid (¬ P) := by rw [← HP.out]; exact fun h => by have := HO.out.2 h.1; cases this
    go_wp2
    go_ret
    exact ⟨⟨false, rfl, by simp [HN.out]⟩, HBw1.out⟩
  have hok := HO.out.1 rfl
  obtain rfl : n = 4 := by rw [← HA.out.1]; exact hok.1
  have HOK : Hid (OkRows xs st) := hok
  clear hok HO
  go_wp2_with fail
  refine (specOpOk_any kind k v _).mono ?_
  rintro e w2 ⟨rfl, hb2⟩
  have HB2 : Hid (Below (w.heap.size + 1 + 1 + 1) (((w.alloc (.cells #[.slice a 4 cp, .int .i64 st] 29)).alloc (.cells #[.int .i64 kind, .int .i64 k, .int .i64 v] 49)).alloc (.cells #[.int .i64 code, .slice a2 n2 c2] 50)) w2) := HB1.out.trans (hb2.mono hs1)
  have HBw2 : Hid (Below w.heap.size w w2) := HBw1.out.trans (hb2.mono (by omega))
  have hs2 := Nat.le_trans hs1 hb2.size
  have c0 := (HC.out _ HB2.out).1 0 _ rfl
  have c1 := (HC.out _ HB2.out).1 1 _ rfl
  have d0 := (HC.out _ HB2.out).2.1 0 _ rfl
  have d1 := (HC.out _ HB2.out).2.1 1 _ rfl
  have d2 := (HC.out _ HB2.out).2.1 2 _ rfl
  have f0 := (HC.out _ HB2.out).2.2 0 _ rfl
  have f1 := (HC.out _ HB2.out).2.2 1 _ rfl
  clear hb2 HB1 HBw1 hs1 e0 e1 e2
  by_cases hop : OpGood kind k v
  · rw [show decide (OpGood kind k v) = true from decide_eq_true hop]
    have HOP : Hid (OpGood kind k v) := hop
    clear hop
    by_cases hc : code = 0
    · subst hc
      have HQ : Hid (P ↔ DoneM xs st kind k v ∧ listM xs kind k v = ys) := by
        rw [← HP.out]
        exact ⟨fun h => by rcases h.2.2 with ⟨h1, _⟩ | ⟨_, h1⟩; exact absurd rfl h1; exact h1, fun h => ⟨HOK.out, HOP.out, .inr ⟨rfl, h⟩⟩⟩
      go_wp2_with fail
      refine (l4Done_any a cp st kind k v xs _ (HA.out.below HBw2.out (Nat.le_refl _)) HOP.out).mono ?_
      rintro e w3 ⟨⟨a', c', rfl, hat⟩, hb3⟩
      have HB3 : Hid (Below (w.heap.size + 1 + 1 + 1) (((w.alloc (.cells #[.slice a 4 cp, .int .i64 st] 29)).alloc (.cells #[.int .i64 kind, .int .i64 k, .int .i64 v] 49)).alloc (.cells #[.int .i64 0, .slice a2 n2 c2] 50)) w3) := HB2.out.trans (hb3.mono (by omega))
      have HBw3 : Hid (Below w.heap.size w w3) := HBw2.out.trans (hb3.mono (by omega))
      have hs3 := hb3.size
      have g1 := (HC.out _ HB3.out).2.2 1 _ rfl
      have HAT : Hid (IntAt w3 a' (listM xs kind k v).length (listM xs kind k v)) := hat
      clear hb3 hat
      by_cases hd : DoneM xs st kind k v
      · rw [show decide (DoneM xs st kind k v) = true from decide_eq_true hd]
        have HD : Hid (DoneM xs st kind k v) := hd
        clear hd
        go_wp2_with fail
        refine (l4Ints_any a' a2 _ n2 c' c2 _ ys _ HAT.out (H2.out.below HBw3.out (Nat.le_refl _))).mono ?_
        rintro e w4 ⟨rfl, hb4⟩
        have HBw4 : Hid (Below w.heap.size w w4) := HBw3.out.trans (hb4.mono (by omega))
        clear hb4
        by_cases hl : listM xs kind k v = ys
        · rw [show decide (listM xs kind k v = ys) = true from decide_eq_true hl]
          have HT : Hid P := HQ.out.2 ⟨HD.out, hl⟩
          clear hl
          go_wp2
          go_ret
          exact ⟨⟨true, rfl, by simp [HT.out]⟩, HBw4.out⟩
        · rw [show decide (listM xs kind k v = ys) = false from decide_eq_false hl]
          have HT : Hid (¬ P) := fun h => hl (HQ.out.1 h).2
          clear hl
          go_wp2
          go_ret
          exact ⟨⟨false, rfl, by simp [HT.out]⟩, HBw4.out⟩
      · rw [show decide (DoneM xs st kind k v) = false from decide_eq_false hd]
        have HT : Hid (¬ P) := fun h => hd (HQ.out.1 h).1
        clear hd
        go_wp2
        go_ret
        exact ⟨⟨false, rfl, by simp [HT.out]⟩, HBw3.out⟩
    · have hc' : (code != 0) = true := by simpa using hc
      have HQ : Hid (P ↔ ys = [] ∧ FailsM xs st kind k v code) := by
        rw [← HP.out]
        exact ⟨fun h => by rcases h.2.2 with ⟨_, h1⟩ | ⟨h1, _⟩; exact h1; exact absurd h1 hc, fun h => ⟨HOK.out, HOP.out, .inl ⟨hc, h⟩⟩⟩
      clear hc
      by_cases hz : n2 = 0
      · subst hz
        go_wp2_with fail
        refine (l4Fails_any a cp st kind k v code xs _ (HA.out.below HBw2.out (Nat.le_refl _)) HOP.out).mono ?_
        rintro e w3 ⟨rfl, hb3⟩
        have HBw3 : Hid (Below w.heap.size w w3) := HBw2.out.trans (hb3.mono (by omega))
        clear hb3
        have hy : ys = [] := List.eq_nil_of_length_eq_zero H2.out.1
        by_cases hd : FailsM xs st kind k v code
        · rw [show decide (FailsM xs st kind k v code) = true from decide_eq_true hd]
          have HT : Hid P := HQ.out.2 ⟨hy, hd⟩
          clear hd hy
          go_wp2
          go_ret
          exact ⟨⟨true, rfl, by simp [HT.out]⟩, HBw3.out⟩
        · rw [show decide (FailsM xs st kind k v code) = false from decide_eq_false hd]
          have HT : Hid (¬ P) := fun h => hd (HQ.out.1 h).2
          clear hd hy
          go_wp2
          go_ret
          exact ⟨⟨false, rfl, by simp [HT.out]⟩, HBw3.out⟩
      · have hz' : ((n2 : Int) == 0) = false := by simp; omega
        have HT : Hid (¬ P) := fun h => hz (by rw [← H2.out.1, (HQ.out.1 h).1]; rfl)
        clear hz
        go_wp2
        go_ret
        exact ⟨⟨false, rfl, by simp [HT.out]⟩, HBw2.out⟩
  · rw [show decide (OpGood kind k v) = false from decide_eq_false hop]
    have HN : Hid (¬ P) := by rw [← HP.out]; exact fun h => hop h.2.1
    clear hop
    go_wp2
    go_ret
    exact ⟨⟨false, rfl, by simp [HN.out]⟩, HBw2.out⟩
theorem l3Copy_any (p o n cp : Nat) (st : Int) (xs : List Int) (w : World) (hA : IntAt w (some ⟨p, o, none⟩) n xs) :
    Calls Tryz.prog 65 #[.agg #[.slice (some ⟨p, o, none⟩) n cp, .int .i64 st]] w fun e w' => ∃ (a' : Option Addr) (c' : Nat), e = .returned (.agg #[.slice a' n c', .int .i64 st]) ∧ w'.ownsRow (w.heap.size + 1 + 1) 3 1 (.slice a' n c') n (xs.map I) ∧ Below w.heap.size w w' := by
  obtain ⟨i0, hi, hz0, hz1, hz2⟩ := info_parts infoInt
  have HA : Hid (IntAt w (some ⟨p, o, none⟩) n xs) := hA
  have HL : Hid (xs.length = n) := hA.1
  have hn := hA.2.1
  clear hA
  go_enter Tryz.func65, Tryz.ntmps65
  go_wp2_with fail
  have HB0 : Hid (Below w.heap.size w ((w.alloc (.cells #[.slice (some ⟨p, o, none⟩) n cp, .int .i64 st] 29)).alloc (.cells #[.slice none 0 0, .int .i64 0] 29))) := ((Below.refl _ w).alloc (Nat.le_refl _) _).alloc (by simp) _
  have HG := (HA.out.below HB0.out (Nat.le_refl _)).cells
  have HG1 : Hid _ := HG
  clear HG
  go_region_law
    (refine step_append_own _ (by rfl) _ _ 22 (by rfl) (w.heap.size + 1 + 1) 3 i0 (.int .i64 0) 1 8 Tryz.underlying22 hi hz0 hz1 hz2 (by rfl) (by decide) (.slice (some ⟨w.heap.size + 1 + 1, 0, none⟩) 0 0) 0 [] (by rfl) (own_empty_drew (by simp) (by omega)) ⟨p, o, none⟩ n cp (xs.map I) (by rfl) (news_len HL.out) (news_at_drew HL.out HG1.out) news_one (by unfold maxLen; omega) (by omega) (by simp) ?_
     intro v' w' hown hgrow _
     have hown2 : w'.ownsRow (w.heap.size + 1 + 1) 3 1 v' n (xs.map I) := by simpa using hown
     obtain ⟨a', c', rfl, hat⟩ := own_at hown2 hn
     have HOWN : Hid (w'.ownsRow (w.heap.size + 1 + 1) 3 1 (.slice a' n c') n (xs.map I)) := hown2
     clear hown hown2 hat
     have hbx := below_appended_drew (Below.refl (w.heap.size + 1 + 1) _) (by simp) (by simp) hgrow
     have r1 : w'.cell? ⟨w.heap.size, 1, none⟩ = some (.int .i64 st) := (hbx.cell (show w.heap.size < w.heap.size + 1 + 1 by omega)).trans (by simp [World.cell?_alloc_past, World.cell?_alloc_at])
     have r2 : w'.cell? ⟨w.heap.size + 1, 0, none⟩ = some (.slice none 0 0) := (hbx.cell (show w.heap.size + 1 < w.heap.size + 1 + 1 by omega)).trans (by simp [World.cell?_alloc_at])
     have r3 : w'.cell? ⟨w.heap.size + 1, 1, none⟩ = some (.int .i64 0) := (hbx.cell (show w.heap.size + 1 < w.heap.size + 1 + 1 by omega)).trans (by simp [World.cell?_alloc_at])
     have r4 : w'.frozen? ⟨w.heap.size + 1, 0, none⟩ = false := (hbx.frozen (show w.heap.size + 1 < w.heap.size + 1 + 1 by omega)).trans (by simp [World.frozen?_alloc_at])
     have r5 : w'.frozen? ⟨w.heap.size + 1, 1, none⟩ = false := (hbx.frozen (show w.heap.size + 1 < w.heap.size + 1 + 1 by omega)).trans (by simp [World.frozen?_alloc_at]))
  all_goals
    have HBX : Hid (Below w.heap.size w w') := HB0.out.trans (hbx.mono (by omega))
    clear hbx hgrow
    go_wp2
    (try simp only [Exit.inBlock, Exit.then])
    refine bodyPost_ret (by simp [results, Tryz.results65, go_sem, r2, r3]; try rfl) rfl ?_
    exact ⟨a', c', rfl, ownsRow_setCell_below (ownsRow_setCell_below HOWN.out (by simp) _) (by simp) _, (HBX.out.setCell (by simp) _).setCell (by simp) _⟩
end
end Go.Proofs.YtecheopkfhfgkaaGreat
