/- Texts joined: SpecFails. -/
import Derived.Test.YtbfolanfbagofaaGreatDoorQA16
import Derived.Test.YtbfolanfbagofaaGreatDoorQA03
set_option maxHeartbeats 2000000
set_option maxRecDepth 100000
namespace Go.Proofs.YtbfolanfbagofaaGreatDoor
section
open Go.ChangeShapes Go.WideShapes Go.ChangeAt Go.RowKit
theorem l4Fails_1 (a : Option Addr) (cp : Nat) (st v code : Int) (k : Nat) (xs : List Int) (w : World) (hA : IntAt w a 4 xs) (hk : k < 4) :
   Calls Tryz.prog 110 #[.agg #[.slice a 4 cp, .int .i64 st], OpV 1 (k : Int) v, .int .i64 code] w fun e w' => e = .returned (.bool (decide (FailsM xs st 1 (k : Int) v code))) ∧ Below w.heap.size w w' := by
 have HA : Hid (IntAt w a 4 xs) := hA
 clear hA
 obtain ⟨B, hB⟩ : ∃ B, decide (FailsM xs st 1 (k : Int) v code) = B := ⟨_, rfl⟩
 rw [hB]
 have HB : Hid (decide (FailsM xs st 1 (k : Int) v code) = B) := hB
 clear hB
 go_enter Tryz.func110, Tryz.ntmps110
 go_wp2_with fail
 have hb0 : Below w.heap.size w ((w.alloc (.cells #[.slice a 4 cp, .int .i64 st] 41)).alloc (.cells #[.int .i64 1, .int .i64 (k : Int), .int .i64 v] 81)) := ((Below.refl _ w).alloc (Nat.le_refl _) _).alloc (by simp) _
 refine (specKeyOf_any a 4 cp st v xs _ (HA.out.below hb0 (Nat.le_refl _))).mono ?_
 rintro e w1 ⟨⟨q, rfl, hq⟩, hb1⟩
 have HQ : Hid (q = keyN xs v) := hq.keyN
 simp only [World.size_alloc] at hb1
 have c0 : w1.cell? ⟨w.heap.size, 0, none⟩ = some (.slice a 4 cp) := by rw [hb1.cell (by simp; omega)]; simp
 have c1 : w1.cell? ⟨w.heap.size, 1, none⟩ = some (.int .i64 st) := by rw [hb1.cell (by simp; omega)]; simp
 have d0 : w1.cell? ⟨w.heap.size + 1, 0, none⟩ = some (.int .i64 1) := by rw [hb1.cell (by simp)]; simp
 have d1 : w1.cell? ⟨w.heap.size + 1, 1, none⟩ = some (.int .i64 (k : Int)) := by rw [hb1.cell (by simp)]; simp
 have hbw : Below w.heap.size w w1 := hb0.trans (hb1.mono (by omega))
 rcases (HA.out.below hbw (Nat.le_refl _)).2.2 with h0 | ⟨p1, o1, rfl, g1⟩
 · omega
 have e1 := g1 k hk
 obtain ⟨x, hx⟩ : ∃ x, xs.getD k 0 = x := ⟨_, rfl⟩
 rw [hx] at e1
 have HX : Hid (atK xs (k : Int) = x) := by simpa [Hid, atK] using hx
 clear g1 hx hq hb0 hb1
 rcases codes code with rfl | rfl | rfl | rfl | ⟨n1, n2, n3, n4⟩
 all_goals
   go_wp2
 all_goals
   go_ret
   refine ⟨?_, hbw⟩
   rw [← HB.out]
   refine says_iff ?_
   unfold FailsM
   rw [← HQ.out]; rw [HX.out]
   first
     | (simp; done)
     | (simp; omega)
     | (simp at *; simp [*]; done)
     | (simp at *; omega)
theorem l4Fails_2 (a : Option Addr) (cp : Nat) (st v code : Int) (k : Nat) (xs : List Int) (w : World) (hA : IntAt w a 4 xs) (hk : k < 4) :
   Calls Tryz.prog 110 #[.agg #[.slice a 4 cp, .int .i64 st], OpV 2 (k : Int) v, .int .i64 code] w fun e w' => e = .returned (.bool (decide (FailsM xs st 2 (k : Int) v code))) ∧ Below w.heap.size w w' := by
 have HA : Hid (IntAt w a 4 xs) := hA
 clear hA
 obtain ⟨B, hB⟩ : ∃ B, decide (FailsM xs st 2 (k : Int) v code) = B := ⟨_, rfl⟩
 rw [hB]
 have HB : Hid (decide (FailsM xs st 2 (k : Int) v code) = B) := hB
 clear hB
 go_enter Tryz.func110, Tryz.ntmps110
 go_wp2_with fail
 have hb0 : Below w.heap.size w ((w.alloc (.cells #[.slice a 4 cp, .int .i64 st] 41)).alloc (.cells #[.int .i64 2, .int .i64 (k : Int), .int .i64 v] 81)) := ((Below.refl _ w).alloc (Nat.le_refl _) _).alloc (by simp) _
 refine (specKeyOf_any a 4 cp st v xs _ (HA.out.below hb0 (Nat.le_refl _))).mono ?_
 rintro e w1 ⟨⟨q, rfl, hq⟩, hb1⟩
 have HQ : Hid (q = keyN xs v) := hq.keyN
 simp only [World.size_alloc] at hb1
 have c0 : w1.cell? ⟨w.heap.size, 0, none⟩ = some (.slice a 4 cp) := by rw [hb1.cell (by simp; omega)]; simp
 have c1 : w1.cell? ⟨w.heap.size, 1, none⟩ = some (.int .i64 st) := by rw [hb1.cell (by simp; omega)]; simp
 have d0 : w1.cell? ⟨w.heap.size + 1, 0, none⟩ = some (.int .i64 2) := by rw [hb1.cell (by simp)]; simp
 have d1 : w1.cell? ⟨w.heap.size + 1, 1, none⟩ = some (.int .i64 (k : Int)) := by rw [hb1.cell (by simp)]; simp
 have hbw : Below w.heap.size w w1 := hb0.trans (hb1.mono (by omega))
 rcases (HA.out.below hbw (Nat.le_refl _)).2.2 with h0 | ⟨p1, o1, rfl, g1⟩
 · omega
 have e1 := g1 k hk
 obtain ⟨x, hx⟩ : ∃ x, xs.getD k 0 = x := ⟨_, rfl⟩
 rw [hx] at e1
 have HX : Hid (atK xs (k : Int) = x) := by simpa [Hid, atK] using hx
 clear g1 hx hq hb0 hb1
 rcases codes code with rfl | rfl | rfl | rfl | ⟨n1, n2, n3, n4⟩
 all_goals
   go_wp2
 all_goals
   go_ret
   refine ⟨?_, hbw⟩
   rw [← HB.out]
   refine says_iff ?_
   unfold FailsM
   rw [← HQ.out]; rw [HX.out]
   first
     | (simp; done)
     | (simp; omega)
     | (simp at *; simp [*]; done)
     | (simp at *; omega)
theorem l4Fails_3 (a : Option Addr) (cp : Nat) (st v code : Int) (k : Nat) (xs : List Int) (w : World) (hA : IntAt w a 4 xs) (hk : k < 4) :
   Calls Tryz.prog 110 #[.agg #[.slice a 4 cp, .int .i64 st], OpV 3 (k : Int) v, .int .i64 code] w fun e w' => e = .returned (.bool (decide (FailsM xs st 3 (k : Int) v code))) ∧ Below w.heap.size w w' := by
 have HA : Hid (IntAt w a 4 xs) := hA
 clear hA
 obtain ⟨B, hB⟩ : ∃ B, decide (FailsM xs st 3 (k : Int) v code) = B := ⟨_, rfl⟩
 rw [hB]
 have HB : Hid (decide (FailsM xs st 3 (k : Int) v code) = B) := hB
 clear hB
 go_enter Tryz.func110, Tryz.ntmps110
 go_wp2_with fail
 have hb0 : Below w.heap.size w ((w.alloc (.cells #[.slice a 4 cp, .int .i64 st] 41)).alloc (.cells #[.int .i64 3, .int .i64 (k : Int), .int .i64 v] 81)) := ((Below.refl _ w).alloc (Nat.le_refl _) _).alloc (by simp) _
 refine (specKeyOf_any a 4 cp st v xs _ (HA.out.below hb0 (Nat.le_refl _))).mono ?_
 rintro e w1 ⟨⟨q, rfl, hq⟩, hb1⟩
 have HQ : Hid (q = keyN xs v) := hq.keyN
 simp only [World.size_alloc] at hb1
 have c0 : w1.cell? ⟨w.heap.size, 0, none⟩ = some (.slice a 4 cp) := by rw [hb1.cell (by simp; omega)]; simp
 have c1 : w1.cell? ⟨w.heap.size, 1, none⟩ = some (.int .i64 st) := by rw [hb1.cell (by simp; omega)]; simp
 have d0 : w1.cell? ⟨w.heap.size + 1, 0, none⟩ = some (.int .i64 3) := by rw [hb1.cell (by simp)]; simp
 have d1 : w1.cell? ⟨w.heap.size + 1, 1, none⟩ = some (.int .i64 (k : Int)) := by rw [hb1.cell (by simp)]; simp
 have hbw : Below w.heap.size w w1 := hb0.trans (hb1.mono (by omega))
 rcases (HA.out.below hbw (Nat.le_refl _)).2.2 with h0 | ⟨p1, o1, rfl, g1⟩
 · omega
 have e1 := g1 k hk
 obtain ⟨x, hx⟩ : ∃ x, xs.getD k 0 = x := ⟨_, rfl⟩
 rw [hx] at e1
 have HX : Hid (atK xs (k : Int) = x) := by simpa [Hid, atK] using hx
 clear g1 hx hq hb0 hb1
 rcases codes code with rfl | rfl | rfl | rfl | ⟨n1, n2, n3, n4⟩
 all_goals
   go_wp2
 all_goals
   go_ret
   refine ⟨?_, hbw⟩
   rw [← HB.out]
   refine says_iff ?_
   unfold FailsM
   rw [← HQ.out]; rw [HX.out]
   first
     | (simp; done)
     | (simp; omega)
     | (simp at *; simp [*]; done)
     | (simp at *; omega)
theorem l4Fails_4 (a : Option Addr) (cp : Nat) (st v code : Int) (k : Nat) (xs : List Int) (w : World) (hA : IntAt w a 4 xs) (hk : k < 4) :
   Calls Tryz.prog 110 #[.agg #[.slice a 4 cp, .int .i64 st], OpV 4 (k : Int) v, .int .i64 code] w fun e w' => e = .returned (.bool (decide (FailsM xs st 4 (k : Int) v code))) ∧ Below w.heap.size w w' := by
 have HA : Hid (IntAt w a 4 xs) := hA
 clear hA
 obtain ⟨B, hB⟩ : ∃ B, decide (FailsM xs st 4 (k : Int) v code) = B := ⟨_, rfl⟩
 rw [hB]
 have HB : Hid (decide (FailsM xs st 4 (k : Int) v code) = B) := hB
 clear hB
 go_enter Tryz.func110, Tryz.ntmps110
 go_wp2_with fail
 have hb0 : Below w.heap.size w ((w.alloc (.cells #[.slice a 4 cp, .int .i64 st] 41)).alloc (.cells #[.int .i64 4, .int .i64 (k : Int), .int .i64 v] 81)) := ((Below.refl _ w).alloc (Nat.le_refl _) _).alloc (by simp) _
 refine (specKeyOf_any a 4 cp st v xs _ (HA.out.below hb0 (Nat.le_refl _))).mono ?_
 rintro e w1 ⟨⟨q, rfl, hq⟩, hb1⟩
 have HQ : Hid (q = keyN xs v) := hq.keyN
 simp only [World.size_alloc] at hb1
 have c0 : w1.cell? ⟨w.heap.size, 0, none⟩ = some (.slice a 4 cp) := by rw [hb1.cell (by simp; omega)]; simp
 have c1 : w1.cell? ⟨w.heap.size, 1, none⟩ = some (.int .i64 st) := by rw [hb1.cell (by simp; omega)]; simp
 have d0 : w1.cell? ⟨w.heap.size + 1, 0, none⟩ = some (.int .i64 4) := by rw [hb1.cell (by simp)]; simp
 have d1 : w1.cell? ⟨w.heap.size + 1, 1, none⟩ = some (.int .i64 (k : Int)) := by rw [hb1.cell (by simp)]; simp
 have hbw : Below w.heap.size w w1 := hb0.trans (hb1.mono (by omega))
 rcases (HA.out.below hbw (Nat.le_refl _)).2.2 with h0 | ⟨p1, o1, rfl, g1⟩
 · omega
 have e1 := g1 k hk
 obtain ⟨x, hx⟩ : ∃ x, xs.getD k 0 = x := ⟨_, rfl⟩
 rw [hx] at e1
 have HX : Hid (atK xs (k : Int) = x) := by simpa [Hid, atK] using hx
 clear g1 hx hq hb0 hb1
 rcases codes code with rfl | rfl | rfl | rfl | ⟨n1, n2, n3, n4⟩
 all_goals
   go_wp2
 all_goals
   go_ret
   refine ⟨?_, hbw⟩
   rw [← HB.out]
   refine says_iff ?_
   unfold FailsM
   rw [← HQ.out]; rw [HX.out]
   first
     | (simp; done)
     | (simp; omega)
     | (simp at *; simp [*]; done)
     | (simp at *; omega)
theorem l4Fails_5 (a : Option Addr) (cp : Nat) (st v code : Int) (k : Int) (xs : List Int) (w : World) (hA : IntAt w a 4 xs) :
   Calls Tryz.prog 110 #[.agg #[.slice a 4 cp, .int .i64 st], OpV 5 k v, .int .i64 code] w fun e w' => e = .returned (.bool (decide (FailsM xs st 5 k v code))) ∧ Below w.heap.size w w' := by
 have HA : Hid (IntAt w a 4 xs) := hA
 clear hA
 obtain ⟨B, hB⟩ : ∃ B, decide (FailsM xs st 5 k v code) = B := ⟨_, rfl⟩
 rw [hB]
 have HB : Hid (decide (FailsM xs st 5 k v code) = B) := hB
 clear hB
 go_enter Tryz.func110, Tryz.ntmps110
 go_wp2_with fail
 have hb0 : Below w.heap.size w ((w.alloc (.cells #[.slice a 4 cp, .int .i64 st] 41)).alloc (.cells #[.int .i64 5, .int .i64 k, .int .i64 v] 81)) := ((Below.refl _ w).alloc (Nat.le_refl _) _).alloc (by simp) _
 refine (specKeyOf_any a 4 cp st v xs _ (HA.out.below hb0 (Nat.le_refl _))).mono ?_
 rintro e w1 ⟨⟨q, rfl, hq⟩, hb1⟩
 have HQ : Hid (q = keyN xs v) := hq.keyN
 simp only [World.size_alloc] at hb1
 have c0 : w1.cell? ⟨w.heap.size, 0, none⟩ = some (.slice a 4 cp) := by rw [hb1.cell (by simp; omega)]; simp
 have c1 : w1.cell? ⟨w.heap.size, 1, none⟩ = some (.int .i64 st) := by rw [hb1.cell (by simp; omega)]; simp
 have d0 : w1.cell? ⟨w.heap.size + 1, 0, none⟩ = some (.int .i64 5) := by rw [hb1.cell (by simp)]; simp
 have hbw : Below w.heap.size w w1 := hb0.trans (hb1.mono (by omega))
 clear hq hb0 hb1
 rcases codes code with rfl | rfl | rfl | rfl | ⟨n1, n2, n3, n4⟩
 all_goals
   go_wp2
 all_goals
   go_ret
   refine ⟨?_, hbw⟩
   rw [← HB.out]
   refine says_iff ?_
   unfold FailsM
   rw [← HQ.out]
   first
     | (simp; done)
     | (simp; omega)
     | (simp at *; simp [*]; done)
     | (simp at *; omega)
theorem l4Fails_6 (a : Option Addr) (cp : Nat) (st v code : Int) (k : Int) (xs : List Int) (w : World) (hA : IntAt w a 4 xs) :
   Calls Tryz.prog 110 #[.agg #[.slice a 4 cp, .int .i64 st], OpV 6 k v, .int .i64 code] w fun e w' => e = .returned (.bool (decide (FailsM xs st 6 k v code))) ∧ Below w.heap.size w w' := by
 have HA : Hid (IntAt w a 4 xs) := hA
 clear hA
 obtain ⟨B, hB⟩ : ∃ B, decide (FailsM xs st 6 k v code) = B := ⟨_, rfl⟩
 rw [hB]
 have HB : Hid (decide (FailsM xs st 6 k v code) = B) := hB
 clear hB
 go_enter Tryz.func110, Tryz.ntmps110
 go_wp2_with fail
 have hb0 : Below w.heap.size w ((w.alloc (.cells #[.slice a 4 cp, .int .i64 st] 41)).alloc (.cells #[.int .i64 6, .int .i64 k, .int .i64 v] 81)) := ((Below.refl _ w).alloc (Nat.le_refl _) _).alloc (by simp) _
 refine (specKeyOf_any a 4 cp st v xs _ (HA.out.below hb0 (Nat.le_refl _))).mono ?_
 rintro e w1 ⟨⟨q, rfl, hq⟩, hb1⟩
 have HQ : Hid (q = keyN xs v) := hq.keyN
 simp only [World.size_alloc] at hb1
 have c0 : w1.cell? ⟨w.heap.size, 0, none⟩ = some (.slice a 4 cp) := by rw [hb1.cell (by simp; omega)]; simp
 have c1 : w1.cell? ⟨w.heap.size, 1, none⟩ = some (.int .i64 st) := by rw [hb1.cell (by simp; omega)]; simp
 have d0 : w1.cell? ⟨w.heap.size + 1, 0, none⟩ = some (.int .i64 6) := by rw [hb1.cell (by simp)]; simp
 have hbw : Below w.heap.size w w1 := hb0.trans (hb1.mono (by omega))
 clear hq hb0 hb1
 rcases codes code with rfl | rfl | rfl | rfl | ⟨n1, n2, n3, n4⟩
 all_goals
   go_wp2
 all_goals
   go_ret
   refine ⟨?_, hbw⟩
   rw [← HB.out]
   refine says_iff ?_
   unfold FailsM
   rw [← HQ.out]
   first
     | (simp; done)
     | (simp; omega)
     | (simp at *; simp [*]; done)
     | (simp at *; omega)
theorem l4Fails_7 (a : Option Addr) (cp : Nat) (st v code : Int) (k : Int) (xs : List Int) (w : World) (hA : IntAt w a 4 xs) :
   Calls Tryz.prog 110 #[.agg #[.slice a 4 cp, .int .i64 st], OpV 7 k v, .int .i64 code] w fun e w' => e = .returned (.bool (decide (FailsM xs st 7 k v code))) ∧ Below w.heap.size w w' := by
 have HA : Hid (IntAt w a 4 xs) := hA
 clear hA
 obtain ⟨B, hB⟩ : ∃ B, decide (FailsM xs st 7 k v code) = B := ⟨_, rfl⟩
 rw [hB]
 have HB : Hid (decide (FailsM xs st 7 k v code) = B) := hB
 clear hB
 go_enter Tryz.func110, Tryz.ntmps110
 go_wp2_with fail
 have hb0 : Below w.heap.size w ((w.alloc (.cells #[.slice a 4 cp, .int .i64 st] 41)).alloc (.cells #[.int .i64 7, .int .i64 k, .int .i64 v] 81)) := ((Below.refl _ w).alloc (Nat.le_refl _) _).alloc (by simp) _
 refine (specKeyOf_any a 4 cp st v xs _ (HA.out.below hb0 (Nat.le_refl _))).mono ?_
 rintro e w1 ⟨⟨q, rfl, hq⟩, hb1⟩
 have HQ : Hid (q = keyN xs v) := hq.keyN
 simp only [World.size_alloc] at hb1
 have c0 : w1.cell? ⟨w.heap.size, 0, none⟩ = some (.slice a 4 cp) := by rw [hb1.cell (by simp; omega)]; simp
 have c1 : w1.cell? ⟨w.heap.size, 1, none⟩ = some (.int .i64 st) := by rw [hb1.cell (by simp; omega)]; simp
 have d0 : w1.cell? ⟨w.heap.size + 1, 0, none⟩ = some (.int .i64 7) := by rw [hb1.cell (by simp)]; simp
 have hbw : Below w.heap.size w w1 := hb0.trans (hb1.mono (by omega))
 clear hq hb0 hb1
 rcases codes code with rfl | rfl | rfl | rfl | ⟨n1, n2, n3, n4⟩
 all_goals
   go_wp2
 all_goals
   go_ret
   refine ⟨?_, hbw⟩
   rw [← HB.out]
   refine says_iff ?_
   unfold FailsM
   rw [← HQ.out]
   first
     | (simp; done)
     | (simp; omega)
     | (simp at *; simp [*]; done)
     | (simp at *; omega)
theorem l4Fails_8 (a : Option Addr) (cp : Nat) (st v code : Int) (k : Int) (xs : List Int) (w : World) (hA : IntAt w a 4 xs) :
   Calls Tryz.prog 110 #[.agg #[.slice a 4 cp, .int .i64 st], OpV 8 k v, .int .i64 code] w fun e w' => e = .returned (.bool (decide (FailsM xs st 8 k v code))) ∧ Below w.heap.size w w' := by
 have HA : Hid (IntAt w a 4 xs) := hA
 clear hA
 obtain ⟨B, hB⟩ : ∃ B, decide (FailsM xs st 8 k v code) = B := ⟨_, rfl⟩
 rw [hB]
 have HB : Hid (decide (FailsM xs st 8 k v code) = B) := hB
 clear hB
 go_enter Tryz.func110, Tryz.ntmps110
 go_wp2_with fail
 have hb0 : Below w.heap.size w ((w.alloc (.cells #[.slice a 4 cp, .int .i64 st] 41)).alloc (.cells #[.int .i64 8, .int .i64 k, .int .i64 v] 81)) := ((Below.refl _ w).alloc (Nat.le_refl _) _).alloc (by simp) _
 refine (specKeyOf_any a 4 cp st v xs _ (HA.out.below hb0 (Nat.le_refl _))).mono ?_
 rintro e w1 ⟨⟨q, rfl, hq⟩, hb1⟩
 have HQ : Hid (q = keyN xs v) := hq.keyN
 simp only [World.size_alloc] at hb1
 have c0 : w1.cell? ⟨w.heap.size, 0, none⟩ = some (.slice a 4 cp) := by rw [hb1.cell (by simp; omega)]; simp
 have c1 : w1.cell? ⟨w.heap.size, 1, none⟩ = some (.int .i64 st) := by rw [hb1.cell (by simp; omega)]; simp
 have d0 : w1.cell? ⟨w.heap.size + 1, 0, none⟩ = some (.int .i64 8) := by rw [hb1.cell (by simp)]; simp
 have hbw : Below w.heap.size w w1 := hb0.trans (hb1.mono (by omega))
 clear hq hb0 hb1
 rcases codes code with rfl | rfl | rfl | rfl | ⟨n1, n2, n3, n4⟩
 all_goals
   go_wp2
 all_goals
   go_ret
   refine ⟨?_, hbw⟩
   rw [← HB.out]
   refine says_iff ?_
   unfold FailsM
   rw [← HQ.out]
   first
     | (simp; done)
     | (simp; omega)
     | (simp at *; simp [*]; done)
     | (simp at *; omega)
theorem l4Fails_9 (a : Option Addr) (cp : Nat) (st v code : Int) (k : Int) (xs : List Int) (w : World) (hA : IntAt w a 4 xs) :
   Calls Tryz.prog 110 #[.agg #[.slice a 4 cp, .int .i64 st], OpV 9 k v, .int .i64 code] w fun e w' => e = .returned (.bool (decide (FailsM xs st 9 k v code))) ∧ Below w.heap.size w w' := by
 have HA : Hid (IntAt w a 4 xs) := hA
 clear hA
 obtain ⟨B, hB⟩ : ∃ B, decide (FailsM xs st 9 k v code) = B := ⟨_, rfl⟩
 rw [hB]
 have HB : Hid (decide (FailsM xs st 9 k v code) = B) := hB
 clear hB
 go_enter Tryz.func110, Tryz.ntmps110
 go_wp2_with fail
 have hb0 : Below w.heap.size w ((w.alloc (.cells #[.slice a 4 cp, .int .i64 st] 41)).alloc (.cells #[.int .i64 9, .int .i64 k, .int .i64 v] 81)) := ((Below.refl _ w).alloc (Nat.le_refl _) _).alloc (by simp) _
 refine (specKeyOf_any a 4 cp st v xs _ (HA.out.below hb0 (Nat.le_refl _))).mono ?_
 rintro e w1 ⟨⟨q, rfl, hq⟩, hb1⟩
 have HQ : Hid (q = keyN xs v) := hq.keyN
 simp only [World.size_alloc] at hb1
 have c0 : w1.cell? ⟨w.heap.size, 0, none⟩ = some (.slice a 4 cp) := by rw [hb1.cell (by simp; omega)]; simp
 have c1 : w1.cell? ⟨w.heap.size, 1, none⟩ = some (.int .i64 st) := by rw [hb1.cell (by simp; omega)]; simp
 have d0 : w1.cell? ⟨w.heap.size + 1, 0, none⟩ = some (.int .i64 9) := by rw [hb1.cell (by simp)]; simp
 have hbw : Below w.heap.size w w1 := hb0.trans (hb1.mono (by omega))
 clear hq hb0 hb1
 rcases codes code with rfl | rfl | rfl | rfl | ⟨n1, n2, n3, n4⟩
 all_goals
   go_wp2
 all_goals
   go_ret
   refine ⟨?_, hbw⟩
   rw [← HB.out]
   refine says_iff ?_
   unfold FailsM
   rw [← HQ.out]
   first
     | (simp; done)
     | (simp; omega)
     | (simp at *; simp [*]; done)
     | (simp at *; omega)
theorem l4Fails_10 (a : Option Addr) (cp : Nat) (st v code : Int) (k : Int) (xs : List Int) (w : World) (hA : IntAt w a 4 xs) :
   Calls Tryz.prog 110 #[.agg #[.slice a 4 cp, .int .i64 st], OpV 10 k v, .int .i64 code] w fun e w' => e = .returned (.bool (decide (FailsM xs st 10 k v code))) ∧ Below w.heap.size w w' := by
 have HA : Hid (IntAt w a 4 xs) := hA
 clear hA
 obtain ⟨B, hB⟩ : ∃ B, decide (FailsM xs st 10 k v code) = B := ⟨_, rfl⟩
 rw [hB]
 have HB : Hid (decide (FailsM xs st 10 k v code) = B) := hB
 clear hB
 go_enter Tryz.func110, Tryz.ntmps110
 go_wp2_with fail
 have hb0 : Below w.heap.size w ((w.alloc (.cells #[.slice a 4 cp, .int .i64 st] 41)).alloc (.cells #[.int .i64 10, .int .i64 k, .int .i64 v] 81)) := ((Below.refl _ w).alloc (Nat.le_refl _) _).alloc (by simp) _
 refine (specKeyOf_any a 4 cp st v xs _ (HA.out.below hb0 (Nat.le_refl _))).mono ?_
 rintro e w1 ⟨⟨q, rfl, hq⟩, hb1⟩
 have HQ : Hid (q = keyN xs v) := hq.keyN
 simp only [World.size_alloc] at hb1
 have c0 : w1.cell? ⟨w.heap.size, 0, none⟩ = some (.slice a 4 cp) := by rw [hb1.cell (by simp; omega)]; simp
 have c1 : w1.cell? ⟨w.heap.size, 1, none⟩ = some (.int .i64 st) := by rw [hb1.cell (by simp; omega)]; simp
 have d0 : w1.cell? ⟨w.heap.size + 1, 0, none⟩ = some (.int .i64 10) := by rw [hb1.cell (by simp)]; simp
 have hbw : Below w.heap.size w w1 := hb0.trans (hb1.mono (by omega))
 clear hq hb0 hb1
 rcases codes code with rfl | rfl | rfl | rfl | ⟨n1, n2, n3, n4⟩
 all_goals
   go_wp2
 all_goals
   go_ret
   refine ⟨?_, hbw⟩
   rw [← HB.out]
   refine says_iff ?_
   unfold FailsM
   rw [← HQ.out]
   first
     | (simp; done)
     | (simp; omega)
     | (simp at *; simp [*]; done)
     | (simp at *; omega)
theorem l4Fails_any (a : Option Addr) (cp : Nat) (st kind k v code : Int) (xs : List Int) (w : World) (hA : IntAt w a 4 xs) (ho : OpGood kind k v) :
   Calls Tryz.prog 110 #[.agg #[.slice a 4 cp, .int .i64 st], OpV kind k v, .int .i64 code] w fun e w' => e = .returned (.bool (decide (FailsM xs st kind k v code))) ∧ Below w.heap.size w w' := by
 have hkey := ho.2.1
 rcases kinds ho.1 with rfl | rfl | rfl | rfl | rfl | rfl | rfl | rfl | rfl | rfl
 · obtain ⟨n, rfl⟩ : ∃ n : Nat, k = n := ⟨k.toNat, by unfold KeyGood at hkey; omega⟩
   exact l4Fails_1 a cp st v code n xs w hA (by unfold KeyGood at hkey; omega)
 · obtain ⟨n, rfl⟩ : ∃ n : Nat, k = n := ⟨k.toNat, by unfold KeyGood at hkey; omega⟩
   exact l4Fails_2 a cp st v code n xs w hA (by unfold KeyGood at hkey; omega)
 · obtain ⟨n, rfl⟩ : ∃ n : Nat, k = n := ⟨k.toNat, by unfold KeyGood at hkey; omega⟩
   exact l4Fails_3 a cp st v code n xs w hA (by unfold KeyGood at hkey; omega)
 · obtain ⟨n, rfl⟩ : ∃ n : Nat, k = n := ⟨k.toNat, by unfold KeyGood at hkey; omega⟩
   exact l4Fails_4 a cp st v code n xs w hA (by unfold KeyGood at hkey; omega)
 · exact l4Fails_5 a cp st v code k xs w hA
 · exact l4Fails_6 a cp st v code k xs w hA
 · exact l4Fails_7 a cp st v code k xs w hA
 · exact l4Fails_8 a cp st v code k xs w hA
 · exact l4Fails_9 a cp st v code k xs w hA
 · exact l4Fails_10 a cp st v code k xs w hA
end
end Go.Proofs.YtbfolanfbagofaaGreatDoor
