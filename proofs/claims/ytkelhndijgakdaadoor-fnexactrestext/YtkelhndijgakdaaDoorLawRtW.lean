/- The law FnExactResText, walked from what the program's function is said to answer. -/
import Derived.Test.YtkelhndijgakdaaDoorSpecTx3
import Derived.Test.YtkelhndijgakdaaDoorResL
import Derived.Deep.Cut
import Derived.Deep.RegionHeld3
namespace Go.Proofs.YtkelhndijgakdaaDoor
open Go.ChangeShapes Go.WideShapes Go.ChangeAt Go.RowKit Go.Lib

set_option maxHeartbeats 4000000 in
set_option maxRecDepth 100000 in
theorem resText_walk (T : World → Prop) (code : Int) (a : Option Addr) (n c : Nat) (xs : List Int) (w : World) (hA : n ≤ 1099511627776 → IntAt w a n xs) (hm : n ≤ 9223372036854775807) (hx : In64s xs) (hT : ∀ w', Below w.heap.size w w' → T w')
    (implC : ∀ (code : Int) (a : Option Addr) (n c : Nat) (xs : List Int) (w : World), IntAt w a n xs → n ≤ c → n ≤ 1048576 → In64s xs → T w → Calls Tryd.prog 17 #[ResV code a n c] w fun e w' => TextSays e (resB code xs) ∧ Below w.heap.size w w') :
    Calls Tryd.prog 5 #[ResV code a n c] w fun e w' => e = .returned (.bool true) ∧ Below w.heap.size w w' := by
  obtain ⟨W, hW⟩ : ∃ W, w.alloc (.cells #[.int .i64 code, .slice a n c] 37) = W := ⟨_, rfl⟩
  have B0 : Hid (Below w.heap.size w W) := by rw [← hW]; exact (Below.refl _ w).alloc (Nat.le_refl _) _
  have X0 : Hid (Box W w.heap.size #[.int .i64 code, .slice a n c] 37) := by rw [← hW]; exact box_of w _ _
  have HW : Hid (w.alloc (.cells #[.int .i64 code, .slice a n c] 37) = W) := hW
  clear hW
  by_cases hn : n ≤ 1048576
  case neg =>
    go_enter Tryd.func5, Tryd.ntmps5
    go_upto_region 2 with (fail)
    rw [HW.out]
    obtain ⟨c0, c1, _, _⟩ := X0.out.two
    go_wp2_with fail
    refine (szRes_big a n c code 1048576 _ (by omega) (by omega) (by omega) hm).mono ?_
    rintro e w1 ⟨rfl, hb1⟩
    have B1 : Hid (Below w.heap.size w w1) := B0.out.trans (hb1.mono B0.out.size)
    clear hb1 c0 c1
    go_wp2
    go_ret
    exact ⟨rfl, B1.out⟩
  have HA : Hid (IntAt w a n xs) := hA (by omega)
  have HXX : Hid (In64s xs) := hx
  have HT : Hid (∀ w', Below w.heap.size w w' → T w') := hT
  have HC : Hid (∀ (code : Int) (a : Option Addr) (n c : Nat) (xs : List Int) (w : World), IntAt w a n xs → n ≤ c → n ≤ 1048576 → In64s xs → T w → Calls Tryd.prog 17 #[ResV code a n c] w fun e w' => TextSays e (resB code xs) ∧ Below w.heap.size w w') := implC
  have hl : ¬ (1048576 - (n : Int) < 0) := by omega
  clear hA hT implC hx
  go_enter Tryd.func5, Tryd.ntmps5
  go_upto_region 2 with (fail)
  rw [HW.out]
  obtain ⟨c0, c1, _, _⟩ := X0.out.two
  go_wp2_with fail
  refine (szRes_fits a n c code 1048576 _ (by omega) (by omega) (by omega)).mono ?_
  rintro e w1 ⟨rfl, hb1⟩
  have B1 : Hid (Below w.heap.size w w1) := B0.out.trans (hb1.mono B0.out.size)
  have X1 : Hid (Box w1 w.heap.size #[.int .i64 code, .slice a n c] 37) := X0.out.below hb1 X0.out.lt
  clear hb1 c0 c1
  obtain ⟨c0, c1, _, _⟩ := X1.out.two
  go_wp2_with fail
  refine (toRes_g a n c code xs _ (HA.out.below B1.out (Nat.le_refl _))).mono ?_
  rintro e w2 ⟨g2, rfl, _, own2, hb2⟩
  have B2 : Hid (Below w.heap.size w w2) := B1.out.trans (hb2.mono B1.out.size)
  have X2 : Hid (Box w2 w.heap.size #[.int .i64 code, .slice a n c] 37) := X1.out.below hb2 X1.out.lt
  have I2 : Hid (IntAt w2 (some ⟨g2, 0, none⟩) n xs) := own_intAt own2 (by omega)
  clear hb2 own2 c0 c1
  go_wp2_with fail
  refine (specResText_any code _ n n xs _ I2.out HXX.out hn).mono ?_
  rintro e w3 ⟨⟨s3, rfl, hs3⟩, hb3⟩
  have S3 : Hid (s3.data.toList = resB code xs) := hs3
  have B3 : Hid (Below w.heap.size w w3) := B2.out.trans (hb3.mono B2.out.size)
  have X3 : Hid (Box w3 w.heap.size #[.int .i64 code, .slice a n c] 37) := X2.out.below hb3 X2.out.lt
  clear hs3 hb3
  obtain ⟨c0, c1, _, _⟩ := X3.out.two
  go_wp2_with fail
  refine (toRes_g a n c code xs _ (HA.out.below B3.out (Nat.le_refl _))).mono ?_
  rintro e w4 ⟨g4, rfl, _, own4, hb4⟩
  obtain ⟨W4, hW4⟩ : ∃ W4, w4.alloc (.cells #[.int .i64 code, .slice (some ⟨g4, 0, none⟩) n n] 40) = W4 := ⟨_, rfl⟩
  have hbx : Below w4.heap.size w4 W4 := by rw [← hW4]; exact (Below.refl _ w4).alloc (Nat.le_refl _) _
  have hb34 : Below w3.heap.size w3 W4 := hb4.trans (hbx.mono hb4.size)
  have B4 : Hid (Below w.heap.size w W4) := B3.out.trans (hb34.mono B3.out.size)
  have X4 : Hid (Box W4 w.heap.size #[.int .i64 code, .slice a n c] 37) := X3.out.below hb34 X3.out.lt
  have Y4 : Hid (Box W4 w4.heap.size #[.int .i64 code, .slice (some ⟨g4, 0, none⟩) n n] 40) := by rw [← hW4]; exact box_of w4 _ _
  have I4 : Hid (IntAt W4 (some ⟨g4, 0, none⟩) n xs) := (own_intAt own4 (by omega)).below hbx (Nat.le_refl _)
  have HW4 : Hid (w4.alloc (.cells #[.int .i64 code, .slice (some ⟨g4, 0, none⟩) n n] 40) = W4) := hW4
  clear hb4 own4 hbx hb34 hW4 c0 c1
  go_upto_region 7 with (fail)
  rw [HW4.out]
  obtain ⟨q0, q1, _, _⟩ := Y4.out.two
  go_wp2_with fail
  refine (HC.out code _ n n xs _ I4.out (Nat.le_refl _) hn HXX.out (HT.out _ B4.out)).mono ?_
  rintro e w5 ⟨⟨s5, rfl, hs5⟩, hb5⟩
  obtain rfl : s3 = s5 := str_eq (S3.out.trans hs5.symm)
  have B5 : Hid (Below w.heap.size w w5) := B4.out.trans (hb5.mono B4.out.size)
  have X5 : Hid (Box w5 w.heap.size #[.int .i64 code, .slice a n c] 37) := X4.out.below hb5 X4.out.lt
  have Y5 : Hid (Box w5 w4.heap.size #[.int .i64 code, .slice (some ⟨g4, 0, none⟩) n n] 40) := Y4.out.below hb5 Y4.out.lt
  have I5 : Hid (IntAt w5 (some ⟨g4, 0, none⟩) n xs) := I4.out.below hb5 (Nat.le_refl _)
  clear hs5 hb5 q0 q1
  obtain ⟨c0, c1, _, _⟩ := X5.out.two
  obtain ⟨q0, q1, _, _⟩ := Y5.out.two
  go_upto_region 10 with (fail)
  go_region_with (first
    | (go_at_call 16; refine (toRes_g a n c code xs _ (HA.out.below B5.out.drew (Nat.le_refl _))).mono ?_; rintro e w6 ⟨g6, rfl, _, own6, hb6⟩
       have hb56 : Below w5.heap.size w5 w6 := (Below.refl w5.heap.size w5).drew.trans hb6
       have Y6 : Hid (Box w6 w4.heap.size #[.int .i64 code, .slice (some ⟨g4, 0, none⟩) n n] 40) := Y5.out.below hb56 Y5.out.lt
       obtain ⟨y0, y1, _, _⟩ := Y6.out.two)
    | (go_at_call 18; refine (eqRes_same _ _ n n n n code xs _ (I5.out.below hb56 (Nat.le_refl _)) (own_intAt own6 (by omega))).mono ?_; rintro e w7 ⟨rfl, hb7⟩))
  all_goals
    have B7 : Hid (Below w.heap.size w w7) := B5.out.trans ((hb56.trans (hb7.mono hb56.size)).mono B5.out.size)
    clear hb56 hb6 hb7 own6
    go_wp2
    go_ret
    exact ⟨rfl, B7.out⟩
end Go.Proofs.YtkelhndijgakdaaDoor
