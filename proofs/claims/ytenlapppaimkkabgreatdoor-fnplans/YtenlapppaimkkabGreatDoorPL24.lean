/- Texts joined: SpecWords, DrawKn, PlanAllow. -/
import Derived.Test.YtenlapppaimkkabGreatDoorPL20
import Derived.Test.YtenlapppaimkkabGreatDoorPL21
import Derived.Test.YtenlapppaimkkabGreatDoorPL03
import Derived.Test.YtenlapppaimkkabGreatDoorPL04
import Derived.Deep.RegionWith
import Derived.Test.YtenlapppaimkkabGreatDoorPL23
import Derived.Test.YtenlapppaimkkabGreatDoorPL19
import Derived.Deep.RegionHeld3
set_option maxHeartbeats 2000000
set_option maxRecDepth 100000
namespace Go.Proofs.YtenlapppaimkkabGreatDoor
section
open Go.ChangeShapes Go.WideShapes Go.ChangeAt Go.RowKit Go.Maps
theorem at_row (k : Nat) (hk : k < 4) (w : World) : Calls Tryz.prog 33 #[.int .i64 (k : Int)] w fun e w' => e = .returned (.int .i64 (k : Int)) ∧ w' = w := by
  have := specRowAt_any (k : Int) w
  rwa [show placeN 1 (k : Int) = (k : Int) by unfold placeN; repeat' split <;> omega] at this
theorem at_owner (x : Int) (m : Nat) (hx : 1 ≤ x ∧ x ≤ 6) (hm : m = (x + 3).toNat) (w : World) : Calls Tryz.prog 61 #[.int .i64 x] w fun e w' => e = .returned (.int .i64 (m : Int)) ∧ w' = w := by
  have := specOwnerAt_any x w
  rwa [show placeN 2 x = (m : Int) by unfold placeN; repeat' split <;> omega] at this
theorem at_via (x : Int) (m : Nat) (hx : 1 ≤ x ∧ x ≤ 6) (hm : m = (x + 13).toNat) (w : World) : Calls Tryz.prog 35 #[.int .i64 x] w fun e w' => e = .returned (.int .i64 (m : Int)) ∧ w' = w := by
  have := specViaAt_any x w
  rwa [show placeN 5 x = (m : Int) by unfold placeN; repeat' split <;> omega] at this
theorem at_count (c m : Nat) (hc : c < 3) (hm : m = 10 + c) (w : World) : Calls Tryz.prog 63 #[.int .i64 (c : Int)] w fun e w' => e = .returned (.int .i64 (m : Int)) ∧ w' = w := by
  have := specCountAt_any (c : Int) w
  rwa [show placeN 3 (c : Int) = (m : Int) by unfold placeN; repeat' split <;> omega] at this

def mk (xs : List Int) (k j : Nat) : Int := if j < k then xs.getD j 0 else 0
def wordsK (xs : List Int) (k : Nat) (st : Int) : List Int := wordsG (mk xs k 0) (mk xs k 1) (mk xs k 2) (mk xs k 3) 0 0 0 0 st
theorem wordsK_step {xs : List Int} {k : Nat} {x st : Int} (hk : k < 4) (hx : xs.getD k 0 = x) (hv : 1 ≤ x ∧ x ≤ 6) (hne : ∀ j, j < k → xs.getD j 0 ≠ x) : stepW (wordsK xs k st) k x st = wordsK xs (k + 1) st := by
  have h : k = 0 ∨ k = 1 ∨ k = 2 ∨ k = 3 := by omega
  have h0 : (0 : Int) ≠ x := by omega
  rcases h with rfl | rfl | rfl | rfl
  · rw [wordsK, wordsK]
    simp only [mk, hx]
    exact step0 0 0 0 0 0 0 0 st x hv h0 h0 h0
  · rw [wordsK, wordsK]
    simp only [mk, hx]
    exact step1 _ 0 0 0 0 0 0 st x hv (hne 0 (by omega)) h0 h0
  · rw [wordsK, wordsK]
    simp only [mk, hx]
    exact step2 _ _ 0 0 0 0 0 st x hv (hne 0 (by omega)) (hne 1 (by omega)) h0
  · rw [wordsK, wordsK]
    simp only [mk, hx]
    exact step3 _ _ _ 0 0 0 0 st x hv (hne 0 (by omega)) (hne 1 (by omega)) (hne 2 (by omega))
theorem wordsK_none {xs : List Int} {k : Nat} {st : Int} (hk : k < 4) (hx : xs.getD k 0 = 0) : (wordsK xs k st).set k 0 = wordsK xs (k + 1) st := by
  have h : k = 0 ∨ k = 1 ∨ k = 2 ∨ k = 3 := by omega
  rcases h with rfl | rfl | rfl | rfl <;> (rw [wordsK, wordsK]; simp only [mk, hx]; rfl)

def wordsC (xs : List Int) (c : Nat) (st : Int) : List Int := wordsG (xs.getD 0 0) (xs.getD 1 0) (xs.getD 2 0) (xs.getD 3 0) (if 0 < c then cntK xs 0 4 else 0) (if 1 < c then cntK xs 1 4 else 0) (if 2 < c then cntK xs 2 4 else 0) 0 st
theorem wordsC_zero (xs : List Int) (st : Int) : wordsK xs 4 st = wordsC xs 0 st := rfl
theorem wordsC_step (xs : List Int) (c : Nat) (hc : c < 3) (st : Int) : (wordsC xs c st).set (10 + c) (cntK xs (c : Int) 4) = wordsC xs (c + 1) st := by
  have h : c = 0 ∨ c = 1 ∨ c = 2 := by omega
  rcases h with rfl | rfl | rfl <;> rfl
theorem wordsC_end (xs : List Int) (st : Int) : (wordsC xs 3 st).set 13 st = wordsL (xs.getD 0 0) (xs.getD 1 0) (xs.getD 2 0) (xs.getD 3 0) st := by
  rw [wordsL, ← cntK_four, ← cntK_four, ← cntK_four]
  rfl

def ListSays (e : Ending) (w' : World) (L : List Int) : Prop := ∃ a n c, e = .returned (.slice a n c) ∧ IntAt w' a n L
def specL (xs : List Int) (st : Int) : List Int := wordsL (xs.getD 0 0) (xs.getD 1 0) (xs.getD 2 0) (xs.getD 3 0) st

theorem specWordsOf_yes (a : Option Addr) (c : Nat) (st : Int) (xs : List Int) (w : World) (hA : IntAt w a 4 xs) (hyes : SpecOk xs 4 st) :
    Calls Tryz.prog 20 #[.agg #[.slice a 4 c, .int .i64 st]] w fun e w' => ListSays e w' (specL xs st) ∧ Below w.heap.size w w' := by
  have HA : Hid (IntAt w a 4 xs) := hA
  have HY : Hid (SpecOk xs 4 st) := hyes
  clear hA hyes
  obtain ⟨i0, hi, hz0, hz1, hz2⟩ := info_parts infoInt
  go_enter Tryz.func20, Tryz.ntmps20
  go_wp2_with fail
  refine (specRowsOk_any a 4 c st xs _ (HA.out.below ((Below.refl _ w).alloc (Nat.le_refl _) _) (Nat.le_refl _))).mono ?_
  rintro e w1 ⟨⟨ok, rfl, hok⟩, hb1⟩
  obtain rfl : ok = true := hok.2 HY.out
  simp only [World.size_alloc] at hb1
  have hs1 : w.heap.size < w1.heap.size := Nat.lt_of_succ_le (by simpa using hb1.size)
  have hst0 : 0 ≤ st := HY.out.2.2.1
  have hst5 : st ≤ 5 := HY.out.2.2.2
  have hbw1 : Below w.heap.size w w1 := ((Below.refl _ w).alloc (Nat.le_refl _) _).trans (hb1.mono (Nat.le_succ _))
  have c0 : w1.cell? ⟨w.heap.size, 0, none⟩ = some (.slice a 4 c) := by rw [hb1.cell (by simp)]; simp
  have c1 : w1.cell? ⟨w.heap.size, 1, none⟩ = some (.int .i64 st) := by rw [hb1.cell (by simp)]; simp
  have HC0 : Hid (w1.cell? ⟨w.heap.size, 0, none⟩ = some (.slice a 4 c)) := c0
  have HC1 : Hid (w1.cell? ⟨w.heap.size, 1, none⟩ = some (.int .i64 st)) := c1
  clear hok hb1
  go_wp2_with (first | (at_make; refine wpList_make_full _ rfl _ _ 24 rfl w1.heap.size 3 i0 (.int .i64 0) 1 Tryz.underlying24 hi hz0 hz1 .i64 .i64 _ _ 20 rfl rfl rfl rfl (by rw [hz2]; omega) (by unfold maxLen; omega) (Nat.le_refl _) ?_; intro w2 own2 grow2) | fail)
  rw [show (madeCells (Value.int .i64 0).cells (20 * 1)).toList = (wordsK xs 0 st).map I from (toList_madeCells_one _ _).trans (by rw [wordsK]; simp only [mk]; rw [show wordsG (if 0 < 0 then xs.getD 0 0 else 0) (if 1 < 0 then xs.getD 1 0 else 0) (if 2 < 0 then xs.getD 2 0 else 0) (if 3 < 0 then xs.getD 3 0 else 0) 0 0 0 0 st = List.replicate 20 0 from wordsG_new st]; rfl)] at own2
  have hb2 : Below w1.heap.size w1 w2 := (Below.refl _ _).grown grow2 (Nat.le_refl _) (fun k e => by cases e)
  clear grow2
  have HD : Hid (∀ k, k < 4 → xs.getD k 0 ≠ 0 → (1 ≤ xs.getD k 0 ∧ xs.getD k 0 ≤ 6) ∧ ∀ j, j < k → xs.getD j 0 ≠ xs.getD k 0) := fun k hk h0 => by
    rcases HY.out.1 k hk with h | ⟨h1, h2 | ⟨i, hi, e, _, h3⟩⟩
    · exact absurd h h0
    · exact absurd h2.1 (by omega)
    · obtain rfl : k = i := by omega
      exact ⟨h1, h3⟩
  go_loopw [4] (fun i wr => ∃ k : Nat, k ≤ 4 ∧ i = .int .i64 (k : Int) ∧ wr.ownsRow w1.heap.size 3 1 (.slice (some ⟨w1.heap.size, 0, none⟩) 20 20) 20 ((wordsK xs k st).map I) ∧ Below w1.heap.size w1 wr) (fun i _ => 4 - (intOf i).toNat)
  case atStart => exact ⟨0, Nat.zero_le _, rfl, own2, hb2⟩
  case round =>
    obtain ⟨k, hk, rfl, ho, hb⟩ := hrel
    have d0 : wr.cell? ⟨w.heap.size, 0, none⟩ = some (.slice a 4 c) := (hb.cell hs1).trans c0
    have d1 : wr.cell? ⟨w.heap.size, 1, none⟩ = some (.int .i64 st) := (hb.cell hs1).trans c1
    have hbw : Below w.heap.size w wr := hbw1.trans (hb.mono hbw1.size)
    clear own2 hb2 c0 c1
    by_cases hlt : k < 4
    · rcases (HA.out.below hbw (Nat.le_refl _)).2.2 with h0 | ⟨p1, o1, rfl, g1⟩
      · omega
      have e1 := g1 k hlt
      obtain ⟨x, hx⟩ : ∃ x, xs.getD k 0 = x := ⟨_, rfl⟩
      rw [hx] at e1
      have HX : Hid (xs.getD k 0 = x) := hx
      have HO : Hid (wr.ownsRow w1.heap.size 3 1 (.slice (some ⟨w1.heap.size, 0, none⟩) 20 20) 20 ((wordsK xs k st).map I)) := ho
      have hst := (ho.stored k (I x)).1
      rw [← List.map_set] at hst
      have HS : Hid ((wr.setCell ⟨w1.heap.size, k, none⟩ (I x)).ownsRow w1.heap.size 3 1 (.slice (some ⟨w1.heap.size, 0, none⟩) 20 20) 20 (((wordsK xs k st).set k x).map I)) := hst
      have hf := ho.frozenAt k
      obtain ⟨u, hc⟩ := own_cell ho (show k < 20 by omega)
      clear g1 hx ho hst
      go_wp2_with fail
      refine (at_row k hlt _).mono ?_
      rintro e w3 ⟨rfl, rfl⟩
      by_cases hx0 : x = 0
      · subst hx0
        go_wp2
        refine ⟨⟨k + 1, by omega, by go_num, ?_, hb.setCell (Nat.le_refl _) _⟩, by simp [intOf]; omega⟩
        rw [← wordsK_none hlt HX.out]
        exact HS.out
      · have hv := HD.out k hlt (by rw [HX.out]; exact hx0)
        rw [HX.out] at hv
        have HNE : Hid (∀ j, j < k → xs.getD j 0 ≠ x) := hv.2
        replace hv := hv.1
        have hx1 : (x == 0) = false := by simpa using hx0
        obtain ⟨m2, hm2⟩ : ∃ m : Nat, m = (x + 3).toNat := ⟨_, rfl⟩
        have lt2 : m2 < 20 := by omega
        have HM2 : Hid (m2 = (x + 3).toNat) := hm2
        clear hm2
        go_wp2_with fail
        refine (at_owner x m2 hv HM2.out _).mono ?_
        rintro e w4 ⟨rfl, hw4⟩
        have ho4 : w4.ownsRow w1.heap.size 3 1 (.slice (some ⟨w1.heap.size, 0, none⟩) 20 20) 20 (((wordsK xs k st).set k x).map I) := by rw [hw4]; exact HS.out
        have hb4 : Below w1.heap.size w1 w4 := by rw [hw4]; exact hb.setCell (Nat.le_refl _) _
        have q1 : w4.cell? ⟨w.heap.size, 1, none⟩ = some (.int .i64 st) := (hb4.cell hs1).trans ((hb.cell hs1).symm.trans d1)
        have hst4 := (ho4.stored m2 (I ((k : Int) + 1))).1
        rw [← List.map_set] at hst4
        have HS4 : Hid ((w4.setCell ⟨w1.heap.size, m2, none⟩ (I ((k : Int) + 1))).ownsRow w1.heap.size 3 1 (.slice (some ⟨w1.heap.size, 0, none⟩) 20 20) 20 ((((wordsK xs k st).set k x).set m2 ((k : Int) + 1)).map I)) := hst4
        have hf4 := ho4.frozenAt m2
        obtain ⟨u4, hc4⟩ := own_cell ho4 lt2
        have ne4 : w1.heap.size ≠ w.heap.size := by omega
        clear hw4 ho4 hst4 hf hc HS HO d0 d1 e1
        by_cases hvia : (k : Int) + 1 < st
        · have hvia' : (k : Int) < st - 1 := by omega
          obtain ⟨m5, hm5⟩ : ∃ m : Nat, m = (x + 13).toNat := ⟨_, rfl⟩
          have lt5 : m5 < 20 := by omega
          have HM5 : Hid (m5 = (x + 13).toNat) := hm5
          clear hm5
          go_wp2_with fail
          refine (at_via x m5 hv HM5.out _).mono ?_
          rintro e w5 ⟨rfl, hw5⟩
          have ho5 : w5.ownsRow w1.heap.size 3 1 (.slice (some ⟨w1.heap.size, 0, none⟩) 20 20) 20 ((((wordsK xs k st).set k x).set m2 ((k : Int) + 1)).map I) := by rw [hw5]; exact HS4.out
          have hb5 : Below w1.heap.size w1 w5 := by rw [hw5]; exact hb4.setCell (Nat.le_refl _) _
          have hst5' := (ho5.stored m5 (I ((k : Int) + 1))).1
          rw [← List.map_set] at hst5'
          have HS5 : Hid ((w5.setCell ⟨w1.heap.size, m5, none⟩ (I ((k : Int) + 1))).ownsRow w1.heap.size 3 1 (.slice (some ⟨w1.heap.size, 0, none⟩) 20 20) 20 (((((wordsK xs k st).set k x).set m2 ((k : Int) + 1)).set m5 ((k : Int) + 1)).map I)) := hst5'
          have hf5 := ho5.frozenAt m5
          obtain ⟨u5, hc5⟩ := own_cell ho5 lt5
          clear hw5 ho5 hst5' hf4 hc4 HS4 q1
          go_wp2
          refine ⟨⟨k + 1, by omega, by go_num, ?_, hb5.setCell (Nat.le_refl _) _⟩, by simp [intOf]; omega⟩
          rw [← wordsK_step hlt HX.out hv HNE.out, stepW, if_pos hvia, ← HM2.out, ← HM5.out]
          exact HS5.out
        · have hvia' : ¬ ((k : Int) < st - 1) := by omega
          go_wp2
          refine ⟨⟨k + 1, by omega, by go_num, ?_, hb4.setCell (Nat.le_refl _) _⟩, by simp [intOf]; omega⟩
          rw [← wordsK_step hlt HX.out hv HNE.out, stepW, if_neg (by omega), ← HM2.out]
          exact HS4.out
    · obtain rfl : k = 4 := by omega
      have HB : Hid (IntAt wr a 4 xs) := HA.out.below hbw (Nat.le_refl _)
      have HO : Hid (wr.ownsRow w1.heap.size 3 1 (.slice (some ⟨w1.heap.size, 0, none⟩) 20 20) 20 ((wordsK xs 4 st).map I)) := ho
      clear ho
      rw [wordsC_zero] at HO
      have hsr : w1.heap.size ≤ wr.heap.size := hb.size
      clear HD
      go_wp2
      go_loopw [6] (fun i wt => ∃ q : Nat, q ≤ 3 ∧ i = .int .i64 (q : Int) ∧ wt.ownsRow w1.heap.size 3 1 (.slice (some ⟨w1.heap.size, 0, none⟩) 20 20) 20 ((wordsC xs q st).map I) ∧ Below w1.heap.size w1 wt) (fun i _ => 3 - (intOf i).toNat)
      case atStart => exact ⟨0, Nat.zero_le _, rfl, HO.out, hb⟩
      case round =>
        obtain ⟨q, hq, rfl, ho, hbt⟩ := hrel
        clear HO HB hbw d0 d1
        have d0 := (hbt.cell (p := ⟨w.heap.size, 0, none⟩) hs1).trans HC0.out
        have d1 := (hbt.cell (p := ⟨w.heap.size, 1, none⟩) hs1).trans HC1.out
        have HB : Hid (IntAt wr a 4 xs) := HA.out.below (hbw1.trans (hbt.mono hbw1.size)) (Nat.le_refl _)
        have HO : Hid (wr.ownsRow w1.heap.size 3 1 (.slice (some ⟨w1.heap.size, 0, none⟩) 20 20) 20 ((wordsC xs q st).map I)) := ho
        have hst := hbt.size
        clear ho
        by_cases hlt2 : q < 3
        · obtain ⟨m, hm⟩ : ∃ m : Nat, m = 10 + q := ⟨_, rfl⟩
          have ltm : m < 20 := by omega
          have HM : Hid (m = 10 + q) := hm
          clear hm
          go_wp2
          go_region_with (first
            | (go_at_call 63; refine (at_count q m hlt2 HM.out _).mono ?_; rintro e w3 ⟨rfl, rfl⟩)
            | (go_at_call 62; refine (specHowMany_four a c st (q : Int) xs _ (HB.out.below (Below.refl _ wr).drew (Nat.le_refl _))).mono ?_; rintro e w4 ⟨rfl, hb4⟩
               have ho4 := owns_below HO.out ((Below.refl wr.heap.size wr).drew.trans hb4) (Nat.le_refl _)
               have hf4 := ho4.frozenAt m
               obtain ⟨u4, hc4⟩ := own_cell ho4 ltm))
          all_goals
            have hb5 : Below w1.heap.size w1 w4 := hbt.drew.trans (hb4.mono hst)
            have hs5 := (ho4.stored m (I (cntK xs (q : Int) 4))).1
            rw [← List.map_set, show (wordsC xs q st).set m (cntK xs (q : Int) 4) = wordsC xs (q + 1) st by rw [HM.out]; exact wordsC_step xs q hlt2 st] at hs5
            have HS : Hid ((w4.setCell ⟨w1.heap.size, m, none⟩ (I (cntK xs (q : Int) 4))).ownsRow w1.heap.size 3 1 (.slice (some ⟨w1.heap.size, 0, none⟩) 20 20) 20 ((wordsC xs (q + 1) st).map I)) := hs5
            clear hs5 ho4 hf4 hc4
            go_wp2
            refine ⟨?_, ?m1⟩
            (repeat apply Exists.intro)
            refine ⟨?r1, rfl⟩
            case r1 => exact ⟨q + 1, by omega, by go_num, HS.out, hb5.setCell (Nat.le_refl _) _⟩
            case m1 => simp [intOf]; omega
        · obtain rfl : q = 3 := by omega
          have hf := HO.out.frozenAt 13
          obtain ⟨u, hc⟩ := own_cell HO.out (show 13 < 20 by omega)
          have hs5 := (HO.out.stored 13 (I st)).1
          rw [← List.map_set, wordsC_end] at hs5
          have HS : Hid ((wr.setCell ⟨w1.heap.size, 13, none⟩ (I st)).ownsRow w1.heap.size 3 1 (.slice (some ⟨w1.heap.size, 0, none⟩) 20 20) 20 ((specL xs st).map I)) := hs5
          clear hs5
          go_wp2
          go_region_with (first
            | (go_at_call 31; refine (specStateAt_any _).mono ?_; rintro e w3 ⟨rfl, rfl⟩))
          all_goals
            go_wp2
            go_ret
            exact ⟨⟨_, _, _, rfl, (own_intAt HS.out (by omega)).below (Below.refl _ _).drew (Nat.le_refl _)⟩, (hbw1.trans ((hbt.setCell (p := ⟨w1.heap.size, 13, none⟩) (Nat.le_refl _) (I st)).mono hbw1.size)).drew⟩
end
section
open Go.ChangeShapes Go.WideShapes Go.ChangeAt Go.RowKit
def wordF (xs : List Int) (st : Int) (p : Int) : Int := (specL xs st).getD p.toNat 0
theorem wordF_row {xs : List Int} {st : Int} {k : Int} (hk : 0 ≤ k ∧ k ≤ 3) : wordF xs st k = xs.getD k.toNat 0 := by
  have h : k = 0 ∨ k = 1 ∨ k = 2 ∨ k = 3 := by omega
  rcases h with rfl | rfl | rfl | rfl <;> rfl
theorem wordF_state {xs : List Int} {st : Int} : wordF xs st 13 = st := rfl
theorem wordF_ok {xs : List Int} {st : Int} (h : OkRows xs st) : FOk (wordF xs st) := by
  obtain ⟨y0, y1, y2, y3, rfl⟩ := four_of h.1
  have h4 := ((okFour_iff y0 y1 y2 y3 st).1 h).2
  refine ⟨fun k h0 h3 => ?_, by rw [wordF_state]; exact ⟨h.2.1, h.2.2.1⟩⟩
  rw [p1_pos ⟨h0, h3⟩, wordF_row ⟨h0, h3⟩]
  have hk : k = 0 ∨ k = 1 ∨ k = 2 ∨ k = 3 := by omega
  unfold OkFour at h4
  rcases hk with rfl | rfl | rfl | rfl
  · show y0 = 0 ∨ _; simp; omega
  · show y1 = 0 ∨ _; simp; omega
  · show y2 = 0 ∨ _; simp; omega
  · show y3 = 0 ∨ _; simp; omega
theorem bytes_now3 {w w' : World} {a : Option Addr} {n : Nat} (h : BytesAt w w.heap.size a n) (hb : Below w.heap.size w w') : BytesAt w' w'.heap.size a n :=
  (h.keep hb.block).mono hb.size
theorem rbox_put0 {w : World} {b n c : Nat} {a : Option Addr} {st : Int} (h : RBox w b a n c st) (a' : Option Addr) (n' c' : Nat) : RBox (w.setCell ⟨b, 0, none⟩ (.slice a' n' c')) b a' n' c' st := by
  unfold RBox at h ⊢
  obtain ⟨hlt, h'⟩ := Array.getElem?_eq_some_iff.1 h
  show (w.heap.modify b _)[b]? = _
  rw [Array.getElem?_eq_getElem (by simpa using hlt), Array.getElem_modify_self, h']
  rfl
theorem rbox_put1 {w : World} {b n c : Nat} {a : Option Addr} {st : Int} (h : RBox w b a n c st) (st' : Int) : RBox (w.setCell ⟨b, 1, none⟩ (.int .i64 st')) b a n c st' := by
  unfold RBox at h ⊢
  obtain ⟨hlt, h'⟩ := Array.getElem?_eq_some_iff.1 h
  show (w.heap.modify b _)[b]? = _
  rw [Array.getElem?_eq_getElem (by simpa using hlt), Array.getElem_modify_self, h']
  rfl
theorem keepFive {w : World} {br bo : Nat} {x0 x1 y0 y1 y2 : Value} (h : w.cell? ⟨br, 0, none⟩ = some x0 ∧ w.cell? ⟨br, 1, none⟩ = some x1 ∧ w.cell? ⟨bo, 0, none⟩ = some y0 ∧ w.cell? ⟨bo, 1, none⟩ = some y1 ∧ w.cell? ⟨bo, 2, none⟩ = some y2) {q : Addr} (h1 : q.block ≠ br) (h2 : q.block ≠ bo) (v : Value) :
    (w.setCell q v).cell? ⟨br, 0, none⟩ = some x0 ∧ (w.setCell q v).cell? ⟨br, 1, none⟩ = some x1 ∧ (w.setCell q v).cell? ⟨bo, 0, none⟩ = some y0 ∧ (w.setCell q v).cell? ⟨bo, 1, none⟩ = some y1 ∧ (w.setCell q v).cell? ⟨bo, 2, none⟩ = some y2 := by
  rw [World.cell?_setCell_far w q ⟨br, 0, none⟩ v h1, World.cell?_setCell_far w q ⟨br, 1, none⟩ v h1, World.cell?_setCell_far w q ⟨bo, 0, none⟩ v h2, World.cell?_setCell_far w q ⟨bo, 1, none⟩ v h2, World.cell?_setCell_far w q ⟨bo, 2, none⟩ v h2]
  exact h
theorem drew_cell (w : World) (a : Addr) : w.drew.cell? a = w.cell? a := rfl
theorem pair_far {w : World} {q n : Nat} {fs : List Int} (h : PairAt w (some ⟨q, 0, none⟩) n fs) {p : Addr} (hp : p.block ≠ q) (u : Value) : PairAt (w.setCell p u) (some ⟨q, 0, none⟩) n fs := by
  obtain ⟨h1, h2, h3 | ⟨b, o, h3, h4⟩⟩ := h
  · exact ⟨h1, h2, .inl h3⟩
  · refine ⟨h1, h2, .inr ⟨b, o, h3, fun i hi => ?_⟩⟩
    cases h3
    rw [World.cell?_setCell_far w p _ u hp]
    exact h4 i hi
theorem int_far' {w : World} {q n : Nat} {xs : List Int} (h : IntAt w (some ⟨q, 0, none⟩) n xs) {p : Addr} (hp : p.block ≠ q) (u : Value) : IntAt (w.setCell p u) (some ⟨q, 0, none⟩) n xs := by
  obtain ⟨h1, h2, h3 | ⟨b, o, h3, h4⟩⟩ := h
  · exact ⟨h1, h2, .inl h3⟩
  · refine ⟨h1, h2, .inr ⟨b, o, h3, fun i hi => ?_⟩⟩
    cases h3
    rw [World.cell?_setCell_far w p _ u hp]
    exact h4 i hi
structure KnSt (w : World) (p : Nat) (a : Option Addr) (n c g : Nat) (st : Int) (xs : List Int) (br : Nat) (wr : World) : Prop where
  cur : Cur 84 wr p a n c
  rr : RBox wr w.heap.size none 0 0 0
  oo : OBox wr (w.heap.size + 1) 0 0 0
  bel : Below w.heap.size w wr
  here : IntAt wr (some ⟨g, 0, none⟩) 4 xs
  rb : RBox wr br (some ⟨g, 0, none⟩) 4 4 st
theorem KnSt.far {w wr wr' : World} {p n c g br : Nat} {a : Option Addr} {st : Int} {xs : List Int} (h : KnSt w p a n c g st xs br wr) (hp : w.heap.size + 1 < p) (hg : p < g) (hb : g < br) (hC : Cur 84 wr' p a n c) (hf : wr.grownBy wr' (some p)) : KnSt w p a n c g st xs br wr' :=
  ⟨hC, h.rr.far hf (by omega), h.oo.far hf (by omega), h.bel.grown hf h.bel.size (fun k e => by cases e; omega), h.here.far hf (by omega), h.rb.far hf (by omega)⟩

theorem drawKnown_any (a : Option Addr) (n c : Nat) (w : World) (hn : n ≤ 1048576) (hB : BytesAt w w.heap.size a n) :
    Calls Tryz.prog 6 #[.slice a n c] w fun e w' => ∃ (g : Nat) (st : Int) (xs : List Int) (kind k v : Int) (q cq : Nat), e = .returned (.tuple #[.agg #[.slice (some ⟨g, 0, none⟩) 4 4, .int .i64 st], OpV kind k v, .slice (some ⟨q, 0, none⟩) (needL (wordF xs st) kind k v).length cq]) ∧ IntAt w' (some ⟨g, 0, none⟩) 4 xs ∧ OkRows xs st ∧ OpGood kind k v ∧ PairAt w' (some ⟨q, 0, none⟩) (needL (wordF xs st) kind k v).length (flatP (wordF xs st) (needL (wordF xs st) kind k v)) ∧ Below w.heap.size w w' := by
  have HB : Hid (BytesAt w w.heap.size a n) := hB
  clear hB
  go_enter Tryz.func6, Tryz.ntmps6
  go_wp2_with fail
  obtain ⟨W0, hW0⟩ : ∃ W0, W0 = (w.alloc (.cells #[.slice none 0 0, .int .i64 0] 26)).alloc (.cells #[.int .i64 0, .int .i64 0, .int .i64 0] 28) := ⟨_, rfl⟩
  have hs0 : W0.heap.size = w.heap.size + 1 + 1 := by rw [hW0]; simp
  have hb0 : Below w.heap.size w W0 := by rw [hW0]; exact ((Below.refl _ w).alloc (Nat.le_refl _) _).alloc (by simp) _
  have hr0 : RBox W0 w.heap.size none 0 0 0 := by rw [hW0]; exact (rbox_new w none 0 0 0).far (p := w.heap.size + 5) (World.grownBy_alloc _ _ _) (by omega)
  have ho0 : OBox W0 (w.heap.size + 1) 0 0 0 := by
    rw [hW0]
    have h := obox_new (w.alloc (.cells #[.slice none 0 0, .int .i64 0] 26)) 0 0 0
    simpa using h
  rw [← hW0]
  clear hW0
  refine (l1New_any a n c _ hn (bytes_now3 HB.out hb0)).mono ?_
  rintro e w1 ⟨rfl, hC1, hb1, hs1⟩
  rw [hs0] at hC1 hb1 hs1
  have HR1 : Hid (RBox w1 w.heap.size none 0 0 0 ∧ OBox w1 (w.heap.size + 1) 0 0 0) :=
    ⟨hr0.far (p := w.heap.size + 5) (far_below (hb1.mono (by omega)) _) (by omega), ho0.far (p := w.heap.size + 5) (far_below (hb1.mono (by omega)) _) (by omega)⟩
  have HB1 : Hid (Below w.heap.size w w1) := hb0.trans (hb1.mono (by omega))
  clear hb0 hb1 hr0 ho0
  obtain ⟨p, hp⟩ : ∃ p, p = w.heap.size + 1 + 1 := ⟨_, rfl⟩
  have HC1 : Hid (Cur 84 w1 p a n c) := by rw [hp]; exact hC1
  rw [hs0, ← hp]
  have hpw : w.heap.size + 1 < p := by omega
  clear hC1 hp hs0 hs1
  go_wp2_with fail
  refine (l3DrawRight_ok p a n c _ HC1.out).mono ?_
  rintro e w2 ⟨g, xs, st, rfl, hgw, hown, hok, hC2, hf2⟩
  have hpl1 := HC1.out.lt
  have hgp : p < g := by omega
  have hI : IntAt w2 (some ⟨g, 0, none⟩) 4 xs := own_intAt hown (by omega)
  have hg2 : g < w2.heap.size := World.block_lt_of_cell? w2 _ (hI.cells 0 (by omega))
  have S0 : KnSt w p a n c g st xs w2.heap.size (w2.alloc (.cells #[.slice (some ⟨g, 0, none⟩) 4 4, .int .i64 st] 26)) :=
    ⟨cur_alloc hC2 _, (HR1.out.1.far hf2 (by omega)).far (p := p) (World.grownBy_alloc _ _ _) (by omega), (HR1.out.2.far hf2 (by omega)).far (p := p) (World.grownBy_alloc _ _ _) (by omega),
      (HB1.out.grown hf2 HB1.out.size (fun k e => by cases e; omega)).alloc (by have := hf2.size; have := HB1.out.size; omega) _, hI.far (p := p) (World.grownBy_alloc _ _ _) (by omega), rbox_new _ _ _ _ _⟩
  obtain ⟨br, hbr⟩ : ∃ br, br = w2.heap.size := ⟨_, rfl⟩
  obtain ⟨w3, hw3⟩ : ∃ w3, w3 = w2.alloc (.cells #[.slice (some ⟨g, 0, none⟩) 4 4, .int .i64 st] 26) := ⟨_, rfl⟩
  rw [← hbr, ← hw3] at S0
  have HS0 : Hid (KnSt w p a n c g st xs br w3) := S0
  have hbr1 : g < br := by omega
  have HOK : Hid (OkRows xs st) := hok
  clear S0 hI hown hok hC2 hf2 HR1 HB1 HC1 hg2 hpl1 hgw
  go_wp2_with fail
  rw [← hbr, ← hw3]
  clear hbr hw3
  refine (l4DrawRight_ok p a n c _ HS0.out.cur).mono ?_
  rintro e w4 ⟨kind, k, v, rfl, hgood, hC4, hf4⟩
  have HGD : Hid (OpGood kind k v) := hgood
  have S1 := (HS0.out.far hpw hgp hbr1 hC4 hf4)
  have hbo1 : br < w4.heap.size := S1.rb.facts.2.2.2.2
  have S2 : KnSt w p a n c g st xs br (w4.alloc (.cells #[.int .i64 kind, .int .i64 k, .int .i64 v] 28)) := S1.far hpw hgp hbr1 (cur_alloc hC4 _) (World.grownBy_alloc _ _ _)
  obtain ⟨b0, b1, _⟩ := S2.rb.facts
  obtain ⟨bo, hbo⟩ : ∃ bo, bo = w4.heap.size := ⟨_, rfl⟩
  have O2 := obox_new w4 kind k v
  obtain ⟨w5, hw5⟩ : ∃ w5, w5 = w4.alloc (.cells #[.int .i64 kind, .int .i64 k, .int .i64 v] 28) := ⟨_, rfl⟩
  have S2' := S2
  rw [← hw5] at S2'
  rw [← hw5, ← hbo] at O2
  have hbo2 : br < bo := by omega
  have HS2 : Hid (KnSt w p a n c g st xs br w5 ∧ OBox w5 bo kind k v) := ⟨S2', O2⟩
  clear hgood S1 S2 S2' O2 hC4 hf4 hbo1 HS0
  go_wp2_with fail
  rw [← hbo, ← hw5]
  clear hbo hw5
  refine (specWordsOf_yes _ 4 st xs _ HS2.out.1.here ((ok_iff HOK.out.1).2 HOK.out)).mono ?_
  rintro e w6 ⟨⟨aw, nw, cw, rfl, hW⟩, hb6⟩
  clear b0 b1
  obtain ⟨L, hL⟩ : ∃ L, needL (wordF xs st) kind k v = L := ⟨_, rfl⟩
  have HL : Hid (needL (wordF xs st) kind k v = L) := hL
  obtain ⟨f, hf⟩ : ∃ f, wordF xs st = f := ⟨_, rfl⟩
  have HF : Hid (wordF xs st = f) := hf
  have hFO : FOk f := hf ▸ wordF_ok HOK.out
  have hNO := need_ok hFO HGD.out
  rw [hf] at hL
  rw [hL] at hNO
  have HN : Hid (L.Nodup ∧ L.length ≤ 8 ∧ (∀ p ∈ L, 0 ≤ p ∧ p ≤ 19) ∧ 0 < L.length) := hNO
  have HX : Hid (∀ i, i ≤ L.length → nextM (flatP f (L.take i)) i kind k v = L.getD i (-1)) := fun i hi => by
    have h := next_prefix hFO HGD.out i (by rw [hL]; exact hi)
    rw [hL] at h
    exact h
  have hnw : nw = 20 := by have h := hW.1; rw [← h]; rfl
  subst hnw
  obtain ⟨bw, ow, haw, hcw⟩ : ∃ bw ow, aw = some ⟨bw, ow, none⟩ ∧ ∀ i, i < 20 → w6.cell? ⟨bw, ow + i, none⟩ = some (I ((specL xs st).getD i 0)) := by
    obtain ⟨_, _, h | ⟨b, o, h1, h2⟩⟩ := hW
    · omega
    · exact ⟨b, o, h1, h2⟩
  subst haw
  have HW6 : Hid ((∀ i, i < 20 → w6.cell? ⟨bw, ow + i, none⟩ = some (I ((specL xs st).getD i 0))) ∧ Below w5.heap.size w5 w6) := ⟨hcw, hb6⟩
  obtain ⟨i0, hin⟩ : ∃ i, Tryz.prog.info? 49 = some i := ⟨_, rfl⟩
  have hz0 : i0.zero = some (.agg #[.int .i64 0, .int .i64 0]) := by cases hin; kernel_rfl
  have hz1 : i0.size = 2 := by cases hin; kernel_rfl
  have hz2 : i0.bytes = 16 := by cases hin; kernel_rfl
  have E0 : Hid ((w6.alloc (.cells #[] 49)).ownsRow w6.heap.size 49 2 (.slice (some ⟨w6.heap.size, 0, none⟩) 0 0) 0 ((flatP f (L.take 0)).map I) ∧ Below w6.heap.size w6 (w6.alloc (.cells #[] 49))) :=
    ⟨⟨rfl, .inr ⟨w6.heap.size, 0, #[], rfl, Nat.le_refl _, World.alloc_heap_new w6 _, Nat.le_refl _, by unfold maxLen; omega, rfl, rfl⟩⟩, (Below.refl _ _).alloc (Nat.le_refl _) _⟩
  have LO : Hid (∀ {wr : World}, Below w6.heap.size w6 wr → Below w5.heap.size w5 wr) := fun h => HW6.out.2.trans (h.mono HW6.out.2.size)
  clear hW hcw hb6 hFO hNO hL hf
  go_wp2_with fail
  go_loopw [9, 10] (fun gv i wr => ∃ (j q cq : Nat), j ≤ L.length ∧ i = .int .i64 (j : Int) ∧ gv = .slice (some ⟨q, 0, none⟩) j cq ∧ wr.ownsRow w6.heap.size 49 2 (.slice (some ⟨q, 0, none⟩) j cq) j ((flatP f (L.take j)).map I) ∧ Below w6.heap.size w6 wr) (fun _ i _ => 12 - (intOf i).toNat)
  case atStart => exact ⟨0, w6.heap.size, 0, Nat.zero_le _, rfl, rfl, E0.out⟩
  case round =>
    obtain ⟨j, q, cq, hj, rfl, rfl, hs⟩ := hrel
    have HS : Hid (wr.ownsRow w6.heap.size 49 2 (.slice (some ⟨q, 0, none⟩) j cq) j ((flatP f (L.take j)).map I) ∧ Below w6.heap.size w6 wr ∧ j ≤ L.length) := ⟨hs.1, hs.2, hj⟩
    have hP : PairAt wr (some ⟨q, 0, none⟩) j (flatP f (L.take j)) := own_pairAt hs.1 (by have := HN.out.2.1; omega)
    have HP : Hid (PairAt wr (some ⟨q, 0, none⟩) j (flatP f (L.take j))) := hP
    have hj12 : (j : Int) < 12 := by have := HN.out.2.1; omega
    have O5 := HS2.out.2
    have OW : OBox wr bo kind k v := ((LO.out hs.2).block _ (Array.getElem?_eq_some_iff.1 O5).1).trans O5
    obtain ⟨c0, c1, c2, _⟩ := OW.facts
    clear hs hP O5 OW
    go_wp2_with fail
    refine (specNext_any _ j cq kind k v _ _ HP.out).mono ?_
    rintro e w7 ⟨rfl, hb7⟩
    rw [HX.out j hj]
    have H7 : Hid (w7.ownsRow w6.heap.size 49 2 (.slice (some ⟨q, 0, none⟩) j cq) j ((flatP f (L.take j)).map I) ∧ Below w6.heap.size w6 w7) :=
      ⟨HS.out.1.kept (row := none) (far_below hb7 none) (.inr (by simp [Value.ownBlock])), HS.out.2.1.trans (hb7.mono HS.out.2.1.size)⟩
    clear hb7 c0 c1 c2
    by_cases hlt : j < L.length
    · have hpm := HN.out.2.2.1 (L.getD j (-1)) (by rw [List.getD_eq_getElem?_getD, List.getElem?_eq_getElem hlt]; exact List.getElem_mem hlt)
      obtain ⟨pn, hpn⟩ : ∃ pn : Nat, L.getD j (-1) = (pn : Int) := ⟨(L.getD j (-1)).toNat, by omega⟩
      have htk : L.take (j + 1) = L.take j ++ [(pn : Int)] := by
        rw [List.take_add_one, List.getElem?_eq_getElem hlt]
        have : L[j] = (pn : Int) := by rw [← hpn, List.getD_eq_getElem?_getD, List.getElem?_eq_getElem hlt]; rfl
        simp [this]
      have HT : Hid (L.take (j + 1) = L.take j ++ [(pn : Int)] ∧ j < L.length) := ⟨htk, hlt⟩
      rw [hpn] at hpm ⊢
      have hp0 : (0 : Int) ≤ (pn : Int) := by omega
      have hp1 : (pn : Int) < 20 := by omega
      have hp2 : ¬ (pn : Int) < 0 := by omega
      have cc : w7.cell? ⟨bw, ow + pn, none⟩ = some (I ((specL xs st).getD pn 0)) := by
        have h := HW6.out.1 pn (by omega)
        exact (H7.out.2.cell (p := ⟨bw, ow + pn, none⟩) (World.block_lt_of_cell? w6 _ h)).trans h
      have ef : (specL xs st).getD pn 0 = f (pn : Int) := by rw [← HF.out]; unfold wordF; simp
      rw [ef] at cc
      have hj8 : j < 8 := by have := HN.out.2.1; omega
      clear hpm htk ef hpn
      go_wp2_with (first
        | (at_builtin; refine wpList_append_own _ rfl _ _ 29 rfl w6.heap.size 49 i0 (.agg #[.int .i64 0, .int .i64 0]) 2 16 Tryz.underlying29 hin hz0 hz1 hz2 rfl (by decide) _ _ _ rfl (H7.out.1.alloc _) ⟨w7.heap.size, 0, none⟩ 1 1 [.int .i64 (pn : Int), I (f (pn : Int))] rfl rfl (cell_two_new _ _ _ _) (by intro u hu; simp at hu; rcases hu with rfl | rfl <;> rfl) (by unfold maxLen; omega) (by omega) (by have := H7.out.2.size; simp; omega) ?_; intro v' w8 hown' hgrow _; obtain ⟨q', cq', rfl⟩ := ownsRow_succ hown'; have HO : Hid (w8.ownsRow w6.heap.size 49 2 (.slice (some ⟨q', 0, none⟩) (j + 1) cq') (j + 1) ((flatP f (L.take j)).map I ++ [.int .i64 (pn : Int), I (f (pn : Int))]) ∧ (w7.alloc (.cells #[.int .i64 (pn : Int), I (f (pn : Int))] 49)).grownBy w8 (some q)) := ⟨hown', hgrow⟩; clear hown' hgrow)
        | go_in)
      have hb8 : Below w6.heap.size w6 w8 := (H7.out.2.alloc H7.out.2.size (.cells #[.int .i64 (pn : Int), I (f (pn : Int))] 49)).grown HO.out.2 (by have h := H7.out.2.size; simp; omega) (fun k e => by cases e; exact (H7.out.1.lt q rfl).1)
      exact ⟨⟨j + 1, q', cq', HT.out.2, by go_num, rfl, by rw [HT.out.1, flatP_snoc, List.map_append]; exact HO.out.1, hb8⟩, by simp [intOf]; omega⟩
    · obtain rfl : j = L.length := by have := HS.out.2.2; omega
      rw [show L.getD L.length (-1) = -1 by simp [List.getD]]
      have B7 := LO.out H7.out.2
      have bw5 := HS2.out.1
      have zr : br < w5.heap.size := bw5.rb.facts.2.2.2.2
      have zo : bo < w5.heap.size := (Array.getElem?_eq_some_iff.1 HS2.out.2).1
      have z0 : w.heap.size < w5.heap.size := bw5.rr.facts.2.2.2.2
      have z1 : w.heap.size + 1 < w5.heap.size := (Array.getElem?_eq_some_iff.1 bw5.oo).1
      have R7 : RBox w7 br (some ⟨g, 0, none⟩) 4 4 st := (B7.block _ zr).trans bw5.rb
      have O7 : OBox w7 bo kind k v := (B7.block _ zo).trans HS2.out.2
      have R0 : RBox w7 w.heap.size none 0 0 0 := (B7.block _ z0).trans bw5.rr
      have O0 : OBox w7 (w.heap.size + 1) 0 0 0 := (B7.block _ z1).trans bw5.oo
      have H8 : Hid (RBox w7 w.heap.size none 0 0 0 ∧ OBox w7 (w.heap.size + 1) 0 0 0 ∧ IntAt w7 (some ⟨g, 0, none⟩) 4 xs ∧ Below w.heap.size w w7 ∧ PairAt w7 (some ⟨q, 0, none⟩) L.length (flatP f L) ∧ w6.heap.size ≤ q ∧ w5.heap.size ≤ w6.heap.size ∧ w.heap.size + 1 < w5.heap.size) :=
        ⟨R0, O0, bw5.here.below B7 (Nat.le_refl _), bw5.bel.trans (B7.mono bw5.bel.size), by have h := own_pairAt H7.out.1 (by have := HN.out.2.1; omega); rwa [List.take_length] at h, (H7.out.1.lt q rfl).1, HW6.out.2.size, z1⟩
      have K0 : Hid (w7.drew.cell? ⟨br, 0, none⟩ = some (.slice (some ⟨g, 0, none⟩) 4 4) ∧ w7.drew.cell? ⟨br, 1, none⟩ = some (.int .i64 st) ∧ w7.drew.cell? ⟨bo, 0, none⟩ = some (.int .i64 kind) ∧ w7.drew.cell? ⟨bo, 1, none⟩ = some (.int .i64 k) ∧ w7.drew.cell? ⟨bo, 2, none⟩ = some (.int .i64 v)) := ⟨R7.facts.1, R7.facts.2.1, O7.facts.1, O7.facts.2.1, O7.facts.2.2.1⟩
      obtain ⟨q0, q1, q2, q3, -⟩ := R0.facts
      obtain ⟨u0, u1, u2, u3, u4, u5, -⟩ := O0.facts
      have nb0 : w.heap.size ≠ br := by omega
      have nb1 : w.heap.size ≠ bo := by omega
      have nb2 : w.heap.size + 1 ≠ br := by omega
      have nb3 : w.heap.size + 1 ≠ bo := by omega
      clear B7 bw5 zr zo z0 z1 R7 O7 R0 O0
      have L0 : w7.cell? ⟨br, 0, none⟩ = some (.slice (some ⟨g, 0, none⟩) 4 4) ∧ w7.cell? ⟨br, 1, none⟩ = some (.int .i64 st) ∧ w7.cell? ⟨bo, 0, none⟩ = some (.int .i64 kind) ∧ w7.cell? ⟨bo, 1, none⟩ = some (.int .i64 k) ∧ w7.cell? ⟨bo, 2, none⟩ = some (.int .i64 v) := K0.out
      have L7 : ((w7.setCell ⟨w.heap.size, 0, none⟩ (.slice (some ⟨g, 0, none⟩) 4 4)).setCell ⟨w.heap.size, 1, none⟩ (.int .i64 st)).cell? ⟨br, 0, none⟩ = some (.slice (some ⟨g, 0, none⟩) 4 4) ∧ ((w7.setCell ⟨w.heap.size, 0, none⟩ (.slice (some ⟨g, 0, none⟩) 4 4)).setCell ⟨w.heap.size, 1, none⟩ (.int .i64 st)).cell? ⟨br, 1, none⟩ = some (.int .i64 st) ∧ ((w7.setCell ⟨w.heap.size, 0, none⟩ (.slice (some ⟨g, 0, none⟩) 4 4)).setCell ⟨w.heap.size, 1, none⟩ (.int .i64 st)).cell? ⟨bo, 0, none⟩ = some (.int .i64 kind) ∧ ((w7.setCell ⟨w.heap.size, 0, none⟩ (.slice (some ⟨g, 0, none⟩) 4 4)).setCell ⟨w.heap.size, 1, none⟩ (.int .i64 st)).cell? ⟨bo, 1, none⟩ = some (.int .i64 k) ∧ ((w7.setCell ⟨w.heap.size, 0, none⟩ (.slice (some ⟨g, 0, none⟩) 4 4)).setCell ⟨w.heap.size, 1, none⟩ (.int .i64 st)).cell? ⟨bo, 2, none⟩ = some (.int .i64 v) := keepFive (keepFive L0 (q := ⟨w.heap.size, 0, none⟩) nb0 nb1 _) (q := ⟨w.heap.size, 1, none⟩) nb0 nb1 _
      have L8 : (((((w7.setCell ⟨w.heap.size, 0, none⟩ (.slice (some ⟨g, 0, none⟩) 4 4)).setCell ⟨w.heap.size, 1, none⟩ (.int .i64 st)).setCell ⟨w.heap.size + 1, 0, none⟩ (.int .i64 kind)).setCell ⟨w.heap.size + 1, 1, none⟩ (.int .i64 k)).setCell ⟨w.heap.size + 1, 2, none⟩ (.int .i64 v)).cell? ⟨br, 0, none⟩ = some (.slice (some ⟨g, 0, none⟩) 4 4) ∧ (((((w7.setCell ⟨w.heap.size, 0, none⟩ (.slice (some ⟨g, 0, none⟩) 4 4)).setCell ⟨w.heap.size, 1, none⟩ (.int .i64 st)).setCell ⟨w.heap.size + 1, 0, none⟩ (.int .i64 kind)).setCell ⟨w.heap.size + 1, 1, none⟩ (.int .i64 k)).setCell ⟨w.heap.size + 1, 2, none⟩ (.int .i64 v)).cell? ⟨br, 1, none⟩ = some (.int .i64 st) ∧ (((((w7.setCell ⟨w.heap.size, 0, none⟩ (.slice (some ⟨g, 0, none⟩) 4 4)).setCell ⟨w.heap.size, 1, none⟩ (.int .i64 st)).setCell ⟨w.heap.size + 1, 0, none⟩ (.int .i64 kind)).setCell ⟨w.heap.size + 1, 1, none⟩ (.int .i64 k)).setCell ⟨w.heap.size + 1, 2, none⟩ (.int .i64 v)).cell? ⟨bo, 0, none⟩ = some (.int .i64 kind) ∧ (((((w7.setCell ⟨w.heap.size, 0, none⟩ (.slice (some ⟨g, 0, none⟩) 4 4)).setCell ⟨w.heap.size, 1, none⟩ (.int .i64 st)).setCell ⟨w.heap.size + 1, 0, none⟩ (.int .i64 kind)).setCell ⟨w.heap.size + 1, 1, none⟩ (.int .i64 k)).setCell ⟨w.heap.size + 1, 2, none⟩ (.int .i64 v)).cell? ⟨bo, 1, none⟩ = some (.int .i64 k) ∧ (((((w7.setCell ⟨w.heap.size, 0, none⟩ (.slice (some ⟨g, 0, none⟩) 4 4)).setCell ⟨w.heap.size, 1, none⟩ (.int .i64 st)).setCell ⟨w.heap.size + 1, 0, none⟩ (.int .i64 kind)).setCell ⟨w.heap.size + 1, 1, none⟩ (.int .i64 k)).setCell ⟨w.heap.size + 1, 2, none⟩ (.int .i64 v)).cell? ⟨bo, 2, none⟩ = some (.int .i64 v) := keepFive (keepFive (keepFive L7 (q := ⟨w.heap.size + 1, 0, none⟩) nb2 nb3 _) (q := ⟨w.heap.size + 1, 1, none⟩) nb2 nb3 _) (q := ⟨w.heap.size + 1, 2, none⟩) nb2 nb3 _
      have K7 : Hid (((w7.setCell ⟨w.heap.size, 0, none⟩ (.slice (some ⟨g, 0, none⟩) 4 4)).setCell ⟨w.heap.size, 1, none⟩ (.int .i64 st)).drew.cell? ⟨br, 0, none⟩ = some (.slice (some ⟨g, 0, none⟩) 4 4) ∧ ((w7.setCell ⟨w.heap.size, 0, none⟩ (.slice (some ⟨g, 0, none⟩) 4 4)).setCell ⟨w.heap.size, 1, none⟩ (.int .i64 st)).drew.cell? ⟨br, 1, none⟩ = some (.int .i64 st) ∧ ((w7.setCell ⟨w.heap.size, 0, none⟩ (.slice (some ⟨g, 0, none⟩) 4 4)).setCell ⟨w.heap.size, 1, none⟩ (.int .i64 st)).drew.cell? ⟨bo, 0, none⟩ = some (.int .i64 kind) ∧ ((w7.setCell ⟨w.heap.size, 0, none⟩ (.slice (some ⟨g, 0, none⟩) 4 4)).setCell ⟨w.heap.size, 1, none⟩ (.int .i64 st)).drew.cell? ⟨bo, 1, none⟩ = some (.int .i64 k) ∧ ((w7.setCell ⟨w.heap.size, 0, none⟩ (.slice (some ⟨g, 0, none⟩) 4 4)).setCell ⟨w.heap.size, 1, none⟩ (.int .i64 st)).drew.cell? ⟨bo, 2, none⟩ = some (.int .i64 v)) := by simp only [drew_cell]; exact L7
      have K8 : Hid ((((((w7.setCell ⟨w.heap.size, 0, none⟩ (.slice (some ⟨g, 0, none⟩) 4 4)).setCell ⟨w.heap.size, 1, none⟩ (.int .i64 st)).setCell ⟨w.heap.size + 1, 0, none⟩ (.int .i64 kind)).setCell ⟨w.heap.size + 1, 1, none⟩ (.int .i64 k)).setCell ⟨w.heap.size + 1, 2, none⟩ (.int .i64 v)).drew.cell? ⟨br, 0, none⟩ = some (.slice (some ⟨g, 0, none⟩) 4 4) ∧ (((((w7.setCell ⟨w.heap.size, 0, none⟩ (.slice (some ⟨g, 0, none⟩) 4 4)).setCell ⟨w.heap.size, 1, none⟩ (.int .i64 st)).setCell ⟨w.heap.size + 1, 0, none⟩ (.int .i64 kind)).setCell ⟨w.heap.size + 1, 1, none⟩ (.int .i64 k)).setCell ⟨w.heap.size + 1, 2, none⟩ (.int .i64 v)).drew.cell? ⟨br, 1, none⟩ = some (.int .i64 st) ∧ (((((w7.setCell ⟨w.heap.size, 0, none⟩ (.slice (some ⟨g, 0, none⟩) 4 4)).setCell ⟨w.heap.size, 1, none⟩ (.int .i64 st)).setCell ⟨w.heap.size + 1, 0, none⟩ (.int .i64 kind)).setCell ⟨w.heap.size + 1, 1, none⟩ (.int .i64 k)).setCell ⟨w.heap.size + 1, 2, none⟩ (.int .i64 v)).drew.cell? ⟨bo, 0, none⟩ = some (.int .i64 kind) ∧ (((((w7.setCell ⟨w.heap.size, 0, none⟩ (.slice (some ⟨g, 0, none⟩) 4 4)).setCell ⟨w.heap.size, 1, none⟩ (.int .i64 st)).setCell ⟨w.heap.size + 1, 0, none⟩ (.int .i64 kind)).setCell ⟨w.heap.size + 1, 1, none⟩ (.int .i64 k)).setCell ⟨w.heap.size + 1, 2, none⟩ (.int .i64 v)).drew.cell? ⟨bo, 1, none⟩ = some (.int .i64 k) ∧ (((((w7.setCell ⟨w.heap.size, 0, none⟩ (.slice (some ⟨g, 0, none⟩) 4 4)).setCell ⟨w.heap.size, 1, none⟩ (.int .i64 st)).setCell ⟨w.heap.size + 1, 0, none⟩ (.int .i64 kind)).setCell ⟨w.heap.size + 1, 1, none⟩ (.int .i64 k)).setCell ⟨w.heap.size + 1, 2, none⟩ (.int .i64 v)).drew.cell? ⟨bo, 2, none⟩ = some (.int .i64 v)) := by simp only [drew_cell]; exact L8
      clear L0 L7 L8
      go_wp2_with fail
      go_region_held3 (fun w' => w'.cell? ⟨br, 0, none⟩ = some (.slice (some ⟨g, 0, none⟩) 4 4) ∧ w'.cell? ⟨br, 1, none⟩ = some (.int .i64 st) ∧ w'.cell? ⟨bo, 0, none⟩ = some (.int .i64 kind) ∧ w'.cell? ⟨bo, 1, none⟩ = some (.int .i64 k) ∧ w'.cell? ⟨bo, 2, none⟩ = some (.int .i64 v))
        (first | (with_reducible exact K8.out) | (with_reducible exact K7.out) | (with_reducible exact K0.out) | go_keep)
        (fail)
      go_wp2
      (try simp only [Exit.inBlock, Exit.then])
      have ER := (((rbox_put1 (rbox_put0 H8.out.1 (some ⟨g, 0, none⟩) 4 4) st).set (q := ⟨w.heap.size + 1, 0, none⟩) (show w.heap.size ≠ w.heap.size + 1 by omega) (.int .i64 kind)).set (q := ⟨w.heap.size + 1, 1, none⟩) (show w.heap.size ≠ w.heap.size + 1 by omega) (.int .i64 k)).set (q := ⟨w.heap.size + 1, 2, none⟩) (show w.heap.size ≠ w.heap.size + 1 by omega) (.int .i64 v)
      have EO := ((((H8.out.2.1.set (q := ⟨w.heap.size, 0, none⟩) (show w.heap.size + 1 ≠ w.heap.size by omega) (.slice (some ⟨g, 0, none⟩) 4 4)).set (q := ⟨w.heap.size, 1, none⟩) (show w.heap.size + 1 ≠ w.heap.size by omega) (.int .i64 st)).put0 kind).put1 k).put2 v
      obtain ⟨e0, e1, -⟩ := ER.facts
      obtain ⟨f0, f1, f2, -⟩ := EO.facts
      refine bodyPost_ret (by simp [results, Tryz.results6, go_sem, e0, e1, f0, f1, f2]; try rfl) rfl ?_
      refine ⟨g, st, xs, kind, k, v, q, cq, ?_⟩
      rw [HL.out, HF.out]
      have g1 : w.heap.size ≠ g := by omega
      have g2 : w.heap.size + 1 ≠ g := by omega
      have g3 : w.heap.size ≠ q := by have h1 := H8.out.2.2.2.2.2.1; have h2 := H8.out.2.2.2.2.2.2.1; have h3 := H8.out.2.2.2.2.2.2.2; omega
      have g4 : w.heap.size + 1 ≠ q := by have h1 := H8.out.2.2.2.2.2.1; have h2 := H8.out.2.2.2.2.2.2.1; have h3 := H8.out.2.2.2.2.2.2.2; omega
      have i8 := int_far' (int_far' (int_far' (int_far' (int_far' H8.out.2.2.1 (p := ⟨w.heap.size, 0, none⟩) g1 (.slice (some ⟨g, 0, none⟩) 4 4)) (p := ⟨w.heap.size, 1, none⟩) g1 (.int .i64 st)) (p := ⟨w.heap.size + 1, 0, none⟩) g2 (.int .i64 kind)) (p := ⟨w.heap.size + 1, 1, none⟩) g2 (.int .i64 k)) (p := ⟨w.heap.size + 1, 2, none⟩) g2 (.int .i64 v)
      have p8 := pair_far (pair_far (pair_far (pair_far (pair_far H8.out.2.2.2.2.1 (p := ⟨w.heap.size, 0, none⟩) g3 (.slice (some ⟨g, 0, none⟩) 4 4)) (p := ⟨w.heap.size, 1, none⟩) g3 (.int .i64 st)) (p := ⟨w.heap.size + 1, 0, none⟩) g4 (.int .i64 kind)) (p := ⟨w.heap.size + 1, 1, none⟩) g4 (.int .i64 k)) (p := ⟨w.heap.size + 1, 2, none⟩) g4 (.int .i64 v)
      have b8 := ((((H8.out.2.2.2.1.setCell (p := ⟨w.heap.size, 0, none⟩) (Nat.le_refl _) (.slice (some ⟨g, 0, none⟩) 4 4)).setCell (p := ⟨w.heap.size, 1, none⟩) (Nat.le_refl _) (.int .i64 st)).setCell (p := ⟨w.heap.size + 1, 0, none⟩) (Nat.le_succ _) (.int .i64 kind)).setCell (p := ⟨w.heap.size + 1, 1, none⟩) (Nat.le_succ _) (.int .i64 k)).setCell (p := ⟨w.heap.size + 1, 2, none⟩) (Nat.le_succ _) (.int .i64 v)
      exact ⟨rfl, i8.below (Below.refl _ _).drew (Nat.le_refl _), HOK.out, HGD.out, p8.below (Below.refl _ _).drew (Nat.le_refl _), b8.drew⟩
theorem wordF_p1 {xs : List Int} {st k : Int} (hk : 0 ≤ k ∧ k ≤ 3) : wordF xs st (placeN 1 k) = atK xs k := by
  rw [p1_pos hk, wordF_row hk]
theorem wordF_p2 {xs : List Int} {st v : Int} (hv : 1 ≤ v ∧ v ≤ 6) : wordF xs st (placeN 2 v) = keyN xs v + 1 := by
  rw [p2_pos hv]
  have h : v = 1 ∨ v = 2 ∨ v = 3 ∨ v = 4 ∨ v = 5 ∨ v = 6 := by omega
  have e : ∀ v : Int, ownW (xs.getD 0 0) (xs.getD 1 0) (xs.getD 2 0) (xs.getD 3 0) v = keyN xs v + 1 := fun v => by
    unfold ownW keyN
    repeat' split
    all_goals omega
  rcases h with rfl | rfl | rfl | rfl | rfl | rfl <;> exact e _
theorem wordF_p5 {xs : List Int} {v : Int} (hv : 1 ≤ v ∧ v ≤ 6) : wordF xs 5 (placeN 5 v) = keyN xs v + 1 := by
  rw [p5_pos hv]
  have h : v = 1 ∨ v = 2 ∨ v = 3 ∨ v = 4 ∨ v = 5 ∨ v = 6 := by omega
  have e : ∀ v : Int, viaW (xs.getD 0 0) (xs.getD 1 0) (xs.getD 2 0) (xs.getD 3 0) 5 v = keyN xs v + 1 := fun v => by
    unfold viaW ownW keyN
    repeat' split
    all_goals omega
  rcases h with rfl | rfl | rfl | rfl | rfl | rfl <;> exact e _
theorem wordF_p3 {xs : List Int} {st c : Int} (hc : 0 ≤ c ∧ c ≤ 2) : wordF xs st (placeN 3 c) = cntK xs c 4 := by
  rw [p3_pos hc, cntK_four]
  have h : c = 0 ∨ c = 1 ∨ c = 2 := by omega
  rcases h with rfl | rfl | rfl <;> rfl
theorem keyN_range (xs : List Int) (v : Int) : -1 ≤ keyN xs v ∧ keyN xs v ≤ 3 := by
  unfold keyN
  repeat' split
  all_goals omega
theorem ifL_cons {b : Bool} {y x : Int × List Int} {M LL : List (Int × List Int)} (h : ifL b y ++ M = x :: LL) : (b = true ∧ x = y) ∨ (b = false ∧ M = x :: LL) := by
  cases b with
  | true => exact .inl ⟨rfl, by simp [ifL] at h; exact h.1.symm⟩
  | false => exact .inr ⟨rfl, by simpa [ifL] using h⟩
section
variable {xs : List Int} {st kind k v : Int}
theorem rd_need (p : Int) (hp : 0 ≤ p) (hm : p ∈ needL (wordF xs st) kind k v) : rd (flatP (wordF xs st) (needL (wordF xs st) kind k v)) (needL (wordF xs st) kind k v).length p = wordF xs st p :=
  (agrees_flat (wordF xs st) (needL (wordF xs st) kind k v)).rd hp (by rw [goR_flat, decide_eq_true hm])
end
theorem now_allowed {xs : List Int} {st kind k v : Int} (hok : OkRows xs st) (hg : OpGood kind k v) {x : Int × List Int} {LL : List (Int × List Int)}
    (h : nowL (flatP (wordF xs st) (needL (wordF xs st) kind k v)) (needL (wordF xs st) kind k v).length kind k v = x :: LL) : AllowM xs st kind k v x.1 x.2 := by
  refine ⟨hok, hg, ?_⟩
  obtain ⟨hkk, hkey, hval⟩ := hg
  have hst := hok.2
  have q13 : (0 : Int) ≤ 13 := by omega
  rcases kinds hkk with rfl | rfl | rfl | rfl | rfl | rfl | rfl | rfl | rfl | rfl
  · have hk : 0 ≤ k ∧ k ≤ 3 := by unfold KeyGood at hkey; omega
    have hv : 1 ≤ v ∧ v ≤ 6 := by unfold ValGood at hval; omega
    have p1 := p1_pos hk
    have p2 := p2_pos hv
    have d1 := rd_need (xs := xs) (st := st) (kind := 1) (k := k) (v := v) (placeN 1 k) (by omega) (by unfold needL; rw [if_pos rfl]; simp)
    rw [nowL_1, d1, wordF_p1 hk] at h
    rcases ifL_cons h with ⟨hb, rfl⟩ | ⟨hb, h⟩
    · exact .inl ⟨by decide, rfl, .inl ⟨rfl, rfl, by simpa using hb⟩⟩
    · have z1 : atK xs k = 0 := by simpa using hb
      have d2 := rd_need (xs := xs) (st := st) (kind := 1) (k := k) (v := v) (placeN 2 v) (by omega) (by unfold needL; rw [if_pos rfl, if_neg (by rw [wordF_p1 hk]; simpa using z1)]; simp)
      rw [d2, wordF_p2 hv, ← List.append_nil (ifL _ _)] at h
      rcases ifL_cons h with ⟨hb, rfl⟩ | ⟨_, h⟩
      · have kr := keyN_range xs v
        have hz : ¬ keyN xs v + 1 = 0 := by simpa using hb
        exact .inl ⟨by decide, rfl, .inr (.inl ⟨rfl, .inl rfl, by omega⟩)⟩
      · cases h
  · have hk : 0 ≤ k ∧ k ≤ 3 := by unfold KeyGood at hkey; omega
    have hv : 1 ≤ v ∧ v ≤ 6 := by unfold ValGood at hval; omega
    have p1 := p1_pos hk
    have p2 := p2_pos hv
    have d1 := rd_need (xs := xs) (st := st) (kind := 2) (k := k) (v := v) (placeN 1 k) (by omega) (by unfold needL; rw [if_neg (by decide), if_pos rfl]; simp)
    rw [nowL_2, d1, wordF_p1 hk, List.append_assoc] at h
    rcases ifL_cons h with ⟨hb, rfl⟩ | ⟨hb, h⟩
    · exact .inl ⟨by decide, rfl, .inr (.inr (.inl ⟨rfl, .inl ⟨.inl rfl, by simpa using hb⟩⟩))⟩
    have z1 : ¬ atK xs k = 0 := by simpa using hb
    rcases ifL_cons h with ⟨hb, rfl⟩ | ⟨hb, h⟩
    · refine .inr ⟨rfl, .inr (.inl ⟨rfl, z1, .inr ?_⟩), rfl⟩
      have e : atK xs k = v := by simpa using hb
      obtain ⟨y0, y1, y2, y3, rfl⟩ := four_of hok.1
      have h4 := ((okFour_iff y0 y1 y2 y3 st).1 hok).2
      have hkk : k = 0 ∨ k = 1 ∨ k = 2 ∨ k = 3 := by omega
      unfold OkFour at h4
      unfold keyN
      simp only [List.getD_cons_zero, List.getD_cons_succ]
      rcases hkk with rfl | rfl | rfl | rfl
      · have e : y0 = v := e
        rw [if_pos e]
      · have e : y1 = v := e
        rw [if_neg (by omega), if_pos e]
      · have e : y2 = v := e
        rw [if_neg (by omega), if_neg (by omega), if_pos e]
      · have e : y3 = v := e
        rw [if_neg (by omega), if_neg (by omega), if_neg (by omega), if_pos e]
    · have z2 : ¬ atK xs k = v := by simpa using hb
      have d2 := rd_need (xs := xs) (st := st) (kind := 2) (k := k) (v := v) (placeN 2 v) (by omega) (by unfold needL; rw [if_neg (by decide), if_pos rfl, if_neg (by rw [wordF_p1 hk]; omega)]; simp)
      rw [d2, wordF_p2 hv, ← List.append_nil (ifL _ _)] at h
      rcases ifL_cons h with ⟨hb, rfl⟩ | ⟨_, h⟩
      · have kr := keyN_range xs v
        have hz : ¬ keyN xs v + 1 = 0 := by simpa using hb
        exact .inl ⟨by decide, rfl, .inr (.inl ⟨rfl, .inr rfl, by omega⟩)⟩
      · cases h
  · have hk : 0 ≤ k ∧ k ≤ 3 := by unfold KeyGood at hkey; omega
    have p1 := p1_pos hk
    have d1 := rd_need (xs := xs) (st := st) (kind := 3) (k := k) (v := v) (placeN 1 k) (by omega) (by unfold needL; rw [if_neg (by decide), if_neg (by decide), if_pos rfl]; simp)
    rw [nowL_3, d1, wordF_p1 hk, ← List.append_nil (ifL _ _)] at h
    rcases ifL_cons h with ⟨hb, rfl⟩ | ⟨_, h⟩
    · exact .inl ⟨by decide, rfl, .inr (.inr (.inl ⟨rfl, .inl ⟨.inr (.inl rfl), by simpa using hb⟩⟩))⟩
    · cases h
  · have hk : 0 ≤ k ∧ k ≤ 3 := by unfold KeyGood at hkey; omega
    have p1 := p1_pos hk
    have d1 := rd_need (xs := xs) (st := st) (kind := 4) (k := k) (v := v) (placeN 1 k) (by omega) (by unfold needL; rw [if_neg (by decide), if_neg (by decide), if_neg (by decide), if_pos rfl]; simp)
    rw [nowL_4, d1, wordF_p1 hk] at h
    rcases ifL_cons h with ⟨hb, rfl⟩ | ⟨hb, h⟩
    · exact .inl ⟨by decide, rfl, .inr (.inr (.inl ⟨rfl, .inl ⟨.inr (.inr rfl), by simpa using hb⟩⟩))⟩
    · simp only [List.cons.injEq] at h
      rw [← h.1]
      exact .inr ⟨rfl, .inr (.inr (.inr (.inl ⟨rfl, by simpa using hb⟩))), by unfold listM; rw [if_pos rfl]⟩
  · have hv : 1 ≤ v ∧ v ≤ 6 := by unfold ValGood at hval; omega
    have p2 := p2_pos hv
    have kr := keyN_range xs v
    have d1 := rd_need (xs := xs) (st := st) (kind := 5) (k := k) (v := v) (placeN 2 v) (by omega) (by unfold needL; rw [if_neg (by decide), if_neg (by decide), if_neg (by decide), if_neg (by decide), if_pos rfl]; simp)
    rw [nowL_5, d1, wordF_p2 hv] at h
    rcases ifL_cons h with ⟨hb, rfl⟩ | ⟨hb, h⟩
    · have hz : keyN xs v + 1 = 0 := by simpa using hb
      exact .inl ⟨by decide, rfl, .inr (.inr (.inl ⟨rfl, .inr (.inl ⟨rfl, by omega⟩)⟩))⟩
    · simp only [List.cons.injEq] at h
      rw [← h.1]
      have hz : ¬ keyN xs v + 1 = 0 := by simpa using hb
      refine .inr ⟨rfl, .inr (.inr (.inr (.inr (.inl ⟨rfl, by omega⟩)))), ?_⟩
      unfold listM
      rw [if_neg (by decide), if_pos (.inl rfl)]
      have e : wrap64 (keyN xs v + 1 - 1) = keyN xs v := by unfold wrap64; omega
      rw [e]
  · have hk : 0 ≤ k ∧ k ≤ 2 := by unfold KeyGood at hkey; omega
    have p3 := p3_pos hk
    have d1 := rd_need (xs := xs) (st := st) (kind := 6) (k := k) (v := v) (placeN 3 k) (by omega) (by unfold needL; rw [if_neg (by decide), if_neg (by decide), if_neg (by decide), if_neg (by decide), if_neg (by decide), if_pos rfl]; simp)
    rw [nowL_6, d1, wordF_p3 hk] at h
    simp only [List.cons.injEq] at h
    rw [← h.1]
    exact .inr ⟨rfl, .inr (.inr (.inr (.inr (.inr (.inl rfl))))), by unfold listM; rw [if_neg (by decide), if_neg (by decide), if_pos rfl]⟩
  · rw [nowL_7] at h; cases h
  · have d1 := rd_need (xs := xs) (st := st) (kind := 8) (k := k) (v := v) 13 q13 (by unfold needL; rw [if_neg (by decide), if_neg (by decide), if_neg (by decide), if_neg (by decide), if_neg (by decide), if_neg (by decide), if_neg (by decide), if_pos rfl]; simp)
    rw [nowL_8, d1, wordF_state, ← List.append_nil (ifL _ _)] at h
    rcases ifL_cons h with ⟨hb, rfl⟩ | ⟨_, h⟩
    · exact .inl ⟨by decide, rfl, .inr (.inr (.inr ⟨rfl, .inl ⟨rfl, by simpa using hb⟩⟩))⟩
    · cases h
  · have d1 := rd_need (xs := xs) (st := st) (kind := 9) (k := k) (v := v) 13 q13 (by unfold needL; rw [if_neg (by decide), if_neg (by decide), if_neg (by decide), if_neg (by decide), if_neg (by decide), if_neg (by decide), if_neg (by decide), if_neg (by decide), if_pos rfl]; simp)
    rw [nowL_9, d1, wordF_state, ← List.append_nil (ifL _ _)] at h
    rcases ifL_cons h with ⟨hb, rfl⟩ | ⟨_, h⟩
    · simp only [Bool.or_eq_true, beq_iff_eq, decide_eq_true_eq] at hb
      exact .inl ⟨by decide, rfl, .inr (.inr (.inr ⟨rfl, .inr (.inl ⟨rfl, by omega⟩)⟩))⟩
    · cases h
  · have d1 := rd_need (xs := xs) (st := st) (kind := 10) (k := k) (v := v) 13 q13 (by unfold needL; rw [if_neg (by decide), if_neg (by decide), if_neg (by decide), if_neg (by decide), if_neg (by decide), if_neg (by decide), if_neg (by decide), if_neg (by decide), if_neg (by decide)]; simp)
    rw [nowL_10, d1, wordF_state, ← List.append_nil (ifL _ _)] at h
    rcases ifL_cons h with ⟨hb, rfl⟩ | ⟨_, h⟩
    · exact .inl ⟨by decide, rfl, .inr (.inr (.inr ⟨rfl, .inr (.inr ⟨rfl, by simpa using hb⟩)⟩))⟩
    · cases h
theorem ifL_nilApp {b : Bool} {y : Int × List Int} {M : List (Int × List Int)} (h : ifL b y ++ M = []) : b = false ∧ M = [] := by
  cases b with
  | true => simp [ifL] at h
  | false => exact ⟨rfl, by simpa [ifL] using h⟩
theorem then_allowed {xs : List Int} {st kind k v : Int} (hok : OkRows xs st) (hg : OpGood kind k v) {x : Int × List Int} {LL : List (Int × List Int)}
    (hn : nowL (flatP (wordF xs st) (needL (wordF xs st) kind k v)) (needL (wordF xs st) kind k v).length kind k v = [])
    (h : thenL (flatP (wordF xs st) (needL (wordF xs st) kind k v)) (needL (wordF xs st) kind k v).length kind v = x :: LL) : AllowM xs st kind k v x.1 x.2 := by
  refine ⟨hok, hg, ?_⟩
  obtain ⟨hkk, hkey, hval⟩ := hg
  have hst := hok.2
  have q13 : (0 : Int) ≤ 13 := by omega
  rcases kinds hkk with rfl | rfl | rfl | rfl | rfl | rfl | rfl | rfl | rfl | rfl
  · have hk : 0 ≤ k ∧ k ≤ 3 := by unfold KeyGood at hkey; omega
    have hv : 1 ≤ v ∧ v ≤ 6 := by unfold ValGood at hval; omega
    have p1 := p1_pos hk
    have p2 := p2_pos hv
    have kr := keyN_range xs v
    have d1 := rd_need (xs := xs) (st := st) (kind := 1) (k := k) (v := v) (placeN 1 k) (by omega) (by unfold needL; rw [if_pos rfl]; simp)
    rw [nowL_1, d1, wordF_p1 hk] at hn
    obtain ⟨hb, hn⟩ := ifL_nilApp hn
    have z1 : atK xs k = 0 := by simpa using hb
    have d2 := rd_need (xs := xs) (st := st) (kind := 1) (k := k) (v := v) (placeN 2 v) (by omega) (by unfold needL; rw [if_pos rfl, if_neg (by rw [wordF_p1 hk]; simpa using z1)]; simp)
    rw [d2, wordF_p2 hv, ← List.append_nil (ifL _ _)] at hn
    obtain ⟨hb, _⟩ := ifL_nilApp hn
    have z2 : keyN xs v + 1 = 0 := by simpa using hb
    rw [thenL, if_neg (by decide), if_neg (by decide)] at h
    simp only [List.cons.injEq] at h
    rw [← h.1]
    exact .inr ⟨rfl, .inl ⟨rfl, z1, by omega⟩, rfl⟩
  · have hk : 0 ≤ k ∧ k ≤ 3 := by unfold KeyGood at hkey; omega
    have hv : 1 ≤ v ∧ v ≤ 6 := by unfold ValGood at hval; omega
    have p1 := p1_pos hk
    have p2 := p2_pos hv
    have kr := keyN_range xs v
    have d1 := rd_need (xs := xs) (st := st) (kind := 2) (k := k) (v := v) (placeN 1 k) (by omega) (by unfold needL; rw [if_neg (by decide), if_pos rfl]; simp)
    rw [nowL_2, d1, wordF_p1 hk, List.append_assoc] at hn
    obtain ⟨hb, hn⟩ := ifL_nilApp hn
    have z1 : ¬ atK xs k = 0 := by simpa using hb
    obtain ⟨hb, hn⟩ := ifL_nilApp hn
    have z2 : ¬ atK xs k = v := by simpa using hb
    have d2 := rd_need (xs := xs) (st := st) (kind := 2) (k := k) (v := v) (placeN 2 v) (by omega) (by unfold needL; rw [if_neg (by decide), if_pos rfl, if_neg (by rw [wordF_p1 hk]; omega)]; simp)
    rw [d2, wordF_p2 hv, ← List.append_nil (ifL _ _)] at hn
    obtain ⟨hb, _⟩ := ifL_nilApp hn
    have z3 : keyN xs v + 1 = 0 := by simpa using hb
    rw [thenL, if_neg (by decide), if_neg (by decide)] at h
    simp only [List.cons.injEq] at h
    rw [← h.1]
    exact .inr ⟨rfl, .inr (.inl ⟨rfl, z1, .inl (by omega)⟩), rfl⟩
  · have hk : 0 ≤ k ∧ k ≤ 3 := by unfold KeyGood at hkey; omega
    have p1 := p1_pos hk
    have d1 := rd_need (xs := xs) (st := st) (kind := 3) (k := k) (v := v) (placeN 1 k) (by omega) (by unfold needL; rw [if_neg (by decide), if_neg (by decide), if_pos rfl]; simp)
    rw [nowL_3, d1, wordF_p1 hk, ← List.append_nil (ifL _ _)] at hn
    obtain ⟨hb, _⟩ := ifL_nilApp hn
    rw [thenL, if_neg (by decide), if_neg (by decide)] at h
    simp only [List.cons.injEq] at h
    rw [← h.1]
    exact .inr ⟨rfl, .inr (.inr (.inl ⟨rfl, by simpa using hb⟩)), rfl⟩
  · rw [nowL_4] at hn
    exact absurd (ifL_nilApp hn).2 (by simp)
  · rw [nowL_5] at hn
    exact absurd (ifL_nilApp hn).2 (by simp)
  · rw [nowL_6] at hn
    exact absurd hn (by simp)
  · have e : ∀ q : Int, 0 ≤ q ∧ q ≤ 3 → rd (flatP (wordF xs st) (needL (wordF xs st) 7 k v)) (needL (wordF xs st) 7 k v).length (placeN 1 q) = atK xs q := fun q hq => by
      have pq := p1_pos hq
      rw [rd_need (placeN 1 q) (by omega) (by
        unfold needL
        rw [if_neg (by decide), if_neg (by decide), if_neg (by decide), if_neg (by decide), if_neg (by decide), if_neg (by decide), if_pos rfl]
        have hh : q = 0 ∨ q = 1 ∨ q = 2 ∨ q = 3 := by omega
        rcases hh with rfl | rfl | rfl | rfl <;> simp), wordF_p1 hq]
    rw [thenL, if_pos rfl, e 0 (by omega), e 1 (by omega), e 2 (by omega), e 3 (by omega)] at h
    simp only [List.cons.injEq] at h
    rw [← h.1]
    refine .inr ⟨rfl, .inr (.inr (.inr (.inr (.inr (.inr (.inl rfl)))))), ?_⟩
    obtain ⟨y0, y1, y2, y3, rfl⟩ := four_of hok.1
    unfold listM
    rw [if_neg (by decide), if_neg (by decide), if_neg (by decide), if_pos rfl]
    rfl
  · have d1 := rd_need (xs := xs) (st := st) (kind := 8) (k := k) (v := v) 13 q13 (by unfold needL; rw [if_neg (by decide), if_neg (by decide), if_neg (by decide), if_neg (by decide), if_neg (by decide), if_neg (by decide), if_neg (by decide), if_pos rfl]; simp)
    rw [nowL_8, d1, wordF_state, ← List.append_nil (ifL _ _)] at hn
    obtain ⟨hb, _⟩ := ifL_nilApp hn
    rw [thenL, if_neg (by decide), if_neg (by decide)] at h
    simp only [List.cons.injEq] at h
    rw [← h.1]
    exact .inr ⟨rfl, .inr (.inr (.inr (.inr (.inr (.inr (.inr (.inl ⟨rfl, by simpa using hb⟩))))))), rfl⟩
  · have d1 := rd_need (xs := xs) (st := st) (kind := 9) (k := k) (v := v) 13 q13 (by unfold needL; rw [if_neg (by decide), if_neg (by decide), if_neg (by decide), if_neg (by decide), if_neg (by decide), if_neg (by decide), if_neg (by decide), if_neg (by decide), if_pos rfl]; simp)
    rw [nowL_9, d1, wordF_state, ← List.append_nil (ifL _ _)] at hn
    obtain ⟨hb, _⟩ := ifL_nilApp hn
    rw [thenL, if_neg (by decide), if_neg (by decide)] at h
    simp only [List.cons.injEq] at h
    rw [← h.1]
    simp only [Bool.or_eq_false_iff, beq_eq_false_iff_ne, decide_eq_false_iff_not] at hb
    exact .inr ⟨rfl, .inr (.inr (.inr (.inr (.inr (.inr (.inr (.inr (.inl ⟨rfl, by omega, by omega⟩)))))))), rfl⟩
  · have hv : 1 ≤ v ∧ v ≤ 6 := by unfold ValGood at hval; omega
    have p5 := p5_pos hv
    have kr := keyN_range xs v
    have d1 := rd_need (xs := xs) (st := st) (kind := 10) (k := k) (v := v) 13 q13 (by unfold needL; rw [if_neg (by decide), if_neg (by decide), if_neg (by decide), if_neg (by decide), if_neg (by decide), if_neg (by decide), if_neg (by decide), if_neg (by decide), if_neg (by decide)]; simp)
    rw [nowL_10, d1, wordF_state, ← List.append_nil (ifL _ _)] at hn
    obtain ⟨hb, _⟩ := ifL_nilApp hn
    have s5 : st = 5 := by simpa using hb
    subst s5
    have d2 := rd_need (xs := xs) (st := 5) (kind := 10) (k := k) (v := v) (placeN 5 v) (by omega) (by unfold needL; rw [if_neg (by decide), if_neg (by decide), if_neg (by decide), if_neg (by decide), if_neg (by decide), if_neg (by decide), if_neg (by decide), if_neg (by decide), if_neg (by decide), if_neg (by rw [wordF_state]; decide)]; simp)
    rw [thenL, if_neg (by decide), if_pos rfl, d2, wordF_p5 hv] at h
    rcases ifL_cons h with ⟨hb, rfl⟩ | ⟨hb, h⟩
    · have hz : keyN xs v + 1 = 0 := by simpa using hb
      exact .inl ⟨by decide, rfl, .inr (.inr (.inl ⟨rfl, .inr (.inr ⟨rfl, rfl, by omega⟩)⟩))⟩
    · simp only [List.cons.injEq] at h
      rw [← h.1]
      have hz : ¬ keyN xs v + 1 = 0 := by simpa using hb
      refine .inr ⟨rfl, .inr (.inr (.inr (.inr (.inr (.inr (.inr (.inr (.inr ⟨rfl, rfl, by omega⟩)))))))), ?_⟩
      unfold listM
      rw [if_neg (by decide), if_pos (.inr rfl)]
      have e : wrap64 (keyN xs v + 1 - 1) = keyN xs v := by unfold wrap64; omega
      rw [e]
end
end Go.Proofs.YtenlapppaimkkabGreatDoor
