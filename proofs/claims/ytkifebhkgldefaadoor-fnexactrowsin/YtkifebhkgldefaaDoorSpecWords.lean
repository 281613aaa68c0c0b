/- spec.WordsOf, walked. -/
import Derived.Test.YtkifebhkgldefaaDoorSpecRows
import Derived.Test.YtkifebhkgldefaaDoorSpecHow
import Derived.Test.YtkifebhkgldefaaDoorRowAt
import Derived.Test.YtkifebhkgldefaaDoorOwnerAt
import Derived.Test.YtkifebhkgldefaaDoorCountAt
import Derived.Test.YtkifebhkgldefaaDoorStateAt
import Derived.Test.YtkifebhkgldefaaDoorViaAt
import Derived.Deep.RegionWith
namespace Go.Proofs.YtkifebhkgldefaaDoor
open Go.ChangeShapes Go.WideShapes Go.ChangeAt Go.RowKit Go.Maps

theorem at_row (k : Nat) (hk : k < 4) (w : World) : Calls Tryd.prog 46 #[.int .i64 (k : Int)] w fun e w' => e = .returned (.int .i64 (k : Int)) ∧ w' = w := by
  have := specRowAt_any (k : Int) w
  rwa [show placeN 1 (k : Int) = (k : Int) by unfold placeN; repeat' split <;> omega] at this
theorem at_owner (x : Int) (m : Nat) (hx : 1 ≤ x ∧ x ≤ 6) (hm : m = (x + 3).toNat) (w : World) : Calls Tryd.prog 36 #[.int .i64 x] w fun e w' => e = .returned (.int .i64 (m : Int)) ∧ w' = w := by
  have := specOwnerAt_any x w
  rwa [show placeN 2 x = (m : Int) by unfold placeN; repeat' split <;> omega] at this
theorem at_via (x : Int) (m : Nat) (hx : 1 ≤ x ∧ x ≤ 6) (hm : m = (x + 13).toNat) (w : World) : Calls Tryd.prog 39 #[.int .i64 x] w fun e w' => e = .returned (.int .i64 (m : Int)) ∧ w' = w := by
  have := specViaAt_any x w
  rwa [show placeN 5 x = (m : Int) by unfold placeN; repeat' split <;> omega] at this
theorem at_count (c m : Nat) (hc : c < 3) (hm : m = 10 + c) (w : World) : Calls Tryd.prog 48 #[.int .i64 (c : Int)] w fun e w' => e = .returned (.int .i64 (m : Int)) ∧ w' = w := by
  have := specCountAt_any (c : Int) w
  rwa [show placeN 3 (c : Int) = (m : Int) by unfold placeN; repeat' split <;> omega] at this

/-- What is told of the first k keys. -/
def mk (xs : List Int) (k j : Nat) : Int := if j < k then xs.getD j 0 else 0
def wordsK (xs : List Int) (k : Nat) (st : Int) : List Int := wordsG (mk xs k 0) (mk xs k 1) (mk xs k 2) (mk xs k 3) 0 0 0 0 st
theorem wordsK_len (xs : List Int) (k : Nat) (st : Int) : (wordsK xs k st).length = 20 := rfl
theorem wordsK_step {xs : List Int} {k : Nat} {x st : Int} (hk : k < 4) (hx : xs.getD k 0 = x) (hv : 1 ≤ x ∧ x ≤ 6) (hne : ∀ j, j < k → xs.getD j 0 ≠ x) : stepW (wordsK xs k st) k x st = wordsK xs (k + 1) st := by
  have h : k = 0 ∨ k = 1 ∨ k = 2 ∨ k = 3 := by omega
  have h0 : (0 : Int) ≠ x := by omega
  rcases h with rfl | rfl | rfl | rfl
  · rw [wordsK, wordsK]
    simp only [mk, hx]
    exact step0 0 0 0 0 0 0 0 st x hv h0 h0 h0
  · rw [wordsK, wordsK]
    simp only [mk, hx]
    exact step1 _ 0 0 0 0 0 0 st x hv (hne 0 (by omega)) h0 h0
  · rw [wordsK, wordsK]
    simp only [mk, hx]
    exact step2 _ _ 0 0 0 0 0 st x hv (hne 0 (by omega)) (hne 1 (by omega)) h0
  · rw [wordsK, wordsK]
    simp only [mk, hx]
    exact step3 _ _ _ 0 0 0 0 st x hv (hne 0 (by omega)) (hne 1 (by omega)) (hne 2 (by omega))
theorem wordsK_none {xs : List Int} {k : Nat} {st : Int} (hk : k < 4) (hx : xs.getD k 0 = 0) : (wordsK xs k st).set k 0 = wordsK xs (k + 1) st := by
  have h : k = 0 ∨ k = 1 ∨ k = 2 ∨ k = 3 := by omega
  rcases h with rfl | rfl | rfl | rfl <;> (rw [wordsK, wordsK]; simp only [mk, hx]; rfl)

/-- .. and of the first c classes how many there are. -/
def wordsC (xs : List Int) (c : Nat) (st : Int) : List Int := wordsG (xs.getD 0 0) (xs.getD 1 0) (xs.getD 2 0) (xs.getD 3 0) (if 0 < c then cntK xs 0 4 else 0) (if 1 < c then cntK xs 1 4 else 0) (if 2 < c then cntK xs 2 4 else 0) 0 st
theorem wordsC_zero (xs : List Int) (st : Int) : wordsK xs 4 st = wordsC xs 0 st := rfl
theorem wordsC_step (xs : List Int) (c : Nat) (hc : c < 3) (st : Int) : (wordsC xs c st).set (10 + c) (cntK xs (c : Int) 4) = wordsC xs (c + 1) st := by
  have h : c = 0 ∨ c = 1 ∨ c = 2 := by omega
  rcases h with rfl | rfl | rfl <;> rfl
theorem wordsC_end (xs : List Int) (st : Int) : (wordsC xs 3 st).set 13 st = wordsL (xs.getD 0 0) (xs.getD 1 0) (xs.getD 2 0) (xs.getD 3 0) st := by
  rw [wordsL, ← cntK_four, ← cntK_four, ← cntK_four]
  rfl

/-- The answer is a list of these numbers. -/
def ListSays (e : Ending) (w' : World) (L : List Int) : Prop := ∃ a n c, e = .returned (.slice a n c) ∧ IntAt w' a n L
/-- The words that the specification tells. -/
def specL (xs : List Int) (st : Int) : List Int := wordsL (xs.getD 0 0) (xs.getD 1 0) (xs.getD 2 0) (xs.getD 3 0) st

set_option maxHeartbeats 2000000 in
set_option maxRecDepth 100000 in
theorem specWordsOf_not (a : Option Addr) (n c : Nat) (st : Int) (xs : List Int) (w : World) (hA : IntAt w a n xs) (hno : ¬ SpecOk xs n st) :
    Calls Tryd.prog 30 #[.agg #[.slice a n c, .int .i64 st]] w fun e w' => ListSays e w' [] ∧ Below w.heap.size w w' := by
  have HA : Hid (IntAt w a n xs) := hA
  have HN : Hid (¬ SpecOk xs n st) := hno
  clear hA hno
  go_enter Tryd.func30, Tryd.ntmps30
  go_wp2_with fail
  refine (specRowsOk_any a n c st xs _ (HA.out.below ((Below.refl _ w).alloc (Nat.le_refl _) _) (Nat.le_refl _))).mono ?_
  rintro e w1 ⟨⟨ok, rfl, hok⟩, hb1⟩
  obtain rfl : ok = false := by
    cases ok
    · rfl
    · exact absurd (hok.1 rfl) HN.out
  have hbw : Below w.heap.size w w1 := ((Below.refl _ w).alloc (Nat.le_refl _) _).trans (hb1.mono (by simp))
  clear hok hb1
  go_wp2
  go_ret
  exact ⟨⟨_, _, _, rfl, rfl, by omega, .inl rfl⟩, hbw.alloc hbw.size _⟩

set_option maxHeartbeats 2000000 in
set_option maxRecDepth 100000 in
theorem specWordsOf_yes (a : Option Addr) (c : Nat) (st : Int) (xs : List Int) (w : World) (hA : IntAt w a 4 xs) (hyes : SpecOk xs 4 st) :
    Calls Tryd.prog 30 #[.agg #[.slice a 4 c, .int .i64 st]] w fun e w' => ListSays e w' (specL xs st) ∧ Below w.heap.size w w' := by
  have HA : Hid (IntAt w a 4 xs) := hA
  have HY : Hid (SpecOk xs 4 st) := hyes
  clear hA hyes
  obtain ⟨i0, hi, hz0, hz1, hz2⟩ := info_parts infoInt
  go_enter Tryd.func30, Tryd.ntmps30
  go_wp2_with fail
  refine (specRowsOk_any a 4 c st xs _ (HA.out.below ((Below.refl _ w).alloc (Nat.le_refl _) _) (Nat.le_refl _))).mono ?_
  rintro e w1 ⟨⟨ok, rfl, hok⟩, hb1⟩
  obtain rfl : ok = true := hok.2 HY.out
  simp only [World.size_alloc] at hb1
  have hs1 : w.heap.size < w1.heap.size := Nat.lt_of_succ_le (by simpa using hb1.size)
  have hst0 : 0 ≤ st := HY.out.2.2.1
  have hst5 : st ≤ 5 := HY.out.2.2.2
  have hbw1 : Below w.heap.size w w1 := ((Below.refl _ w).alloc (Nat.le_refl _) _).trans (hb1.mono (Nat.le_succ _))
  have c0 : w1.cell? ⟨w.heap.size, 0, none⟩ = some (.slice a 4 c) := by rw [hb1.cell (by simp)]; simp
  have c1 : w1.cell? ⟨w.heap.size, 1, none⟩ = some (.int .i64 st) := by rw [hb1.cell (by simp)]; simp
  have HC0 : Hid (w1.cell? ⟨w.heap.size, 0, none⟩ = some (.slice a 4 c)) := c0
  have HC1 : Hid (w1.cell? ⟨w.heap.size, 1, none⟩ = some (.int .i64 st)) := c1
  clear hok hb1
  go_wp2_with (first | (at_make; refine wpList_make_full _ rfl _ _ 22 rfl w1.heap.size 3 i0 (.int .i64 0) 1 Tryd.underlying22 hi hz0 hz1 .i64 .i64 _ _ 20 rfl rfl rfl rfl (by rw [hz2]; omega) (by unfold maxLen; omega) (Nat.le_refl _) ?_; intro w2 own2 grow2) | fail)
  rw [show (madeCells (Value.int .i64 0).cells (20 * 1)).toList = (wordsK xs 0 st).map I from (toList_madeCells_one _ _).trans (by rw [wordsK]; simp only [mk]; rw [show wordsG (if 0 < 0 then xs.getD 0 0 else 0) (if 1 < 0 then xs.getD 1 0 else 0) (if 2 < 0 then xs.getD 2 0 else 0) (if 3 < 0 then xs.getD 3 0 else 0) 0 0 0 0 st = List.replicate 20 0 from wordsG_new st]; rfl)] at own2
  have hb2 : Below w1.heap.size w1 w2 := (Below.refl _ _).grown grow2 (Nat.le_refl _) (fun k e => by cases e)
  clear grow2
  have HD : Hid (∀ k, k < 4 → xs.getD k 0 ≠ 0 → (1 ≤ xs.getD k 0 ∧ xs.getD k 0 ≤ 6) ∧ ∀ j, j < k → xs.getD j 0 ≠ xs.getD k 0) := fun k hk h0 => by
    rcases HY.out.1 k hk with h | ⟨h1, h2 | ⟨i, hi, e, _, h3⟩⟩
    · exact absurd h h0
    · exact absurd h2.1 (by omega)
    · obtain rfl : k = i := by omega
      exact ⟨h1, h3⟩
  go_loopw [4] (fun i wr => ∃ k : Nat, k ≤ 4 ∧ i = .int .i64 (k : Int) ∧ wr.ownsRow w1.heap.size 3 1 (.slice (some ⟨w1.heap.size, 0, none⟩) 20 20) 20 ((wordsK xs k st).map I) ∧ Below w1.heap.size w1 wr) (fun i _ => 4 - (intOf i).toNat)
  case atStart => exact ⟨0, Nat.zero_le _, rfl, own2, hb2⟩
  case round =>
    obtain ⟨k, hk, rfl, ho, hb⟩ := hrel
    have d0 : wr.cell? ⟨w.heap.size, 0, none⟩ = some (.slice a 4 c) := (hb.cell hs1).trans c0
    have d1 : wr.cell? ⟨w.heap.size, 1, none⟩ = some (.int .i64 st) := (hb.cell hs1).trans c1
    have hbw : Below w.heap.size w wr := hbw1.trans (hb.mono hbw1.size)
    clear own2 hb2 c0 c1
    by_cases hlt : k < 4
    · rcases (HA.out.below hbw (Nat.le_refl _)).2.2 with h0 | ⟨p1, o1, rfl, g1⟩
      · omega
      have e1 := g1 k hlt
      obtain ⟨x, hx⟩ : ∃ x, xs.getD k 0 = x := ⟨_, rfl⟩
      rw [hx] at e1
      have HX : Hid (xs.getD k 0 = x) := hx
      have HO : Hid (wr.ownsRow w1.heap.size 3 1 (.slice (some ⟨w1.heap.size, 0, none⟩) 20 20) 20 ((wordsK xs k st).map I)) := ho
      have hst := (ho.stored k (I x)).1
      rw [← List.map_set] at hst
      have HS : Hid ((wr.setCell ⟨w1.heap.size, k, none⟩ (I x)).ownsRow w1.heap.size 3 1 (.slice (some ⟨w1.heap.size, 0, none⟩) 20 20) 20 (((wordsK xs k st).set k x).map I)) := hst
      have hf := ho.frozenAt k
      obtain ⟨u, hc⟩ := own_cell ho (show k < 20 by omega)
      clear g1 hx ho hst
      go_wp2_with fail
      refine (at_row k hlt _).mono ?_
      rintro e w3 ⟨rfl, rfl⟩
      by_cases hx0 : x = 0
      · subst hx0
        go_wp2
        refine ⟨⟨k + 1, by omega, by go_num, ?_, hb.setCell (Nat.le_refl _) _⟩, by simp [intOf]; omega⟩
        rw [← wordsK_none hlt HX.out]
        exact HS.out
      · have hv := HD.out k hlt (by rw [HX.out]; exact hx0)
        rw [HX.out] at hv
        have HNE : Hid (∀ j, j < k → xs.getD j 0 ≠ x) := hv.2
        replace hv := hv.1
        have hx1 : (x == 0) = false := by simpa using hx0
        obtain ⟨m2, hm2⟩ : ∃ m : Nat, m = (x + 3).toNat := ⟨_, rfl⟩
        have lt2 : m2 < 20 := by omega
        have HM2 : Hid (m2 = (x + 3).toNat) := hm2
        clear hm2
        go_wp2_with fail
        refine (at_owner x m2 hv HM2.out _).mono ?_
        rintro e w4 ⟨rfl, hw4⟩
        have ho4 : w4.ownsRow w1.heap.size 3 1 (.slice (some ⟨w1.heap.size, 0, none⟩) 20 20) 20 (((wordsK xs k st).set k x).map I) := by rw [hw4]; exact HS.out
        have hb4 : Below w1.heap.size w1 w4 := by rw [hw4]; exact hb.setCell (Nat.le_refl _) _
        have q1 : w4.cell? ⟨w.heap.size, 1, none⟩ = some (.int .i64 st) := (hb4.cell hs1).trans ((hb.cell hs1).symm.trans d1)
        have hst4 := (ho4.stored m2 (I ((k : Int) + 1))).1
        rw [← List.map_set] at hst4
        have HS4 : Hid ((w4.setCell ⟨w1.heap.size, m2, none⟩ (I ((k : Int) + 1))).ownsRow w1.heap.size 3 1 (.slice (some ⟨w1.heap.size, 0, none⟩) 20 20) 20 ((((wordsK xs k st).set k x).set m2 ((k : Int) + 1)).map I)) := hst4
        have hf4 := ho4.frozenAt m2
        obtain ⟨u4, hc4⟩ := own_cell ho4 lt2
        have ne4 : w1.heap.size ≠ w.heap.size := by omega
        clear hw4 ho4 hst4 hf hc HS HO d0 d1 e1
        by_cases hvia : (k : Int) + 1 < st
        · have hvia' : (k : Int) < st - 1 := by omega
          obtain ⟨m5, hm5⟩ : ∃ m : Nat, m = (x + 13).toNat := ⟨_, rfl⟩
          have lt5 : m5 < 20 := by omega
          have HM5 : Hid (m5 = (x + 13).toNat) := hm5
          clear hm5
          go_wp2_with fail
          refine (at_via x m5 hv HM5.out _).mono ?_
          rintro e w5 ⟨rfl, hw5⟩
          have ho5 : w5.ownsRow w1.heap.size 3 1 (.slice (some ⟨w1.heap.size, 0, none⟩) 20 20) 20 ((((wordsK xs k st).set k x).set m2 ((k : Int) + 1)).map I) := by rw [hw5]; exact HS4.out
          have hb5 : Below w1.heap.size w1 w5 := by rw [hw5]; exact hb4.setCell (Nat.le_refl _) _
          have hst5' := (ho5.stored m5 (I ((k : Int) + 1))).1
          rw [← List.map_set] at hst5'
          have HS5 : Hid ((w5.setCell ⟨w1.heap.size, m5, none⟩ (I ((k : Int) + 1))).ownsRow w1.heap.size 3 1 (.slice (some ⟨w1.heap.size, 0, none⟩) 20 20) 20 (((((wordsK xs k st).set k x).set m2 ((k : Int) + 1)).set m5 ((k : Int) + 1)).map I)) := hst5'
          have hf5 := ho5.frozenAt m5
          obtain ⟨u5, hc5⟩ := own_cell ho5 lt5
          clear hw5 ho5 hst5' hf4 hc4 HS4 q1
          go_wp2
          refine ⟨⟨k + 1, by omega, by go_num, ?_, hb5.setCell (Nat.le_refl _) _⟩, by simp [intOf]; omega⟩
          rw [← wordsK_step hlt HX.out hv HNE.out, stepW, if_pos hvia, ← HM2.out, ← HM5.out]
          exact HS5.out
        · have hvia' : ¬ ((k : Int) < st - 1) := by omega
          go_wp2
          refine ⟨⟨k + 1, by omega, by go_num, ?_, hb4.setCell (Nat.le_refl _) _⟩, by simp [intOf]; omega⟩
          rw [← wordsK_step hlt HX.out hv HNE.out, stepW, if_neg (by omega), ← HM2.out]
          exact HS4.out
    · obtain rfl : k = 4 := by omega
      have HB : Hid (IntAt wr a 4 xs) := HA.out.below hbw (Nat.le_refl _)
      have HO : Hid (wr.ownsRow w1.heap.size 3 1 (.slice (some ⟨w1.heap.size, 0, none⟩) 20 20) 20 ((wordsK xs 4 st).map I)) := ho
      clear ho
      rw [wordsC_zero] at HO
      have hsr : w1.heap.size ≤ wr.heap.size := hb.size
      clear HD
      go_wp2
      go_loopw [6] (fun i wt => ∃ q : Nat, q ≤ 3 ∧ i = .int .i64 (q : Int) ∧ wt.ownsRow w1.heap.size 3 1 (.slice (some ⟨w1.heap.size, 0, none⟩) 20 20) 20 ((wordsC xs q st).map I) ∧ Below w1.heap.size w1 wt) (fun i _ => 3 - (intOf i).toNat)
      case atStart => exact ⟨0, Nat.zero_le _, rfl, HO.out, hb⟩
      case round =>
        obtain ⟨q, hq, rfl, ho, hbt⟩ := hrel
        clear HO HB hbw d0 d1
        have d0 := (hbt.cell (p := ⟨w.heap.size, 0, none⟩) hs1).trans HC0.out
        have d1 := (hbt.cell (p := ⟨w.heap.size, 1, none⟩) hs1).trans HC1.out
        have HB : Hid (IntAt wr a 4 xs) := HA.out.below (hbw1.trans (hbt.mono hbw1.size)) (Nat.le_refl _)
        have HO : Hid (wr.ownsRow w1.heap.size 3 1 (.slice (some ⟨w1.heap.size, 0, none⟩) 20 20) 20 ((wordsC xs q st).map I)) := ho
        have hst := hbt.size
        clear ho
        by_cases hlt2 : q < 3
        · obtain ⟨m, hm⟩ : ∃ m : Nat, m = 10 + q := ⟨_, rfl⟩
          have ltm : m < 20 := by omega
          have HM : Hid (m = 10 + q) := hm
          clear hm
          go_wp2
          go_region_with (first
            | (go_at_call 48; refine (at_count q m hlt2 HM.out _).mono ?_; rintro e w3 ⟨rfl, rfl⟩)
            | (go_at_call 47; refine (specHowMany_four a c st (q : Int) xs _ (HB.out.below (Below.refl _ wr).drew (Nat.le_refl _))).mono ?_; rintro e w4 ⟨rfl, hb4⟩
               have ho4 := owns_below HO.out ((Below.refl wr.heap.size wr).drew.trans hb4) (Nat.le_refl _)
               have hf4 := ho4.frozenAt m
               obtain ⟨u4, hc4⟩ := own_cell ho4 ltm))
          all_goals
            have hb5 : Below w1.heap.size w1 w4 := hbt.drew.trans (hb4.mono hst)
            have hs5 := (ho4.stored m (I (cntK xs (q : Int) 4))).1
            rw [← List.map_set, show (wordsC xs q st).set m (cntK xs (q : Int) 4) = wordsC xs (q + 1) st by rw [HM.out]; exact wordsC_step xs q hlt2 st] at hs5
            have HS : Hid ((w4.setCell ⟨w1.heap.size, m, none⟩ (I (cntK xs (q : Int) 4))).ownsRow w1.heap.size 3 1 (.slice (some ⟨w1.heap.size, 0, none⟩) 20 20) 20 ((wordsC xs (q + 1) st).map I)) := hs5
            clear hs5 ho4 hf4 hc4
            go_wp2
            refine ⟨?_, ?m1⟩
            (repeat apply Exists.intro)
            refine ⟨?r1, rfl⟩
            case r1 => exact ⟨q + 1, by omega, by go_num, HS.out, hb5.setCell (Nat.le_refl _) _⟩
            case m1 => simp [intOf]; omega
        · obtain rfl : q = 3 := by omega
          have hf := HO.out.frozenAt 13
          obtain ⟨u, hc⟩ := own_cell HO.out (show 13 < 20 by omega)
          have hs5 := (HO.out.stored 13 (I st)).1
          rw [← List.map_set, wordsC_end] at hs5
          have HS : Hid ((wr.setCell ⟨w1.heap.size, 13, none⟩ (I st)).ownsRow w1.heap.size 3 1 (.slice (some ⟨w1.heap.size, 0, none⟩) 20 20) 20 ((specL xs st).map I)) := hs5
          clear hs5
          go_wp2
          go_region_with (first
            | (go_at_call 25; refine (specStateAt_any _).mono ?_; rintro e w3 ⟨rfl, rfl⟩))
          all_goals
            go_wp2
            go_ret
            exact ⟨⟨_, _, _, rfl, (own_intAt HS.out (by omega)).below (Below.refl _ _).drew (Nat.le_refl _)⟩, (hbw1.trans ((hbt.setCell (p := ⟨w1.heap.size, 13, none⟩) (Nat.le_refl _) (I st)).mono hbw1.size)).drew⟩
end Go.Proofs.YtkifebhkgldefaaDoor
