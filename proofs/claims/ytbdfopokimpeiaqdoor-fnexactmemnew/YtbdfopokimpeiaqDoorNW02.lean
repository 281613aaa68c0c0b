/- Texts joined: SpecWords, RowsRoom, ImplWords, Ints, LawRows, Far, Trip, EntriesM, InB, DescM, BoxN, ValM, Ent1, Ents, ResV, ResL. -/
import Derived.Test.YtbdfopokimpeiaqDoorNW01
import Derived.Deep.RegionWith
import Derived.Test.YtbdfopokimpeiaqDoorRows
import Derived.WalkKit
import Derived.ProofKit
import Derived.WalkSmall
import Derived.OpenShut
import Derived.Handy
import Derived.Below
import Derived.Maps.AppendAt
import Derived.OwnWalk
import Derived.Lib.SmallJoins
import Derived.Deep.Slices
import Derived.Deep.SlicePairs
import Derived.Deep.Strs
import Derived.Deep.RegionHeld3
import Derived.ChangeOld
/- spec.WordsOf, walked. -/
namespace Go.Proofs.YtbdfopokimpeiaqDoor
open Go.ChangeShapes Go.WideShapes Go.ChangeAt Go.RowKit Go.Maps

theorem at_row (k : Nat) (hk : k < 4) (w : World) : Calls Tryd.prog 30 #[.int .i64 (k : Int)] w fun e w' => e = .returned (.int .i64 (k : Int)) ∧ w' = w := by
  have := specRowAt_any (k : Int) w
  rwa [show placeN 1 (k : Int) = (k : Int) by unfold placeN; repeat' split <;> omega] at this
theorem at_owner (x : Int) (m : Nat) (hx : 1 ≤ x ∧ x ≤ 6) (hm : m = (x + 3).toNat) (w : World) : Calls Tryd.prog 31 #[.int .i64 x] w fun e w' => e = .returned (.int .i64 (m : Int)) ∧ w' = w := by
  have := specOwnerAt_any x w
  rwa [show placeN 2 x = (m : Int) by unfold placeN; repeat' split <;> omega] at this
theorem at_via (x : Int) (m : Nat) (hx : 1 ≤ x ∧ x ≤ 6) (hm : m = (x + 13).toNat) (w : World) : Calls Tryd.prog 32 #[.int .i64 x] w fun e w' => e = .returned (.int .i64 (m : Int)) ∧ w' = w := by
  have := specViaAt_any x w
  rwa [show placeN 5 x = (m : Int) by unfold placeN; repeat' split <;> omega] at this
theorem at_count (c m : Nat) (hc : c < 3) (hm : m = 10 + c) (w : World) : Calls Tryd.prog 34 #[.int .i64 (c : Int)] w fun e w' => e = .returned (.int .i64 (m : Int)) ∧ w' = w := by
  have := specCountAt_any (c : Int) w
  rwa [show placeN 3 (c : Int) = (m : Int) by unfold placeN; repeat' split <;> omega] at this

/-- What is told of the first k keys. -/
def mk (xs : List Int) (k j : Nat) : Int := if j < k then xs.getD j 0 else 0
def wordsK (xs : List Int) (k : Nat) (st : Int) : List Int := wordsG (mk xs k 0) (mk xs k 1) (mk xs k 2) (mk xs k 3) 0 0 0 0 st
theorem wordsK_len (xs : List Int) (k : Nat) (st : Int) : (wordsK xs k st).length = 20 := rfl
theorem wordsK_step {xs : List Int} {k : Nat} {x st : Int} (hk : k < 4) (hx : xs.getD k 0 = x) (hv : 1 ≤ x ∧ x ≤ 6) (hne : ∀ j, j < k → xs.getD j 0 ≠ x) : stepW (wordsK xs k st) k x st = wordsK xs (k + 1) st := by
  have h : k = 0 ∨ k = 1 ∨ k = 2 ∨ k = 3 := by omega
  have h0 : (0 : Int) ≠ x := by omega
  rcases h with rfl | rfl | rfl | rfl
  · rw [wordsK, wordsK]
    simp only [mk, hx]
    exact step0 0 0 0 0 0 0 0 st x hv h0 h0 h0
  · rw [wordsK, wordsK]
    simp only [mk, hx]
    exact step1 _ 0 0 0 0 0 0 st x hv (hne 0 (by omega)) h0 h0
  · rw [wordsK, wordsK]
    simp only [mk, hx]
    exact step2 _ _ 0 0 0 0 0 st x hv (hne 0 (by omega)) (hne 1 (by omega)) h0
  · rw [wordsK, wordsK]
    simp only [mk, hx]
    exact step3 _ _ _ 0 0 0 0 st x hv (hne 0 (by omega)) (hne 1 (by omega)) (hne 2 (by omega))
theorem wordsK_none {xs : List Int} {k : Nat} {st : Int} (hk : k < 4) (hx : xs.getD k 0 = 0) : (wordsK xs k st).set k 0 = wordsK xs (k + 1) st := by
  have h : k = 0 ∨ k = 1 ∨ k = 2 ∨ k = 3 := by omega
  rcases h with rfl | rfl | rfl | rfl <;> (rw [wordsK, wordsK]; simp only [mk, hx]; rfl)

/-- .. and of the first c classes how many there are. -/
def wordsC (xs : List Int) (c : Nat) (st : Int) : List Int := wordsG (xs.getD 0 0) (xs.getD 1 0) (xs.getD 2 0) (xs.getD 3 0) (if 0 < c then cntK xs 0 4 else 0) (if 1 < c then cntK xs 1 4 else 0) (if 2 < c then cntK xs 2 4 else 0) 0 st
theorem wordsC_zero (xs : List Int) (st : Int) : wordsK xs 4 st = wordsC xs 0 st := rfl
theorem wordsC_step (xs : List Int) (c : Nat) (hc : c < 3) (st : Int) : (wordsC xs c st).set (10 + c) (cntK xs (c : Int) 4) = wordsC xs (c + 1) st := by
  have h : c = 0 ∨ c = 1 ∨ c = 2 := by omega
  rcases h with rfl | rfl | rfl <;> rfl
theorem wordsC_end (xs : List Int) (st : Int) : (wordsC xs 3 st).set 13 st = wordsL (xs.getD 0 0) (xs.getD 1 0) (xs.getD 2 0) (xs.getD 3 0) st := by
  rw [wordsL, ← cntK_four, ← cntK_four, ← cntK_four]
  rfl

/-- The answer is a list of these numbers. -/
def ListSays (e : Ending) (w' : World) (L : List Int) : Prop := ∃ a n c, e = .returned (.slice a n c) ∧ IntAt w' a n L
/-- The words that the specification tells. -/
def specL (xs : List Int) (st : Int) : List Int := wordsL (xs.getD 0 0) (xs.getD 1 0) (xs.getD 2 0) (xs.getD 3 0) st

set_option maxHeartbeats 2000000 in
set_option maxRecDepth 100000 in
theorem specWordsOf_not (a : Option Addr) (n c : Nat) (st : Int) (xs : List Int) (w : World) (hA : IntAt w a n xs) (hno : ¬ SpecOk xs n st) :
    Calls Tryd.prog 14 #[.agg #[.slice a n c, .int .i64 st]] w fun e w' => ListSays e w' [] ∧ Below w.heap.size w w' := by
  have HA : Hid (IntAt w a n xs) := hA
  have HN : Hid (¬ SpecOk xs n st) := hno
  clear hA hno
  go_enter Tryd.func14, Tryd.ntmps14
  go_wp2_with fail
  refine (specRowsOk_any a n c st xs _ (HA.out.below ((Below.refl _ w).alloc (Nat.le_refl _) _) (Nat.le_refl _))).mono ?_
  rintro e w1 ⟨⟨ok, rfl, hok⟩, hb1⟩
  obtain rfl : ok = false := by
    cases ok
    · rfl
    · exact absurd (hok.1 rfl) HN.out
  have hbw : Below w.heap.size w w1 := ((Below.refl _ w).alloc (Nat.le_refl _) _).trans (hb1.mono (by simp))
  clear hok hb1
  go_wp2
  go_ret
  exact ⟨⟨_, _, _, rfl, rfl, by omega, .inl rfl⟩, hbw.alloc hbw.size _⟩

set_option maxHeartbeats 2000000 in
set_option maxRecDepth 100000 in
theorem specWordsOf_yes (a : Option Addr) (c : Nat) (st : Int) (xs : List Int) (w : World) (hA : IntAt w a 4 xs) (hyes : SpecOk xs 4 st) :
    Calls Tryd.prog 14 #[.agg #[.slice a 4 c, .int .i64 st]] w fun e w' => ListSays e w' (specL xs st) ∧ Below w.heap.size w w' := by
  have HA : Hid (IntAt w a 4 xs) := hA
  have HY : Hid (SpecOk xs 4 st) := hyes
  clear hA hyes
  obtain ⟨i0, hi, hz0, hz1, hz2⟩ := info_parts infoInt
  go_enter Tryd.func14, Tryd.ntmps14
  go_wp2_with fail
  refine (specRowsOk_any a 4 c st xs _ (HA.out.below ((Below.refl _ w).alloc (Nat.le_refl _) _) (Nat.le_refl _))).mono ?_
  rintro e w1 ⟨⟨ok, rfl, hok⟩, hb1⟩
  obtain rfl : ok = true := hok.2 HY.out
  simp only [World.size_alloc] at hb1
  have hs1 : w.heap.size < w1.heap.size := Nat.lt_of_succ_le (by simpa using hb1.size)
  have hst0 : 0 ≤ st := HY.out.2.2.1
  have hst5 : st ≤ 5 := HY.out.2.2.2
  have hbw1 : Below w.heap.size w w1 := ((Below.refl _ w).alloc (Nat.le_refl _) _).trans (hb1.mono (Nat.le_succ _))
  have c0 : w1.cell? ⟨w.heap.size, 0, none⟩ = some (.slice a 4 c) := by rw [hb1.cell (by simp)]; simp
  have c1 : w1.cell? ⟨w.heap.size, 1, none⟩ = some (.int .i64 st) := by rw [hb1.cell (by simp)]; simp
  have HC0 : Hid (w1.cell? ⟨w.heap.size, 0, none⟩ = some (.slice a 4 c)) := c0
  have HC1 : Hid (w1.cell? ⟨w.heap.size, 1, none⟩ = some (.int .i64 st)) := c1
  clear hok hb1
  go_wp2_with (first | (at_make; refine wpList_make_full _ rfl _ _ 22 rfl w1.heap.size 3 i0 (.int .i64 0) 1 Tryd.underlying22 hi hz0 hz1 .i64 .i64 _ _ 20 rfl rfl rfl rfl (by rw [hz2]; omega) (by unfold maxLen; omega) (Nat.le_refl _) ?_; intro w2 own2 grow2) | fail)
  rw [show (madeCells (Value.int .i64 0).cells (20 * 1)).toList = (wordsK xs 0 st).map I from (toList_madeCells_one _ _).trans (by rw [wordsK]; simp only [mk]; rw [show wordsG (if 0 < 0 then xs.getD 0 0 else 0) (if 1 < 0 then xs.getD 1 0 else 0) (if 2 < 0 then xs.getD 2 0 else 0) (if 3 < 0 then xs.getD 3 0 else 0) 0 0 0 0 st = List.replicate 20 0 from wordsG_new st]; rfl)] at own2
  have hb2 : Below w1.heap.size w1 w2 := (Below.refl _ _).grown grow2 (Nat.le_refl _) (fun k e => by cases e)
  clear grow2
  have HD : Hid (∀ k, k < 4 → xs.getD k 0 ≠ 0 → (1 ≤ xs.getD k 0 ∧ xs.getD k 0 ≤ 6) ∧ ∀ j, j < k → xs.getD j 0 ≠ xs.getD k 0) := fun k hk h0 => by
    rcases HY.out.1 k hk with h | ⟨h1, h2 | ⟨i, hi, e, _, h3⟩⟩
    · exact absurd h h0
    · exact absurd h2.1 (by omega)
    · obtain rfl : k = i := by omega
      exact ⟨h1, h3⟩
  go_loopw [4] (fun i wr => ∃ k : Nat, k ≤ 4 ∧ i = .int .i64 (k : Int) ∧ wr.ownsRow w1.heap.size 3 1 (.slice (some ⟨w1.heap.size, 0, none⟩) 20 20) 20 ((wordsK xs k st).map I) ∧ Below w1.heap.size w1 wr) (fun i _ => 4 - (intOf i).toNat)
  case atStart => exact ⟨0, Nat.zero_le _, rfl, own2, hb2⟩
  case round =>
    obtain ⟨k, hk, rfl, ho, hb⟩ := hrel
    have d0 : wr.cell? ⟨w.heap.size, 0, none⟩ = some (.slice a 4 c) := (hb.cell hs1).trans c0
    have d1 : wr.cell? ⟨w.heap.size, 1, none⟩ = some (.int .i64 st) := (hb.cell hs1).trans c1
    have hbw : Below w.heap.size w wr := hbw1.trans (hb.mono hbw1.size)
    clear own2 hb2 c0 c1
    by_cases hlt : k < 4
    · rcases (HA.out.below hbw (Nat.le_refl _)).2.2 with h0 | ⟨p1, o1, rfl, g1⟩
      · omega
      have e1 := g1 k hlt
      obtain ⟨x, hx⟩ : ∃ x, xs.getD k 0 = x := ⟨_, rfl⟩
      rw [hx] at e1
      have HX : Hid (xs.getD k 0 = x) := hx
      have HO : Hid (wr.ownsRow w1.heap.size 3 1 (.slice (some ⟨w1.heap.size, 0, none⟩) 20 20) 20 ((wordsK xs k st).map I)) := ho
      have hst := (ho.stored k (I x)).1
      rw [← List.map_set] at hst
      have HS : Hid ((wr.setCell ⟨w1.heap.size, k, none⟩ (I x)).ownsRow w1.heap.size 3 1 (.slice (some ⟨w1.heap.size, 0, none⟩) 20 20) 20 (((wordsK xs k st).set k x).map I)) := hst
      have hf := ho.frozenAt k
      obtain ⟨u, hc⟩ := own_cell ho (show k < 20 by omega)
      clear g1 hx ho hst
      go_wp2_with fail
      refine (at_row k hlt _).mono ?_
      rintro e w3 ⟨rfl, rfl⟩
      by_cases hx0 : x = 0
      · subst hx0
        go_wp2
        refine ⟨⟨k + 1, by omega, by go_num, ?_, hb.setCell (Nat.le_refl _) _⟩, by simp [intOf]; omega⟩
        rw [← wordsK_none hlt HX.out]
        exact HS.out
      · have hv := HD.out k hlt (by rw [HX.out]; exact hx0)
        rw [HX.out] at hv
        have HNE : Hid (∀ j, j < k → xs.getD j 0 ≠ x) := hv.2
        replace hv := hv.1
        have hx1 : (x == 0) = false := by simpa using hx0
        obtain ⟨m2, hm2⟩ : ∃ m : Nat, m = (x + 3).toNat := ⟨_, rfl⟩
        have lt2 : m2 < 20 := by omega
        have HM2 : Hid (m2 = (x + 3).toNat) := hm2
        clear hm2
        go_wp2_with fail
        refine (at_owner x m2 hv HM2.out _).mono ?_
        rintro e w4 ⟨rfl, hw4⟩
        have ho4 : w4.ownsRow w1.heap.size 3 1 (.slice (some ⟨w1.heap.size, 0, none⟩) 20 20) 20 (((wordsK xs k st).set k x).map I) := by rw [hw4]; exact HS.out
        have hb4 : Below w1.heap.size w1 w4 := by rw [hw4]; exact hb.setCell (Nat.le_refl _) _
        have q1 : w4.cell? ⟨w.heap.size, 1, none⟩ = some (.int .i64 st) := (hb4.cell hs1).trans ((hb.cell hs1).symm.trans d1)
        have hst4 := (ho4.stored m2 (I ((k : Int) + 1))).1
        rw [← List.map_set] at hst4
        have HS4 : Hid ((w4.setCell ⟨w1.heap.size, m2, none⟩ (I ((k : Int) + 1))).ownsRow w1.heap.size 3 1 (.slice (some ⟨w1.heap.size, 0, none⟩) 20 20) 20 ((((wordsK xs k st).set k x).set m2 ((k : Int) + 1)).map I)) := hst4
        have hf4 := ho4.frozenAt m2
        obtain ⟨u4, hc4⟩ := own_cell ho4 lt2
        have ne4 : w1.heap.size ≠ w.heap.size := by omega
        clear hw4 ho4 hst4 hf hc HS HO d0 d1 e1
        by_cases hvia : (k : Int) + 1 < st
        · have hvia' : (k : Int) < st - 1 := by omega
          obtain ⟨m5, hm5⟩ : ∃ m : Nat, m = (x + 13).toNat := ⟨_, rfl⟩
          have lt5 : m5 < 20 := by omega
          have HM5 : Hid (m5 = (x + 13).toNat) := hm5
          clear hm5
          go_wp2_with fail
          refine (at_via x m5 hv HM5.out _).mono ?_
          rintro e w5 ⟨rfl, hw5⟩
          have ho5 : w5.ownsRow w1.heap.size 3 1 (.slice (some ⟨w1.heap.size, 0, none⟩) 20 20) 20 ((((wordsK xs k st).set k x).set m2 ((k : Int) + 1)).map I) := by rw [hw5]; exact HS4.out
          have hb5 : Below w1.heap.size w1 w5 := by rw [hw5]; exact hb4.setCell (Nat.le_refl _) _
          have hst5' := (ho5.stored m5 (I ((k : Int) + 1))).1
          rw [← List.map_set] at hst5'
          have HS5 : Hid ((w5.setCell ⟨w1.heap.size, m5, none⟩ (I ((k : Int) + 1))).ownsRow w1.heap.size 3 1 (.slice (some ⟨w1.heap.size, 0, none⟩) 20 20) 20 (((((wordsK xs k st).set k x).set m2 ((k : Int) + 1)).set m5 ((k : Int) + 1)).map I)) := hst5'
          have hf5 := ho5.frozenAt m5
          obtain ⟨u5, hc5⟩ := own_cell ho5 lt5
          clear hw5 ho5 hst5' hf4 hc4 HS4 q1
          go_wp2
          refine ⟨⟨k + 1, by omega, by go_num, ?_, hb5.setCell (Nat.le_refl _) _⟩, by simp [intOf]; omega⟩
          rw [← wordsK_step hlt HX.out hv HNE.out, stepW, if_pos hvia, ← HM2.out, ← HM5.out]
          exact HS5.out
        · have hvia' : ¬ ((k : Int) < st - 1) := by omega
          go_wp2
          refine ⟨⟨k + 1, by omega, by go_num, ?_, hb4.setCell (Nat.le_refl _) _⟩, by simp [intOf]; omega⟩
          rw [← wordsK_step hlt HX.out hv HNE.out, stepW, if_neg (by omega), ← HM2.out]
          exact HS4.out
    · obtain rfl : k = 4 := by omega
      have HB : Hid (IntAt wr a 4 xs) := HA.out.below hbw (Nat.le_refl _)
      have HO : Hid (wr.ownsRow w1.heap.size 3 1 (.slice (some ⟨w1.heap.size, 0, none⟩) 20 20) 20 ((wordsK xs 4 st).map I)) := ho
      clear ho
      rw [wordsC_zero] at HO
      have hsr : w1.heap.size ≤ wr.heap.size := hb.size
      clear HD
      go_wp2
      go_loopw [6] (fun i wt => ∃ q : Nat, q ≤ 3 ∧ i = .int .i64 (q : Int) ∧ wt.ownsRow w1.heap.size 3 1 (.slice (some ⟨w1.heap.size, 0, none⟩) 20 20) 20 ((wordsC xs q st).map I) ∧ Below w1.heap.size w1 wt) (fun i _ => 3 - (intOf i).toNat)
      case atStart => exact ⟨0, Nat.zero_le _, rfl, HO.out, hb⟩
      case round =>
        obtain ⟨q, hq, rfl, ho, hbt⟩ := hrel
        clear HO HB hbw d0 d1
        have d0 := (hbt.cell (p := ⟨w.heap.size, 0, none⟩) hs1).trans HC0.out
        have d1 := (hbt.cell (p := ⟨w.heap.size, 1, none⟩) hs1).trans HC1.out
        have HB : Hid (IntAt wr a 4 xs) := HA.out.below (hbw1.trans (hbt.mono hbw1.size)) (Nat.le_refl _)
        have HO : Hid (wr.ownsRow w1.heap.size 3 1 (.slice (some ⟨w1.heap.size, 0, none⟩) 20 20) 20 ((wordsC xs q st).map I)) := ho
        have hst := hbt.size
        clear ho
        by_cases hlt2 : q < 3
        · obtain ⟨m, hm⟩ : ∃ m : Nat, m = 10 + q := ⟨_, rfl⟩
          have ltm : m < 20 := by omega
          have HM : Hid (m = 10 + q) := hm
          clear hm
          go_wp2
          go_region_with (first
            | (go_at_call 34; refine (at_count q m hlt2 HM.out _).mono ?_; rintro e w3 ⟨rfl, rfl⟩)
            | (go_at_call 33; refine (specHowMany_four a c st (q : Int) xs _ (HB.out.below (Below.refl _ wr).drew (Nat.le_refl _))).mono ?_; rintro e w4 ⟨rfl, hb4⟩
               have ho4 := owns_below HO.out ((Below.refl wr.heap.size wr).drew.trans hb4) (Nat.le_refl _)
               have hf4 := ho4.frozenAt m
               obtain ⟨u4, hc4⟩ := own_cell ho4 ltm))
          all_goals
            have hb5 : Below w1.heap.size w1 w4 := hbt.drew.trans (hb4.mono hst)
            have hs5 := (ho4.stored m (I (cntK xs (q : Int) 4))).1
            rw [← List.map_set, show (wordsC xs q st).set m (cntK xs (q : Int) 4) = wordsC xs (q + 1) st by rw [HM.out]; exact wordsC_step xs q hlt2 st] at hs5
            have HS : Hid ((w4.setCell ⟨w1.heap.size, m, none⟩ (I (cntK xs (q : Int) 4))).ownsRow w1.heap.size 3 1 (.slice (some ⟨w1.heap.size, 0, none⟩) 20 20) 20 ((wordsC xs (q + 1) st).map I)) := hs5
            clear hs5 ho4 hf4 hc4
            go_wp2
            refine ⟨?_, ?m1⟩
            (repeat apply Exists.intro)
            refine ⟨?r1, rfl⟩
            case r1 => exact ⟨q + 1, by omega, by go_num, HS.out, hb5.setCell (Nat.le_refl _) _⟩
            case m1 => simp [intOf]; omega
        · obtain rfl : q = 3 := by omega
          have hf := HO.out.frozenAt 13
          obtain ⟨u, hc⟩ := own_cell HO.out (show 13 < 20 by omega)
          have hs5 := (HO.out.stored 13 (I st)).1
          rw [← List.map_set, wordsC_end] at hs5
          have HS : Hid ((wr.setCell ⟨w1.heap.size, 13, none⟩ (I st)).ownsRow w1.heap.size 3 1 (.slice (some ⟨w1.heap.size, 0, none⟩) 20 20) 20 ((specL xs st).map I)) := hs5
          clear hs5
          go_wp2
          go_region_with (first
            | (go_at_call 35; refine (specStateAt_any _).mono ?_; rintro e w3 ⟨rfl, rfl⟩))
          all_goals
            go_wp2
            go_ret
            exact ⟨⟨_, _, _, rfl, (own_intAt HS.out (by omega)).below (Below.refl _ _).drew (Nat.le_refl _)⟩, (hbw1.trans ((hbt.setCell (p := ⟨w1.heap.size, 13, none⟩) (Nat.le_refl _) (I st)).mono hbw1.size)).drew⟩
end Go.Proofs.YtbdfopokimpeiaqDoor

/- impl.holdersOf and impl.RowsOk at lists that have more room than they are long, walked. -/
namespace Go.Proofs.YtbdfopokimpeiaqDoor
open Go.ChangeShapes Go.WideShapes Go.ChangeAt Go.RowKit Go.Maps

set_option maxHeartbeats 1000000 in
set_option maxRecDepth 100000 in
theorem holdersOf_cap (H : Type) (a : Option Addr) (cp : Nat) (hcp : 4 ≤ cp) (st : Int) (xs : List Int) (w : World) (hA : IntAt w a 4 xs) (hi : ∀ x ∈ xs, (Lit.int .i64 x).wf = true) :
    Calls Tryd.prog 41 #[.agg #[.slice a 4 cp, .int .i64 st]] w fun e w' =>
      e = .returned (.map (some (w.heap.size + 1))) ∧ Below w.heap.size w w' ∧ ∃ (R : Value → Option (DataW H × List MemPlace)) (D : DataW H), w'.ownsMap Tryd.prog 3 R (w.heap.size + 1) 4 D ∧ RowsIn R w' (w.heap.size + 2) ∧ HD xs D := by
  obtain ⟨hl, _, h0 | ⟨b, o, rfl, hc⟩⟩ := hA
  · omega
  have hmm := @run_makeMap Tryd.prog
  have HC : Hid (∀ i, i < 4 → w.cell? ⟨b, o + i, none⟩ = some (I (xs.getD i 0))) := hc
  have HI : Hid (∀ x ∈ xs, (Lit.int .i64 x).wf = true) := hi
  have HL : Hid (xs.length = 4) := hl
  have hblt : b < w.heap.size := World.block_lt_of_cell? w _ (hc 0 (by omega))
  clear hc hi hl
  have hcp1 : (4 : Int) ≤ (cp : Int) := by omega
  obtain ⟨i0, hin, hz0, hz1, hz2⟩ := info_parts infoInt
  go_enter Tryd.func41, Tryd.ntmps41
  go_wp2
  go_loopw [15] (fun i wr => ∃ k : Nat, k ≤ 4 ∧ i = .int .i64 (k : Int) ∧ ∃ D : DataW H, wr.ownsGroups Tryd.prog 3 (w.heap.size + 2) 3 .i64 (w.heap.size + 1) k D ∧ GD xs k D ∧ Below w.heap.size w wr ∧ w.heap.size + 2 ≤ wr.heap.size)
    (fun i _ => 4 - (intOf i).toNat)
  case atStart =>
    refine ⟨0, Nat.zero_le _, rfl, .map [], ?_, GD_zero _, ((Below.refl _ _).alloc (Nat.le_refl _) _).alloc (by simp) _, by simp⟩
    have := World.ownsGroups_made (H := H) (w.alloc (Obj.cells #[Value.slice (some { block := b, off := o }) 4 cp, Value.int IntKind.i64 st] 32)) Tryd.prog 3 3 .i64
    simpa using this
  case round =>
    obtain ⟨k, hk, rfl, D, hown, hgd, hnx, hws⟩ := hrel
    obtain ⟨x, hx⟩ : ∃ x, xs.getD k 0 = x := ⟨_, rfl⟩
    have HX : Hid (xs.getD k 0 = x) := hx
    have HGD : Hid (GD xs k D) := hgd
    by_cases hlt : k < 4
    · have hcx : wr.cell? ⟨b, o + k, none⟩ = some (I x) := by rw [← hx]; exact (hnx.cell (by exact hblt)).trans (HC.out k hlt)
      have hwx : (Lit.int .i64 x).wf = true := HI.out x (by
        have hk4 : k < xs.length := by have := HL.out; omega
        rw [← hx, show xs.getD k 0 = xs[k] by simp [List.getD, hk4]]
        exact List.getElem_mem _)
      have hkey := keyOf_int_mk Tryd.underlying3 hwx
      clear hx hgd
      go_wp2_with (first
        | (at_lookup; refine wpList_lookup_groups _ rfl _ _ 65 rfl 3 22 3 .i64 mapLaw Tryd.underlying65 (zeroInts _) (w.heap.size + 2) (w.heap.size + 1) k _ rfl hown (by unfold maxLen; omega) _ _ rfl hkey ?_; intro v zs hat hoi hzl hback)
        | (at_builtin; refine wpList_append_own_at _ rfl _ _ 22 rfl (w.heap.size + 2) 3 i0 (.int .i64 0) 1 8 Tryd.underlying22 hin hz0 hz1 hz2 rfl (by decide) _ _ _ rfl (hoi.1.alloc _) ⟨wr.heap.size, 0, none⟩ 1 1 [.int .i64 k] rfl rfl (cell_one_new _ _ _) (ints_oneCell .i64 [(k : Int)]) (by unfold maxLen; omega) (by omega) (by simp; omega) ?_; intro v' w1 hown' hgrow hnil hloc)
        | (at_mapUpdate; refine wpList_mapUpdate_back _ rfl _ _ _ 65 rfl hback rfl rfl rfl ((World.grownBy_alloc _ _ _).trans hgrow) (hoi.appended hown' (WalkArith.wf_i64 (by omega))) (by simp; omega) (hloc.imp id (fun h => ⟨_, h, by simp⟩)) ?_; intro w2 hown2 hgrow2)
        | go_in)
      have hall := (World.grownBy_alloc wr _ _).trans hgrow
      go_roundw
      case rel =>
        refine ⟨k + 1, by omega, by go_num, _, hown2, ?_, hnx.groups hoi hall hgrow2 hnx.size (by omega) (by omega), Nat.le_trans hws (Nat.le_trans hall.size hgrow2.size)⟩
        show GD xs (k + 1) (D.put (.int .i64 x) (rowDatum .i64 v' (zs ++ [(k : Int)])))
        rw [(hoi.appended hown' (WalkArith.wf_i64 (by omega))).datum_pos (by simp), GD_zs HGD.out hat hoi]
        exact GD_step HGD.out HX.out hwx
      case measure => simp [intOf]; omega
    · obtain rfl : k = 4 := by omega
      have hkey0 : keyOf Tryd.prog 3 (.int .i64 0) = some (.int .i64 0) := keyOf_int_mk Tryd.underlying3 (by decide)
      go_wp2_with (first
        | (at_delete; refine wpList_delete_own _ rfl _ _ 65 3 rfl 22 mapLaw Tryd.underlying65 _ (w.heap.size + 1) 4 D rfl (groups_map hown) _ _ rfl hkey0 ?_; intro w1 hown1 hturn1)
        | go_in)
      go_ret
      have hg1 := hturn1.grown
      refine ⟨rfl, hnx.grown hg1 hnx.size (fun j hj => by cases hj; omega), _, _, hown1, ?_, ?_⟩
      · intro v y hy
        obtain ⟨zs, ho, rfl⟩ := rowElem_inv hy
        refine ⟨zs, ho.kept hg1 ?_, rfl⟩
        cases hv : v.ownBlock with
        | none => exact .inl rfl
        | some g =>
          refine .inr fun e1 => ?_
          have := (ho.1.lt g hv).1
          cases e1
          omega
      · intro x
        have hg := HGD.out.2 x
        by_cases h0 : x = 0
        · subst h0
          refine ⟨by rw [has_del_same]; simp, fun h => absurd rfl h⟩
        · have hne : Lit.int .i64 x ≠ .int .i64 0 := fun e => h0 (by cases e; rfl)
          rw [has_del_other hne, hg.1]
          refine ⟨by simp [h0], fun _ zd hp => ?_⟩
          rw [atKey_del_other hne, atKey_has (by rw [hg.1]; simpa using hp) zd .nil, hg.2, rowOf_pos hp]

set_option maxHeartbeats 1000000 in
set_option maxRecDepth 100000 in
theorem implRowsOk_room (a : Option Addr) (n cp : Nat) (hcp : n ≤ cp) (st : Int) (xs : List Int) (w : World) (hA : IntAt w a n xs) (hi : ∀ x ∈ xs, (Lit.int .i64 x).wf = true) :
    Calls Tryd.prog 39 #[.agg #[.slice a n cp, .int .i64 st]] w fun e w' => Says e (OkRows xs st) ∧ Below w.heap.size w w' := by
  have hl := hA.1
  by_cases hn : n = 4
  · subst hn
    by_cases hs0 : st < 0
    · have h1 : Hid (¬ OkRows xs st) := fun h => by have := h.2.1; omega
      go_enter Tryd.func39, Tryd.ntmps39
      go_wp2
      go_ret
      exact ⟨⟨false, rfl, by simp [h1.out]⟩, (Below.refl _ _).alloc (Nat.le_refl _) _⟩
    by_cases hs1 : 5 < st
    · have h1 : Hid (¬ OkRows xs st) := fun h => by have := h.2.2.1; omega
      go_enter Tryd.func39, Tryd.ntmps39
      go_wp2
      go_ret
      exact ⟨⟨false, rfl, by simp [h1.out]⟩, (Below.refl _ _).alloc (Nat.le_refl _) _⟩
    have HA : Hid (IntAt w a 4 xs) := hA
    have HI : Hid (∀ x ∈ xs, (Lit.int .i64 x).wf = true) := hi
    have HL : Hid (xs.length = 4) := hl
    clear hA hi hl
    go_enter Tryd.func39, Tryd.ntmps39
    go_wp2_with fail
    refine (holdersOf_cap Unit a cp hcp st xs _ (HA.out.below ((Below.refl _ w).alloc (Nat.le_refl _) _) (Nat.le_refl _)) HI.out).mono ?_
    rintro e w1 ⟨rfl, hb1, R, D, hown, hR, hD⟩
    have hbw : Below w.heap.size w w1 := ((Below.refl _ w).alloc (Nat.le_refl _) _).trans (hb1.mono (by simp))
    have hsz1 := hown.lt
    simp only [World.size_alloc] at hown hR hsz1
    have HR : Hid (RowsIn R w1 (w.heap.size + 1 + 2)) := hR
    have HD1 : Hid (HD xs D) := hD
    clear hb1 hR hD
    go_wp2_with (first | (at_range; refine wpList_range_own _ rfl _ 65 rfl 3 22 mapLaw Tryd.underlying65 R (w.heap.size + 1 + 1) 4 D rfl hown ?_; intro w2 hrg0 hg0 hs2) | fail)
    go_frame
    have hb2 : Below w1.heap.size w1 w2 := (Below.refl _ _).grown hg0 (Nat.le_refl _) (fun k e => by cases e)
    clear hown hg0
    go_loopw [3] (fun _ wr => ∃ left cnt, wr.ranges Tryd.prog 3 R (w.heap.size + 1 + 1) w1.heap.size 4 D left cnt ∧ Below w1.heap.size w1 wr ∧ ∀ x : Int, x ≠ 0 → posK xs 4 x ≠ [] → left (.int .i64 x) = false → Good xs x) (fun _ wr => wr.rangeLeft (w.heap.size + 1 + 1) w1.heap.size)
    case atStart =>
      refine ⟨_, _, hrg0, hb2, fun x h0 hp hf => ?_⟩
      rw [(HD1.out x).1] at hf
      exact absurd ⟨h0, hp⟩ (of_decide_eq_false hf)
    case round =>
      obtain ⟨left, cnt, hrg, hbr, hgood⟩ := hrel
      have HG : Hid (∀ x : Int, x ≠ 0 → posK xs 4 x ≠ [] → left (.int .i64 x) = false → Good xs x) := hgood
      clear hgood hrg0 hb2
      go_wp2_with (first | (at_next; refine wpList_next_rows _ rfl _ rfl R HR.out (w.heap.size + 1 + 1) w1.heap.size 4 D HD1.out left cnt rfl hrg ?_ ?_) | fail)
      · intro _ hl0
        go_wp2
        go_ret
        exact ⟨⟨true, rfl, by simpa using ⟨HL.out, hs0, hs1, fun x h0 hp => HG.out x h0 hp (hl0 _)⟩⟩, hbw.trans (hbr.mono hbw.size)⟩
      · intro x p l c w3 cnt3 hlx hx0 hpx hrow hrg3 hlt hg3 hs3 hen
        have hb3 : Below w1.heap.size w1 w3 := hbr.grown hg3 hbr.size (fun k e => by cases e; exact Nat.le_refl _)
        have hb03 := hbw.trans (hb3.mono hbw.size)
        obtain rfl := row_len hrow
        have HP : Hid (posK xs 4 x ≠ []) := hpx
        clear hrow hg3 hpx
        go_wp2_with fail
        refine (implValOk_any x _).mono ?_
        rintro e w4 ⟨rfl, rfl⟩
        by_cases hv : 1 ≤ x ∧ x ≤ 6
        · rw [show decide (1 ≤ x ∧ x ≤ 6) = true from decide_eq_true hv]
          by_cases hln : 1 < (posK xs 4 x).length
          · have h1 : Hid (¬ OkRows xs st) := fun h => by have := (h.2.2.2 x hx0 HP.out).2; omega
            go_wp2
            go_ret
            exact ⟨⟨false, rfl, by simp [h1.out]⟩, hb03⟩
          · have hG : Hid (Good xs x) := ⟨hv, by omega⟩
            go_wp2
            refine ⟨⟨_, _, hrg3, hb3, fun y h0 hp hf => ?_⟩, by rw [hrg3.left_eq, hrg.left_eq]; omega⟩
            rw [sameKey_int] at hf
            by_cases hy : y = x
            · subst hy
              exact hG.out
            · exact HG.out y h0 hp (by simpa [hy] using hf)
        · rw [show decide (1 ≤ x ∧ x ≤ 6) = false from decide_eq_false hv]
          have h1 : Hid (¬ OkRows xs st) := fun h => hv (h.2.2.2 x hx0 HP.out).1
          go_wp2
          go_ret
          exact ⟨⟨false, rfl, by simp [h1.out]⟩, hb03⟩
  · have h1 : Hid (¬ OkRows xs st) := fun h => by have := h.1; omega
    have h2 : ((n : Int) != 4) = true := by simp; omega
    go_enter Tryd.func39, Tryd.ntmps39
    go_wp2
    go_ret
    exact ⟨⟨false, rfl, by simp [h1.out]⟩, (Below.refl _ _).alloc (Nat.le_refl _) _⟩
end Go.Proofs.YtbdfopokimpeiaqDoor

/- impl.WordsOf, walked. -/
namespace Go.Proofs.YtbdfopokimpeiaqDoor
open Go.ChangeShapes Go.WideShapes Go.ChangeAt Go.RowKit Go.Maps

theorem below_grown {w w' : World} (h : Below w.heap.size w w') : w.grownBy w' none := ⟨h.os, h.tape, h.output, h.size, fun i hi _ => h.block i hi⟩
theorem setCell_grown (w : World) (a : Addr) (u : Value) : w.grownBy (w.setCell a u) (some a.block) := ⟨rfl, rfl, rfl, by simp [World.setCell], fun i _ hne => Below.heap_setCell _ _ _ _ (fun e => hne (by rw [e]))⟩

theorem iat_row (k : Nat) (hk : k < 4) (w : World) (hN : Names w) : Calls Tryd.prog 42 #[.int .i64 (k : Int)] w fun e w' => e = .returned (.int .i64 (k : Int)) ∧ Below w.heap.size w w' := by
  have := implRowAt_any (k : Int) w hN
  rwa [show placeN 1 (k : Int) = (k : Int) by unfold placeN; repeat' split <;> omega] at this
theorem iat_owner (x : Int) (m : Nat) (hx : 1 ≤ x ∧ x ≤ 6) (hm : m = (x + 3).toNat) (w : World) (hN : Names w) : Calls Tryd.prog 43 #[.int .i64 x] w fun e w' => e = .returned (.int .i64 (m : Int)) ∧ Below w.heap.size w w' := by
  have := implOwnerAt_any x w hN
  rwa [show placeN 2 x = (m : Int) by unfold placeN; repeat' split <;> omega] at this
theorem iat_via (x : Int) (m : Nat) (hx : 1 ≤ x ∧ x ≤ 6) (hm : m = (x + 13).toNat) (w : World) (hN : Names w) : Calls Tryd.prog 46 #[.int .i64 x] w fun e w' => e = .returned (.int .i64 (m : Int)) ∧ Below w.heap.size w w' := by
  have := implViaAt_any x w hN
  rwa [show placeN 5 x = (m : Int) by unfold placeN; repeat' split <;> omega] at this
theorem iat_count (x : Int) (m : Nat) (hx : 1 ≤ x ∧ x ≤ 6) (hm : m = (10 + x % 3).toNat) (w : World) (hN : Names w) : Calls Tryd.prog 44 #[.int .i64 (classN x)] w fun e w' => e = .returned (.int .i64 (m : Int)) ∧ Below w.heap.size w w' := by
  have := implCountAt_any (classN x) w hN
  rwa [show placeN 3 (classN x) = (m : Int) by rw [classN, if_pos hx]; unfold placeN; repeat' split <;> omega] at this

set_option maxHeartbeats 2000000 in
set_option maxRecDepth 100000 in
theorem implWordsOf_not (a : Option Addr) (n : Nat) (st : Int) (xs : List Int) (w : World) (hA : IntAt w a n xs) (hi : ∀ x ∈ xs, (Lit.int .i64 x).wf = true) (hno : ¬ OkRows xs st) :
    Calls Tryd.prog 19 #[.agg #[.slice a n n, .int .i64 st]] w fun e w' => e = .returned (.slice none 0 0) ∧ Below w.heap.size w w' := by
  have HA : Hid (IntAt w a n xs) := hA
  have HI : Hid (∀ x ∈ xs, (Lit.int .i64 x).wf = true) := hi
  have HN : Hid (¬ OkRows xs st) := hno
  clear hA hno hi
  go_enter Tryd.func19, Tryd.ntmps19
  go_wp2_with fail
  refine (implRowsOk_any a n st xs _ (HA.out.below ((Below.refl _ w).alloc (Nat.le_refl _) _) (Nat.le_refl _)) HI.out).mono ?_
  rintro e w1 ⟨⟨ok, rfl, hok⟩, hb1⟩
  obtain rfl : ok = false := by
    cases ok
    · rfl
    · exact absurd (hok.1 rfl) HN.out
  have hbw : Below w.heap.size w w1 := ((Below.refl _ w).alloc (Nat.le_refl _) _).trans (hb1.mono (by simp))
  clear hok hb1
  go_wp2
  go_ret
  exact ⟨rfl, hbw⟩

/-- The words lie in a list of the call's own. -/
def OwnSays (e : Ending) (w w' : World) (L : List Int) : Prop := ∃ g, w.heap.size ≤ g ∧ e = .returned (.slice (some ⟨g, 0, none⟩) 20 20) ∧ w'.ownsRow g 3 1 (.slice (some ⟨g, 0, none⟩) 20 20) 20 (L.map I)

/-- What is told of those that are not to come. -/
def mkL (left : Lit → Bool) (x : Int) : Int := if left (.int .i64 x) = true then 0 else x
def wordsM (xs : List Int) (left : Lit → Bool) (st : Int) : List Int := wordsL (mkL left (xs.getD 0 0)) (mkL left (xs.getD 1 0)) (mkL left (xs.getD 2 0)) (mkL left (xs.getD 3 0)) st
theorem mkL_ne {left : Lit → Bool} {y x : Int} (h : y ≠ x) (h0 : x ≠ 0) : mkL left y ≠ x := by
  unfold mkL
  split
  · exact fun e => h0 e.symm
  · exact h
theorem mkL_other {left : Lit → Bool} {y x : Int} (h : y ≠ x) : mkL (fun z => left z && !z.sameKey (.int .i64 x)) y = mkL left y := by
  unfold mkL
  simp only [sameKey_int, h, decide_false, Bool.not_false, Bool.and_true]
theorem mkL_same {left : Lit → Bool} {x : Int} : mkL (fun z => left z && !z.sameKey (.int .i64 x)) x = x := by
  unfold mkL
  simp [sameKey_int]
theorem mkL_left {left : Lit → Bool} {x : Int} (h : left (.int .i64 x) = true) : mkL left x = 0 := by
  unfold mkL
  rw [if_pos h]
theorem wordsM_step {xs : List Int} {left : Lit → Bool} {k : Nat} {x st : Int} (hk : k < 4) (hx : xs.getD k 0 = x) (hv : 1 ≤ x ∧ x ≤ 6) (hne : ∀ j, j < 4 → j ≠ k → xs.getD j 0 ≠ x) (hl : left (.int .i64 x) = true) :
    istepW (wordsM xs left st) k x st = wordsM xs (fun z => left z && !z.sameKey (.int .i64 x)) st := by
  have h : k = 0 ∨ k = 1 ∨ k = 2 ∨ k = 3 := by omega
  have h0 : x ≠ 0 := by omega
  rcases h with rfl | rfl | rfl | rfl
  · have n1 := hne 1 (by omega) (by omega)
    have n2 := hne 2 (by omega) (by omega)
    have n3 := hne 3 (by omega) (by omega)
    rw [wordsM, wordsM, hx, mkL_left hl, mkL_same, mkL_other n1, mkL_other n2, mkL_other n3]
    exact istep0 _ _ _ st x hv (mkL_ne n1 h0) (mkL_ne n2 h0) (mkL_ne n3 h0)
  · have n1 := hne 0 (by omega) (by omega)
    have n2 := hne 2 (by omega) (by omega)
    have n3 := hne 3 (by omega) (by omega)
    rw [wordsM, wordsM, hx, mkL_left hl, mkL_same, mkL_other n1, mkL_other n2, mkL_other n3]
    exact istep1 _ _ _ st x hv (mkL_ne n1 h0) (mkL_ne n2 h0) (mkL_ne n3 h0)
  · have n1 := hne 0 (by omega) (by omega)
    have n2 := hne 1 (by omega) (by omega)
    have n3 := hne 3 (by omega) (by omega)
    rw [wordsM, wordsM, hx, mkL_left hl, mkL_same, mkL_other n1, mkL_other n2, mkL_other n3]
    exact istep2 _ _ _ st x hv (mkL_ne n1 h0) (mkL_ne n2 h0) (mkL_ne n3 h0)
  · have n1 := hne 0 (by omega) (by omega)
    have n2 := hne 1 (by omega) (by omega)
    have n3 := hne 2 (by omega) (by omega)
    rw [wordsM, wordsM, hx, mkL_left hl, mkL_same, mkL_other n1, mkL_other n2, mkL_other n3]
    exact istep3 _ _ _ st x hv (mkL_ne n1 h0) (mkL_ne n2 h0) (mkL_ne n3 h0)
theorem wordsM_start {H : Type} {xs : List Int} {D : DataW H} (hD : HD xs D) (st : Int) : wordsM xs (Maps.has D) st = wordsL 0 0 0 0 st := by
  have h : ∀ j, j < 4 → mkL (Maps.has D) (xs.getD j 0) = 0 := fun j hj => by
    by_cases h0 : xs.getD j 0 = 0
    · rw [h0]
      unfold mkL
      split <;> rfl
    · refine mkL_left ?_
      rw [(hD _).1]
      exact decide_eq_true ⟨h0, List.ne_nil_of_mem (mem_posK.2 ⟨j, hj, rfl, rfl⟩)⟩
  rw [wordsM, h 0 (by omega), h 1 (by omega), h 2 (by omega), h 3 (by omega)]
theorem wordsM_end {xs : List Int} {left : Lit → Bool} (h : ∀ kl, left kl = false) (st : Int) : wordsM xs left st = specL xs st := by
  simp only [wordsM, specL, mkL, h]
  simp

theorem getD_set_ne {L : List Int} {i j : Nat} {u : Int} (h : i ≠ j) : (L.set i u).getD j 0 = L.getD j 0 := by
  simp [List.getD, List.getElem?_set_ne h]
theorem count_le (xs : List Int) (left : Lit → Bool) (st u v : Int) (k m2 m3 : Nat) (hk : k < 4) (h2 : m2 < 10) (h3 : 10 ≤ m3) (h4 : m3 < 13) : 0 ≤ (((wordsM xs left st).set k u).set m2 v).getD m3 0 ∧ (((wordsM xs left st).set k u).set m2 v).getD m3 0 ≤ 4 := by
  rw [getD_set_ne (by omega), getD_set_ne (by omega)]
  have h : m3 = 10 ∨ m3 = 11 ∨ m3 = 12 := by omega
  have e : ∀ c : Int, 0 ≤ clsW (mkL left (xs.getD 0 0)) (mkL left (xs.getD 1 0)) (mkL left (xs.getD 2 0)) (mkL left (xs.getD 3 0)) c ∧ clsW (mkL left (xs.getD 0 0)) (mkL left (xs.getD 1 0)) (mkL left (xs.getD 2 0)) (mkL left (xs.getD 3 0)) c ≤ 4 := fun c => by
    unfold clsW
    have b0 := bitW_le (mkL left (xs.getD 0 0)) c
    have b1 := bitW_le (mkL left (xs.getD 1 0)) c
    have b2 := bitW_le (mkL left (xs.getD 2 0)) c
    have b3 := bitW_le (mkL left (xs.getD 3 0)) c
    omega
  rcases h with rfl | rfl | rfl
  · exact e 0
  · exact e 1
  · exact e 2
theorem pos_one {xs : List Int} {x : Int} (h0 : posK xs 4 x ≠ []) (h1 : (posK xs 4 x).length ≤ 1) : ∃ k : Nat, k < 4 ∧ xs.getD k 0 = x ∧ posK xs 4 x = [(k : Int)] ∧ ∀ j, j < 4 → j ≠ k → xs.getD j 0 ≠ x := by
  obtain ⟨i, hi⟩ := List.exists_mem_of_ne_nil _ h0
  obtain ⟨k, hk, hkx, rfl⟩ := mem_posK.1 hi
  refine ⟨k, hk, hkx, ?_, fun j hj hjk e => ?_⟩
  · match hp : posK xs 4 x with
    | [] => exact absurd hp h0
    | [a] =>
      rw [hp] at hi
      simp at hi
      rw [hi]
    | _ :: _ :: _ => rw [hp] at h1; simp at h1
  · have := one_of h1 hi (mem_posK.2 ⟨j, hj, e, rfl⟩)
    omega

/-- The loop under way: the map is gone through, the words lie in block g, all else is as it was. -/
structure St {H : Type} (R : Value → Option (DataW H × List MemPlace)) (b r : Nat) (D : DataW H) (g : Nat) (w6 : World) (left : Lit → Bool) (cnt : Nat) (L : List Int) (v : World) : Prop where
  rg : v.ranges Tryd.prog 3 R b r 4 D left cnt
  gr : w6.grownBy v (some g)
  ow : v.ownsRow g 3 1 (.slice (some ⟨g, 0, none⟩) 20 20) 20 (L.map I)
section
variable {H : Type} {R : Value → Option (DataW H × List MemPlace)} {b r : Nat} {D : DataW H} {g : Nat} {w6 v v' : World} {left : Lit → Bool} {cnt : Nat} {L : List Int}
theorem St.call (h : St R b r D g w6 left cnt L v) (hb : Below v.heap.size v v') : St R b r D g w6 left cnt L v' :=
  ⟨h.rg.kept (below_grown hb) (by simp) (by simp), h.gr.andThen (below_grown hb) (fun j e => by cases e), owns_below h.ow hb (Nat.le_refl _)⟩
theorem St.store (h : St R b r D g w6 left cnt L v) (hbg : b ≠ g) (hrg : r ≠ g) (m : Nat) (y : Int) : St R b r D g w6 left cnt (L.set m y) (v.setCell ⟨g, m, none⟩ (I y)) := by
  refine ⟨h.rg.kept (setCell_grown v ⟨g, m, none⟩ (I y)) (fun e => hbg (by cases e; rfl)) (fun e => hrg (by cases e; rfl)), h.gr.andThen (setCell_grown v ⟨g, m, none⟩ (I y)) (fun j e => .inr e), ?_⟩
  have := (h.ow.stored m (I y)).1
  rwa [← List.map_set] at this
theorem St.cell (h : St R b r D g w6 left cnt L v) {p : Addr} (h1 : p.block < w6.heap.size) (h2 : p.block ≠ g) : v.cell? p = w6.cell? p := World.cell?_of_block (w := w6) (h.gr.block p.block h1 (fun e => h2 (by cases e; rfl)))
theorem St.below (h : St R b r D g w6 left cnt L v) {B : Nat} {w : World} (hb : Below B w w6) (h1 : B ≤ w6.heap.size) (h2 : B ≤ g) : Below B w v := hb.grown h.gr h1 (fun k e => by cases e; exact h2)
theorem St.at (h : St R b r D g w6 left cnt L v) {m : Nat} (hm : m < 20) (hl : L.length = 20) : v.cell? ⟨g, m, none⟩ = some (I (L.getD m 0)) ∧ v.frozen? ⟨g, m, none⟩ = false := by
  refine ⟨?_, h.ow.frozenAt m⟩
  rw [h.ow.cellAt m (by omega), List.getElem?_map, List.getElem?_eq_getElem (by omega)]
  simp [List.getD, show m < L.length by omega]
end

set_option maxHeartbeats 4000000 in
set_option maxRecDepth 100000 in
theorem implWordsOf_room (a : Option Addr) (cp : Nat) (hcp : 4 ≤ cp) (st : Int) (xs : List Int) (w : World) (hA : IntAt w a 4 xs) (hi : ∀ x ∈ xs, (Lit.int .i64 x).wf = true) (hyes : OkRows xs st) (hN : Names w) :
    Calls Tryd.prog 19 #[.agg #[.slice a 4 cp, .int .i64 st]] w fun e w' => OwnSays e w w' (specL xs st) ∧ Below w.heap.size w w' := by
  have HA : Hid (IntAt w a 4 xs) := hA
  have HI : Hid (∀ x ∈ xs, (Lit.int .i64 x).wf = true) := hi
  have HY : Hid (OkRows xs st) := hyes
  have HN : Hid (Names w) := hN
  have hst0 : 0 ≤ st := hyes.2.1
  have hst5 : st ≤ 5 := hyes.2.2.1
  have nlt := hN.lt
  clear hA hyes hi hN
  obtain ⟨i0, hi, hz0, hz1, hz2⟩ := info_parts infoInt
  go_enter Tryd.func19, Tryd.ntmps19
  go_wp2_with fail
  refine (implRowsOk_room a 4 cp hcp st xs _ (HA.out.below ((Below.refl _ w).alloc (Nat.le_refl _) _) (Nat.le_refl _)) HI.out).mono ?_
  rintro e w1 ⟨⟨ok, rfl, hok⟩, hb1⟩
  obtain rfl : ok = true := hok.2 HY.out
  simp only [World.size_alloc] at hb1
  have hs1 : w.heap.size < w1.heap.size := Nat.lt_of_succ_le (by simpa using hb1.size)
  have hbw1 : Below w.heap.size w w1 := ((Below.refl _ w).alloc (Nat.le_refl _) _).trans (hb1.mono (Nat.le_succ _))
  have c0 : w1.cell? ⟨w.heap.size, 0, none⟩ = some (.slice a 4 cp) := by rw [hb1.cell (by simp)]; simp
  have c1 : w1.cell? ⟨w.heap.size, 1, none⟩ = some (.int .i64 st) := by rw [hb1.cell (by simp)]; simp
  have HC0 : Hid (w1.cell? ⟨w.heap.size, 0, none⟩ = some (.slice a 4 cp)) := c0
  have HC1 : Hid (w1.cell? ⟨w.heap.size, 1, none⟩ = some (.int .i64 st)) := c1
  clear hok hb1 c0 c1
  go_wp2_with (first | (at_make; refine wpList_make_full _ rfl _ _ 22 rfl w1.heap.size 3 i0 (.int .i64 0) 1 Tryd.underlying22 hi hz0 hz1 .i64 .i64 _ _ 20 rfl rfl rfl rfl (by rw [hz2]; omega) (by unfold maxLen; omega) (Nat.le_refl _) ?_; intro w2 own2 grow2) | fail)
  rw [show (madeCells (Value.int .i64 0).cells (20 * 1)).toList = (List.replicate 20 (0 : Int)).map I from (toList_madeCells_one _ _).trans (by rfl)] at own2
  have hb2 : Below w1.heap.size w1 w2 := (Below.refl _ _).grown grow2 (Nat.le_refl _) (fun k e => by cases e)
  have hs2 := (own_base own2).2
  have d1 : w2.cell? ⟨w.heap.size, 1, none⟩ = some (.int .i64 st) := (hb2.cell (p := ⟨w.heap.size, 1, none⟩) hs1).trans HC1.out
  have HN2 : Hid (Names w2) := HN.out.below (hbw1.trans (hb2.mono hbw1.size)) nlt
  have HO2 : Hid (w2.ownsRow w1.heap.size 3 1 (.slice (some ⟨w1.heap.size, 0, none⟩) 20 20) 20 ((List.replicate 20 (0 : Int)).map I)) := own2
  clear grow2 own2
  go_region_with (first
    | (go_at_call 40; refine (implStateAt_any _ (HN2.out.below (Below.refl w2.heap.size w2).drew HN2.out.lt)).mono ?_; rintro e w3 ⟨rfl, hb3⟩
       have ho3 := owns_below HO2.out ((Below.refl w2.heap.size w2).drew.trans hb3) (Nat.le_refl _)
       have hf3 := ho3.frozenAt 13
       obtain ⟨u3, hc3⟩ := own_cell ho3 (show 13 < 20 by omega)
       have e1 : w3.cell? ⟨w.heap.size, 1, none⟩ = some (.int .i64 st) := (hb3.cell (p := ⟨w.heap.size, 1, none⟩) (Nat.lt_trans hs1 hs2)).trans d1))
  all_goals
    obtain ⟨w5, hw5⟩ : ∃ w5, w5 = w3.setCell ⟨w1.heap.size, 13, none⟩ (.int .i64 st) := ⟨_, rfl⟩
    rw [← hw5]
    have ho5 := (ho3.stored 13 (I st)).1
    rw [← List.map_set, ← hw5, ← wordsL_new] at ho5
    have hb5 : Below w1.heap.size w1 w5 := by rw [hw5]; exact (hb2.drew.trans (hb3.mono (Nat.le_of_lt hs2))).setCell (Nat.le_refl _) _
    have hs5 := (own_base ho5).2
    have hbw5 : Below w.heap.size w w5 := hbw1.trans (hb5.mono hbw1.size)
    have f0 : w5.cell? ⟨w.heap.size, 0, none⟩ = some (.slice a 4 cp) := (hb5.cell (p := ⟨w.heap.size, 0, none⟩) hs1).trans HC0.out
    have f1 : w5.cell? ⟨w.heap.size, 1, none⟩ = some (.int .i64 st) := (hb5.cell (p := ⟨w.heap.size, 1, none⟩) hs1).trans HC1.out
    have HO5 : Hid (w5.ownsRow w1.heap.size 3 1 (.slice (some ⟨w1.heap.size, 0, none⟩) 20 20) 20 ((wordsL 0 0 0 0 st).map I)) := ho5
    clear hw5 ho5 ho3 hf3 hc3 e1 hb3 HO2 HN2 d1 hb2 hs2
    go_wp2_with fail
    refine (holdersOf_cap Unit a cp hcp st xs _ (HA.out.below hbw5 (Nat.le_refl _)) HI.out).mono ?_
    rintro e w6 ⟨rfl, hb6, R, D, hown, hR, hD⟩
    have hbw6 : Below w.heap.size w w6 := hbw5.trans (hb6.mono hbw5.size)
    have hs6 : w5.heap.size + 1 < w6.heap.size := hown.lt
    have HO6 : Hid (w6.ownsRow w1.heap.size 3 1 (.slice (some ⟨w1.heap.size, 0, none⟩) 20 20) 20 ((wordsL 0 0 0 0 st).map I)) := owns_below HO5.out hb6 (Nat.le_refl _)
    have HF1 : Hid (w6.cell? ⟨w.heap.size, 1, none⟩ = some (.int .i64 st)) := (hb6.cell (p := ⟨w.heap.size, 1, none⟩) (Nat.lt_trans hs1 hs5)).trans f1
    have HN6 : Hid (Names w6) := HN.out.below hbw6 nlt
    have HR : Hid (RowsIn R w6 (w5.heap.size + 2)) := hR
    have HD1 : Hid (HD xs D) := hD
    clear hR hD hb6 f0 f1 HO5
    go_wp2_with (first | (at_range; refine wpList_range_own _ rfl _ 65 rfl 3 22 mapLaw Tryd.underlying65 R (w5.heap.size + 1) 4 D rfl hown ?_; intro w7 hrg7 hg7 hs7) | fail)
    go_frame
    have hbg : w5.heap.size + 1 ≠ w1.heap.size := by omega
    have hrg : w6.heap.size ≠ w1.heap.size := by omega
    have S7 : St R (w5.heap.size + 1) w6.heap.size D w1.heap.size w6 (Maps.has D) (Maps.size D) (wordsM xs (Maps.has D) st) w7 := by
      rw [wordsM_start HD1.out]
      exact ⟨hrg7, hg7.but _, HO6.out.kept hg7 (.inr (fun e => by simp [Value.ownBlock] at e))⟩
    clear hown hrg7 hg7
    go_loopw [4] (fun _ wr => ∃ left cnt, St R (w5.heap.size + 1) w6.heap.size D w1.heap.size w6 left cnt (wordsM xs left st) wr) (fun _ wr => wr.rangeLeft (w5.heap.size + 1) w6.heap.size)
    case atStart => exact ⟨_, _, S7⟩
    case round =>
      obtain ⟨left, cnt, hS⟩ := hrel
      clear S7
      have hrgS := hS.rg
      go_wp2_with (first | (at_next; refine wpList_next_rows _ rfl _ rfl R HR.out (w5.heap.size + 1) w6.heap.size 4 D HD1.out left cnt rfl hrgS ?_ ?_) | fail)
      · intro _ hl0
        go_wp2
        go_ret
        refine ⟨⟨_, Nat.le_of_lt hs1, rfl, ?_⟩, hS.below hbw6 hbw6.size (Nat.le_of_lt hs1)⟩
        rw [← wordsM_end hl0]
        exact hS.ow
      · intro x p l cp w8 cnt8 hlx hx0 hpx hrow hrg8 hlt8 hg8 hs8 hen
        obtain ⟨hv, hlen⟩ := HY.out.2.2.2 x hx0 hpx
        obtain ⟨k, hk4, hkx, hpk, hne⟩ := pos_one hpx hlen
        rw [hpk] at hrow
        obtain ⟨gk, rfl, hcell, hgk1, hgk2⟩ := row_intAt hrow (by simp) (by simp)
        obtain rfl : l = 1 := row_len hrow
        have S8 : St R (w5.heap.size + 1) w6.heap.size D w1.heap.size w6 (fun z => left z && !z.sameKey (.int .i64 x)) cnt8 (wordsM xs left st) w8 :=
          ⟨hrg8, hS.gr.andThen hg8 (fun j e => by cases e; exact .inl (Nat.le_refl _)), hS.ow.kept hg8 (.inr (fun e => hrg (by simpa [Value.ownBlock] using e.symm)))⟩
        have kc : w8.cell? ⟨gk, 0, none⟩ = some (I (k : Int)) := (S8.cell (p := ⟨gk, 0, none⟩) hgk1 (show gk ≠ w1.heap.size by omega)).trans hcell
        have names : ∀ {L : List Int} {v : World}, St R (w5.heap.size + 1) w6.heap.size D w1.heap.size w6 (fun z => left z && !z.sameKey (.int .i64 x)) cnt8 L v → Names v := fun h => HN.out.below (h.below hbw6 hbw6.size (Nat.le_of_lt hs1)) nlt
        have NAMES : Hid (∀ {L : List Int} {v : World}, St R (w5.heap.size + 1) w6.heap.size D w1.heap.size w6 (fun z => left z && !z.sameKey (.int .i64 x)) cnt8 L v → Names v) := names
        have HSTEP : Hid (istepW (wordsM xs left st) k x st = wordsM xs (fun z => left z && !z.sameKey (.int .i64 x)) st) := wordsM_step hk4 hkx hv hne hlx
        have hcnt : wr.rangeLeft (w5.heap.size + 1) w6.heap.size = cnt := hS.rg.left_eq
        obtain ⟨m2, hm2⟩ : ∃ m : Nat, m = (x + 3).toNat := ⟨_, rfl⟩
        obtain ⟨m3, hm3⟩ : ∃ m : Nat, m = (10 + x % 3).toNat := ⟨_, rfl⟩
        obtain ⟨m5, hm5⟩ : ∃ m : Nat, m = (x + 13).toNat := ⟨_, rfl⟩
        have lt2 : m2 < 10 := by omega
        have ge3 : 10 ≤ m3 := by omega
        have lt3 : m3 < 13 := by omega
        have lt5 : m5 < 20 := by omega
        have HM2 : Hid (m2 = (x + 3).toNat) := hm2
        have HM3 : Hid (m3 = (10 + x % 3).toNat) := hm3
        have HM5 : Hid (m5 = (x + 13).toNat) := hm5
        have hsg : w.heap.size ≠ w1.heap.size := by omega
        have hgs : w1.heap.size ≠ w.heap.size := by omega
        clear hm2 hm3 hm5 names hne hkx hpk hlen hrow hcell hrg8 hg8 hpx hS hrgS
        go_wp2_with fail
        refine (iat_row k hk4 _ (NAMES.out S8)).mono ?_
        rintro e w9 ⟨rfl, hb9⟩
        have S9 := S8.call hb9
        obtain ⟨c9, z9⟩ := S9.at (show k < 20 by omega) rfl
        have T9 := S9.store hbg hrg k x
        have HT9 : Hid (St R (w5.heap.size + 1) w6.heap.size D w1.heap.size w6 (fun z => left z && !z.sameKey (.int .i64 x)) cnt8 ((wordsM xs left st).set k x) (w9.setCell ⟨w1.heap.size, k, none⟩ (I x))) := T9
        clear S8 S9 T9 hb9 kc hen
        go_wp2_with fail
        refine (iat_owner x m2 hv HM2.out _ (NAMES.out HT9.out)).mono ?_
        rintro e w10 ⟨rfl, hb10⟩
        have S10 := HT9.out.call hb10
        obtain ⟨c10, z10⟩ := S10.at (show m2 < 20 by omega) (by simp [wordsM, wordsL, wordsG])
        have HT10 : Hid (St R (w5.heap.size + 1) w6.heap.size D w1.heap.size w6 (fun z => left z && !z.sameKey (.int .i64 x)) cnt8 (((wordsM xs left st).set k x).set m2 ((k : Int) + 1)) (w10.setCell ⟨w1.heap.size, m2, none⟩ (I ((k : Int) + 1)))) := S10.store hbg hrg m2 ((k : Int) + 1)
        clear S10 HT9 hb10 c9 z9
        go_wp2_with fail
        refine (implClassOf_any x _).mono ?_
        rintro e w11 ⟨rfl, rfl⟩
        go_wp2_with fail
        refine (iat_count x m3 hv HM3.out _ (NAMES.out HT10.out)).mono ?_
        rintro e w12 ⟨rfl, hb12⟩
        have S12 := HT10.out.call hb12
        have hq4 := count_le xs left st x ((k : Int) + 1) k m2 m3 hk4 lt2 ge3 lt3
        obtain ⟨c12, z12⟩ := S12.at (show m3 < 20 by omega) (by simp [wordsM, wordsL, wordsG])
        obtain ⟨q, hq⟩ : ∃ q, (((wordsM xs left st).set k x).set m2 ((k : Int) + 1)).getD m3 0 = q := ⟨_, rfl⟩
        rw [hq] at hq4 c12
        have s12 : w12.cell? ⟨w.heap.size, 1, none⟩ = some (.int .i64 st) := (S12.cell (p := ⟨w.heap.size, 1, none⟩) (show w.heap.size < w6.heap.size by omega) hsg).trans HF1.out
        have HQ : Hid ((((wordsM xs left st).set k x).set m2 ((k : Int) + 1)).getD m3 0 = q) := hq
        have HT12 : Hid (St R (w5.heap.size + 1) w6.heap.size D w1.heap.size w6 (fun z => left z && !z.sameKey (.int .i64 x)) cnt8 ((((wordsM xs left st).set k x).set m2 ((k : Int) + 1)).set m3 (q + 1)) (w12.setCell ⟨w1.heap.size, m3, none⟩ (I (q + 1)))) := S12.store hbg hrg m3 (q + 1)
        clear S12 HT10 hb12 c10 z10 hq
        by_cases hvia : (k : Int) + 1 < st
        · have hvia' : (k : Int) < st - 1 := by omega
          have HV : Hid ((k : Int) + 1 < st) := hvia
          go_wp2_with fail
          refine (iat_via x m5 hv HM5.out _ (NAMES.out HT12.out)).mono ?_
          rintro e w13 ⟨rfl, hb13⟩
          have S13 := HT12.out.call hb13
          obtain ⟨c13, z13⟩ := S13.at (show m5 < 20 by omega) (by simp [wordsM, wordsL, wordsG])
          have T13 := S13.store hbg hrg m5 ((k : Int) + 1)
          have HT13 : Hid (St R (w5.heap.size + 1) w6.heap.size D w1.heap.size w6 (fun z => left z && !z.sameKey (.int .i64 x)) cnt8 (wordsM xs (fun z => left z && !z.sameKey (.int .i64 x)) st) (w13.setCell ⟨w1.heap.size, m5, none⟩ (I ((k : Int) + 1)))) := by
            rw [← HSTEP.out, istepW, if_pos HV.out, ← HM2.out, ← HM3.out, ← HM5.out, HQ.out]
            exact T13
          clear S13 T13 HT12 hb13 c12 z12 s12
          go_wp2
          refine ⟨⟨_, _, HT13.out⟩, ?_⟩
          rw [hcnt]
          exact Nat.lt_of_le_of_lt (Nat.le_of_eq HT13.out.rg.left_eq) hlt8
        · have hvia' : ¬ ((k : Int) < st - 1) := by omega
          have HT13 : Hid (St R (w5.heap.size + 1) w6.heap.size D w1.heap.size w6 (fun z => left z && !z.sameKey (.int .i64 x)) cnt8 (wordsM xs (fun z => left z && !z.sameKey (.int .i64 x)) st) (w12.setCell ⟨w1.heap.size, m3, none⟩ (I (q + 1)))) := by
            rw [← HSTEP.out, istepW, if_neg hvia, ← HM2.out, ← HM3.out, HQ.out]
            exact HT12.out
          go_wp2
          refine ⟨⟨_, _, HT13.out⟩, ?_⟩
          rw [hcnt]
          exact Nat.lt_of_le_of_lt (Nat.le_of_eq HT13.out.rg.left_eq) hlt8
theorem implWordsOf_yes (a : Option Addr) (st : Int) (xs : List Int) (w : World) (hA : IntAt w a 4 xs) (hi : ∀ x ∈ xs, (Lit.int .i64 x).wf = true) (hyes : OkRows xs st) (hN : Names w) :
    Calls Tryd.prog 19 #[.agg #[.slice a 4 4, .int .i64 st]] w fun e w' => OwnSays e w w' (specL xs st) ∧ Below w.heap.size w w' := implWordsOf_room a 4 (Nat.le_refl _) st xs w hA hi hyes hN
end Go.Proofs.YtbdfopokimpeiaqDoor

/- The laws' own helpers toIntS and eqIntS, walked: a new list of the same numbers; whether two lists of numbers are alike. -/
namespace Go.Proofs.YtbdfopokimpeiaqDoor
open Go.ChangeShapes Go.WideShapes Go.ChangeAt Go.RowKit

set_option maxHeartbeats 400000 in
theorem eqIntS_any (a1 a2 : Option Addr) (n1 n2 c1 c2 : Nat) (xs ys : List Int) (w : World) (h1 : IntAt w a1 n1 xs) (h2 : IntAt w a2 n2 ys) :
    Calls Tryd.prog 23 #[.slice a1 n1 c1, .slice a2 n2 c2] w fun e w' => e = .returned (.bool (decide (xs = ys))) ∧ ∃ m, w' = w.drewN m := by
  obtain ⟨l1, b1, h1⟩ := h1
  obtain ⟨l2, b2, h2⟩ := h2
  have H1 : Hid (n1 = 0 ∨ ∃ b o, a1 = some ⟨b, o, none⟩ ∧ ∀ i, i < n1 → w.cell? ⟨b, o + i, none⟩ = some (I (xs.getD i 0))) := h1
  have H2 : Hid (n2 = 0 ∨ ∃ b o, a2 = some ⟨b, o, none⟩ ∧ ∀ i, i < n2 → w.cell? ⟨b, o + i, none⟩ = some (I (ys.getD i 0))) := h2
  have L1 : Hid (xs.length = n1) := l1
  have L2 : Hid (ys.length = n2) := l2
  clear h1 h2 l1 l2
  by_cases hn : n1 = n2
  · subst hn
    go_enter Tryd.func23, Tryd.ntmps23
    go_wp2
    go_loopw [5] (fun i wr => ∃ k m : Nat, k ≤ n1 ∧ i = .int .i64 k ∧ xs.take k = ys.take k ∧ wr = w.drewN m) (fun i _ => n1 - (intOf i).toNat)
    case atStart => exact ⟨0, 0, Nat.zero_le _, rfl, rfl, rfl⟩
    case round =>
      obtain ⟨k, m, hk, rfl, ht, rfl⟩ := hrel
      have HT : Hid (xs.take k = ys.take k) := ht
      clear ht
      by_cases hlt : k < n1
      · rcases H1.out with h | ⟨p1, o1, rfl, g1⟩
        · omega
        rcases H2.out with h | ⟨p2, o2, rfl, g2⟩
        · omega
        obtain ⟨x, hx⟩ : ∃ x, xs.getD k 0 = x := ⟨_, rfl⟩
        obtain ⟨y, hy⟩ : ∃ y, ys.getD k 0 = y := ⟨_, rfl⟩
        have e1 := g1 k hlt
        have e2 := g2 k hlt
        rw [hx] at e1
        rw [hy] at e2
        have HX : Hid (xs.getD k 0 = x) := hx
        have HY : Hid (ys.getD k 0 = y) := hy
        clear g1 g2 hx hy
        go_wp2
        go_region
        go_wp2
        · have hd : (x != y) = true := by assumption
          go_ret
          refine ⟨?_, m + 1, rfl⟩
          have e : xs ≠ ys := fun e => by rw [← HX.out, ← HY.out, e] at hd; simp at hd
          simp [e]
        · have hd : (x != y) = false := by assumption
          have l1 := L1.out
          have l2 := L2.out
          exact ⟨⟨k + 1, m + 1, by omega, by go_num, take_nextI (by omega) (by omega) HT.out (by rw [HX.out, HY.out]; simpa using hd), rfl⟩, by simp [intOf]; omega⟩
      · go_wp2
        go_ret
        refine ⟨?_, m, rfl⟩
        have e : xs = ys := by
          have := HT.out
          rwa [List.take_of_length_le (by have := L1.out; omega), List.take_of_length_le (by have := L2.out; omega)] at this
        simp [e]
  · have hz : ((n1 : Int) != (n2 : Int)) = true := by simp; omega
    go_enter Tryd.func23, Tryd.ntmps23
    go_wp2
    go_ret
    refine ⟨?_, 0, rfl⟩
    have e : xs ≠ ys := fun e => hn (by rw [← L1.out, ← L2.out, e])
    simp [e]

/-- What has been written of a list so far: the first k of xs, noughts behind them. -/
def upto (xs : List Int) (k n : Nat) : List Int := xs.take k ++ List.replicate (n - k) 0
theorem upto_step {xs : List Int} {k n : Nat} (hx : xs.length = n) (h : k < n) : (((upto xs k n).map I).set k (I (xs.getD k 0))) = (upto xs (k + 1) n).map I := by
  rw [← List.map_set]
  congr 1
  unfold upto
  have hl : (xs.take k).length = k := by rw [List.length_take]; omega
  rw [List.set_append_right _ _ (by omega), hl, Nat.sub_self, show n - k = (n - (k + 1)) + 1 by omega, List.replicate_succ, List.set_cons_zero,
    List.take_succ_eq_append_getElem (show k < xs.length by omega), List.append_assoc]
  simp [List.getD, show k < xs.length by omega]
theorem upto_end {xs : List Int} {n : Nat} (hx : xs.length = n) : upto xs n n = xs := by
  unfold upto
  rw [List.take_of_length_le (by omega)]; simp

set_option maxHeartbeats 400000 in
theorem toIntS_any (a : Option Addr) (n c : Nat) (xs : List Int) (w : World) (h : IntAt w a n xs) :
    Calls Tryd.prog 17 #[.slice a n c] w fun e w' => e = .returned (.slice (some ⟨w.heap.size, 0, none⟩) n n) ∧ w'.ownsRow w.heap.size 3 1 (.slice (some ⟨w.heap.size, 0, none⟩) n n) n (xs.map I) ∧ Below w.heap.size w w' := by
  have HA := h
  have HH : Hid (IntAt w a n xs) := HA
  obtain ⟨l1, b1, _⟩ := h
  have L1 : Hid (xs.length = n) := l1
  clear l1 HA
  obtain ⟨i0, hi, hz0, hz1, hz2⟩ := info_parts infoInt
  go_enter Tryd.func17, Tryd.ntmps17
  go_wp2_with (at_make; refine wpList_make_full _ rfl _ _ 22 rfl w.heap.size 3 i0 (.int .i64 0) 1 Tryd.underlying22 hi hz0 hz1 .i64 .i64 _ _ n rfl rfl rfl rfl (by rw [hz2]; omega) (by unfold maxLen; omega) (Nat.le_refl _) ?_; intro w1 own1 grow1)
  have own0 : w1.ownsRow w.heap.size 3 1 (.slice (some ⟨w.heap.size, 0, none⟩) n n) n ((upto xs 0 n).map I) := by
    have e : (madeCells (Value.int .i64 0).cells (n * 1)).toList = (upto xs 0 n).map I := by
      rw [Nat.mul_one]
      exact (toList_madeCells_one _ _).trans (by simp [upto])
    rwa [e] at own1
  have hb1 : Below w.heap.size w w1 := (Below.refl _ _).grown grow1 (Nat.le_refl _) (fun k e => by cases e)
  clear own1 grow1
  go_loopw [4] (fun i wr => ∃ k : Nat, k ≤ n ∧ i = .int .i64 (k : Int) ∧ wr.ownsRow w.heap.size 3 1 (.slice (some ⟨w.heap.size, 0, none⟩) n n) n ((upto xs k n).map I) ∧ Below w.heap.size w wr) (fun i _ => n - (intOf i).toNat)
  case atStart => exact ⟨0, Nat.zero_le _, rfl, own0, hb1⟩
  case round =>
    obtain ⟨k, hk, rfl, ho, hb⟩ := hrel
    clear own0 hb1
    by_cases hlt : k < n
    · rcases (HH.out.below hb (Nat.le_refl _)).2.2 with h0 | ⟨p1, o1, rfl, g1⟩
      · omega
      have e1 := g1 k hlt
      obtain ⟨x, hx⟩ : ∃ x, xs.getD k 0 = x := ⟨_, rfl⟩
      rw [hx] at e1
      have hst := ho.stored k (I x)
      rw [← hx, upto_step L1.out hlt, hx] at hst
      have HS : Hid ((wr.setCell ⟨w.heap.size, k, none⟩ (I x)).ownsRow w.heap.size 3 1 (.slice (some ⟨w.heap.size, 0, none⟩) n n) n ((upto xs (k + 1) n).map I)) := hst.1
      have hf := ho.frozenAt k
      obtain ⟨u, hc⟩ := own_cell ho hlt
      clear g1 hx hst ho
      go_wp2
      go_roundw
      case rel => exact ⟨k + 1, by omega, by go_num, HS.out, hb.setCell (Nat.le_refl _) _⟩
      case measure => simp [intOf]; omega
    · obtain rfl : k = n := by omega
      rw [upto_end L1.out] at ho
      go_wp2
      go_ret
      exact ⟨rfl, ho, hb⟩
end Go.Proofs.YtbdfopokimpeiaqDoor

/- The laws' own helpers for rows, walked: toRows (new rows that read alike), szRows, eqRows. -/
namespace Go.Proofs.YtbdfopokimpeiaqDoor
open Go.ChangeShapes Go.WideShapes Go.ChangeAt Go.RowKit

/-- Rows as a value. -/
abbrev RowsV (a : Option Addr) (n c : Nat) (st : Int) : Value := .agg #[.slice a n c, .int .i64 st]

set_option maxHeartbeats 1000000 in
theorem toRows_any (a : Option Addr) (n c : Nat) (st : Int) (xs : List Int) (w : World) (h : IntAt w a n xs) :
    Calls Tryd.prog 6 #[RowsV a n c st] w fun e w' => e = .returned (RowsV (some ⟨w.heap.size + 3, 0, none⟩) n n st) ∧ w'.ownsRow (w.heap.size + 3) 3 1 (.slice (some ⟨w.heap.size + 3, 0, none⟩) n n) n (xs.map I) ∧ Below w.heap.size w w' := by
  have HA : Hid (IntAt w a n xs) := h
  clear h
  go_enter Tryd.func6, Tryd.ntmps6
  go_wp2_with fail
  have hb0 : Below w.heap.size w (((w.alloc (.cells #[.slice a n c, .int .i64 st] 24)).alloc (.cells #[.slice none 0 0, .int .i64 0] 32)).alloc (.cells #[.slice none 0 0, .int .i64 0] 32)) :=
    (((Below.refl _ w).alloc (Nat.le_refl _) _).alloc (by simp) _).alloc (by simp; omega) _
  refine (toIntS_any a n c xs _ (HA.out.below hb0 (Nat.le_refl _))).mono ?_
  rintro e w1 ⟨rfl, own1, hb1⟩
  simp only [World.size_alloc] at own1 hb1
  have hs1 := hb1.size
  simp only [World.size_alloc] at hs1
  have c01 : w1.cell? ⟨w.heap.size, 1, none⟩ = some (.int .i64 st) := by rw [hb1.cell (show w.heap.size < w.heap.size + 1 + 1 + 1 by omega), World.cell?_alloc_past _ _ _ (by simp; omega), World.cell?_alloc_past _ _ _ (by simp), World.cell?_alloc_at _ _ _ _ rfl]; rfl
  have c10 : w1.cell? ⟨w.heap.size + 1, 0, none⟩ = some (.slice none 0 0) := by rw [hb1.cell (show w.heap.size + 1 < w.heap.size + 1 + 1 + 1 by omega)]; simp [World.cell?_alloc_past, World.cell?_alloc_at]
  have c11 : w1.cell? ⟨w.heap.size + 1, 1, none⟩ = some (.int .i64 0) := by rw [hb1.cell (show w.heap.size + 1 < w.heap.size + 1 + 1 + 1 by omega)]; simp [World.cell?_alloc_past, World.cell?_alloc_at]
  have c20 : w1.cell? ⟨w.heap.size + 1 + 1, 0, none⟩ = some (.slice none 0 0) := by rw [hb1.cell (show w.heap.size + 1 + 1 < w.heap.size + 1 + 1 + 1 by omega)]; simp [World.cell?_alloc_at]
  have c21 : w1.cell? ⟨w.heap.size + 1 + 1, 1, none⟩ = some (.int .i64 0) := by rw [hb1.cell (show w.heap.size + 1 + 1 < w.heap.size + 1 + 1 + 1 by omega)]; simp [World.cell?_alloc_at]
  have f10 : w1.frozen? ⟨w.heap.size + 1, 0, none⟩ = false := by rw [hb1.frozen (show w.heap.size + 1 < w.heap.size + 1 + 1 + 1 by omega)]; simp [World.frozen?_alloc_past, World.frozen?_alloc_at]
  have f11 : w1.frozen? ⟨w.heap.size + 1, 1, none⟩ = false := by rw [hb1.frozen (show w.heap.size + 1 < w.heap.size + 1 + 1 + 1 by omega)]; simp [World.frozen?_alloc_past, World.frozen?_alloc_at]
  have f20 : w1.frozen? ⟨w.heap.size + 1 + 1, 0, none⟩ = false := by rw [hb1.frozen (show w.heap.size + 1 + 1 < w.heap.size + 1 + 1 + 1 by omega)]; simp [World.frozen?_alloc_at]
  have f21 : w1.frozen? ⟨w.heap.size + 1 + 1, 1, none⟩ = false := by rw [hb1.frozen (show w.heap.size + 1 + 1 < w.heap.size + 1 + 1 + 1 by omega)]; simp [World.frozen?_alloc_at]
  have hbw : Below w.heap.size w w1 := hb0.trans (hb1.mono (by omega))
  have HO : Hid (w1.ownsRow (w.heap.size + 1 + 1 + 1) 3 1 (.slice (some ⟨w.heap.size + 1 + 1 + 1, 0, none⟩) n n) n (xs.map I)) := own1
  clear hb0 hb1 own1
  go_wp2
  (try simp only [Exit.inBlock, Exit.then])
  refine bodyPost_ret (by simp [results, Tryd.results6, go_sem, c10, c11]; try rfl) rfl ?_
  exact ⟨rfl, ownsRow_setCell_below (ownsRow_setCell_below (ownsRow_setCell_below (ownsRow_setCell_below HO.out (by simp) _) (by simp) _) (by simp) _) (by simp) _,
    (((hbw.setCell (by simp; omega) _).setCell (by simp; omega) _).setCell (by simp) _).setCell (by simp) _⟩

theorem szRows_small (a : Option Addr) (n c : Nat) (st : Int) (w : World) (hn : n ≤ 1048576) :
    Calls Tryd.prog 4 #[RowsV a n c st, .int .i64 1048576] w fun e w' => (∃ m : Int, e = .returned (.int .i64 m) ∧ 0 ≤ m) ∧ Below w.heap.size w w' := by
  have h0 : ¬ (1048576 - (n : Int) < 0) := by omega
  go_enter Tryd.func4, Tryd.ntmps4
  go_wp2
  go_ret
  exact ⟨⟨_, rfl, by omega⟩, (Below.refl _ _).alloc (Nat.le_refl _) _⟩
theorem szRows_big (a : Option Addr) (n c : Nat) (st : Int) (w : World) (hn : ¬ n ≤ 1048576) (hm : n ≤ 9223372036854775807) :
    Calls Tryd.prog 4 #[RowsV a n c st, .int .i64 1048576] w fun e w' => e = .returned (.int .i64 (-1)) ∧ Below w.heap.size w w' := by
  have h0 : 1048576 - (n : Int) < 0 := by omega
  go_enter Tryd.func4, Tryd.ntmps4
  go_wp2
  go_ret
  exact ⟨rfl, (Below.refl _ _).alloc (Nat.le_refl _) _⟩

set_option maxHeartbeats 1000000 in
theorem eqRows_any (a1 a2 : Option Addr) (n1 n2 c1 c2 : Nat) (s1 s2 : Int) (xs ys : List Int) (w : World) (h1 : IntAt w a1 n1 xs) (h2 : IntAt w a2 n2 ys) :
    Calls Tryd.prog 9 #[RowsV a1 n1 c1 s1, RowsV a2 n2 c2 s2] w fun e w' => e = .returned (.bool (decide (xs = ys) && decide (s1 = s2))) ∧ Below w.heap.size w w' := by
  have H1 : Hid (IntAt w a1 n1 xs) := h1
  have H2 : Hid (IntAt w a2 n2 ys) := h2
  clear h1 h2
  go_enter Tryd.func9, Tryd.ntmps9
  go_wp2_with fail
  have hb0 : Below w.heap.size w ((w.alloc (.cells #[.slice a1 n1 c1, .int .i64 s1] 32)).alloc (.cells #[.slice a2 n2 c2, .int .i64 s2] 32)) := ((Below.refl _ w).alloc (Nat.le_refl _) _).alloc (by simp) _
  refine (eqIntS_any a1 a2 n1 n2 c1 c2 xs ys _ (H1.out.below hb0 (Nat.le_refl _)) (H2.out.below hb0 (Nat.le_refl _))).mono ?_
  rintro e w1 ⟨rfl, m, rfl⟩
  have hb1 := below_drewN hb0 m
  clear hb0
  by_cases hx : xs = ys
  · rw [show decide (xs = ys) = true from decide_eq_true hx]
    by_cases hs : s1 = s2
    · subst hs
      go_wp2
      go_ret
      exact ⟨by simp, hb1⟩
    · have hs' : (s1 != s2) = true := by simpa using hs
      have HS : Hid (¬ s1 = s2) := hs
      clear hs
      go_wp2
      go_ret
      exact ⟨by simp [HS.out], hb1⟩
  · rw [show decide (xs = ys) = false from decide_eq_false hx]
    have HX : Hid (¬ xs = ys) := hx
    clear hx
    go_wp2
    go_ret
    exact ⟨by simp [HX.out], hb1⟩

theorem eqRows_same (a1 a2 : Option Addr) (n1 n2 c1 c2 : Nat) (st : Int) (xs : List Int) (w : World) (h1 : IntAt w a1 n1 xs) (h2 : IntAt w a2 n2 xs) :
    Calls Tryd.prog 9 #[RowsV a1 n1 c1 st, RowsV a2 n2 c2 st] w fun e w' => e = .returned (.bool true) ∧ Below w.heap.size w w' := by
  have := eqRows_any a1 a2 n1 n2 c1 c2 st st xs xs w h1 h2
  simpa using this
end Go.Proofs.YtbdfopokimpeiaqDoor

/- All but one block is as it was: what follows of it. -/
namespace Go.Proofs.YtbdfopokimpeiaqDoor
open Go.ChangeShapes Go.WideShapes Go.ChangeAt Go.RowKit

theorem far_drew {w w' : World} {row : Option Nat} (h : w.grownBy w' row) : w.grownBy w'.drew row := ⟨h.os, h.tape, h.output, h.size, h.block⟩
theorem far_below {w w' : World} (h : Below w.heap.size w w') (row : Option Nat) : w.grownBy w' row := ⟨h.os, h.tape, h.output, h.size, fun k hk _ => h.block k hk⟩
theorem far_below_of {w0 w w' : World} {row : Option Nat} (h0 : w0.grownBy w row) (h : Below w.heap.size w w') : w0.grownBy w' row := h0.trans (far_below h row)
theorem far_set {w0 w : World} {row : Option Nat} (h : w0.grownBy w row) {a : Addr} (ha : w0.heap.size ≤ a.block) (v : Value) : w0.grownBy (w.setCell a v) row :=
  ⟨h.os, h.tape, h.output, by simpa [World.setCell] using h.size, fun k hk hr => by rw [Below.heap_setCell _ _ _ _ (fun e => by omega)]; exact h.block k hk hr⟩
theorem far_cell {w w' : World} {p g o : Nat} {v : Value} (h : w.grownBy w' (some p)) (hv : w.cell? ⟨g, o, none⟩ = some v) (hg : g ≠ p) : w'.cell? ⟨g, o, none⟩ = some v := h.cell hv (by simpa using hg)
end Go.Proofs.YtbdfopokimpeiaqDoor

/- Lists of three numbers each (entries, words), as they lie in memory, number by number. -/
namespace Go.Proofs.YtbdfopokimpeiaqDoor
open Go.ChangeShapes Go.WideShapes Go.ChangeAt Go.RowKit Go.Joins

theorem below_drewN6 {B : Nat} {w w' : World} (h : Below B w w') : ∀ n, Below B w (w'.drewN n)
  | 0 => h
  | n + 1 => by
    have := (below_drewN6 h n).drew
    exact this
/-- n threes lie there: 3 * n numbers. -/
def TripAt (w : World) (a : Option Addr) (n : Nat) (fs : List Int) : Prop :=
  fs.length = n * 3 ∧ n ≤ 1048576 ∧ (n = 0 ∨ ∃ b o, a = some ⟨b, o, none⟩ ∧ ∀ i, i < n * 3 → w.cell? ⟨b, o + i, none⟩ = some (I (fs.getD i 0)))
theorem TripAt.below {w w' : World} {a : Option Addr} {n : Nat} {fs : List Int} (h : TripAt w a n fs) {B : Nat} (hb : Below B w w') (hB : w.heap.size ≤ B) : TripAt w' a n fs := by
  obtain ⟨h1, h2, h3 | ⟨b, o, h3, h4⟩⟩ := h
  · exact ⟨h1, h2, .inl h3⟩
  · refine ⟨h1, h2, .inr ⟨b, o, h3, fun i hi => ?_⟩⟩
    have h5 := h4 i hi
    rw [hb.cell (show b < B from Nat.lt_of_lt_of_le (World.block_lt_of_cell? w _ h5) hB)]
    exact h5
theorem own_tripAt {w : World} {base : Nat} {e : TypeId} {g n cap : Nat} {fs : List Int} (h : w.ownsRow base e 3 (.slice (some ⟨g, 0, none⟩) n cap) n (fs.map I)) (hn : n ≤ 1048576) : TripAt w (some ⟨g, 0, none⟩) n fs := by
  have hl : fs.length = n * 3 := by have := h.1; simpa using this
  refine ⟨hl, hn, .inr ⟨g, 0, rfl, fun i hi => ?_⟩⟩
  rw [Nat.zero_add, h.cellAt i (by omega), List.getElem?_map, List.getElem?_eq_getElem (by omega)]
  simp [List.getD, show i < fs.length by omega]
/-- What has been laid of fs, nought behind it. -/
def uptoT (fs : List Int) (k n : Nat) : List Int := fs.take k ++ List.replicate (n - k) 0
theorem uptoT_step {fs : List Int} {k n : Nat} (hx : fs.length = n) (h : k < n) : (((uptoT fs k n).map I).set k (I (fs.getD k 0))) = (uptoT fs (k + 1) n).map I := by
  rw [← List.map_set]
  congr 1
  unfold uptoT
  have hl : (fs.take k).length = k := by rw [List.length_take]; omega
  rw [List.set_append_right _ _ (by omega), hl, Nat.sub_self, show n - k = (n - (k + 1)) + 1 by omega, List.replicate_succ, List.set_cons_zero,
    List.take_succ_eq_append_getElem (show k < fs.length by omega), List.append_assoc]
  simp [List.getD, show k < fs.length by omega]
theorem uptoT_end {fs : List Int} {n : Nat} (hx : fs.length = n) : uptoT fs n n = fs := by
  unfold uptoT
  rw [List.take_of_length_le (by omega)]; simp
theorem made_trips (n : Nat) : (madeCells (Value.agg #[.int .i64 0, .int .i64 0, .int .i64 0]).cells n).toList = List.replicate n (Value.int .i64 0) := by
  apply List.ext_getElem?
  intro j
  by_cases hj : j < n
  · have h2 : j % 3 = 0 ∨ j % 3 = 1 ∨ j % 3 = 2 := by omega
    rcases h2 with h2 | h2 | h2 <;> simp [madeCells, hj, Value.cells, h2]
  · simp [madeCells, hj]
theorem take_three {fs gs : List Int} {k : Nat} (hf : k * 3 + 2 < fs.length) (hg : k * 3 + 2 < gs.length) (h : fs.take (k * 3) = gs.take (k * 3)) (e1 : fs.getD (k * 3) 0 = gs.getD (k * 3) 0) (e2 : fs.getD (k * 3 + 1) 0 = gs.getD (k * 3 + 1) 0) (e3 : fs.getD (k * 3 + 2) 0 = gs.getD (k * 3 + 2) 0) : fs.take ((k + 1) * 3) = gs.take ((k + 1) * 3) := by
  rw [show (k + 1) * 3 = k * 3 + 1 + 1 + 1 by omega]
  exact take_nextI (by omega) (by omega) (take_nextI (by omega) (by omega) (take_nextI (by omega) (by omega) h e1) e2) e3

/-- The numbers of threes, one behind the other. -/
def flat3 (f : Nat → Int × Int × Int) (n : Nat) : List Int := (List.range n).flatMap fun i => [(f i).1, (f i).2.1, (f i).2.2]
theorem flat3_succ (f : Nat → Int × Int × Int) (n : Nat) : flat3 f (n + 1) = flat3 f n ++ [(f n).1, (f n).2.1, (f n).2.2] := by
  unfold flat3; rw [List.range_succ, List.flatMap_append]; simp
theorem flat3_len (f : Nat → Int × Int × Int) (n : Nat) : (flat3 f n).length = n * 3 := by
  induction n with
  | zero => rfl
  | succ n ih => rw [flat3_succ, List.length_append, ih]; simp; omega
theorem flat3_at (f : Nat → Int × Int × Int) (n : Nat) : ∀ i, i < n → (flat3 f n).getD (i * 3) 0 = (f i).1 ∧ (flat3 f n).getD (i * 3 + 1) 0 = (f i).2.1 ∧ (flat3 f n).getD (i * 3 + 2) 0 = (f i).2.2 := by
  induction n with
  | zero => intro i hi; omega
  | succ n ih =>
    intro i hi
    have hl := flat3_len f n
    rw [flat3_succ]
    simp only [List.getD_eq_getElem?_getD] at ih ⊢
    by_cases h : i < n
    · rw [List.getElem?_append_left (by omega), List.getElem?_append_left (by omega), List.getElem?_append_left (by omega)]
      exact ih i h
    · obtain rfl : i = n := by omega
      rw [List.getElem?_append_right (by omega), List.getElem?_append_right (by omega), List.getElem?_append_right (by omega), hl, Nat.sub_self, show i * 3 + 1 - i * 3 = 1 by omega, show i * 3 + 2 - i * 3 = 2 by omega]
      exact ⟨rfl, rfl, rfl⟩
theorem flat3_mem {f : Nat → Int × Int × Int} {n : Nat} {P : Int → Prop} (h : ∀ i, i < n → P (f i).1 ∧ P (f i).2.1 ∧ P (f i).2.2) : ∀ x ∈ flat3 f n, P x := by
  intro x hx
  unfold flat3 at hx
  obtain ⟨i, hi, hx⟩ := List.mem_flatMap.1 hx
  have := h i (List.mem_range.1 hi)
  simp only [List.mem_cons, List.not_mem_nil, or_false] at hx
  rcases hx with rfl | rfl | rfl
  · exact this.1
  · exact this.2.1
  · exact this.2.2

set_option maxRecDepth 100000 in
/-- A list of structs of three ints that came in, by its cells, opened. -/
theorem open_trips {H : Type} {enc : TypeId × Value → H} {W : World} {base : Nat} {held : Bool} {t e : TypeId} {f0 f1 f2 : Field} {fuel : Nat} {v : Value} {x : DataW H × List MemPlace}
    (ht : Tryd.prog.underlying t = some (.slice e)) (he : Tryd.prog.underlying e = some (.struct #[f0, f1, f2])) (ce : Tryd.prog.cellsOf e = 3) (o0 : f0.offset = 0) (o1 : f1.offset = 1) (o2 : f2.offset = 2)
    (c0 : Tryd.prog.cellsOf f0.type = 1) (c1 : Tryd.prog.cellsOf f1.type = 1) (c2 : Tryd.prog.cellsOf f2.type = 1) (i0 : Tryd.prog.underlying f0.type = some (.int .i64)) (i1 : Tryd.prog.underlying f1.type = some (.int .i64)) (i2 : Tryd.prog.underlying f2.type = some (.int .i64))
    (h : DataW.trod enc Tryd.prog W base (fun _ => true) held fuel t [v] = some x) :
    ∃ (a : Option Addr) (n c : Nat) (fs : List Int), v = .slice a n c ∧ n ≤ 9223372036854775807 ∧ (∀ x ∈ fs, (Lit.int .i64 x).wf = true) ∧ (n ≤ 1048576 → TripAt W a n fs) := by
  rcases Go.Deep.open_slice ht h with ⟨hcs, _⟩ | ⟨a, len, cap, m, k, D, Pl, hcs, hb, hl, hm, hmm, _, hx⟩
  · obtain rfl : v = .slice none 0 0 := by simpa using hcs
    exact ⟨none, 0, 0, [], rfl, by omega, fun x hx => by simp at hx, fun _ => ⟨rfl, by omega, .inl rfl⟩⟩
  · obtain rfl : v = .slice (some a) len cap := by simpa using hcs
    have hlm : len ≤ m := by rw [hmm]; split <;> omega
    have each : ∀ i, i < len → ∃ z : Int × Int × Int, W.cell? (a.add (i * 3)) = some (I z.1) ∧ W.cell? (a.add (i * 3 + 1)) = some (I z.2.1) ∧ W.cell? (a.add (i * 3 + 2)) = some (I z.2.2) ∧ (Lit.int .i64 z.1).wf = true ∧ (Lit.int .i64 z.2.1).wf = true ∧ (Lit.int .i64 z.2.2).wf = true := by
      intro i hi
      obtain ⟨cs', h1, h2⟩ := hx i (by omega)
      rw [ce] at h1
      obtain ⟨_, hlen, hcell⟩ := World.cells?_some h1
      obtain ⟨xs, k', hk, hxy, _, hxl, hf⟩ := DataW.trod_struct he h2
      match xs, hxl, cs', hlen with
      | [y0, y1, y2], _, [v0, v1, v2], _ =>
        have g0 := hf 0 f0 rfl
        have g1 := hf 1 f1 rfl
        have g2 := hf 2 f2 rfl
        simp [o0, o1, o2, c0, c1, c2] at g0 g1 g2
        have e0 := hcell 0 (by omega)
        have e1 := hcell 1 (by omega)
        have e2 := hcell 2 (by omega)
        rw [Go.Deep.add_add] at e0 e1 e2
        obtain ⟨z0, q0, _, w0⟩ := DataW.trod_int i0 g0
        obtain ⟨z1, q1, _, w1⟩ := DataW.trod_int i1 g1
        obtain ⟨z2, q2, _, w2⟩ := DataW.trod_int i2 g2
        obtain rfl : v0 = I z0 := by simpa using q0
        obtain rfl : v1 = I z1 := by simpa using q1
        obtain rfl : v2 = I z2 := by simpa using q2
        exact ⟨(z0, z1, z2), by simpa using e0, by simpa using e1, by simpa using e2, w0, w1, w2⟩
    obtain ⟨z, hz⟩ := Go.Deep.choose_lt each
    have hL := flat3_len z len
    have hAt := flat3_at z len
    refine ⟨some a, len, cap, flat3 z len, rfl, by unfold maxLen at hm; omega, flat3_mem fun i hi => ⟨(hz i hi).2.2.2.1, (hz i hi).2.2.2.2.1, (hz i hi).2.2.2.2.2⟩, fun hn => ⟨hL, hn, ?_⟩⟩
    by_cases h0 : len = 0
    · exact .inl h0
    · have hcells : ∀ i, i < (flat3 z len).length → W.cell? (a.add i) = some (.int .i64 ((flat3 z len).getD i 0)) := fun i hi => by
        rw [hL] at hi
        obtain ⟨c0, c1, c2, _⟩ := hz (i / 3) (by omega)
        have q := hAt (i / 3) (by omega)
        rcases (show i % 3 = 0 ∨ i % 3 = 1 ∨ i % 3 = 2 by omega) with e | e | e
        · have e' : i = i / 3 * 3 := by omega
          rw [e', c0, q.1]
        · have e' : i = i / 3 * 3 + 1 := by omega
          rw [e', c1, q.2.1]
        · have e' : i = i / 3 * 3 + 2 := by omega
          rw [e', c2, q.2.2]
      obtain ⟨b, o, rfl, hc⟩ := ints_at hcells (by omega)
      exact .inr ⟨b, o, rfl, fun i hi => hc i (by omega)⟩
end Go.Proofs.YtbdfopokimpeiaqDoor

/- Which entry of a list is at a place: the first; no program. -/
namespace Go.Proofs.YtbdfopokimpeiaqDoor

def idxF (es : List Int) (at_ : Int) : Nat → Nat → Nat
  | 0, k => k
  | f + 1, k => if es.getD (k * 3) 0 = at_ then k else idxF es at_ f (k + 1)
theorem idxF_eq {es : List Int} {at_ : Int} : ∀ {f k K : Nat}, k ≤ K → K ≤ k + f → (∀ i, k ≤ i → i < K → es.getD (i * 3) 0 ≠ at_) → (K < k + f → es.getD (K * 3) 0 = at_) → idxF es at_ f k = K
  | 0, k, K, h1, h2, _, _ => by unfold idxF; omega
  | f + 1, k, K, h1, h2, h3, h4 => by
    unfold idxF
    by_cases e : k = K
    · subst e
      rw [if_pos (h4 (by omega))]
    · rw [if_neg (h3 k (Nat.le_refl _) (by omega))]
      exact idxF_eq (by omega) (by omega) (fun i hi => h3 i (by omega)) (fun h => h4 (by omega))
/-- The place in the list of the first entry at at_; n: there is none. -/
def idxE (es : List Int) (n : Nat) (at_ : Int) : Nat := idxF es at_ n 0
theorem idxE_eq {es : List Int} {at_ : Int} {n k : Nat} (h1 : k ≤ n) (h2 : ∀ i, i < k → es.getD (i * 3) 0 ≠ at_) (h3 : k < n → es.getD (k * 3) 0 = at_) : idxE es n at_ = k :=
  idxF_eq (Nat.zero_le _) (by omega) (fun i _ hi => h2 i hi) (fun h => h3 (by omega))
def entM (es : List Int) (n : Nat) (at_ : Int) : Int × Int × Int × Bool :=
  if idxE es n at_ < n then (es.getD (idxE es n at_ * 3) 0, es.getD (idxE es n at_ * 3 + 1) 0, es.getD (idxE es n at_ * 3 + 2) 0, true) else (0, 0, 0, false)
theorem entM_yes {es : List Int} {at_ : Int} {n k : Nat} (h : idxE es n at_ = k) (hk : k < n) : entM es n at_ = (es.getD (k * 3) 0, es.getD (k * 3 + 1) 0, es.getD (k * 3 + 2) 0, true) := by
  unfold entM; rw [h, if_pos hk]
theorem entM_no {es : List Int} {at_ : Int} {n : Nat} (h : idxE es n at_ = n) : entM es n at_ = (0, 0, 0, false) := by
  unfold entM; rw [h, if_neg (by omega)]
end Go.Proofs.YtbdfopokimpeiaqDoor

/- spec.l1In at whatever numbers, walked. -/
namespace Go.Proofs.YtbdfopokimpeiaqDoor
open Go.ChangeShapes Go.WideShapes Go.ChangeAt Go.RowKit

/-- x lies from lo to hi. -/
def inB (x lo hi : Int) : Bool := decide (lo ≤ x ∧ x ≤ hi)
theorem inB_yes {x lo hi : Int} (h : lo ≤ x ∧ x ≤ hi) : inB x lo hi = true := decide_eq_true h
theorem inB_no {x lo hi : Int} (h : ¬ (lo ≤ x ∧ x ≤ hi)) : inB x lo hi = false := decide_eq_false h
theorem inB_val {x lo hi : Int} (h : inB x lo hi = true) : lo ≤ x ∧ x ≤ hi := by unfold inB at h; simpa using h
theorem l1In_g (x lo hi : Int) (w : World) : Calls Tryd.prog 15 #[.int .i64 x, .int .i64 lo, .int .i64 hi] w fun e w' => e = .returned (.bool (inB x lo hi)) ∧ w' = w := by
  by_cases h0 : lo ≤ x
  · by_cases h1 : x ≤ hi
    · rw [inB_yes ⟨h0, h1⟩]
      go_enter Tryd.func15, Tryd.ntmps15
      go_wp2
      go_ret
      exact ⟨rfl, rfl⟩
    · rw [inB_no (fun h => h1 h.2)]
      go_enter Tryd.func15, Tryd.ntmps15
      go_wp2
      go_ret
      exact ⟨rfl, rfl⟩
  · rw [inB_no (fun h => h0 h.1)]
    go_enter Tryd.func15, Tryd.ntmps15
    go_wp2
    go_ret
    exact ⟨rfl, rfl⟩
end Go.Proofs.YtbdfopokimpeiaqDoor

/- When a Desc is right: as the document says; no program. -/
namespace Go.Proofs.YtbdfopokimpeiaqDoor

/-- The entry at i is one that a Desc may have there. -/
def entOk (es : List Int) (i : Nat) : Prop :=
  (0 ≤ es.getD (i * 3) 0 ∧ es.getD (i * 3) 0 ≤ 19) ∧ (0 ≤ es.getD (i * 3 + 1) 0 ∧ es.getD (i * 3 + 1) 0 ≤ 1000) ∧ (0 ≤ es.getD (i * 3 + 2) 0 ∧ es.getD (i * 3 + 2) 0 ≤ 1000) ∧ (0 < i → es.getD ((i - 1) * 3) 0 < es.getD (i * 3) 0)
instance (es : List Int) (i : Nat) : Decidable (entOk es i) := by unfold entOk; infer_instance
/-- What the next place must be at least. -/
def leastE (es : List Int) (k : Nat) : Int := if k = 0 then 0 else es.getD ((k - 1) * 3) 0 + 1
theorem leastE_ok {es : List Int} {k : Nat} (h : ∀ i, i < k → entOk es i) : 0 ≤ leastE es k ∧ leastE es k ≤ 20 := by
  unfold leastE
  split
  · omega
  · have := h (k - 1) (by omega)
    unfold entOk at this
    omega
theorem entOk_iff {es : List Int} {k : Nat} (h : ∀ i, i < k → entOk es i) : entOk es k ↔ (inB (es.getD (k * 3) 0) (leastE es k) 19 = true ∧ inB (es.getD (k * 3 + 1) 0) 0 1000 = true ∧ inB (es.getD (k * 3 + 2) 0) 0 1000 = true) := by
  have h0 := leastE_ok h
  unfold inB entOk
  simp only [decide_eq_true_eq]
  have e : leastE es k ≤ es.getD (k * 3) 0 ↔ (0 ≤ es.getD (k * 3) 0 ∧ (0 < k → es.getD ((k - 1) * 3) 0 < es.getD (k * 3) 0)) := by
    constructor
    · intro h1
      refine ⟨by omega, fun hk => ?_⟩
      unfold leastE at h1
      rw [if_neg (by omega)] at h1
      omega
    · rintro ⟨h1, h2⟩
      unfold leastE
      split
      · exact h1
      · have := h2 (by omega); omega
  rw [e]
  constructor
  · rintro ⟨⟨a, b⟩, c, d, f⟩; exact ⟨⟨⟨a, f⟩, b⟩, c, d⟩
  · rintro ⟨⟨⟨a, f⟩, b⟩, c, d⟩; exact ⟨⟨a, b⟩, c, d, f⟩
theorem entOk_low {es : List Int} : ∀ {k : Nat}, (∀ i, i < k → entOk es i) → ∀ i, i < k → (i : Int) ≤ es.getD (i * 3) 0
  | k, h, 0, hi => by have := (h 0 hi).1.1; simpa using this
  | k, h, i + 1, hi => by
    have ih := entOk_low h i (by omega)
    have h2 := (h (i + 1) hi).2.2.2 (by omega)
    rw [Nat.add_sub_cancel] at h2
    omega
theorem entOk_few {es : List Int} {k : Nat} (h : ∀ i, i < k → entOk es i) : k ≤ 20 := by
  by_cases hk : k = 0
  · omega
  · have h1 := entOk_low h (k - 1) (by omega)
    have h2 := (h (k - 1) (by omega)).1.2
    omega
def descOkM (sq st : Int) (en : Nat) (es : List Int) (cd : Int) (rn : Nat) : Bool :=
  if sq = 0 then decide (st = 0 ∧ en = 0 ∧ cd = 0 ∧ rn = 0) else (inB sq 1 1000000 && (inB st 1 3 && decide (∀ i, i < en → entOk es i)))
end Go.Proofs.YtbdfopokimpeiaqDoor

/- A block of cells that may all be written, as one fact: what it reads as, what keeps it, what a store into it makes of it; of no program. -/
namespace Go.Proofs.YtbdfopokimpeiaqDoor
open Go.RowKit

def Box (w : World) (b : Nat) (cs : Array Value) (T : TypeId) : Prop := w.heap[b]? = some (.cells cs T)
section
variable {w w' : World} {b : Nat} {cs : Array Value} {T : TypeId}
theorem Box.lt (h : Box w b cs T) : b < w.heap.size := (Array.getElem?_eq_some_iff.1 h).1
theorem Box.cell (h : Box w b cs T) (i : Nat) : w.cell? ⟨b, i, none⟩ = cs[i]? := by unfold Box at h; simp [World.cell?, h]
theorem Box.frozen (h : Box w b cs T) (i : Nat) : w.frozen? ⟨b, i, none⟩ = false := by unfold Box at h; simp [World.frozen?, h]
theorem Box.below (h : Box w b cs T) {B : Nat} (hb : Below B w w') (hB : b < B) : Box w' b cs T := by
  unfold Box at h ⊢
  rw [hb.block b hB]
  exact h
theorem Box.set (h : Box w b cs T) {q : Addr} (hq : b ≠ q.block) (v : Value) : Box (w.setCell q v) b cs T := by
  unfold Box at h ⊢
  rw [Below.heap_setCell _ _ _ _ hq]
  exact h
theorem Box.put (h : Box w b cs T) (i : Nat) (v : Value) : Box (w.setCell ⟨b, i, none⟩ v) b (cs.setIfInBounds i v) T := by
  unfold Box at h ⊢
  obtain ⟨hlt, h'⟩ := Array.getElem?_eq_some_iff.1 h
  show (w.heap.modify b _)[b]? = _
  rw [Array.getElem?_eq_getElem (by simpa using hlt), Array.getElem_modify_self, h']
  rfl
theorem Box.alloc (h : Box w b cs T) (o : Obj) : Box (w.alloc o) b cs T := h.below ((Below.refl w.heap.size w).alloc (Nat.le_refl _) o) h.lt
theorem box_of (w : World) (cs : Array Value) (T : TypeId) : Box (w.alloc (.cells cs T)) w.heap.size cs T := by
  show (w.heap.push _)[w.heap.size]? = _
  simp
theorem Box.drew (h : Box w b cs T) : Box w.drew b cs T := h
end
theorem size_setCell (w : World) (a : Addr) (v : Value) : (w.setCell a v).heap.size = w.heap.size := by simp [World.setCell]
end Go.Proofs.YtbdfopokimpeiaqDoor

/- What words and marks mean: as the document says; no program. Descs in memory. -/
namespace Go.Proofs.YtbdfopokimpeiaqDoor
open Go.RowKit

/-- What a Desc holds. -/
structure DK where
  sq : Int
  st : Int
  en : Nat
  es : List Int
  cd : Int
  rn : Nat
  rs : List Int
instance : Inhabited DK := ⟨⟨0, 0, 0, [], 0, 0, []⟩⟩
def dk (ds : List DK) (i : Nat) : DK := ds.getD i default
/-- What a word means. -/
def wordM (x t s : Int) (ds : List DK) (at_ : Int) : Int :=
  if t = 0 then x else if inB t 1 ds.length = true then
    (if (dk ds (t - 1).toNat).sq = s ∧ (dk ds (t - 1).toNat).st = 2 then (entM (dk ds (t - 1).toNat).es (dk ds (t - 1).toNat).en at_).2.2.1 else (entM (dk ds (t - 1).toNat).es (dk ds (t - 1).toNat).en at_).2.1) else 0
def valM (fs : List Int) (m : Nat) (ds : List DK) (at_ : Int) : Int :=
  if 0 ≤ at_ ∧ at_ < (m : Int) then wordM (fs.getD (at_.toNat * 3) 0) (fs.getD (at_.toNat * 3 + 1) 0) (fs.getD (at_.toNat * 3 + 2) 0) ds at_ else 0
/-- The five cells of a Desc. -/
def Five (w : World) (b p : Nat) (d : DK) (ea : Option Addr) (ec : Nat) (ra : Option Addr) (rc : Nat) : Prop :=
  w.cell? ⟨b, p, none⟩ = some (I d.sq) ∧ w.cell? ⟨b, p + 1, none⟩ = some (I d.st) ∧ w.cell? ⟨b, p + 2, none⟩ = some (.slice ea d.en ec) ∧ w.cell? ⟨b, p + 3, none⟩ = some (I d.cd) ∧ w.cell? ⟨b, p + 4, none⟩ = some (.slice ra d.rn rc)
theorem Five.below {w w' : World} {b p : Nat} {d : DK} {ea : Option Addr} {ec : Nat} {ra : Option Addr} {rc : Nat} (h : Five w b p d ea ec ra rc) {B : Nat} (hb : Below B w w') (hB : w.heap.size ≤ B) : Five w' b p d ea ec ra rc := by
  have hlt : b < B := Nat.lt_of_lt_of_le (World.block_lt_of_cell? w _ h.1) hB
  obtain ⟨h0, h1, h2, h3, h4⟩ := h
  exact ⟨(hb.cell hlt).trans h0, (hb.cell hlt).trans h1, (hb.cell hlt).trans h2, (hb.cell hlt).trans h3, (hb.cell hlt).trans h4⟩
/-- n Descs lie there. -/
def DescAt (w : World) (a : Option Addr) (n : Nat) (ds : List DK) : Prop :=
  ds.length = n ∧ n ≤ 1048576 ∧ (n = 0 ∨ ∃ b o, a = some ⟨b, o, none⟩ ∧ ∀ i, i < n → ∃ ea ec ra rc, Five w b (o + i * 5) (dk ds i) ea ec ra rc ∧ TripAt w ea (dk ds i).en (dk ds i).es ∧ IntAt w ra (dk ds i).rn (dk ds i).rs)
theorem DescAt.below {w w' : World} {a : Option Addr} {n : Nat} {ds : List DK} (h : DescAt w a n ds) {B : Nat} (hb : Below B w w') (hB : w.heap.size ≤ B) : DescAt w' a n ds := by
  obtain ⟨h1, h2, h3 | ⟨b, o, h3, h4⟩⟩ := h
  · exact ⟨h1, h2, .inl h3⟩
  · refine ⟨h1, h2, .inr ⟨b, o, h3, fun i hi => ?_⟩⟩
    obtain ⟨ea, ec, ra, rc, h5, h6, h7⟩ := h4 i hi
    exact ⟨ea, ec, ra, rc, h5.below hb hB, h6.below hb hB, h7.below hb hB⟩
end Go.Proofs.YtbdfopokimpeiaqDoor

/- An entry: as a value; the law's own function on one. -/
namespace Go.Proofs.YtbdfopokimpeiaqDoor
open Go.ChangeShapes Go.WideShapes Go.ChangeAt Go.RowKit

abbrev EntryV (x y z : Int) : Value := .agg #[.int .i64 x, .int .i64 y, .int .i64 z]
end Go.Proofs.YtbdfopokimpeiaqDoor

/- Lists of entries: the law's own functions on them. -/
namespace Go.Proofs.YtbdfopokimpeiaqDoor
open Go.ChangeShapes Go.WideShapes Go.ChangeAt Go.RowKit

theorem infoEntry : (Tryd.prog.info? 62).map (fun i => (i.zero, i.size, i.bytes)) = some (some (.agg #[.int .i64 0, .int .i64 0, .int .i64 0]), 3, 24) := by kernel_rfl
set_option maxHeartbeats 1000000 in
theorem eqEntry_any (x y z x' y' z' : Int) (w : World) : Calls Tryd.prog 70 #[EntryV x y z, EntryV x' y' z'] w fun e w' => e = .returned (.bool (decide (x = x' ∧ y = y' ∧ z = z'))) ∧ Below w.heap.size w w' := by
  obtain ⟨B, hB⟩ : ∃ B, decide (x = x' ∧ y = y' ∧ z = z') = B := ⟨_, rfl⟩
  rw [hB]
  have HB : Hid (decide (x = x' ∧ y = y' ∧ z = z') = B) := hB
  clear hB
  have neb2 : ∀ a b : Int, (a = b ∧ (a != b) = false) ∨ (¬ a = b ∧ (a != b) = true) := fun a b => by
    by_cases h : a = b
    · exact .inl ⟨h, by simp [h]⟩
    · exact .inr ⟨h, by simp [h]⟩
  rcases neb2 x x' with ⟨h1, g1⟩ | ⟨h1, g1⟩ <;> rcases neb2 y y' with ⟨h2, g2⟩ | ⟨h2, g2⟩ <;> rcases neb2 z z' with ⟨h3, g3⟩ | ⟨h3, g3⟩
  all_goals
    have H1 : Hid _ := h1
    have H2 : Hid _ := h2
    have H3 : Hid _ := h3
    clear h1 h2 h3 neb2
    go_enter Tryd.func70, Tryd.ntmps70
    go_wp2
    iterate 3
      all_goals (try go_region)
      all_goals (try go_wp2)
    all_goals
      go_ret
      refine ⟨?_, (by
        have h0 := ((Below.refl w.heap.size w).alloc (Nat.le_refl _) (.cells #[.int .i64 x, .int .i64 y, .int .i64 z] 62)).alloc (by simp) (.cells #[.int .i64 x', .int .i64 y', .int .i64 z'] 62)
        first | exact h0 | exact h0.drew | exact h0.drew.drew | exact h0.drew.drew.drew)⟩
      rw [← HB.out]
      have h1 := H1.out
      have h2 := H2.out
      have h3 := H3.out
      first
        | (rw [decide_eq_true (show x = x' ∧ y = y' ∧ z = z' from ⟨h1, h2, h3⟩)]; rfl)
        | (rw [decide_eq_false (fun h : x = x' ∧ y = y' ∧ z = z' => h3 h.2.2)]; rfl)
        | (rw [decide_eq_false (fun h : x = x' ∧ y = y' ∧ z = z' => h2 h.2.1)]; rfl)
        | (rw [decide_eq_false (fun h : x = x' ∧ y = y' ∧ z = z' => h1 h.1)]; rfl)

set_option maxHeartbeats 1000000 in
theorem eqEntryS_any (a1 a2 : Option Addr) (n1 n2 c1 c2 : Nat) (fs gs : List Int) (w : World) (h1 : TripAt w a1 n1 fs) (h2 : TripAt w a2 n2 gs) :
    Calls Tryd.prog 66 #[.slice a1 n1 c1, .slice a2 n2 c2] w fun e w' => e = .returned (.bool (decide (fs = gs))) ∧ Below w.heap.size w w' := by
  have H1 : Hid (TripAt w a1 n1 fs) := h1
  have H2 : Hid (TripAt w a2 n2 gs) := h2
  have L1 : Hid (fs.length = n1 * 3) := h1.1
  have L2 : Hid (gs.length = n2 * 3) := h2.1
  have b1 := h1.2.1
  have b2 := h2.2.1
  obtain ⟨B, hB⟩ : ∃ B, decide (fs = gs) = B := ⟨_, rfl⟩
  rw [hB]
  have HB : Hid (decide (fs = gs) = B) := hB
  clear h1 h2 hB
  by_cases hn : n1 = n2
  · subst hn
    go_enter Tryd.func66, Tryd.ntmps66
    go_wp2
    go_loopw [5] (fun i wr => ∃ k : Nat, k ≤ n1 ∧ i = .int .i64 k ∧ fs.take (k * 3) = gs.take (k * 3) ∧ Below w.heap.size w wr) (fun i _ => n1 - (intOf i).toNat)
    case atStart => exact ⟨0, Nat.zero_le _, rfl, rfl, Below.refl _ _⟩
    case round =>
      obtain ⟨k, hk1, rfl, ht, hb⟩ := hrel
      have HT : Hid (fs.take (k * 3) = gs.take (k * 3)) := ht
      clear ht
      by_cases hlt1 : k < n1
      · have hk0 : (0 : Int) ≤ (k : Int) := by omega
        have hk1' : (k : Int) < (n1 : Int) := by omega
        rcases (H1.out.below hb (Nat.le_refl _)).2.2 with h | ⟨p1, o1, rfl, g1⟩
        · omega
        rcases (H2.out.below hb (Nat.le_refl _)).2.2 with h | ⟨p2, o2, rfl, g2⟩
        · omega
        obtain ⟨x, hx⟩ : ∃ x, fs.getD (k * 3) 0 = x := ⟨_, rfl⟩
        obtain ⟨y, hy⟩ : ∃ y, fs.getD (k * 3 + 1) 0 = y := ⟨_, rfl⟩
        obtain ⟨z, hz⟩ : ∃ z, fs.getD (k * 3 + 2) 0 = z := ⟨_, rfl⟩
        obtain ⟨x', hx'⟩ : ∃ x, gs.getD (k * 3) 0 = x := ⟨_, rfl⟩
        obtain ⟨y', hy'⟩ : ∃ y, gs.getD (k * 3 + 1) 0 = y := ⟨_, rfl⟩
        obtain ⟨z', hz'⟩ : ∃ z, gs.getD (k * 3 + 2) 0 = z := ⟨_, rfl⟩
        have e1 := g1 (k * 3) (by omega)
        have e2 := g1 (k * 3 + 1) (by omega)
        have e3 := g1 (k * 3 + 2) (by omega)
        have e4 := g2 (k * 3) (by omega)
        have e5 := g2 (k * 3 + 1) (by omega)
        have e6 := g2 (k * 3 + 2) (by omega)
        rw [hx] at e1
        rw [hy, ← Nat.add_assoc] at e2
        rw [hz, ← Nat.add_assoc] at e3
        rw [hx'] at e4
        rw [hy', ← Nat.add_assoc] at e5
        rw [hz', ← Nat.add_assoc] at e6
        have HX : Hid (fs.getD (k * 3) 0 = x ∧ fs.getD (k * 3 + 1) 0 = y ∧ fs.getD (k * 3 + 2) 0 = z ∧ gs.getD (k * 3) 0 = x' ∧ gs.getD (k * 3 + 1) 0 = y' ∧ gs.getD (k * 3 + 2) 0 = z') := ⟨hx, hy, hz, hx', hy', hz'⟩
        clear g1 g2 hx hy hz hx' hy' hz'
        have q1 : p1 < wr.heap.size := World.block_lt_of_cell? wr _ e1
        have q2 : p2 < wr.heap.size := World.block_lt_of_cell? wr _ e4
        obtain ⟨D, hD⟩ : ∃ D, decide (x = x' ∧ y = y' ∧ z = z') = D := ⟨_, rfl⟩
        have HD : Hid (decide (x = x' ∧ y = y' ∧ z = z') = D) := hD
        clear hD
        go_wp2_with fail
        go_region_held3 (fun w' => w'.cell? ⟨p1, o1 + k * 3, none⟩ = some (I x) ∧ w'.cell? ⟨p1, o1 + k * 3 + 1, none⟩ = some (I y) ∧ w'.cell? ⟨p1, o1 + k * 3 + 2, none⟩ = some (I z) ∧ w'.cell? ⟨p2, o2 + k * 3, none⟩ = some (I x') ∧ w'.cell? ⟨p2, o2 + k * 3 + 1, none⟩ = some (I y') ∧ w'.cell? ⟨p2, o2 + k * 3 + 2, none⟩ = some (I z'))
          (first | (with_reducible exact K2.out) | go_keep)
          (first
          | (go_at_call 70
             refine (eqEntry_any x y z x' y' z' _).mono ?_
             rintro e w2 ⟨rfl, hb2⟩
             rw [HD.out]
             have hb2' : Below wr.heap.size wr w2 := (Below.refl _ wr).drew.trans hb2
             have K2 : Hid (w2.cell? ⟨p1, o1 + k * 3, none⟩ = some (I x) ∧ w2.cell? ⟨p1, o1 + k * 3 + 1, none⟩ = some (I y) ∧ w2.cell? ⟨p1, o1 + k * 3 + 2, none⟩ = some (I z) ∧ w2.cell? ⟨p2, o2 + k * 3, none⟩ = some (I x') ∧ w2.cell? ⟨p2, o2 + k * 3 + 1, none⟩ = some (I y') ∧ w2.cell? ⟨p2, o2 + k * 3 + 2, none⟩ = some (I z')) := ⟨(hb2'.cell (show p1 < _ from q1)).trans e1, (hb2'.cell (show p1 < _ from q1)).trans e2, (hb2'.cell (show p1 < _ from q1)).trans e3, (hb2'.cell (show p2 < _ from q2)).trans e4, (hb2'.cell (show p2 < _ from q2)).trans e5, (hb2'.cell (show p2 < _ from q2)).trans e6⟩
             have hb02 : Below w.heap.size w w2 := hb.trans (hb2'.mono hb.size)
             clear hb2 hb2'))
        clear e1 e2 e3 e4 e5 e6 K2
        by_cases hh : x = x' ∧ y = y' ∧ z = z'
        · obtain rfl : D = true := by rw [← HD.out]; exact decide_eq_true hh
          have HH : Hid (x = x' ∧ y = y' ∧ z = z') := hh
          clear hh HD
          go_wp2
          have l1 := L1.out
          have l2 := L2.out
          obtain ⟨q1, q2, q3, q4, q5, q6⟩ := HX.out
          exact ⟨⟨k + 1, by omega, by go_num, take_three (by omega) (by omega) HT.out (by rw [q1, q4]; exact HH.out.1) (by rw [q2, q5]; exact HH.out.2.1) (by rw [q3, q6]; exact HH.out.2.2), hb02⟩, by simp [intOf]; omega⟩
        · obtain rfl : D = false := by rw [← HD.out]; exact decide_eq_false hh
          have HH : Hid (fs ≠ gs) := fun e => by
            obtain ⟨q1, q2, q3, q4, q5, q6⟩ := HX.out
            exact hh ⟨by rw [← q1, ← q4, e], by rw [← q2, ← q5, e], by rw [← q3, ← q6, e]⟩
          clear hh
          go_wp2
          go_ret
          refine ⟨?_, hb02⟩
          rw [← HB.out]
          simp [HH.out]
      · obtain rfl : k = n1 := by omega
        go_wp2
        go_ret
        refine ⟨?_, hb⟩
        have l1 := L1.out
        have l2 := L2.out
        have e : fs = gs := by
          have e0 := HT.out
          rwa [List.take_of_length_le (by omega), List.take_of_length_le (by omega)] at e0
        rw [← HB.out]
        simp [e]
  · have hne : ((n1 : Int) != (n2 : Int)) = true := by simp; omega
    have hxy : fs ≠ gs := fun e => by have l1 := L1.out; have l2 := L2.out; rw [e] at l1; omega
    have HX : Hid (fs ≠ gs) := hxy
    clear hxy
    go_enter Tryd.func66, Tryd.ntmps66
    go_wp2
    go_ret
    refine ⟨?_, Below.refl _ _⟩
    rw [← HB.out]
    simp [HX.out]
end Go.Proofs.YtbdfopokimpeiaqDoor

/- What comes of an op, as a value. -/
namespace Go.Proofs.YtbdfopokimpeiaqDoor
/-- What comes of an op, as a value. -/
abbrev ResV (code : Int) (a : Option Addr) (n c : Nat) : Value := .agg #[.int .i64 code, .slice a n c]
end Go.Proofs.YtbdfopokimpeiaqDoor

/- The laws' own helpers for results, walked: toRes (a new result that reads alike), szRes, szRows told exactly, eqRes; a result that came in, opened. -/
namespace Go.Proofs.YtbdfopokimpeiaqDoor
open Go.ChangeShapes Go.WideShapes Go.ChangeAt Go.RowKit Go.Joins

set_option maxHeartbeats 1000000 in
theorem eqRes_same (a1 a2 : Option Addr) (n1 n2 c1 c2 : Nat) (st : Int) (xs : List Int) (w : World) (h1 : IntAt w a1 n1 xs) (h2 : IntAt w a2 n2 xs) :
    Calls Tryd.prog 67 #[ResV st a1 n1 c1, ResV st a2 n2 c2] w fun e w' => e = .returned (.bool true) ∧ Below w.heap.size w w' := by
  have H1 : Hid (IntAt w a1 n1 xs) := h1
  have H2 : Hid (IntAt w a2 n2 xs) := h2
  clear h1 h2
  go_enter Tryd.func67, Tryd.ntmps67
  go_wp2_with fail
  have hb0 : Below w.heap.size w ((w.alloc (.cells #[.int .i64 st, .slice a1 n1 c1] 57)).alloc (.cells #[.int .i64 st, .slice a2 n2 c2] 57)) := ((Below.refl _ w).alloc (Nat.le_refl _) _).alloc (by simp) _
  refine (eqIntS_any a1 a2 n1 n2 c1 c2 xs xs _ (H1.out.below hb0 (Nat.le_refl _)) (H2.out.below hb0 (Nat.le_refl _))).mono ?_
  rintro e w1 ⟨rfl, m, rfl⟩
  have hb1 := below_drewN hb0 m
  clear hb0
  rw [show decide (xs = xs) = true from decide_eq_true rfl]
  go_wp2
  go_ret
  exact ⟨rfl, hb1⟩

end Go.Proofs.YtbdfopokimpeiaqDoor
