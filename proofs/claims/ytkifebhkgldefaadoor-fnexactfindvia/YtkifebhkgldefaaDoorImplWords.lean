/- impl.WordsOf, walked. -/
import Derived.Test.YtkifebhkgldefaaDoorSpecWords
import Derived.Test.YtkifebhkgldefaaDoorRowsRoom
namespace Go.Proofs.YtkifebhkgldefaaDoor
open Go.ChangeShapes Go.WideShapes Go.ChangeAt Go.RowKit Go.Maps

theorem below_grown {w w' : World} (h : Below w.heap.size w w') : w.grownBy w' none := ⟨h.os, h.tape, h.output, h.size, fun i hi _ => h.block i hi⟩
theorem setCell_grown (w : World) (a : Addr) (u : Value) : w.grownBy (w.setCell a u) (some a.block) := ⟨rfl, rfl, rfl, by simp [World.setCell], fun i _ hne => Below.heap_setCell _ _ _ _ (fun e => hne (by rw [e]))⟩

theorem iat_row (k : Nat) (hk : k < 4) (w : World) (hN : Names w) : Calls Tryd.prog 51 #[.int .i64 (k : Int)] w fun e w' => e = .returned (.int .i64 (k : Int)) ∧ Below w.heap.size w w' := by
  have := implRowAt_any (k : Int) w hN
  rwa [show placeN 1 (k : Int) = (k : Int) by unfold placeN; repeat' split <;> omega] at this
theorem iat_owner (x : Int) (m : Nat) (hx : 1 ≤ x ∧ x ≤ 6) (hm : m = (x + 3).toNat) (w : World) (hN : Names w) : Calls Tryd.prog 38 #[.int .i64 x] w fun e w' => e = .returned (.int .i64 (m : Int)) ∧ Below w.heap.size w w' := by
  have := implOwnerAt_any x w hN
  rwa [show placeN 2 x = (m : Int) by unfold placeN; repeat' split <;> omega] at this
theorem iat_via (x : Int) (m : Nat) (hx : 1 ≤ x ∧ x ≤ 6) (hm : m = (x + 13).toNat) (w : World) (hN : Names w) : Calls Tryd.prog 40 #[.int .i64 x] w fun e w' => e = .returned (.int .i64 (m : Int)) ∧ Below w.heap.size w w' := by
  have := implViaAt_any x w hN
  rwa [show placeN 5 x = (m : Int) by unfold placeN; repeat' split <;> omega] at this
theorem iat_count (x : Int) (m : Nat) (hx : 1 ≤ x ∧ x ≤ 6) (hm : m = (10 + x % 3).toNat) (w : World) (hN : Names w) : Calls Tryd.prog 52 #[.int .i64 (classN x)] w fun e w' => e = .returned (.int .i64 (m : Int)) ∧ Below w.heap.size w w' := by
  have := implCountAt_any (classN x) w hN
  rwa [show placeN 3 (classN x) = (m : Int) by rw [classN, if_pos hx]; unfold placeN; repeat' split <;> omega] at this

set_option maxHeartbeats 2000000 in
set_option maxRecDepth 100000 in
theorem implWordsOf_not (a : Option Addr) (n : Nat) (st : Int) (xs : List Int) (w : World) (hA : IntAt w a n xs) (hi : ∀ x ∈ xs, (Lit.int .i64 x).wf = true) (hno : ¬ OkRows xs st) :
    Calls Tryd.prog 33 #[.agg #[.slice a n n, .int .i64 st]] w fun e w' => e = .returned (.slice none 0 0) ∧ Below w.heap.size w w' := by
  have HA : Hid (IntAt w a n xs) := hA
  have HI : Hid (∀ x ∈ xs, (Lit.int .i64 x).wf = true) := hi
  have HN : Hid (¬ OkRows xs st) := hno
  clear hA hno hi
  go_enter Tryd.func33, Tryd.ntmps33
  go_wp2_with fail
  refine (implRowsOk_any a n st xs _ (HA.out.below ((Below.refl _ w).alloc (Nat.le_refl _) _) (Nat.le_refl _)) HI.out).mono ?_
  rintro e w1 ⟨⟨ok, rfl, hok⟩, hb1⟩
  obtain rfl : ok = false := by
    cases ok
    · rfl
    · exact absurd (hok.1 rfl) HN.out
  have hbw : Below w.heap.size w w1 := ((Below.refl _ w).alloc (Nat.le_refl _) _).trans (hb1.mono (by simp))
  clear hok hb1
  go_wp2
  go_ret
  exact ⟨rfl, hbw⟩

/-- The words lie in a list of the call's own. -/
def OwnSays (e : Ending) (w w' : World) (L : List Int) : Prop := ∃ g, w.heap.size ≤ g ∧ e = .returned (.slice (some ⟨g, 0, none⟩) 20 20) ∧ w'.ownsRow g 3 1 (.slice (some ⟨g, 0, none⟩) 20 20) 20 (L.map I)

/-- What is told of those that are not to come. -/
def mkL (left : Lit → Bool) (x : Int) : Int := if left (.int .i64 x) = true then 0 else x
def wordsM (xs : List Int) (left : Lit → Bool) (st : Int) : List Int := wordsL (mkL left (xs.getD 0 0)) (mkL left (xs.getD 1 0)) (mkL left (xs.getD 2 0)) (mkL left (xs.getD 3 0)) st
theorem mkL_ne {left : Lit → Bool} {y x : Int} (h : y ≠ x) (h0 : x ≠ 0) : mkL left y ≠ x := by
  unfold mkL
  split
  · exact fun e => h0 e.symm
  · exact h
theorem mkL_other {left : Lit → Bool} {y x : Int} (h : y ≠ x) : mkL (fun z => left z && !z.sameKey (.int .i64 x)) y = mkL left y := by
  unfold mkL
  simp only [sameKey_int, h, decide_false, Bool.not_false, Bool.and_true]
theorem mkL_same {left : Lit → Bool} {x : Int} : mkL (fun z => left z && !z.sameKey (.int .i64 x)) x = x := by
  unfold mkL
  simp [sameKey_int]
theorem mkL_left {left : Lit → Bool} {x : Int} (h : left (.int .i64 x) = true) : mkL left x = 0 := by
  unfold mkL
  rw [if_pos h]
theorem wordsM_step {xs : List Int} {left : Lit → Bool} {k : Nat} {x st : Int} (hk : k < 4) (hx : xs.getD k 0 = x) (hv : 1 ≤ x ∧ x ≤ 6) (hne : ∀ j, j < 4 → j ≠ k → xs.getD j 0 ≠ x) (hl : left (.int .i64 x) = true) :
    istepW (wordsM xs left st) k x st = wordsM xs (fun z => left z && !z.sameKey (.int .i64 x)) st := by
  have h : k = 0 ∨ k = 1 ∨ k = 2 ∨ k = 3 := by omega
  have h0 : x ≠ 0 := by omega
  rcases h with rfl | rfl | rfl | rfl
  · have n1 := hne 1 (by omega) (by omega)
    have n2 := hne 2 (by omega) (by omega)
    have n3 := hne 3 (by omega) (by omega)
    rw [wordsM, wordsM, hx, mkL_left hl, mkL_same, mkL_other n1, mkL_other n2, mkL_other n3]
    exact istep0 _ _ _ st x hv (mkL_ne n1 h0) (mkL_ne n2 h0) (mkL_ne n3 h0)
  · have n1 := hne 0 (by omega) (by omega)
    have n2 := hne 2 (by omega) (by omega)
    have n3 := hne 3 (by omega) (by omega)
    rw [wordsM, wordsM, hx, mkL_left hl, mkL_same, mkL_other n1, mkL_other n2, mkL_other n3]
    exact istep1 _ _ _ st x hv (mkL_ne n1 h0) (mkL_ne n2 h0) (mkL_ne n3 h0)
  · have n1 := hne 0 (by omega) (by omega)
    have n2 := hne 1 (by omega) (by omega)
    have n3 := hne 3 (by omega) (by omega)
    rw [wordsM, wordsM, hx, mkL_left hl, mkL_same, mkL_other n1, mkL_other n2, mkL_other n3]
    exact istep2 _ _ _ st x hv (mkL_ne n1 h0) (mkL_ne n2 h0) (mkL_ne n3 h0)
  · have n1 := hne 0 (by omega) (by omega)
    have n2 := hne 1 (by omega) (by omega)
    have n3 := hne 2 (by omega) (by omega)
    rw [wordsM, wordsM, hx, mkL_left hl, mkL_same, mkL_other n1, mkL_other n2, mkL_other n3]
    exact istep3 _ _ _ st x hv (mkL_ne n1 h0) (mkL_ne n2 h0) (mkL_ne n3 h0)
theorem wordsM_start {H : Type} {xs : List Int} {D : DataW H} (hD : HD xs D) (st : Int) : wordsM xs (Maps.has D) st = wordsL 0 0 0 0 st := by
  have h : ∀ j, j < 4 → mkL (Maps.has D) (xs.getD j 0) = 0 := fun j hj => by
    by_cases h0 : xs.getD j 0 = 0
    · rw [h0]
      unfold mkL
      split <;> rfl
    · refine mkL_left ?_
      rw [(hD _).1]
      exact decide_eq_true ⟨h0, List.ne_nil_of_mem (mem_posK.2 ⟨j, hj, rfl, rfl⟩)⟩
  rw [wordsM, h 0 (by omega), h 1 (by omega), h 2 (by omega), h 3 (by omega)]
theorem wordsM_end {xs : List Int} {left : Lit → Bool} (h : ∀ kl, left kl = false) (st : Int) : wordsM xs left st = specL xs st := by
  simp only [wordsM, specL, mkL, h]
  simp

theorem getL_set_ne {L : List Int} {i j : Nat} {u : Int} (h : i ≠ j) : (L.set i u).getD j 0 = L.getD j 0 := by
  simp [List.getD, List.getElem?_set_ne h]
theorem count_le (xs : List Int) (left : Lit → Bool) (st u v : Int) (k m2 m3 : Nat) (hk : k < 4) (h2 : m2 < 10) (h3 : 10 ≤ m3) (h4 : m3 < 13) : 0 ≤ (((wordsM xs left st).set k u).set m2 v).getD m3 0 ∧ (((wordsM xs left st).set k u).set m2 v).getD m3 0 ≤ 4 := by
  rw [getL_set_ne (by omega), getL_set_ne (by omega)]
  have h : m3 = 10 ∨ m3 = 11 ∨ m3 = 12 := by omega
  have e : ∀ c : Int, 0 ≤ clsW (mkL left (xs.getD 0 0)) (mkL left (xs.getD 1 0)) (mkL left (xs.getD 2 0)) (mkL left (xs.getD 3 0)) c ∧ clsW (mkL left (xs.getD 0 0)) (mkL left (xs.getD 1 0)) (mkL left (xs.getD 2 0)) (mkL left (xs.getD 3 0)) c ≤ 4 := fun c => by
    unfold clsW
    have b0 := bitW_le (mkL left (xs.getD 0 0)) c
    have b1 := bitW_le (mkL left (xs.getD 1 0)) c
    have b2 := bitW_le (mkL left (xs.getD 2 0)) c
    have b3 := bitW_le (mkL left (xs.getD 3 0)) c
    omega
  rcases h with rfl | rfl | rfl
  · exact e 0
  · exact e 1
  · exact e 2
theorem pos_one {xs : List Int} {x : Int} (h0 : posK xs 4 x ≠ []) (h1 : (posK xs 4 x).length ≤ 1) : ∃ k : Nat, k < 4 ∧ xs.getD k 0 = x ∧ posK xs 4 x = [(k : Int)] ∧ ∀ j, j < 4 → j ≠ k → xs.getD j 0 ≠ x := by
  obtain ⟨i, hi⟩ := List.exists_mem_of_ne_nil _ h0
  obtain ⟨k, hk, hkx, rfl⟩ := mem_posK.1 hi
  refine ⟨k, hk, hkx, ?_, fun j hj hjk e => ?_⟩
  · match hp : posK xs 4 x with
    | [] => exact absurd hp h0
    | [a] =>
      rw [hp] at hi
      simp at hi
      rw [hi]
    | _ :: _ :: _ => rw [hp] at h1; simp at h1
  · have := one_of h1 hi (mem_posK.2 ⟨j, hj, e, rfl⟩)
    omega

/-- The loop under way: the map is gone through, the words lie in block g, all else is as it was. -/
structure St {H : Type} (R : Value → Option (DataW H × List MemPlace)) (b r : Nat) (D : DataW H) (g : Nat) (w6 : World) (left : Lit → Bool) (cnt : Nat) (L : List Int) (v : World) : Prop where
  rg : v.ranges Tryd.prog 3 R b r 4 D left cnt
  gr : w6.grownBy v (some g)
  ow : v.ownsRow g 3 1 (.slice (some ⟨g, 0, none⟩) 20 20) 20 (L.map I)
section
variable {H : Type} {R : Value → Option (DataW H × List MemPlace)} {b r : Nat} {D : DataW H} {g : Nat} {w6 v v' : World} {left : Lit → Bool} {cnt : Nat} {L : List Int}
theorem St.call (h : St R b r D g w6 left cnt L v) (hb : Below v.heap.size v v') : St R b r D g w6 left cnt L v' :=
  ⟨h.rg.kept (below_grown hb) (by simp) (by simp), h.gr.andThen (below_grown hb) (fun j e => by cases e), owns_below h.ow hb (Nat.le_refl _)⟩
theorem St.store (h : St R b r D g w6 left cnt L v) (hbg : b ≠ g) (hrg : r ≠ g) (m : Nat) (y : Int) : St R b r D g w6 left cnt (L.set m y) (v.setCell ⟨g, m, none⟩ (I y)) := by
  refine ⟨h.rg.kept (setCell_grown v ⟨g, m, none⟩ (I y)) (fun e => hbg (by cases e; rfl)) (fun e => hrg (by cases e; rfl)), h.gr.andThen (setCell_grown v ⟨g, m, none⟩ (I y)) (fun j e => .inr e), ?_⟩
  have := (h.ow.stored m (I y)).1
  rwa [← List.map_set] at this
theorem St.cell (h : St R b r D g w6 left cnt L v) {p : Addr} (h1 : p.block < w6.heap.size) (h2 : p.block ≠ g) : v.cell? p = w6.cell? p := World.cell?_of_block (w := w6) (h.gr.block p.block h1 (fun e => h2 (by cases e; rfl)))
theorem St.below (h : St R b r D g w6 left cnt L v) {B : Nat} {w : World} (hb : Below B w w6) (h1 : B ≤ w6.heap.size) (h2 : B ≤ g) : Below B w v := hb.grown h.gr h1 (fun k e => by cases e; exact h2)
theorem St.at (h : St R b r D g w6 left cnt L v) {m : Nat} (hm : m < 20) (hl : L.length = 20) : v.cell? ⟨g, m, none⟩ = some (I (L.getD m 0)) ∧ v.frozen? ⟨g, m, none⟩ = false := by
  refine ⟨?_, h.ow.frozenAt m⟩
  rw [h.ow.cellAt m (by omega), List.getElem?_map, List.getElem?_eq_getElem (by omega)]
  simp [List.getD, show m < L.length by omega]
end

set_option maxHeartbeats 4000000 in
set_option maxRecDepth 100000 in
theorem implWordsOf_room (a : Option Addr) (cp : Nat) (hcp : 4 ≤ cp) (st : Int) (xs : List Int) (w : World) (hA : IntAt w a 4 xs) (hi : ∀ x ∈ xs, (Lit.int .i64 x).wf = true) (hyes : OkRows xs st) (hN : Names w) :
    Calls Tryd.prog 33 #[.agg #[.slice a 4 cp, .int .i64 st]] w fun e w' => OwnSays e w w' (specL xs st) ∧ Below w.heap.size w w' := by
  have HA : Hid (IntAt w a 4 xs) := hA
  have HI : Hid (∀ x ∈ xs, (Lit.int .i64 x).wf = true) := hi
  have HY : Hid (OkRows xs st) := hyes
  have HN : Hid (Names w) := hN
  have hst0 : 0 ≤ st := hyes.2.1
  have hst5 : st ≤ 5 := hyes.2.2.1
  have nlt := hN.lt
  clear hA hyes hi hN
  obtain ⟨i0, hi, hz0, hz1, hz2⟩ := info_parts infoInt
  go_enter Tryd.func33, Tryd.ntmps33
  go_wp2_with fail
  refine (implRowsOk_room a 4 cp hcp st xs _ (HA.out.below ((Below.refl _ w).alloc (Nat.le_refl _) _) (Nat.le_refl _)) HI.out).mono ?_
  rintro e w1 ⟨⟨ok, rfl, hok⟩, hb1⟩
  obtain rfl : ok = true := hok.2 HY.out
  simp only [World.size_alloc] at hb1
  have hs1 : w.heap.size < w1.heap.size := Nat.lt_of_succ_le (by simpa using hb1.size)
  have hbw1 : Below w.heap.size w w1 := ((Below.refl _ w).alloc (Nat.le_refl _) _).trans (hb1.mono (Nat.le_succ _))
  have c0 : w1.cell? ⟨w.heap.size, 0, none⟩ = some (.slice a 4 cp) := by rw [hb1.cell (by simp)]; simp
  have c1 : w1.cell? ⟨w.heap.size, 1, none⟩ = some (.int .i64 st) := by rw [hb1.cell (by simp)]; simp
  have HC0 : Hid (w1.cell? ⟨w.heap.size, 0, none⟩ = some (.slice a 4 cp)) := c0
  have HC1 : Hid (w1.cell? ⟨w.heap.size, 1, none⟩ = some (.int .i64 st)) := c1
  clear hok hb1 c0 c1
  go_wp2_with (first | (at_make; refine wpList_make_full _ rfl _ _ 22 rfl w1.heap.size 3 i0 (.int .i64 0) 1 Tryd.underlying22 hi hz0 hz1 .i64 .i64 _ _ 20 rfl rfl rfl rfl (by rw [hz2]; omega) (by unfold maxLen; omega) (Nat.le_refl _) ?_; intro w2 own2 grow2) | fail)
  rw [show (madeCells (Value.int .i64 0).cells (20 * 1)).toList = (List.replicate 20 (0 : Int)).map I from (toList_madeCells_one _ _).trans (by rfl)] at own2
  have hb2 : Below w1.heap.size w1 w2 := (Below.refl _ _).grown grow2 (Nat.le_refl _) (fun k e => by cases e)
  have hs2 := (own_base own2).2
  have d1 : w2.cell? ⟨w.heap.size, 1, none⟩ = some (.int .i64 st) := (hb2.cell (p := ⟨w.heap.size, 1, none⟩) hs1).trans HC1.out
  have HN2 : Hid (Names w2) := HN.out.below (hbw1.trans (hb2.mono hbw1.size)) nlt
  have HO2 : Hid (w2.ownsRow w1.heap.size 3 1 (.slice (some ⟨w1.heap.size, 0, none⟩) 20 20) 20 ((List.replicate 20 (0 : Int)).map I)) := own2
  clear grow2 own2
  go_region_with (first
    | (go_at_call 27; refine (implStateAt_any _ (HN2.out.below (Below.refl w2.heap.size w2).drew HN2.out.lt)).mono ?_; rintro e w3 ⟨rfl, hb3⟩
       have ho3 := owns_below HO2.out ((Below.refl w2.heap.size w2).drew.trans hb3) (Nat.le_refl _)
       have hf3 := ho3.frozenAt 13
       obtain ⟨u3, hc3⟩ := own_cell ho3 (show 13 < 20 by omega)
       have e1 : w3.cell? ⟨w.heap.size, 1, none⟩ = some (.int .i64 st) := (hb3.cell (p := ⟨w.heap.size, 1, none⟩) (Nat.lt_trans hs1 hs2)).trans d1))
  all_goals
    obtain ⟨w5, hw5⟩ : ∃ w5, w5 = w3.setCell ⟨w1.heap.size, 13, none⟩ (.int .i64 st) := ⟨_, rfl⟩
    rw [← hw5]
    have ho5 := (ho3.stored 13 (I st)).1
    rw [← List.map_set, ← hw5, ← wordsL_new] at ho5
    have hb5 : Below w1.heap.size w1 w5 := by rw [hw5]; exact (hb2.drew.trans (hb3.mono (Nat.le_of_lt hs2))).setCell (Nat.le_refl _) _
    have hs5 := (own_base ho5).2
    have hbw5 : Below w.heap.size w w5 := hbw1.trans (hb5.mono hbw1.size)
    have f0 : w5.cell? ⟨w.heap.size, 0, none⟩ = some (.slice a 4 cp) := (hb5.cell (p := ⟨w.heap.size, 0, none⟩) hs1).trans HC0.out
    have f1 : w5.cell? ⟨w.heap.size, 1, none⟩ = some (.int .i64 st) := (hb5.cell (p := ⟨w.heap.size, 1, none⟩) hs1).trans HC1.out
    have HO5 : Hid (w5.ownsRow w1.heap.size 3 1 (.slice (some ⟨w1.heap.size, 0, none⟩) 20 20) 20 ((wordsL 0 0 0 0 st).map I)) := ho5
    clear hw5 ho5 ho3 hf3 hc3 e1 hb3 HO2 HN2 d1 hb2 hs2
    go_wp2_with fail
    refine (holdersOf_cap Unit a cp hcp st xs _ (HA.out.below hbw5 (Nat.le_refl _)) HI.out).mono ?_
    rintro e w6 ⟨rfl, hb6, R, D, hown, hR, hD⟩
    have hbw6 : Below w.heap.size w w6 := hbw5.trans (hb6.mono hbw5.size)
    have hs6 : w5.heap.size + 1 < w6.heap.size := hown.lt
    have HO6 : Hid (w6.ownsRow w1.heap.size 3 1 (.slice (some ⟨w1.heap.size, 0, none⟩) 20 20) 20 ((wordsL 0 0 0 0 st).map I)) := owns_below HO5.out hb6 (Nat.le_refl _)
    have HF1 : Hid (w6.cell? ⟨w.heap.size, 1, none⟩ = some (.int .i64 st)) := (hb6.cell (p := ⟨w.heap.size, 1, none⟩) (Nat.lt_trans hs1 hs5)).trans f1
    have HN6 : Hid (Names w6) := HN.out.below hbw6 nlt
    have HR : Hid (RowsIn R w6 (w5.heap.size + 2)) := hR
    have HD1 : Hid (HD xs D) := hD
    clear hR hD hb6 f0 f1 HO5
    go_wp2_with (first | (at_range; refine wpList_range_own _ rfl _ 46 rfl 3 22 mapLaw Tryd.underlying46 R (w5.heap.size + 1) 4 D rfl hown ?_; intro w7 hrg7 hg7 hs7) | fail)
    go_frame
    have hbg : w5.heap.size + 1 ≠ w1.heap.size := by omega
    have hrg : w6.heap.size ≠ w1.heap.size := by omega
    have S7 : St R (w5.heap.size + 1) w6.heap.size D w1.heap.size w6 (Maps.has D) (Maps.size D) (wordsM xs (Maps.has D) st) w7 := by
      rw [wordsM_start HD1.out]
      exact ⟨hrg7, hg7.but _, HO6.out.kept hg7 (.inr (fun e => by simp [Value.ownBlock] at e))⟩
    clear hown hrg7 hg7
    go_loopw [4] (fun _ wr => ∃ left cnt, St R (w5.heap.size + 1) w6.heap.size D w1.heap.size w6 left cnt (wordsM xs left st) wr) (fun _ wr => wr.rangeLeft (w5.heap.size + 1) w6.heap.size)
    case atStart => exact ⟨_, _, S7⟩
    case round =>
      obtain ⟨left, cnt, hS⟩ := hrel
      clear S7
      have hrgS := hS.rg
      go_wp2_with (first | (at_next; refine wpList_next_rows _ rfl _ rfl R HR.out (w5.heap.size + 1) w6.heap.size 4 D HD1.out left cnt rfl hrgS ?_ ?_) | fail)
      · intro _ hl0
        go_wp2
        go_ret
        refine ⟨⟨_, Nat.le_of_lt hs1, rfl, ?_⟩, hS.below hbw6 hbw6.size (Nat.le_of_lt hs1)⟩
        rw [← wordsM_end hl0]
        exact hS.ow
      · intro x p l cp w8 cnt8 hlx hx0 hpx hrow hrg8 hlt8 hg8 hs8 hen
        obtain ⟨hv, hlen⟩ := HY.out.2.2.2 x hx0 hpx
        obtain ⟨k, hk4, hkx, hpk, hne⟩ := pos_one hpx hlen
        rw [hpk] at hrow
        obtain ⟨gk, rfl, hcell, hgk1, hgk2⟩ := row_intAt hrow (by simp) (by simp)
        obtain rfl : l = 1 := row_len hrow
        have S8 : St R (w5.heap.size + 1) w6.heap.size D w1.heap.size w6 (fun z => left z && !z.sameKey (.int .i64 x)) cnt8 (wordsM xs left st) w8 :=
          ⟨hrg8, hS.gr.andThen hg8 (fun j e => by cases e; exact .inl (Nat.le_refl _)), hS.ow.kept hg8 (.inr (fun e => hrg (by simpa [Value.ownBlock] using e.symm)))⟩
        have kc : w8.cell? ⟨gk, 0, none⟩ = some (I (k : Int)) := (S8.cell (p := ⟨gk, 0, none⟩) hgk1 (show gk ≠ w1.heap.size by omega)).trans hcell
        have names : ∀ {L : List Int} {v : World}, St R (w5.heap.size + 1) w6.heap.size D w1.heap.size w6 (fun z => left z && !z.sameKey (.int .i64 x)) cnt8 L v → Names v := fun h => HN.out.below (h.below hbw6 hbw6.size (Nat.le_of_lt hs1)) nlt
        have NAMES : Hid (∀ {L : List Int} {v : World}, St R (w5.heap.size + 1) w6.heap.size D w1.heap.size w6 (fun z => left z && !z.sameKey (.int .i64 x)) cnt8 L v → Names v) := names
        have HSTEP : Hid (istepW (wordsM xs left st) k x st = wordsM xs (fun z => left z && !z.sameKey (.int .i64 x)) st) := wordsM_step hk4 hkx hv hne hlx
        have hcnt : wr.rangeLeft (w5.heap.size + 1) w6.heap.size = cnt := hS.rg.left_eq
        obtain ⟨m2, hm2⟩ : ∃ m : Nat, m = (x + 3).toNat := ⟨_, rfl⟩
        obtain ⟨m3, hm3⟩ : ∃ m : Nat, m = (10 + x % 3).toNat := ⟨_, rfl⟩
        obtain ⟨m5, hm5⟩ : ∃ m : Nat, m = (x + 13).toNat := ⟨_, rfl⟩
        have lt2 : m2 < 10 := by omega
        have ge3 : 10 ≤ m3 := by omega
        have lt3 : m3 < 13 := by omega
        have lt5 : m5 < 20 := by omega
        have HM2 : Hid (m2 = (x + 3).toNat) := hm2
        have HM3 : Hid (m3 = (10 + x % 3).toNat) := hm3
        have HM5 : Hid (m5 = (x + 13).toNat) := hm5
        have hsg : w.heap.size ≠ w1.heap.size := by omega
        have hgs : w1.heap.size ≠ w.heap.size := by omega
        clear hm2 hm3 hm5 names hne hkx hpk hlen hrow hcell hrg8 hg8 hpx hS hrgS
        go_wp2_with fail
        refine (iat_row k hk4 _ (NAMES.out S8)).mono ?_
        rintro e w9 ⟨rfl, hb9⟩
        have S9 := S8.call hb9
        obtain ⟨c9, z9⟩ := S9.at (show k < 20 by omega) rfl
        have T9 := S9.store hbg hrg k x
        have HT9 : Hid (St R (w5.heap.size + 1) w6.heap.size D w1.heap.size w6 (fun z => left z && !z.sameKey (.int .i64 x)) cnt8 ((wordsM xs left st).set k x) (w9.setCell ⟨w1.heap.size, k, none⟩ (I x))) := T9
        clear S8 S9 T9 hb9 kc hen
        go_wp2_with fail
        refine (iat_owner x m2 hv HM2.out _ (NAMES.out HT9.out)).mono ?_
        rintro e w10 ⟨rfl, hb10⟩
        have S10 := HT9.out.call hb10
        obtain ⟨c10, z10⟩ := S10.at (show m2 < 20 by omega) (by simp [wordsM, wordsL, wordsG])
        have HT10 : Hid (St R (w5.heap.size + 1) w6.heap.size D w1.heap.size w6 (fun z => left z && !z.sameKey (.int .i64 x)) cnt8 (((wordsM xs left st).set k x).set m2 ((k : Int) + 1)) (w10.setCell ⟨w1.heap.size, m2, none⟩ (I ((k : Int) + 1)))) := S10.store hbg hrg m2 ((k : Int) + 1)
        clear S10 HT9 hb10 c9 z9
        go_wp2_with fail
        refine (implClassOf_any x _).mono ?_
        rintro e w11 ⟨rfl, rfl⟩
        go_wp2_with fail
        refine (iat_count x m3 hv HM3.out _ (NAMES.out HT10.out)).mono ?_
        rintro e w12 ⟨rfl, hb12⟩
        have S12 := HT10.out.call hb12
        have hq4 := count_le xs left st x ((k : Int) + 1) k m2 m3 hk4 lt2 ge3 lt3
        obtain ⟨c12, z12⟩ := S12.at (show m3 < 20 by omega) (by simp [wordsM, wordsL, wordsG])
        obtain ⟨q, hq⟩ : ∃ q, (((wordsM xs left st).set k x).set m2 ((k : Int) + 1)).getD m3 0 = q := ⟨_, rfl⟩
        rw [hq] at hq4 c12
        have s12 : w12.cell? ⟨w.heap.size, 1, none⟩ = some (.int .i64 st) := (S12.cell (p := ⟨w.heap.size, 1, none⟩) (show w.heap.size < w6.heap.size by omega) hsg).trans HF1.out
        have HQ : Hid ((((wordsM xs left st).set k x).set m2 ((k : Int) + 1)).getD m3 0 = q) := hq
        have HT12 : Hid (St R (w5.heap.size + 1) w6.heap.size D w1.heap.size w6 (fun z => left z && !z.sameKey (.int .i64 x)) cnt8 ((((wordsM xs left st).set k x).set m2 ((k : Int) + 1)).set m3 (q + 1)) (w12.setCell ⟨w1.heap.size, m3, none⟩ (I (q + 1)))) := S12.store hbg hrg m3 (q + 1)
        clear S12 HT10 hb12 c10 z10 hq
        by_cases hvia : (k : Int) + 1 < st
        · have hvia' : (k : Int) < st - 1 := by omega
          have HV : Hid ((k : Int) + 1 < st) := hvia
          go_wp2_with fail
          refine (iat_via x m5 hv HM5.out _ (NAMES.out HT12.out)).mono ?_
          rintro e w13 ⟨rfl, hb13⟩
          have S13 := HT12.out.call hb13
          obtain ⟨c13, z13⟩ := S13.at (show m5 < 20 by omega) (by simp [wordsM, wordsL, wordsG])
          have T13 := S13.store hbg hrg m5 ((k : Int) + 1)
          have HT13 : Hid (St R (w5.heap.size + 1) w6.heap.size D w1.heap.size w6 (fun z => left z && !z.sameKey (.int .i64 x)) cnt8 (wordsM xs (fun z => left z && !z.sameKey (.int .i64 x)) st) (w13.setCell ⟨w1.heap.size, m5, none⟩ (I ((k : Int) + 1)))) := by
            rw [← HSTEP.out, istepW, if_pos HV.out, ← HM2.out, ← HM3.out, ← HM5.out, HQ.out]
            exact T13
          clear S13 T13 HT12 hb13 c12 z12 s12
          go_wp2
          refine ⟨⟨_, _, HT13.out⟩, ?_⟩
          rw [hcnt]
          exact Nat.lt_of_le_of_lt (Nat.le_of_eq HT13.out.rg.left_eq) hlt8
        · have hvia' : ¬ ((k : Int) < st - 1) := by omega
          have HT13 : Hid (St R (w5.heap.size + 1) w6.heap.size D w1.heap.size w6 (fun z => left z && !z.sameKey (.int .i64 x)) cnt8 (wordsM xs (fun z => left z && !z.sameKey (.int .i64 x)) st) (w12.setCell ⟨w1.heap.size, m3, none⟩ (I (q + 1)))) := by
            rw [← HSTEP.out, istepW, if_neg hvia, ← HM2.out, ← HM3.out, HQ.out]
            exact HT12.out
          go_wp2
          refine ⟨⟨_, _, HT13.out⟩, ?_⟩
          rw [hcnt]
          exact Nat.lt_of_le_of_lt (Nat.le_of_eq HT13.out.rg.left_eq) hlt8
theorem implWordsOf_yes (a : Option Addr) (st : Int) (xs : List Int) (w : World) (hA : IntAt w a 4 xs) (hi : ∀ x ∈ xs, (Lit.int .i64 x).wf = true) (hyes : OkRows xs st) (hN : Names w) :
    Calls Tryd.prog 33 #[.agg #[.slice a 4 4, .int .i64 st]] w fun e w' => OwnSays e w w' (specL xs st) ∧ Below w.heap.size w w' := implWordsOf_room a 4 (Nat.le_refl _) st xs w hA hi hyes hN
end Go.Proofs.YtkifebhkgldefaaDoor
