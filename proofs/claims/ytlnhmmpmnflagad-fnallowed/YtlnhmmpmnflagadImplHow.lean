/- impl.KeyOf and impl.HowMany, walked at four numbers. -/
import Derived.Test.YtlnhmmpmnflagadRange3
import Derived.Test.YtlnhmmpmnflagadValOk
import Derived.Test.YtlnhmmpmnflagadClassOf
import Derived.Test.YtlnhmmpmnflagadAllowM
namespace Go.Proofs.Ytlnhmmpmnflagad
open Go.ChangeShapes Go.WideShapes Go.ChangeAt Go.RowKit Go.Maps

/-- The look-up in the map of holdersOf. -/
theorem look_row {H : Type} {w : World} {base b n : Nat} {D : DataW H} {R : Value → Option (DataW H × List MemPlace)} {xs : List Int} (h : w.ownsMap Try.prog 3 R b n D) (hR : RowsIn R w base) (hD : HD xs D) (v : Int) (h0 : v ≠ 0) (hw : (Lit.int .i64 v).wf = true) :
    ∃ (p : Option Addr) (l c : Nat), (Instr.lookup 64 (.map (some b)) (.int .i64 v) false).run Try.prog w = .ok (.slice p l c) w ∧ ((posK xs 4 v = [] ∧ l = 0) ∨ (posK xs 4 v ≠ [] ∧ w.ownsInts base 3 .i64 (.slice p l c) (posK xs 4 v))) := by
  obtain ⟨es, clock, hb, F, _, rfl⟩ := h
  have hkey : keyOf Try.prog 3 (.int .i64 v) = some (.int .i64 v) := keyOf_int_mk Try.underlying3 hw
  rcases Maps.fit_look false mapLaw Try.underlying64 (zeroInts w) hb F hkey with ⟨hrun, _, hat⟩ | ⟨e0, y, _, _, hrun, hRv, hat, _⟩
  · refine ⟨none, 0, 0, hrun, .inl ⟨?_, rfl⟩⟩
    have h1 := Maps.has_false_of_atKey hat
    rw [(hD v).1] at h1
    have h2 := of_decide_eq_false h1
    by_cases hp : posK xs 4 v = []
    · exact hp
    · exact absurd ⟨h0, hp⟩ h2
  · obtain ⟨_, hp, ho⟩ := step_row hR hD hRv hat
    obtain ⟨⟨p, l, c⟩, e1⟩ := row_slice ho
    rw [e1] at ho hrun
    exact ⟨p, l, c, hrun, .inr ⟨hp, ho⟩⟩

theorem posK_four (xs : List Int) (v : Int) : posK xs 4 v = (if xs.getD 0 0 = v then [0] else []) ++ (if xs.getD 1 0 = v then [1] else []) ++ (if xs.getD 2 0 = v then [2] else []) ++ (if xs.getD 3 0 = v then [3] else []) := by
  have h : ∀ k : Nat, posK xs (k + 1) v = posK xs k v ++ (if xs.getD k 0 = v then [(k : Int)] else []) := fun k => by
    split
    · exact posK_same (by assumption)
    · rw [posK_other (by assumption), List.append_nil]
  rw [h 3, h 2, h 1, h 0, posK_zero]
  rfl
theorem posK_len (xs : List Int) (v : Int) : ((posK xs 4 v).length : Int) = (if xs.getD 0 0 = v then 1 else 0) + (if xs.getD 1 0 = v then 1 else 0) + (if xs.getD 2 0 = v then 1 else 0) + (if xs.getD 3 0 = v then 1 else 0) := by
  rw [posK_four]
  split <;> split <;> split <;> split <;> rfl
theorem posK_le (xs : List Int) (v : Int) : (posK xs 4 v).length ≤ 4 := by
  rw [posK_four]
  split <;> split <;> split <;> split <;> decide
theorem keyN_none {xs : List Int} {v : Int} (h : posK xs 4 v = []) : keyN xs v = -1 := by
  rw [posK_four] at h
  unfold keyN
  split <;> (try split) <;> (try split) <;> (try split) <;> simp_all
theorem keyN_some {xs : List Int} {v : Int} (h : posK xs 4 v ≠ []) : (posK xs 4 v).getD 0 0 = keyN xs v := by
  rw [posK_four] at h ⊢
  unfold keyN
  split <;> (try split) <;> (try split) <;> (try split) <;> simp_all

set_option maxHeartbeats 1000000 in
set_option maxRecDepth 100000 in
theorem implKeyOf_four (a : Option Addr) (st v : Int) (xs : List Int) (w : World) (hA : IntAt w a 4 xs) (hi : ∀ x ∈ xs, (Lit.int .i64 x).wf = true) (hv : 1 ≤ v ∧ v ≤ 6) :
    Calls Try.prog 46 #[.agg #[.slice a 4 4, .int .i64 st], .int .i64 v] w fun e w' => e = .returned (.int .i64 (keyN xs v)) ∧ Below w.heap.size w w' := by
  have HA : Hid (IntAt w a 4 xs) := hA
  have HI : Hid (∀ x ∈ xs, (Lit.int .i64 x).wf = true) := hi
  obtain ⟨B, hB⟩ : ∃ B, keyN xs v = B := ⟨_, rfl⟩
  rw [hB]
  have HB : Hid (keyN xs v = B) := hB
  clear hA hi hB
  go_enter Try.func46, Try.ntmps46
  go_wp2_with fail
  refine (holdersOf_four Unit a st xs _ (HA.out.below ((Below.refl _ w).alloc (Nat.le_refl _) _) (Nat.le_refl _)) HI.out).mono ?_
  rintro e w1 ⟨rfl, hb0, R, D, hown, hR, hD⟩
  have hb1 : Below w.heap.size w w1 := ((Below.refl _ w).alloc (Nat.le_refl _) _).trans (hb0.mono (by simp))
  clear hb0
  simp only [World.size_alloc] at hown hR
  obtain ⟨p, l, c, hrun, hc⟩ := look_row hown hR hD v (by omega) (WalkArith.wf_i64 (by omega))
  clear hown hR hD
  rcases hc with ⟨hp, rfl⟩ | ⟨hp, ho⟩
  · have HP : Hid (posK xs 4 v = []) := hp
    clear hp
    go_wp2
    go_ret
    exact ⟨by rw [← HB.out, keyN_none HP.out]; rfl, hb1⟩
  · obtain rfl := row_len ho
    obtain ⟨g, rfl, hg, _⟩ := row_intAt ho hp (posK_le xs v)
    rw [keyN_some hp, HB.out] at hg
    have h4 := posK_le xs v
    have h5 : 0 < (posK xs 4 v).length := List.length_pos_iff.2 hp
    obtain ⟨q, hq⟩ : ∃ q, (posK xs 4 v).length = q := ⟨_, rfl⟩
    rw [hq] at hrun h4 h5
    clear hp ho hq
    by_cases h1 : q = 1
    · subst h1
      go_wp2
      go_ret
      exact ⟨rfl, hb1⟩
    · have h6 : ((q : Int) == 1) = false := by simp; omega
      have h7 : 1 < q := by omega
      go_wp2_with fail
      refine (implValOk_any v _).mono ?_
      rintro e w2 ⟨rfl, rfl⟩
      rw [show decide (1 ≤ v ∧ v ≤ 6) = true from decide_eq_true hv]
      go_wp2
      go_ret
      exact ⟨rfl, hb1⟩

/-- What is told of those that have come. -/
def mkH (left : Lit → Bool) (x : Int) : Int := if left (.int .i64 x) = true then 0 else x
/-- How many of those that have come are of the class c. -/
def cntH (xs : List Int) (left : Lit → Bool) (c : Int) : Int := bitW (mkH left (xs.getD 0 0)) c + bitW (mkH left (xs.getD 1 0)) c + bitW (mkH left (xs.getD 2 0)) c + bitW (mkH left (xs.getD 3 0)) c
theorem cntH_le (xs : List Int) (left : Lit → Bool) (c : Int) : 0 ≤ cntH xs left c ∧ cntH xs left c ≤ 4 := by
  unfold cntH
  have h0 := bitW_le (mkH left (xs.getD 0 0)) c
  have h1 := bitW_le (mkH left (xs.getD 1 0)) c
  have h2 := bitW_le (mkH left (xs.getD 2 0)) c
  have h3 := bitW_le (mkH left (xs.getD 3 0)) c
  omega
theorem bitW_mkH {left : Lit → Bool} {x : Int} (y c : Int) (hl : left (.int .i64 x) = true) :
    bitW (mkH (fun z => left z && !z.sameKey (.int .i64 x)) y) c = bitW (mkH left y) c + (if y = x then bitW x c else 0) := by
  unfold mkH
  by_cases h : y = x
  · subst h
    simp [sameKey_int, hl, bitW_zero]
  · simp [sameKey_int, h]
theorem cntH_step {xs : List Int} {left : Lit → Bool} {x : Int} (c : Int) (hl : left (.int .i64 x) = true) :
    cntH xs (fun z => left z && !z.sameKey (.int .i64 x)) c = cntH xs left c + (if bitW x c = 1 then ((posK xs 4 x).length : Int) else 0) := by
  have hb := bitW_le x c
  unfold cntH
  rw [bitW_mkH _ c hl, bitW_mkH _ c hl, bitW_mkH _ c hl, bitW_mkH _ c hl, posK_len]
  by_cases h : bitW x c = 1
  · rw [h, if_pos rfl]
    omega
  · have h0 : bitW x c = 0 := by omega
    rw [h0]
    simp
theorem cntH_none {xs : List Int} {left : Lit → Bool} (c : Int) (h : ∀ i, i < 4 → xs.getD i 0 ≠ 0 → left (.int .i64 (xs.getD i 0)) = true) : cntH xs left c = 0 := by
  have h1 : ∀ i, i < 4 → bitW (mkH left (xs.getD i 0)) c = 0 := fun i hi => by
    unfold mkH
    split
    · exact bitW_zero
    · by_cases h0 : xs.getD i 0 = 0
      · rw [h0]; exact bitW_zero
      · exact absurd (h i hi h0) (by assumption)
  unfold cntH
  rw [h1 0 (by omega), h1 1 (by omega), h1 2 (by omega), h1 3 (by omega)]
  rfl
theorem cntH_all {xs : List Int} {left : Lit → Bool} (c : Int) (h : ∀ z, left z = false) : cntH xs left c = cntK xs c 4 := by
  have h1 : ∀ y, mkH left y = y := fun y => by unfold mkH; rw [h]; rfl
  unfold cntH
  rw [h1, h1, h1, h1, cntK_four]
  rfl

set_option maxHeartbeats 1000000 in
set_option maxRecDepth 100000 in
theorem implHowMany_four (a : Option Addr) (st c : Int) (xs : List Int) (w : World) (hA : IntAt w a 4 xs) (hi : ∀ x ∈ xs, (Lit.int .i64 x).wf = true) :
    Calls Try.prog 48 #[.agg #[.slice a 4 4, .int .i64 st], .int .i64 c] w fun e w' => e = .returned (.int .i64 (cntK xs c 4)) ∧ Below w.heap.size w w' := by
  have HA : Hid (IntAt w a 4 xs) := hA
  have HI : Hid (∀ x ∈ xs, (Lit.int .i64 x).wf = true) := hi
  clear hA hi
  go_enter Try.func48, Try.ntmps48
  go_wp2_with fail
  refine (holdersOf_four Unit a st xs _ (HA.out.below ((Below.refl _ w).alloc (Nat.le_refl _) _) (Nat.le_refl _)) HI.out).mono ?_
  rintro e w1 ⟨rfl, hb1, R, D, hown, hR, hD⟩
  have hbw : Below w.heap.size w w1 := ((Below.refl _ w).alloc (Nat.le_refl _) _).trans (hb1.mono (by simp))
  have hsz1 := hown.lt
  simp only [World.size_alloc] at hown hR hsz1
  have HR : Hid (RowsIn R w1 (w.heap.size + 1 + 2)) := hR
  have HD1 : Hid (HD xs D) := hD
  clear hb1 hR hD
  go_wp2_with (first | (at_range; refine wpList_range_own _ rfl _ 64 rfl 3 24 mapLaw Try.underlying64 R (w.heap.size + 1 + 1) 4 D rfl hown ?_; intro w2 hrg0 hg0 hs2) | fail)
  go_frame
  have hb2 : Below w1.heap.size w1 w2 := (Below.refl _ _).grown hg0 (Nat.le_refl _) (fun k e => by cases e)
  clear hown hg0
  go_loopw [5] (fun q wr => ∃ left cnt, q = .int .i64 (cntH xs left c) ∧ wr.ranges Try.prog 3 R (w.heap.size + 1 + 1) w1.heap.size 4 D left cnt ∧ Below w1.heap.size w1 wr) (fun _ wr => wr.rangeLeft (w.heap.size + 1 + 1) w1.heap.size)
  case atStart =>
    refine ⟨_, _, ?_, hrg0, hb2⟩
    rw [cntH_none c]
    intro i hi h0
    show Maps.has D _ = true
    rw [(HD1.out _).1]
    refine decide_eq_true ⟨h0, ?_⟩
    have hm : ((i : Nat) : Int) ∈ posK xs 4 (xs.getD i 0) := List.mem_map.2 ⟨i, List.mem_filter.2 ⟨List.mem_range.2 hi, by simp⟩, rfl⟩
    exact List.ne_nil_of_mem hm
  case round =>
    obtain ⟨left, cnt, rfl, hrg, hbr⟩ := hrel
    clear hrg0 hb2
    go_wp2_with (first | (at_next; refine wpList_next_rows _ rfl _ rfl R HR.out (w.heap.size + 1 + 1) w1.heap.size 4 D HD1.out left cnt rfl hrg ?_ ?_) | fail)
    · intro _ hl0
      go_wp2
      go_ret
      exact ⟨by rw [cntH_all c hl0]; rfl, hbw.trans (hbr.mono hbw.size)⟩
    · intro x p l c' w3 cnt3 hlx hx0 hpx hrow hrg3 hlt hg3 hs3 hen
      have hb3 : Below w1.heap.size w1 w3 := hbr.grown hg3 hbr.size (fun k e => by cases e; exact Nat.le_refl _)
      have hb03 := hbw.trans (hb3.mono hbw.size)
      obtain rfl := row_len hrow
      have hq := cntH_le xs left c
      have h4 := posK_le xs x
      have hst := cntH_step (xs := xs) c hlx
      obtain ⟨q, hq1⟩ : ∃ q, cntH xs left c = q := ⟨_, rfl⟩
      obtain ⟨m, hm1⟩ : ∃ m, (posK xs 4 x).length = m := ⟨_, rfl⟩
      rw [hq1, hm1] at hst
      rw [hq1] at hq ⊢
      rw [hm1] at h4 hen ⊢
      have HS : Hid (cntH xs (fun z => left z && !z.sameKey (.int .i64 x)) c = q + if bitW x c = 1 then (m : Int) else 0) := hst
      clear hrow hg3 hpx hst hq1 hm1
      go_wp2_with fail
      refine (implValOk_any x _).mono ?_
      rintro e w4 ⟨rfl, rfl⟩
      by_cases hv : 1 ≤ x ∧ x ≤ 6
      · rw [show decide (1 ≤ x ∧ x ≤ 6) = true from decide_eq_true hv]
        go_wp2_with fail
        refine (implClassOf_any x _).mono ?_
        rintro e w5 ⟨rfl, rfl⟩
        rcases eqb (classN x) c with ⟨g0, g1⟩ | ⟨g0, g1⟩
        · have hbit : Hid (bitW x c = 1) := by unfold bitW; exact if_pos ⟨hv, g0⟩
          go_wp2
          refine ⟨⟨_, _, ?_, hrg3, hb3⟩, by rw [hrg3.left_eq, hrg.left_eq]; omega⟩
          rw [HS.out, if_pos hbit.out]
        · have hbit : Hid (bitW x c = 0) := by unfold bitW; exact if_neg (fun h => g0 h.2)
          go_wp2
          refine ⟨⟨_, _, ?_, hrg3, hb3⟩, by rw [hrg3.left_eq, hrg.left_eq]; omega⟩
          rw [HS.out, hbit.out]
          simp
      · rw [show decide (1 ≤ x ∧ x ≤ 6) = false from decide_eq_false hv]
        have hbit : Hid (bitW x c = 0) := by unfold bitW; exact if_neg (fun h => hv h.1)
        go_wp2
        refine ⟨⟨_, _, ?_, hrg3, hb3⟩, by rw [hrg3.left_eq, hrg.left_eq]; omega⟩
        rw [HS.out, hbit.out]
        simp
end Go.Proofs.Ytlnhmmpmnflagad
