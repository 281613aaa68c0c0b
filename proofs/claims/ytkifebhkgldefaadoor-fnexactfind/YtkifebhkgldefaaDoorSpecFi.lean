/- spec.l13Key, Find, FindVia, walked at any list. -/
import Derived.Test.YtkifebhkgldefaaDoorSpecWh
import Derived.Test.YtkifebhkgldefaaDoorOwnerAt
import Derived.Test.YtkifebhkgldefaaDoorViaAt
import Derived.Deep.Cut
namespace Go.Proofs.YtkifebhkgldefaaDoor
open Go.ChangeShapes Go.WideShapes Go.ChangeAt Go.RowKit Go.Joins

/-- The answer is the key that a word tells. -/
def FindSays (e : Ending) (M : Int → Bool → Prop) : Prop := ∃ k ok, e = .returned (.tuple #[.int .i64 k, .bool ok]) ∧ M k ok
theorem keyM_no {ws : List Int} {q : Int} (h : ¬ WholeM ws) : KeyM ws q 0 false := .inr ⟨rfl, rfl, fun h' => h h'.1⟩
theorem keyM_neg {ws : List Int} : KeyM ws (-1) 0 false := .inr ⟨rfl, rfl, fun h' => by have := h'.2.1; omega⟩
theorem keyM_none {ws : List Int} {q : Nat} (h : ws.getD q 0 = 0) : KeyM ws (q : Int) 0 false := .inr ⟨rfl, rfl, fun h' => h'.2.2 (by simpa using h)⟩
theorem keyM_some {ws : List Int} {q : Nat} {x : Int} (hW : WholeM ws) (hx : ws.getD q 0 = x) (h0 : ¬ x = 0) : KeyM ws (q : Int) (x - 1) true :=
  .inl ⟨rfl, hW, by omega, by rw [Int.toNat_natCast, hx]; exact h0, by rw [Int.toNat_natCast, hx]⟩
set_option maxHeartbeats 2000000 in
set_option maxRecDepth 100000 in
theorem specKey_any (a : Option Addr) (n c : Nat) (ws : List Int) (q : Int) (w : World) (hA : IntAt w a n ws) (hc : n ≤ c) (hq : WayAt q) :
    Calls Tryd.prog 35 #[.slice a n c, .int .i64 q] w fun e w' => FindSays e (KeyM ws q) ∧ Below w.heap.size w w' := by
  have HA : Hid (IntAt w a n ws) := hA
  have HC : Hid (n ≤ c) := hc
  clear hA hc
  rcases hq with rfl | hq
  · go_enter Tryd.func35, Tryd.ntmps35
    go_wp2_with (fail)
    refine (specWhole_any a n c ws w HA.out HC.out).mono ?_
    rintro e w1 ⟨⟨ok, rfl, hok⟩, hb1⟩
    have HB1 : Hid (Below w.heap.size w w1) := hb1
    have HOK : Hid (ok = true ↔ WholeM ws) := hok
    clear hb1 hok
    cases ok with
    | false =>
      have HNO : Hid (¬ WholeM ws) := fun h => by have := HOK.out.2 h; cases this
      go_wp2
      go_ret2
      exact ⟨⟨0, false, rfl, keyM_no HNO.out⟩, HB1.out⟩
    | true =>
      go_wp2
      go_ret2
      exact ⟨⟨0, false, rfl, keyM_neg⟩, HB1.out⟩
  obtain ⟨qn, rfl⟩ : ∃ qn : Nat, q = (qn : Int) := ⟨q.toNat, by omega⟩
  have HQ : Hid (WayAt (qn : Int)) := .inr hq
  have hq20 : qn < 20 := by omega
  clear hq
  go_enter Tryd.func35, Tryd.ntmps35
  go_wp2_with (fail)
  refine (specWhole_any a n c ws w HA.out HC.out).mono ?_
  rintro e w1 ⟨⟨ok, rfl, hok⟩, hb1⟩
  have HB1 : Hid (Below w.heap.size w w1) := hb1
  have HOK : Hid (ok = true ↔ WholeM ws) := hok
  clear hb1 hok
  cases ok with
  | false =>
    have HNO : Hid (¬ WholeM ws) := fun h => by have := HOK.out.2 h; cases this
    go_wp2
    go_ret2
    exact ⟨⟨0, false, rfl, keyM_no HNO.out⟩, HB1.out⟩
  | true =>
    have HW : Hid (WholeM ws) := HOK.out.1 rfl
    obtain rfl : n = 20 := HA.out.1.symm.trans HW.out.len
    rcases (HA.out.below HB1.out (Nat.le_refl _)).2.2 with h0 | ⟨p1, o1, rfl, g1⟩
    · omega
    have e1 := g1 qn hq20
    have hx2 := HW.out.small HQ.out
    obtain ⟨x, hx⟩ : ∃ x, ws.getD qn 0 = x := ⟨_, rfl⟩
    rw [hx] at e1 hx2
    have HX : Hid (ws.getD qn 0 = x) := hx
    obtain ⟨hx0, hx4⟩ := hx2
    clear g1 hx
    by_cases hz : x = 0
    · subst hz
      go_wp2
      go_ret2
      exact ⟨⟨0, false, rfl, keyM_none HX.out⟩, HB1.out⟩
    · have hz1 : (x == 0) = false := by simpa using hz
      have HZ : Hid (¬ x = 0) := hz
      clear hz
      go_wp2
      go_ret2
      exact ⟨⟨x - 1, true, by go_num, keyM_some HW.out HX.out HZ.out⟩, HB1.out⟩
set_option maxHeartbeats 2000000 in
set_option maxRecDepth 100000 in
theorem specFind_any (a : Option Addr) (n c : Nat) (ws : List Int) (v : Int) (w : World) (hA : IntAt w a n ws) (hc : n ≤ c) :
    Calls Tryd.prog 21 #[.slice a n c, .int .i64 v] w fun e w' => FindSays e (KeyM ws (placeN 2 v)) ∧ Below w.heap.size w w' := by
  have HA : Hid (IntAt w a n ws) := hA
  have HC : Hid (n ≤ c) := hc
  clear hA hc
  go_enter Tryd.func21, Tryd.ntmps21
  go_wp2_with (fail)
  refine (specOwnerAt_any v _).mono ?_
  rintro e w1 ⟨rfl, hw1⟩
  rw [hw1]
  clear hw1
  go_wp2_with (fail)
  refine (specKey_any a n c ws (placeN 2 v) _ HA.out HC.out (way_owner v)).mono ?_
  rintro e w2 ⟨⟨kk, ok, rfl, hk⟩, hb2⟩
  have HK : Hid (KeyM ws (placeN 2 v) kk ok) := hk
  have HB2 : Hid (Below w.heap.size w w2) := hb2
  clear hk hb2
  go_wp2
  go_ret2
  exact ⟨⟨kk, ok, rfl, HK.out⟩, HB2.out⟩
theorem in_state {ws : List Int} (h : ws.length = 20) : inS ws = ws.getD 13 0 := inS_yes h
set_option maxHeartbeats 2000000 in
set_option maxRecDepth 100000 in
theorem specFindVia_any (a : Option Addr) (n c : Nat) (ws : List Int) (v : Int) (w : World) (hA : IntAt w a n ws) (hc : n ≤ c) :
    Calls Tryd.prog 23 #[.slice a n c, .int .i64 v] w fun e w' => FindSays e (ViaM ws (placeN 5 v)) ∧ Below w.heap.size w w' := by
  have HA : Hid (IntAt w a n ws) := hA
  have HC : Hid (n ≤ c) := hc
  clear hA hc
  go_enter Tryd.func23, Tryd.ntmps23
  go_wp2_with (fail)
  refine (specViaAt_any v _).mono ?_
  rintro e w1 ⟨rfl, hw1⟩
  rw [hw1]
  clear hw1
  go_wp2_with (fail)
  refine (specKey_any a n c ws (placeN 5 v) _ HA.out HC.out (way_via v)).mono ?_
  rintro e w2 ⟨⟨kk, ok, rfl, hk⟩, hb2⟩
  have HK : Hid (KeyM ws (placeN 5 v) kk ok) := hk
  have HB2 : Hid (Below w.heap.size w w2) := hb2
  clear hk hb2
  cases ok with
  | false =>
    have HV : Hid (ViaM ws (placeN 5 v) 0 false) := by
      have hk := HK.out
      rcases hk with ⟨h, _⟩ | ⟨_, rfl, h⟩
      · cases h
      · by_cases h5 : inS ws = 5
        · exact .inl ⟨h5, HK.out⟩
        · exact .inr ⟨h5, rfl, rfl⟩
    go_wp2
    go_ret2
    exact ⟨⟨0, false, rfl, HV.out⟩, HB2.out⟩
  | true =>
    have hW : WholeM ws := by
      rcases HK.out with ⟨_, h, _⟩ | ⟨h, _⟩
      · exact h
      · cases h
    obtain rfl : n = 20 := HA.out.1.symm.trans hW.len
    have HS : Hid (inS ws = ws.getD 13 0) := in_state hW.len
    rcases (HA.out.below HB2.out (Nat.le_refl _)).2.2 with h0 | ⟨p1, o1, rfl, g1⟩
    · omega
    have e1 := g1 13 (by omega)
    obtain ⟨x, hx⟩ : ∃ x, ws.getD 13 0 = x := ⟨_, rfl⟩
    rw [hx] at e1 HS
    clear g1 hx hW
    go_wp2_with (fail)
    refine (specStateAt_any _).mono ?_
    rintro e w3 ⟨rfl, hw3⟩
    rw [hw3]
    clear hw3
    by_cases h5 : x = 5
    · subst h5
      have HV : Hid (ViaM ws (placeN 5 v) kk true) := .inl ⟨HS.out, HK.out⟩
      go_wp2
      go_ret2
      exact ⟨⟨kk, true, rfl, HV.out⟩, HB2.out⟩
    · have h5' : (x != 5) = true := by simpa using h5
      have HV : Hid (ViaM ws (placeN 5 v) 0 false) := .inr ⟨by rw [HS.out]; exact h5, rfl, rfl⟩
      clear h5
      go_wp2
      go_ret2
      exact ⟨⟨0, false, rfl, HV.out⟩, HB2.out⟩
end Go.Proofs.YtkifebhkgldefaaDoor
