/- impl.keyBy, Find, FindVia, walked at any list. -/
import Derived.Test.YtkifebhkgldefaaDoorSpecFi
import Derived.Test.YtkifebhkgldefaaDoorImplWh
import Derived.Deep.Cut
namespace Go.Proofs.YtkifebhkgldefaaDoor
open Go.ChangeShapes Go.WideShapes Go.ChangeAt Go.RowKit Go.Joins

set_option maxHeartbeats 2000000 in
set_option maxRecDepth 100000 in
theorem implKey_any (a : Option Addr) (n c : Nat) (ws : List Int) (q : Int) (w : World) (hA : IntAt w a n ws) (hc : n ≤ c) (hq : WayAt q) (hi : ∀ x ∈ ws, (Lit.int .i64 x).wf = true) (hN : Names w) :
    Calls Tryd.prog 37 #[.slice a n c, .int .i64 q] w fun e w' => FindSays e (KeyM ws q) ∧ Below w.heap.size w w' := by
  have HA : Hid (IntAt w a n ws) := hA
  have HC : Hid (n ≤ c) := hc
  have HN : Hid (Names w) := hN
  have HI : Hid (∀ x ∈ ws, (Lit.int .i64 x).wf = true) := hi
  clear hA hc hN hi
  rcases hq with rfl | hq
  · go_enter Tryd.func37, Tryd.ntmps37
    go_wp2
    go_ret2
    exact ⟨⟨0, false, rfl, keyM_neg⟩, Below.refl _ _⟩
  obtain ⟨qn, rfl⟩ : ∃ qn : Nat, q = (qn : Int) := ⟨q.toNat, by omega⟩
  have HQ : Hid (WayAt (qn : Int)) := .inr hq
  have hq20 : qn < 20 := by omega
  clear hq
  go_enter Tryd.func37, Tryd.ntmps37
  go_wp2_with (fail)
  refine (implWhole_any a n c ws w HA.out HC.out HI.out HN.out).mono ?_
  rintro e w1 ⟨⟨ok, rfl, hok⟩, hb1⟩
  have HB1 : Hid (Below w.heap.size w w1) := hb1
  have HOK : Hid (ok = true ↔ WholeM ws) := hok
  clear hb1 hok
  cases ok with
  | false =>
    have HNO : Hid (¬ WholeM ws) := fun h => by have := HOK.out.2 h; cases this
    go_wp2
    go_ret2
    exact ⟨⟨0, false, rfl, keyM_no HNO.out⟩, HB1.out⟩
  | true =>
    have HW : Hid (WholeM ws) := HOK.out.1 rfl
    obtain rfl : n = 20 := HA.out.1.symm.trans HW.out.len
    rcases (HA.out.below HB1.out (Nat.le_refl _)).2.2 with h0 | ⟨p1, o1, rfl, g1⟩
    · omega
    have e1 := g1 qn hq20
    have hx2 := HW.out.small HQ.out
    obtain ⟨x, hx⟩ : ∃ x, ws.getD qn 0 = x := ⟨_, rfl⟩
    rw [hx] at e1 hx2
    have HX : Hid (ws.getD qn 0 = x) := hx
    obtain ⟨hx0, hx4⟩ := hx2
    clear g1 hx
    by_cases hz : x = 0
    · subst hz
      go_wp2
      go_ret2
      exact ⟨⟨0, false, rfl, keyM_none HX.out⟩, HB1.out⟩
    · have hz1 : (x == 0) = false := by simpa using hz
      have HZ : Hid (¬ x = 0) := hz
      clear hz
      go_wp2
      go_ret2
      exact ⟨⟨x - 1, true, by go_num, keyM_some HW.out HX.out HZ.out⟩, HB1.out⟩
set_option maxHeartbeats 2000000 in
set_option maxRecDepth 100000 in
theorem implFind_any (a : Option Addr) (n c : Nat) (ws : List Int) (v : Int) (w : World) (hA : IntAt w a n ws) (hc : n ≤ c) (hi : ∀ x ∈ ws, (Lit.int .i64 x).wf = true) (hN : Names w) :
    Calls Tryd.prog 22 #[.slice a n c, .int .i64 v] w fun e w' => FindSays e (KeyM ws (placeN 2 v)) ∧ Below w.heap.size w w' := by
  have HA : Hid (IntAt w a n ws) := hA
  have HC : Hid (n ≤ c) := hc
  have HN : Hid (Names w) := hN
  have HI : Hid (∀ x ∈ ws, (Lit.int .i64 x).wf = true) := hi
  clear hA hc hN hi
  go_enter Tryd.func22, Tryd.ntmps22
  go_wp2_with (fail)
  refine (implOwnerAt_any v _ HN.out).mono ?_
  rintro e w1 ⟨rfl, hb1⟩
  have HB1 : Hid (Below w.heap.size w w1) := hb1
  clear hb1
  go_wp2_with (fail)
  refine (implKey_any a n c ws (placeN 2 v) _ (HA.out.below HB1.out (Nat.le_refl _)) HC.out (way_owner v) HI.out (HN.out.below HB1.out HN.out.lt)).mono ?_
  rintro e w2 ⟨⟨kk, ok, rfl, hk⟩, hb2⟩
  have HK : Hid (KeyM ws (placeN 2 v) kk ok) := hk
  have HB2 : Hid (Below w.heap.size w w2) := HB1.out.trans (hb2.mono HB1.out.size)
  clear hk hb2
  go_wp2
  go_ret2
  exact ⟨⟨kk, ok, rfl, HK.out⟩, HB2.out⟩
set_option maxHeartbeats 2000000 in
set_option maxRecDepth 100000 in
theorem implFindVia_any (a : Option Addr) (n c : Nat) (ws : List Int) (v : Int) (w : World) (hA : IntAt w a n ws) (hc : n ≤ c) (hi : ∀ x ∈ ws, (Lit.int .i64 x).wf = true) (hN : Names w) :
    Calls Tryd.prog 24 #[.slice a n c, .int .i64 v] w fun e w' => FindSays e (ViaM ws (placeN 5 v)) ∧ Below w.heap.size w w' := by
  have HA : Hid (IntAt w a n ws) := hA
  have HC : Hid (n ≤ c) := hc
  have HN : Hid (Names w) := hN
  have HI : Hid (∀ x ∈ ws, (Lit.int .i64 x).wf = true) := hi
  clear hA hc hN hi
  go_enter Tryd.func24, Tryd.ntmps24
  go_wp2_with (fail)
  refine (implRowsIn_any a n c ws w HA.out HC.out HN.out).mono ?_
  rintro e w0 ⟨hs1, hb0⟩
  obtain ⟨ra, rc, rfl, hrc, RA1⟩ := hs1.at
  have HB0 : Hid (Below w.heap.size w w0) := hb0
  obtain ⟨st, hst⟩ : ∃ st, inS ws = st := ⟨_, rfl⟩
  rw [hst]
  have HS : Hid (inS ws = st) := hst
  clear hs1 RA1 hb0 hst hrc
  obtain ⟨m, hm⟩ : ∃ m, (inX ws).length = m := ⟨_, rfl⟩
  rw [hm]
  have hfd : ∀ w : World, (Instr.field 24 (.agg #[.slice ra m rc, .int .i64 st]) 1).run Tryd.prog w = .ok (.int .i64 st) w := fun _ => by kernel_rfl
  clear hm
  by_cases h5 : st = 5
  · subst h5
    go_wp2_with (fail)
    refine (implViaAt_any v _ (HN.out.below HB0.out HN.out.lt)).mono ?_
    rintro e w1 ⟨rfl, hb1⟩
    have HB1 : Hid (Below w.heap.size w w1) := HB0.out.trans (hb1.mono HB0.out.size)
    clear hb1
    go_wp2_with (fail)
    refine (implKey_any a n c ws (placeN 5 v) _ (HA.out.below HB1.out (Nat.le_refl _)) HC.out (way_via v) HI.out (HN.out.below HB1.out HN.out.lt)).mono ?_
    rintro e w2 ⟨⟨kk, ok, rfl, hk⟩, hb2⟩
    have HV : Hid (ViaM ws (placeN 5 v) kk ok) := .inl ⟨HS.out, hk⟩
    have HB2 : Hid (Below w.heap.size w w2) := HB1.out.trans (hb2.mono HB1.out.size)
    clear hk hb2
    go_wp2
    go_ret2
    exact ⟨⟨kk, ok, rfl, HV.out⟩, HB2.out⟩
  · have h5' : (st != 5) = true := by simpa using h5
    have HV : Hid (ViaM ws (placeN 5 v) 0 false) := .inr ⟨by rw [HS.out]; exact h5, rfl, rfl⟩
    clear h5
    go_wp2
    go_ret2
    exact ⟨⟨0, false, rfl, HV.out⟩, HB0.out⟩
end Go.Proofs.YtkifebhkgldefaaDoor
