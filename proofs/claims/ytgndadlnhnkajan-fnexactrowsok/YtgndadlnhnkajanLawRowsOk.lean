/- RowsOk of the program answers as the specification's RowsOk at all rows, and leaves them as they were: the statement of the law FnExactRowsOk holds, with no condition. -/
import Derived.Test.YtgndadlnhnkajanRows
import Derived.Test.YtgndadlnhnkajanSpecRows
import Derived.Test.YtgndadlnhnkajanLawRows
import Derived.Test.YtgndadlnhnkajanOpenRows
import Derived.WalkKit
import Derived.ProofKit
import Derived.OpenShut
import Derived.ChangeOld
import Derived.Below
import Derived.Lib.SmallJoins
import Derived.Deep.RegionWith
namespace Go.Proofs.Ytgndadlnhnkajan.fnExactRowsOk
open Go.ChangeShapes Go.WideShapes Go.ChangeAt Go.RowKit Go.Joins

theorem own : ownKnob Try.prog.godebug = none := by kernel_rfl
theorem laidOut : laidOutB Try.prog = true := by kernel_rfl

set_option maxHeartbeats 2000000 in
set_option maxRecDepth 100000 in
theorem walk (a : Option Addr) (n c : Nat) (st : Int) (xs : List Int) (w : World) (hA : n ≤ 1099511627776 → IntAt w a n xs) (hm : n ≤ 9223372036854775807) (hi : ∀ x ∈ xs, (Lit.int .i64 x).wf = true) :
    Calls Try.prog 3 #[RowsV a n c st] w fun e w' => e = .returned (.bool true) ∧ Below w.heap.size w w' := by
  by_cases hn : n ≤ 1048576
  case neg =>
    go_enter Try.func3, Try.ntmps3
    go_wp2_with fail
    refine (szRows_big a n c st _ hn hm).mono ?_
    rintro e w1 ⟨rfl, hb1⟩
    go_wp2
    go_ret
    exact ⟨rfl, ((Below.refl _ w).alloc (Nat.le_refl _) _).trans (hb1.mono (by simp))⟩
  have hA0 : Hid (IntAt w a n xs) := hA (by omega)
  have HI : Hid (∀ x ∈ xs, (Lit.int .i64 x).wf = true) := hi
  have HL : Hid (xs.length = n) := hA0.out.1
  clear hA hi
  -- the box of the argument, in every later world
  have box : ∀ {w' : World}, Below (w.heap.size + 1) (w.alloc (.cells #[.slice a n c, .int .i64 st] 24)) w' →
      w'.cell? ⟨w.heap.size, 0, none⟩ = some (.slice a n c) ∧ w'.cell? ⟨w.heap.size, 1, none⟩ = some (.int .i64 st) ∧ Below w.heap.size w w' ∧ IntAt w' a n xs := fun {w'} hb => by
    have h1 : Below w.heap.size w w' := ((Below.refl _ w).alloc (Nat.le_refl _) _).trans (hb.mono (Nat.le_succ _))
    exact ⟨by rw [hb.cell (by simp)]; simp, by rw [hb.cell (by simp)]; simp, h1, hA0.out.below h1 (Nat.le_refl _)⟩
  have BOX : Hid (∀ {w' : World}, Below (w.heap.size + 1) (w.alloc (.cells #[.slice a n c, .int .i64 st] 24)) w' →
      w'.cell? ⟨w.heap.size, 0, none⟩ = some (.slice a n c) ∧ w'.cell? ⟨w.heap.size, 1, none⟩ = some (.int .i64 st) ∧ Below w.heap.size w w' ∧ IntAt w' a n xs) := box
  clear box
  go_enter Try.func3, Try.ntmps3
  go_wp2_with fail
  refine (szRows_small a n c st _ hn).mono ?_
  rintro e w1 ⟨⟨m, rfl, hm0⟩, hb1⟩
  simp only [World.size_alloc] at hb1
  have hs1 : w.heap.size + 1 ≤ w1.heap.size := by simpa using hb1.size
  obtain ⟨c0, c1, bw1, A1⟩ := BOX.out hb1
  have HA1 : Hid (IntAt w1 a n xs) := A1
  clear A1
  go_wp2_with fail
  refine (toRows_any a n c st xs _ HA1.out).mono ?_
  rintro e w2 ⟨rfl, own2, hb2⟩
  have hb02 := hb1.trans (hb2.mono hs1)
  clear hb1 hb2 c0 c1 bw1 HA1
  go_wp2_with fail
  refine (specRowsOk_any _ n n st xs _ (own_intAt own2 (by omega))).mono ?_
  rintro e w3 ⟨⟨ok1, rfl, hok1⟩, hb3⟩
  have HK1 : Hid (ok1 = true ↔ SpecOk xs n st) := hok1
  have hs2 : w.heap.size + 1 ≤ w2.heap.size := by simpa using hb02.size
  have hb03 := hb02.trans (hb3.mono hs2)
  have hs3 : w.heap.size + 1 ≤ w3.heap.size := by simpa using hb03.size
  obtain ⟨c0, c1, bw3, A3⟩ := BOX.out hb03
  have HA3 : Hid (IntAt w3 a n xs) := A3
  clear hok1 hb3 hb02 own2 A3 hs1 hs2
  go_wp2_with fail
  refine (toRows_any a n c st xs _ HA3.out).mono ?_
  rintro e w4 ⟨rfl, own4, hb4⟩
  have hb04 := hb03.trans (hb4.mono hs3)
  have hs4 : w.heap.size + 1 ≤ w4.heap.size := by simpa using hb04.size
  clear hb4 hb03 c0 c1 bw3 HA3
  go_wp2_with fail
  refine (implRowsOk_any _ n st xs _ ((own_intAt own4 (by omega)).below ((Below.refl _ w4).alloc (Nat.le_refl _) _) (Nat.le_refl _)) HI.out).mono ?_
  rintro e w6 ⟨⟨ok2, rfl, hok2⟩, hb6⟩
  obtain rfl : ok2 = ok1 := by
    have h := hok2.trans ((ok_iff HL.out).symm.trans HK1.out.symm)
    cases ok1 <;> cases ok2 <;> simp_all
  simp only [World.size_alloc] at hb6
  have d0 : w6.cell? ⟨w4.heap.size, 0, none⟩ = some (.slice (some ⟨w3.heap.size + 3, 0, none⟩) n n) := by rw [hb6.cell (by simp)]; simp
  have d1 : w6.cell? ⟨w4.heap.size, 1, none⟩ = some (.int .i64 st) := by rw [hb6.cell (by simp)]; simp
  have hs6 : w4.heap.size + 1 ≤ w6.heap.size := by simpa using hb6.size
  have hb46 : Below w4.heap.size w4 w6 := ((Below.refl _ w4).alloc (Nat.le_refl _) _).trans (hb6.mono (Nat.le_succ _))
  have hb06 := hb04.trans (hb46.mono hs4)
  have own6 := owns_below own4 hb46 (Nat.le_refl _)
  have HO6 : Hid (w6.ownsRow (w3.heap.size + 3) 3 1 (.slice (some ⟨w3.heap.size + 3, 0, none⟩) n n) n (xs.map I)) := own6
  obtain ⟨c0, c1, bw6, A6⟩ := BOX.out hb06
  have HA6 : Hid (IntAt w6 a n xs) := A6
  clear hok2 HK1 hb6 hb46 hb04 own4 own6 A6 hb06
  go_wp2_with fail
  go_region_with (first
    | (go_at_call 7; refine (toRows_any a n c st xs _ (HA6.out.below (Below.refl _ w6).drew (Nat.le_refl _))).mono ?_; rintro e w7 ⟨rfl, own7, hb7⟩
       have d70 : w7.cell? ⟨w4.heap.size, 0, none⟩ = some (.slice (some ⟨w3.heap.size + 3, 0, none⟩) n n) := (hb7.cell (show w4.heap.size < w6.heap.size by omega)).trans d0
       have d71 : w7.cell? ⟨w4.heap.size, 1, none⟩ = some (.int .i64 st) := (hb7.cell (show w4.heap.size < w6.heap.size by omega)).trans d1)
    | (go_at_call 9; refine (eqRows_same _ _ n n n n st xs _ (own_intAt (owns_below HO6.out ((Below.refl w6.heap.size w6).drew.trans hb7) (Nat.le_refl _)) (by omega)) (own_intAt own7 (by omega))).mono ?_; rintro e w8 ⟨rfl, hb8⟩))
  all_goals
    have hall : Below w.heap.size w w8 := (bw6.drew.trans (hb7.mono (show w.heap.size ≤ w6.heap.size by omega))).trans (hb8.mono (by have := hb7.size; simp only [World.drew] at this; omega))
    go_wp2
    go_ret
    exact ⟨rfl, hall⟩

set_option maxRecDepth 100000 in
theorem lifted (os : Os) (started : os.Started) (H : Type) (enc : TypeId × Value → H) :
    ReturnsInHanded {} Try.checked os 3 .any (Rows.fnExactRowsOkSpec.pre6 enc Try.prog Try.f3 Rows.fnExactRowsOkRow.domain false) (Rows.fnExactRowsOkSpec.post enc Try.prog Try.f3 false true false false) := by
  refine returnsInHanded_of_change (C := Try.checked) own started (by kernel_rfl) Try.func3
    (ChangeSpec.witness6 (enc := enc) (C := Try.checked) false ⟨#[], #[.agg #[.slice none 0 0, .int .i64 0]], []⟩ 8 (by kernel_rfl) (by kernel_rfl) (by kernel_rfl) (by kernel_rfl)) ?_
  intro W base args ds gs before hval0 hW hcnd _
  have hval : ∀ (j : Nat) t v, Try.f3.params[j]? = some t → args[j]? = some v → Value.okWide Try.prog W .any base t v := hval0
  have hW' := hW
  obtain ⟨p, q, hA0, hV, rfl, hfz, hnd⟩ := hW
  have hA : DataW.TrodAll enc Try.prog W 0 (fun _ => true) true Try.f3.params.toList args.toList ds p := hA0
  rw [Try.params3] at hA hval
  obtain ⟨v0, d0, rfl, rfl, h0⟩ := trodAll_one hA
  obtain ⟨rfl, rfl⟩ := trodVars_none hV
  have k0 := h0
  have lt0 : ∀ x ∈ p, x.block < W.heap.size := by obtain ⟨m, hm⟩ := k0; exact DataW.trod_lt m _ _ _ hm
  obtain ⟨a0, n, c, st, xs, rfl, hm, hi, hA1⟩ := open_rows (hval 0 24 v0 rfl rfl) h0
  refine (walk a0 n c st xs W hA1 hm hi).mono fun e W' ⟨he, bel⟩ => ?_
  subst he
  exact ⟨_, rfl, _, _, _, [], _, [], hW', trodAll_mk1 (shut_bool Try.underlying4 _), (trodAll_cons_mk (Below.trod laidOut (by kernel_rfl) (of_decide_eq_true (by kernel_rfl)) k0 bel lt0) trodAll_mk0), rfl, bel.frame _, fun h => by cases h⟩

theorem over : Rows.FnExactRowsOkSaid :=
  OpenClaim.holds_of_wide 3 Try.f3 rfl rfl rfl rfl rfl rfl rfl ⟨rfl, rfl, rfl, rfl, rfl⟩ rfl rfl rfl rfl rfl (by kernel_rfl) Try.func3 (by kernel_rfl)
    (of_decide_eq_true (by kernel_rfl)) (by unfold Func.isWrapper; first | (rw [if_pos (by decide +kernel)]; kernel_rfl) | (rw [if_neg (by decide +kernel)]; exact ⟨rfl, rfl⟩))
    (fun os started H enc _ => lifted os started H enc)
end Go.Proofs.Ytgndadlnhnkajan.fnExactRowsOk
namespace Go.Proofs.Ytgndadlnhnkajan
theorem fnExactRowsOk_holds : Rows.FnExactRowsOkSaid := fnExactRowsOk.over
#print axioms fnExactRowsOk_holds
end Go.Proofs.Ytgndadlnhnkajan
