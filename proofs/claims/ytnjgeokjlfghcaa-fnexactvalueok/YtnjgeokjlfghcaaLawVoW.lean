/- The law FnExactValueOk, walked from what the program's function is said to answer. -/
import Derived.Test.YtnjgeokjlfghcaaRows
import Derived.Test.YtnjgeokjlfghcaaValL
import Derived.Test.YtnjgeokjlfghcaaSpecVa
import Derived.Test.YtnjgeokjlfghcaaOpenVa
import Derived.OpenShut
import Derived.ChangeOld
import Derived.Below
import Derived.Lib.SmallJoins
import Derived.Deep.RegionHeld3
import Derived.Deep.Cut
namespace Go.Proofs.Ytnjgeokjlfghcaa
open Go.ChangeShapes Go.WideShapes Go.ChangeAt Go.RowKit Go.Joins

namespace fnExactValueOk
theorem own : ownKnob Try.prog.godebug = none := by kernel_rfl
theorem laidOut : laidOutB Try.prog = true := by kernel_rfl
set_option maxHeartbeats 4000000 in
set_option maxRecDepth 100000 in
theorem walk (k n : Int) (s : ByteArray) (w : World) (hs : s.size ≤ 9223372036854775807) (implC : ∀ (k n : Int) (s : ByteArray) (w : World), Calls Try.prog 9 #[VaV k n s] w fun e w' => e = .returned (.bool (decide (VaGood k n s))) ∧ Below w.heap.size w w') :
    Calls Try.prog 3 #[VaV k n s] w fun e w' => e = .returned (.bool true) ∧ Below w.heap.size w w' := by
  have HC : Hid (∀ (k n : Int) (s : ByteArray) (w : World), Calls Try.prog 9 #[VaV k n s] w fun e w' => e = .returned (.bool (decide (VaGood k n s))) ∧ Below w.heap.size w w') := implC
  obtain ⟨W, hW⟩ : ∃ W, w.alloc (.cells #[.int .i64 k, .int .i64 n, .string s] 23) = W := ⟨_, rfl⟩
  have B0 : Hid (Below w.heap.size w W) := by rw [← hW]; exact (Below.refl _ w).alloc (Nat.le_refl _) _
  have X0 : Hid (Box W w.heap.size #[.int .i64 k, .int .i64 n, .string s] 23) := by rw [← hW]; exact box_of w _ _
  have HW : Hid (w.alloc (.cells #[.int .i64 k, .int .i64 n, .string s] 23) = W) := hW
  have BX : Hid (∀ y, Below W.heap.size W y → y.cell? ⟨w.heap.size, 0, none⟩ = some (.int .i64 k) ∧ y.cell? ⟨w.heap.size, 1, none⟩ = some (.int .i64 n) ∧ y.cell? ⟨w.heap.size, 2, none⟩ = some (.string s)) := fun y hb => (X0.out.below hb X0.out.lt).triV
  clear hW implC
  obtain ⟨B, hB⟩ : ∃ B, decide (VaGood k n s) = B := ⟨_, rfl⟩
  have HB : Hid (decide (VaGood k n s) = B) := hB
  have nb : (B != B) = false := by simp
  clear hB
  go_enter Try.func3, Try.ntmps3
  go_upto_region 1 with (fail)
  rw [HW.out]
  obtain ⟨c0, c1, c2⟩ := BX.out _ (Below.refl _ _)
  go_wp2_with fail
  refine (szValue_any k n s 1048576 hs (by omega) (by omega) _).mono ?_
  rintro e w1 ⟨rfl, hb1⟩
  have HB1 : Hid (Below W.heap.size W w1) := hb1
  clear hb1 c0 c1 c2
  by_cases hl : (s.size : Int) ≤ 1048576
  rotate_left
  · have HL : Hid (leftV s 1048576 = -1) := if_neg hl
    rw [HL.out]
    go_wp2
    go_ret
    exact ⟨rfl, B0.out.trans (HB1.out.mono B0.out.size)⟩
  have HL : Hid (leftV s 1048576 = 1048576 - s.size) := if_pos hl
  rw [HL.out]
  have h2 : ¬ (1048576 - (s.size : Int) < 0) := by omega
  obtain ⟨c0, c1, c2⟩ := BX.out _ HB1.out
  go_wp2_with fail
  refine (toValue_any k n s _).mono ?_
  rintro e w2 ⟨rfl, hb2⟩
  have HB2 : Hid (Below W.heap.size W w2) := HB1.out.trans (hb2.mono HB1.out.size)
  clear hb2 c0 c1 c2
  go_wp2_with fail
  refine (specValueOk_any k n s _).mono ?_
  rintro e w3 ⟨rfl, hb3⟩
  rw [HB.out]
  have HB3 : Hid (Below W.heap.size W w3) := HB2.out.trans (hb3.mono HB2.out.size)
  clear hb3
  obtain ⟨c0, c1, c2⟩ := BX.out _ HB3.out
  go_wp2_with fail
  refine (toValue_any k n s _).mono ?_
  rintro e w4 ⟨rfl, hb4⟩
  have HB4 : Hid (Below W.heap.size W w4) := HB3.out.trans (hb4.mono HB3.out.size)
  clear hb4 c0 c1 c2
  go_wp2_with fail
  refine (HC.out k n s _).mono ?_
  rintro e w5 ⟨rfl, hb5⟩
  rw [HB.out]
  have HB5 : Hid (Below W.heap.size W w5) := HB4.out.trans (hb5.mono HB4.out.size)
  clear hb5
  go_wp2
  go_ret
  exact ⟨rfl, B0.out.trans (HB5.out.mono B0.out.size)⟩
/-- What the law asks of the program's function. -/
def Asked : Prop := ∀ (k n : Int) (s : ByteArray) (w : World), Calls Try.prog 9 #[VaV k n s] w fun e w' => e = .returned (.bool (decide (VaGood k n s))) ∧ Below w.heap.size w w'
set_option maxRecDepth 100000 in
theorem lifted (implC : Asked) (os : Os) (started : os.Started) (H : Type) (enc : TypeId × Value → H) :
    ReturnsInHanded {} Try.checked os 3 .any (Rows.fnExactValueOkSpec.pre6 enc Try.prog Try.f3 Rows.fnExactValueOkRow.domain false) (Rows.fnExactValueOkSpec.post enc Try.prog Try.f3 false true false false) := by
  refine returnsInHanded_of_change (C := Try.checked) own started (by kernel_rfl) Try.func3
    (ChangeSpec.witness6 (enc := enc) (C := Try.checked) false ⟨#[], #[.agg #[.int .i64 0, .int .i64 0, .string ⟨#[]⟩]], []⟩ 8 (by kernel_rfl) (by kernel_rfl) (by kernel_rfl) (by kernel_rfl)) ?_
  intro W base args ds gs before hval0 hW hcnd _
  have hval : ∀ (j : Nat) t v, Try.f3.params[j]? = some t → args[j]? = some v → Value.okWide Try.prog W .any base t v := hval0
  have hW' := hW
  obtain ⟨p, q, hA0, hV, rfl, hfz, hnd⟩ := hW
  have hA : DataW.TrodAll enc Try.prog W 0 (fun _ => true) true Try.f3.params.toList args.toList ds p := hA0
  rw [Try.params3] at hA hval
  obtain ⟨v0, d0, rfl, rfl, h0⟩ := trodAll_one hA
  obtain ⟨rfl, rfl⟩ := trodVars_none hV
  have k0 := h0
  have lt0 : ∀ x ∈ p, x.block < W.heap.size := by obtain ⟨m, hm⟩ := k0; exact DataW.trod_lt m _ _ _ hm
  obtain ⟨k, n, s, rfl, hs, _, _⟩ := open_va (hval 0 23 v0 rfl rfl) h0
  refine (walk k n s W hs implC).mono fun e W' ⟨he, bel⟩ => ?_
  subst he
  exact ⟨_, rfl, _, _, _, [], _, [], hW', trodAll_mk1 (shut_bool Try.underlying4 _), (trodAll_cons_mk (Below.trod laidOut (by kernel_rfl) (of_decide_eq_true (by kernel_rfl)) k0 bel lt0) trodAll_mk0), rfl, bel.frame _, fun h => by cases h⟩
theorem over (implC : Asked) : Rows.FnExactValueOkSaid :=
  OpenClaim.holds_of_wide 3 Try.f3 rfl rfl rfl rfl rfl rfl rfl ⟨rfl, rfl, rfl, rfl, rfl⟩ rfl rfl rfl rfl rfl (by kernel_rfl) Try.func3 (by kernel_rfl)
    (of_decide_eq_true (by kernel_rfl)) (by unfold Func.isWrapper; first | (rw [if_pos (by decide +kernel)]; kernel_rfl) | (rw [if_neg (by decide +kernel)]; exact ⟨rfl, rfl⟩))
    (fun os started H enc _ => lifted implC os started H enc)
end fnExactValueOk
end Go.Proofs.Ytnjgeokjlfghcaa
