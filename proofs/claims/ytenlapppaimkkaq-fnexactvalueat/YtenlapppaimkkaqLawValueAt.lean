/- The statement of the law FnExactValueAt holds: of all words, Descs and places the program's ValueAt answers as the specification's does. -/
import Derived.Test.YtenlapppaimkkaqRows
import Derived.Test.YtenlapppaimkkaqOpenW
import Derived.Test.YtenlapppaimkkaqDescs2
import Derived.Test.YtenlapppaimkkaqSpecVal
import Derived.Test.YtenlapppaimkkaqImplVal2
import Derived.OpenShut
import Derived.ChangeOld
namespace Go.Proofs.Ytenlapppaimkkaq
open Go.ChangeShapes Go.WideShapes Go.ChangeAt Go.RowKit Go.Joins

namespace fnExactValueAt
theorem own : ownKnob Try.prog.godebug = none := by kernel_rfl
theorem laidOut : laidOutB Try.prog = true := by kernel_rfl
set_option maxHeartbeats 4000000 in
set_option maxRecDepth 100000 in
theorem walk (a : Option Addr) (m c : Nat) (fs : List Int) (da : Option Addr) (dn dc : Nat) (ds : List DK) (at_ : Int) (w : World) (hm : m ≤ 9223372036854775807) (hA : m ≤ 1048576 → TripAt w a m fs) (hdm : dn ≤ 9223372036854775807) (hD : dn ≤ 1048576 → DescPre w da dn ds) :
    Calls Try.prog 3 #[.slice a m c, .slice da dn dc, .int .i64 at_] w fun e w' => e = .returned (.bool true) ∧ Below w.heap.size w w' := by
  by_cases hfit : (m : Int) ≤ 1048576
  case neg =>
    clear hA hD
    go_enter Try.func3, Try.ntmps3
    go_wp2_with fail
    refine (szWordS_big a m c 1048576 _ (by omega) (by omega) (by omega) hm).mono ?_
    rintro e w1 ⟨rfl, rfl⟩
    go_wp2
    go_ret
    exact ⟨rfl, Below.refl _ _⟩
  have HA : Hid (TripAt w a m fs) := hA (by omega)
  have HD : Hid (dn ≤ 1048576 → DescPre w da dn ds) := hD
  obtain ⟨V, hV⟩ : ∃ V, valM fs m ds at_ = V := ⟨_, rfl⟩
  have HV : Hid (valM fs m ds at_ = V) := hV
  clear hA hD hV
  have h0 : ¬ (1048576 - (m : Int) < 0) := by omega
  go_enter Try.func3, Try.ntmps3
  go_wp2_with fail
  refine (szWordS_fits a m c 1048576 _ (by omega) (by omega) hfit).mono ?_
  rintro e w0 ⟨rfl, rfl⟩
  go_wp2_with fail
  refine (szDescS_any da dn dc ds (1048576 - m) _ HD.out hdm (by omega) (by omega)).mono ?_
  rintro e w1 ⟨hb1, rfl | ⟨r, rfl, hr0, hr1, _, hAt, hsz⟩⟩
  · go_wp2
    go_ret
    exact ⟨rfl, hb1⟩
  have hr2 : ¬ r < 0 := by omega
  have HT : Hid (DescAt w0 da dn ds) := hAt
  have HS : Hid (∀ i, i < dn → (dk ds i).en ≤ 1048576 ∧ (dk ds i).rn ≤ 1048576) := hsz
  have hdn : dn ≤ 1048576 := hAt.2.1
  have HDL : Hid (ds.length = dn) := hAt.1
  have HB1 : Hid (Below w0.heap.size w0 w1) := hb1
  clear hAt hsz HD hb1
  go_wp2_with fail
  refine (toWordS_any a m c fs _ (HA.out.below HB1.out (Nat.le_refl _))).mono ?_
  rintro e w2 ⟨rfl, own2, hb2⟩
  have O2 : Hid _ := own2
  have HB2 : Hid (Below w0.heap.size w0 w2) := HB1.out.trans (hb2.mono HB1.out.size)
  clear own2 hb2
  go_wp2_with fail
  refine (toDescS_any da dn dc ds _ (HT.out.below HB2.out (Nat.le_refl _))).mono ?_
  rintro e w3 ⟨rfl, own3, hb3⟩
  have D3 : Hid (DescAt w3 (some ⟨w2.heap.size, 0, none⟩) dn ds) := own3.at HDL.out hdn HS.out
  have T3 : Hid (TripAt w3 (some ⟨w1.heap.size, 0, none⟩) m fs) := (own_tripAt O2.out (by omega)).below hb3 (Nat.le_refl _)
  have HB3 : Hid (Below w0.heap.size w0 w3) := HB2.out.trans (hb3.mono HB2.out.size)
  clear own3 hb3 O2
  go_wp2_with fail
  refine (specValueAt_any _ m m fs _ dn dn ds at_ _ T3.out D3.out).mono ?_
  rintro e w4 ⟨rfl, hb4⟩
  rw [HV.out]
  have HB4 : Hid (Below w0.heap.size w0 w4) := HB3.out.trans (hb4.mono HB3.out.size)
  clear hb4 D3 T3
  go_wp2_with fail
  refine (toWordS_any a m c fs _ (HA.out.below HB4.out (Nat.le_refl _))).mono ?_
  rintro e w5 ⟨rfl, own5, hb5⟩
  have O5 : Hid _ := own5
  have HB5 : Hid (Below w0.heap.size w0 w5) := HB4.out.trans (hb5.mono HB4.out.size)
  clear own5 hb5
  go_wp2_with fail
  refine (toDescS_any da dn dc ds _ (HT.out.below HB5.out (Nat.le_refl _))).mono ?_
  rintro e w6 ⟨rfl, own6, hb6⟩
  have D6 : Hid (DescAt w6 (some ⟨w5.heap.size, 0, none⟩) dn ds) := own6.at HDL.out hdn HS.out
  have T6 : Hid (TripAt w6 (some ⟨w4.heap.size, 0, none⟩) m fs) := (own_tripAt O5.out (by omega)).below hb6 (Nat.le_refl _)
  have HB6 : Hid (Below w0.heap.size w0 w6) := HB5.out.trans (hb6.mono HB5.out.size)
  clear own6 hb6 O5
  go_wp2_with fail
  refine (implValueAt_any _ m m fs _ dn dn ds at_ _ T6.out D6.out).mono ?_
  rintro e w7 ⟨rfl, hb7⟩
  rw [HV.out]
  have D7 : Hid (DescAt w7 (some ⟨w5.heap.size, 0, none⟩) dn ds) := D6.out.below hb7 (Nat.le_refl _)
  have T7 : Hid (TripAt w7 (some ⟨w4.heap.size, 0, none⟩) m fs) := T6.out.below hb7 (Nat.le_refl _)
  have HB7 : Hid (Below w0.heap.size w0 w7) := HB6.out.trans (hb7.mono HB6.out.size)
  clear hb7 D6 T6
  go_wp2_with fail
  refine (toWordS_any a m c fs _ (HA.out.below HB7.out (Nat.le_refl _))).mono ?_
  rintro e w8 ⟨rfl, own8, hb8⟩
  have T8 : Hid (TripAt w8 (some ⟨w7.heap.size, 0, none⟩) m fs) := own_tripAt own8 (by omega)
  have T8' : Hid (TripAt w8 (some ⟨w4.heap.size, 0, none⟩) m fs) := T7.out.below hb8 (Nat.le_refl _)
  have D8 : Hid (DescAt w8 (some ⟨w5.heap.size, 0, none⟩) dn ds) := D7.out.below hb8 (Nat.le_refl _)
  have HB8 : Hid (Below w0.heap.size w0 w8) := HB7.out.trans (hb8.mono HB7.out.size)
  clear own8 hb8 D7 T7
  go_wp2_with fail
  refine (eqWordS_any _ _ m m m m fs fs _ T8'.out T8.out).mono ?_
  rintro e w9 ⟨rfl, hb9⟩
  rw [show decide (fs = fs) = true from decide_eq_true rfl]
  have D9 : Hid (DescAt w9 (some ⟨w5.heap.size, 0, none⟩) dn ds) := D8.out.below hb9 (Nat.le_refl _)
  have HB9 : Hid (Below w0.heap.size w0 w9) := HB8.out.trans (hb9.mono HB8.out.size)
  clear hb9 D8 T8 T8'
  go_wp2_with fail
  refine (toDescS_any da dn dc ds _ (HT.out.below HB9.out (Nat.le_refl _))).mono ?_
  rintro e w10 ⟨rfl, own10, hb10⟩
  have D10 : Hid (DescAt w10 (some ⟨w9.heap.size, 0, none⟩) dn ds) := own10.at HDL.out hdn HS.out
  have D10' : Hid (DescAt w10 (some ⟨w5.heap.size, 0, none⟩) dn ds) := D9.out.below hb10 (Nat.le_refl _)
  have HB10 : Hid (Below w0.heap.size w0 w10) := HB9.out.trans (hb10.mono HB9.out.size)
  clear own10 hb10 D9
  go_wp2_with fail
  refine (eqDescS_same _ _ dn dn dn ds _ D10'.out D10.out).mono ?_
  rintro e w11 ⟨rfl, hb11⟩
  have HB11 : Hid (Below w0.heap.size w0 w11) := HB10.out.trans (hb11.mono HB10.out.size)
  clear hb11
  go_wp2
  go_ret
  exact ⟨rfl, HB11.out⟩

set_option maxRecDepth 100000 in
theorem lifted (os : Os) (started : os.Started) (H : Type) (enc : TypeId × Value → H) :
    ReturnsInHanded {} Try.checked os 3 .any (Rows.fnExactValueAtSpec.pre6 enc Try.prog Try.f3 Rows.fnExactValueAtRow.domain false) (Rows.fnExactValueAtSpec.post enc Try.prog Try.f3 false true false false) := by
  refine returnsInHanded_of_change (C := Try.checked) own started (by kernel_rfl) Try.func3
    (ChangeSpec.witness6 (enc := enc) (C := Try.checked) false ⟨#[], #[.slice none 0 0, .slice none 0 0, .int .i64 0], []⟩ 8 (by kernel_rfl) (by kernel_rfl) (by kernel_rfl) (by kernel_rfl)) ?_
  intro W base args ds gs before hval0 hW hcnd _
  have hval : ∀ (j : Nat) t v, Try.f3.params[j]? = some t → args[j]? = some v → Value.okWide Try.prog W .any base t v := hval0
  have hW' := hW
  obtain ⟨p, q, hA0, hV, rfl, hfz, hnd⟩ := hW
  have hA : DataW.TrodAll enc Try.prog W 0 (fun _ => true) true Try.f3.params.toList args.toList ds p := hA0
  rw [Try.params3] at hA hval
  obtain ⟨v0, v1, v2, d0, d1, d2, p0, p1, p2, rfl, rfl, rfl, h0, h1, h2⟩ := trodAll_three hA
  obtain ⟨rfl, rfl⟩ := trodVars_none hV
  have k0 := h0
  have k1 := h1
  have k2 := h2
  have lt0 : ∀ x ∈ p0, x.block < W.heap.size := by obtain ⟨m, hm⟩ := k0; exact DataW.trod_lt m _ _ _ hm
  have lt1 : ∀ x ∈ p1, x.block < W.heap.size := by obtain ⟨m, hm⟩ := k1; exact DataW.trod_lt m _ _ _ hm
  have lt2 : ∀ x ∈ p2, x.block < W.heap.size := by obtain ⟨m, hm⟩ := k2; exact DataW.trod_lt m _ _ _ hm
  obtain ⟨a, m, c, fs, rfl, hm, hT⟩ := open_words (hval 0 22 v0 rfl rfl) h0
  obtain ⟨da, dn, dc, dsl, rfl, hdm, hD⟩ := open_descs_v (hval 1 23 v1 rfl rfl) h1
  obtain ⟨at_, rfl⟩ := okWide_int Try.underlying3 (hval 2 3 v2 rfl rfl)
  refine (walk a m c fs da dn dc dsl at_ W hm hT hdm hD).mono fun e W' ⟨he, bel⟩ => ?_
  subst he
  exact ⟨_, rfl, _, _, _, [], _, [], hW', trodAll_mk1 (shut_bool Try.underlying4 _), (trodAll_cons_mk (Below.trod laidOut (by kernel_rfl) (of_decide_eq_true (by kernel_rfl)) k0 bel lt0) (trodAll_cons_mk (Below.trod laidOut (by kernel_rfl) (of_decide_eq_true (by kernel_rfl)) k1 bel lt1) (trodAll_cons_mk (Below.trod laidOut (by kernel_rfl) (of_decide_eq_true (by kernel_rfl)) k2 bel lt2) trodAll_mk0))), rfl, bel.frame _, fun h => by cases h⟩
end fnExactValueAt
theorem fnExactValueAt_holds : Rows.FnExactValueAtSaid :=
  OpenClaim.holds_of_wide 3 Try.f3 rfl rfl rfl rfl rfl rfl rfl ⟨rfl, rfl, rfl, rfl, rfl⟩ rfl rfl rfl rfl rfl (by kernel_rfl) Try.func3 (by kernel_rfl)
    (of_decide_eq_true (by kernel_rfl)) (by unfold Func.isWrapper; first | (rw [if_pos (by decide +kernel)]; kernel_rfl) | (rw [if_neg (by decide +kernel)]; exact ⟨rfl, rfl⟩))
    (fun os started H enc _ => fnExactValueAt.lifted os started H enc)
#print axioms fnExactValueAt_holds
end Go.Proofs.Ytenlapppaimkkaq
