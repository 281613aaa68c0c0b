/- The statement of the law FnExactMeaning holds: of all words and Descs the program's Meaning answers as the specification's does; its answer is its own memory. -/
import Derived.Test.YtenlapppaimkkaqRows
import Derived.Test.YtenlapppaimkkaqOpenW
import Derived.Test.YtenlapppaimkkaqDescs2
import Derived.Test.YtenlapppaimkkaqSpecMean
import Derived.Test.YtenlapppaimkkaqMarks6
import Derived.Test.YtenlapppaimkkaqMarkN
namespace Go.Proofs.Ytenlapppaimkkaq
open Go.ChangeShapes Go.WideShapes Go.ChangeAt Go.RowKit Go.Joins

namespace fnExactMeaning
theorem own : ownKnob Try.prog.godebug = none := by kernel_rfl
theorem laidOut : laidOutB Try.prog = true := by kernel_rfl
set_option maxHeartbeats 8000000 in
set_option maxRecDepth 100000 in
theorem walk (a : Option Addr) (m c : Nat) (fs : List Int) (da : Option Addr) (dn dc : Nat) (ds : List DK) (w : World) (hm : m ≤ 9223372036854775807) (hA : m ≤ 1048576 → TripAt w a m fs) (hdm : dn ≤ 9223372036854775807) (hD : dn ≤ 1048576 → DescPre w da dn ds) :
    Calls Try.prog 4 #[.slice a m c, .slice da dn dc] w fun e w' => e = .returned (.bool true) ∧ Below w.heap.size w w' := by
  by_cases hfit : (m : Int) ≤ 1048576
  case neg =>
    clear hA hD
    go_enter Try.func4, Try.ntmps4
    go_wp2_with fail
    refine (szWordS_big a m c 1048576 _ (by omega) (by omega) (by omega) hm).mono ?_
    rintro e w1 ⟨rfl, rfl⟩
    go_wp2
    go_ret
    exact ⟨rfl, Below.refl _ _⟩
  have HA : Hid (TripAt w a m fs) := hA (by omega)
  have HD : Hid (dn ≤ 1048576 → DescPre w da dn ds) := hD
  obtain ⟨M, hM⟩ : ∃ M, meanM fs m ds = M := ⟨_, rfl⟩
  have HM : Hid (meanM fs m ds = M) := hM
  have HML : Hid (M.length = m) := by rw [← hM]; exact meanM_len fs m ds
  clear hA hD hM
  have h0 : ¬ (1048576 - (m : Int) < 0) := by omega
  go_enter Try.func4, Try.ntmps4
  go_wp2_with fail
  refine (szWordS_fits a m c 1048576 _ (by omega) (by omega) hfit).mono ?_
  rintro e w0 ⟨rfl, rfl⟩
  go_wp2_with fail
  refine (szDescS_any da dn dc ds (1048576 - m) _ HD.out hdm (by omega) (by omega)).mono ?_
  rintro e w1 ⟨hb1, rfl | ⟨r, rfl, hr0, hr1, _, hAt, hsz⟩⟩
  · go_wp2
    go_ret
    exact ⟨rfl, hb1⟩
  have hr2 : ¬ r < 0 := by omega
  have HT : Hid (DescAt w0 da dn ds) := hAt
  have HS : Hid (∀ i, i < dn → (dk ds i).en ≤ 1048576 ∧ (dk ds i).rn ≤ 1048576) := hsz
  have hdn : dn ≤ 1048576 := hAt.2.1
  have HDL : Hid (ds.length = dn) := hAt.1
  have HB1 : Hid (Below w0.heap.size w0 w1) := hb1
  clear hAt hsz HD hb1
  go_wp2_with fail
  refine (toWordS_any a m c fs _ (HA.out.below HB1.out (Nat.le_refl _))).mono ?_
  rintro e w2 ⟨rfl, own2, hb2⟩
  have O2 : Hid _ := own2
  have HB2 : Hid (Below w0.heap.size w0 w2) := HB1.out.trans (hb2.mono HB1.out.size)
  clear own2 hb2
  go_wp2_with fail
  refine (toDescS_any da dn dc ds _ (HT.out.below HB2.out (Nat.le_refl _))).mono ?_
  rintro e w3 ⟨rfl, own3, hb3⟩
  have D3 : Hid (DescAt w3 (some ⟨w2.heap.size, 0, none⟩) dn ds) := own3.at HDL.out hdn HS.out
  have T3 : Hid (TripAt w3 (some ⟨w1.heap.size, 0, none⟩) m fs) := (own_tripAt O2.out (by omega)).below hb3 (Nat.le_refl _)
  have HB3 : Hid (Below w0.heap.size w0 w3) := HB2.out.trans (hb3.mono HB2.out.size)
  clear own3 hb3 O2
  go_wp2_with fail
  refine (specMeaning_any _ m m fs _ dn dn ds _ T3.out D3.out).mono ?_
  rintro e w4 ⟨v0, rfl, own4, hb4⟩
  rw [HM.out] at own4
  obtain ⟨va, vc, rfl, hv4⟩ := own_at own4 (by omega)
  have V4 : Hid (IntAt w4 va m M) := hv4
  have HB4 : Hid (Below w0.heap.size w0 w4) := HB3.out.trans (hb4.mono HB3.out.size)
  clear hb4 own4 hv4 D3 T3
  go_wp2_with fail
  refine (toWordS_any a m c fs _ (HA.out.below HB4.out (Nat.le_refl _))).mono ?_
  rintro e w5 ⟨rfl, own5, hb5⟩
  have O5 : Hid (w5.ownsRow w4.heap.size 58 3 (SL w4.heap.size m) m (fs.map I)) := own5
  have V5 : Hid (Below w4.heap.size w4 w5) := hb5
  have HB5 : Hid (Below w0.heap.size w0 w5) := HB4.out.trans (hb5.mono HB4.out.size)
  have hx0 : w4.heap.size < w5.heap.size := (own5.lt w4.heap.size rfl).2
  clear own5 hb5
  go_wp2_with fail
  refine (toDescS_any da dn dc ds _ (HT.out.below HB5.out (Nat.le_refl _))).mono ?_
  rintro e w6 ⟨rfl, own6, hb6⟩
  have D6 : Hid (DescTo w6 w5.heap.size dn ds w6.heap.size) := own6.to
  have O6 : Hid (w6.ownsRow w4.heap.size 58 3 (SL w4.heap.size m) m (fs.map I)) := owns_below O5.out hb6 (Nat.le_refl _)
  have V6 : Hid (Below w4.heap.size w4 w6) := V5.out.trans (hb6.mono V5.out.size)
  have HB6 : Hid (Below w0.heap.size w0 w6) := HB5.out.trans (hb6.mono HB5.out.size)
  have hx1 : w5.heap.size < w6.heap.size := by
    obtain ⟨vs, _, _, h, _⟩ := own6
    exact (h.lt w5.heap.size rfl).2
  clear own6 hb6 O5
  go_wp2_with fail
  refine (implMeaning_any _ m m fs _ dn dn ds _ (own_tripAt O6.out (by omega)) (D6.out.at HDL.out hdn HS.out)).mono ?_
  rintro e w7 ⟨rfl, own7, hb7⟩
  rw [HM.out] at own7
  have G7 : Hid (w7.ownsRow w6.heap.size 3 1 (SL w6.heap.size m) m (M.map I)) := own7
  have D7 : Hid (DescTo w7 w5.heap.size dn ds w6.heap.size) := D6.out.below hb7 (Nat.le_refl _)
  have O7 : Hid (w7.ownsRow w4.heap.size 58 3 (SL w4.heap.size m) m (fs.map I)) := owns_below O6.out hb7 (Nat.le_refl _)
  have V7 : Hid (Below w4.heap.size w4 w7) := V6.out.trans (hb7.mono V6.out.size)
  have HB7 : Hid (Below w0.heap.size w0 w7) := HB6.out.trans (hb7.mono HB6.out.size)
  clear own7 hb7 D6 O6
  go_wp2_with fail
  refine (eqIntS_any _ _ m m m vc M M _ (own_intAt G7.out (by omega)) (V4.out.below V7.out (Nat.le_refl _))).mono ?_
  rintro e w8 ⟨rfl, q8, hq8⟩
  rw [show decide (M = M) = true from decide_eq_true rfl]
  have hb8 : Below w7.heap.size w7 w8 := by rw [hq8]; exact below_drewN6 (Below.refl _ _) q8
  have G8 : Hid (w8.ownsRow w6.heap.size 3 1 (SL w6.heap.size m) m (M.map I)) := owns_below G7.out hb8 (Nat.le_refl _)
  have D8 : Hid (DescTo w8 w5.heap.size dn ds w6.heap.size) := D7.out.below hb8 (Nat.le_refl _)
  have O8 : Hid (w8.ownsRow w4.heap.size 58 3 (SL w4.heap.size m) m (fs.map I)) := owns_below O7.out hb8 (Nat.le_refl _)
  have V8 : Hid (Below w4.heap.size w4 w8) := V7.out.trans (hb8.mono V7.out.size)
  have HB8 : Hid (Below w0.heap.size w0 w8) := HB7.out.trans (hb8.mono HB7.out.size)
  clear hb8 hq8 G7 D7 O7
  go_wp2_with fail
  refine (toWordS_any a m c fs _ (HA.out.below HB8.out (Nat.le_refl _))).mono ?_
  rintro e w9 ⟨rfl, own9, hb9⟩
  have T9 : Hid (TripAt w9 (some ⟨w8.heap.size, 0, none⟩) m fs) := own_tripAt own9 (by omega)
  have G9 : Hid (w9.ownsRow w6.heap.size 3 1 (SL w6.heap.size m) m (M.map I)) := owns_below G8.out hb9 (Nat.le_refl _)
  have D9 : Hid (DescTo w9 w5.heap.size dn ds w6.heap.size) := D8.out.below hb9 (Nat.le_refl _)
  have O9 : Hid (w9.ownsRow w4.heap.size 58 3 (SL w4.heap.size m) m (fs.map I)) := owns_below O8.out hb9 (Nat.le_refl _)
  have V9 : Hid (Below w4.heap.size w4 w9) := V8.out.trans (hb9.mono V8.out.size)
  have HB9 : Hid (Below w0.heap.size w0 w9) := HB8.out.trans (hb9.mono HB8.out.size)
  clear own9 hb9 G8 D8 O8
  go_wp2_with fail
  refine (eqWordS_any _ _ m m m m fs fs _ (own_tripAt O9.out (by omega)) T9.out).mono ?_
  rintro e w10 ⟨rfl, hb10⟩
  rw [show decide (fs = fs) = true from decide_eq_true rfl]
  have G10 : Hid (w10.ownsRow w6.heap.size 3 1 (SL w6.heap.size m) m (M.map I)) := owns_below G9.out hb10 (Nat.le_refl _)
  have D10 : Hid (DescTo w10 w5.heap.size dn ds w6.heap.size) := D9.out.below hb10 (Nat.le_refl _)
  have O10 : Hid (w10.ownsRow w4.heap.size 58 3 (SL w4.heap.size m) m (fs.map I)) := owns_below O9.out hb10 (Nat.le_refl _)
  have V10 : Hid (Below w4.heap.size w4 w10) := V9.out.trans (hb10.mono V9.out.size)
  have HB10 : Hid (Below w0.heap.size w0 w10) := HB9.out.trans (hb10.mono HB9.out.size)
  clear hb10 G9 D9 O9 T9
  go_wp2_with fail
  refine (toDescS_any da dn dc ds _ (HT.out.below HB10.out (Nat.le_refl _))).mono ?_
  rintro e w11 ⟨rfl, own11, hb11⟩
  have E11 : Hid (DescAt w11 (some ⟨w10.heap.size, 0, none⟩) dn ds) := own11.at HDL.out hdn HS.out
  have G11 : Hid (w11.ownsRow w6.heap.size 3 1 (SL w6.heap.size m) m (M.map I)) := owns_below G10.out hb11 (Nat.le_refl _)
  have D11 : Hid (DescTo w11 w5.heap.size dn ds w6.heap.size) := D10.out.below hb11 (Nat.le_refl _)
  have O11 : Hid (w11.ownsRow w4.heap.size 58 3 (SL w4.heap.size m) m (fs.map I)) := owns_below O10.out hb11 (Nat.le_refl _)
  have V11 : Hid (Below w4.heap.size w4 w11) := V10.out.trans (hb11.mono V10.out.size)
  have HB11 : Hid (Below w0.heap.size w0 w11) := HB10.out.trans (hb11.mono HB10.out.size)
  clear own11 hb11 G10 D10 O10
  go_wp2_with fail
  refine (eqDescS_same _ _ dn dn dn ds _ (D11.out.at HDL.out hdn HS.out) E11.out).mono ?_
  rintro e w12 ⟨rfl, hb12⟩
  have G12 : Hid (w12.ownsRow w6.heap.size 3 1 (SL w6.heap.size m) m (M.map I)) := owns_below G11.out hb12 (Nat.le_refl _)
  have D12 : Hid (DescTo w12 w5.heap.size dn ds w6.heap.size) := D11.out.below hb12 (Nat.le_refl _)
  have O12 : Hid (w12.ownsRow w4.heap.size 58 3 (SL w4.heap.size m) m (fs.map I)) := owns_below O11.out hb12 (Nat.le_refl _)
  have V12 : Hid (Below w4.heap.size w4 w12) := V11.out.trans (hb12.mono V11.out.size)
  have HB12 : Hid (Below w0.heap.size w0 w12) := HB11.out.trans (hb12.mono HB11.out.size)
  clear hb12 G11 D11 O11 E11
  go_wp2_with fail
  refine (markWordS_from w4.heap.size m 1 fs _ (by omega) (by omega) (by omega) O12.out).mono ?_
  rintro e w13 ⟨rfl, ob13⟩
  have G13 : Hid (w13.ownsRow w6.heap.size 3 1 (SL w6.heap.size m) m (M.map I)) := owns_same G12.out (ob13.oth _ (by omega))
  have D13 : Hid (DescTo w13 w5.heap.size dn ds w6.heap.size) := D12.out.only hx0 ob13
  have V13 : Hid (Below w4.heap.size w4 w13) := V12.out.trans ob13.bel
  have HB13 : Hid (Below w0.heap.size w0 w13) := HB12.out.trans (ob13.bel.mono HB4.out.size)
  clear ob13 G12 D12 O12
  go_wp2_with fail
  refine (markDescS_from w5.heap.size dn ds (1 + (m : Int) * 3) w6.heap.size _ hdn (by omega) (by omega) HS.out D13.out hx1).mono ?_
  rintro e w14 ⟨k14, rfl, hk14, hb14, hs14, ho14⟩
  have G14 : Hid (w14.ownsRow w6.heap.size 3 1 (SL w6.heap.size m) m (M.map I)) := owns_same G13.out (ho14 _ (Nat.le_refl _))
  have V14 : Hid (Below w4.heap.size w4 w14) := V13.out.trans (hb14.mono (by omega))
  have HB14 : Hid (Below w0.heap.size w0 w14) := HB13.out.trans (hb14.mono HB5.out.size)
  have hk14' : ¬ k14 < 0 := by omega
  clear hb14 hs14 ho14 G13 D13
  go_wp2_with fail
  refine (eqIntS_any _ _ m m m vc M M _ (own_intAt G14.out (by omega)) (V4.out.below V14.out (Nat.le_refl _))).mono ?_
  rintro e w15 ⟨rfl, q15, hq15⟩
  rw [show decide (M = M) = true from decide_eq_true rfl]
  have hb15 : Below w14.heap.size w14 w15 := by rw [hq15]; exact below_drewN6 (Below.refl _ _) q15
  have G15 : Hid (w15.ownsRow w6.heap.size 3 1 (SL w6.heap.size m) m (M.map I)) := owns_below G14.out hb15 (Nat.le_refl _)
  have V15 : Hid (Below w4.heap.size w4 w15) := V14.out.trans (hb15.mono V14.out.size)
  have HB15 : Hid (Below w0.heap.size w0 w15) := HB14.out.trans (hb15.mono HB14.out.size)
  clear hb15 hq15 G14
  go_wp2_with fail
  refine (markIntS_own w6.heap.size w6.heap.size m m M _ HML.out (by omega) G15.out).mono ?_
  rintro e w16 ⟨rfl, own16, hb16, hs16, ho16⟩
  have G16 : Hid (w16.ownsRow w6.heap.size 3 1 (SL w6.heap.size m) m ((marksI m).map I)) := own16
  have V16 : Hid (Below w4.heap.size w4 w16) := V15.out.trans (hb16.mono (by omega))
  have HB16 : Hid (Below w0.heap.size w0 w16) := HB15.out.trans (hb16.mono HB6.out.size)
  clear own16 hb16 hs16 ho16 G15
  go_wp2_with fail
  refine (heldIntS_any _ m m _ (own_intAt G16.out (by omega))).mono ?_
  rintro e w17 ⟨rfl, q17, hq17⟩
  have hb17 : Below w16.heap.size w16 w17 := by rw [hq17]; exact below_drewN6 (Below.refl _ _) q17
  have G17 : Hid (w17.ownsRow w6.heap.size 3 1 (SL w6.heap.size m) m ((marksI m).map I)) := owns_below G16.out hb17 (Nat.le_refl _)
  have V17 : Hid (Below w4.heap.size w4 w17) := V16.out.trans (hb17.mono V16.out.size)
  have HB17 : Hid (Below w0.heap.size w0 w17) := HB16.out.trans (hb17.mono HB16.out.size)
  have hmm : ¬ (m : Int) + 1 < 0 := by omega
  clear hb17 hq17 G16
  go_wp2_with fail
  refine (toWordS_any a m c fs _ (HA.out.below HB17.out (Nat.le_refl _))).mono ?_
  rintro e w18 ⟨rfl, own18, hb18⟩
  have T18 : Hid (TripAt w18 (some ⟨w17.heap.size, 0, none⟩) m fs) := own_tripAt own18 (by omega)
  have G18 : Hid (w18.ownsRow w6.heap.size 3 1 (SL w6.heap.size m) m ((marksI m).map I)) := owns_below G17.out hb18 (Nat.le_refl _)
  have V18 : Hid (Below w4.heap.size w4 w18) := V17.out.trans (hb18.mono V17.out.size)
  have HB18 : Hid (Below w0.heap.size w0 w18) := HB17.out.trans (hb18.mono HB17.out.size)
  clear own18 hb18 G17
  go_wp2_with fail
  refine (toDescS_any da dn dc ds _ (HT.out.below HB18.out (Nat.le_refl _))).mono ?_
  rintro e w19 ⟨rfl, own19, hb19⟩
  have E19 : Hid (DescAt w19 (some ⟨w18.heap.size, 0, none⟩) dn ds) := own19.at HDL.out hdn HS.out
  have T19 : Hid (TripAt w19 (some ⟨w17.heap.size, 0, none⟩) m fs) := T18.out.below hb19 (Nat.le_refl _)
  have G19 : Hid (w19.ownsRow w6.heap.size 3 1 (SL w6.heap.size m) m ((marksI m).map I)) := owns_below G18.out hb19 (Nat.le_refl _)
  have V19 : Hid (Below w4.heap.size w4 w19) := V18.out.trans (hb19.mono V18.out.size)
  have HB19 : Hid (Below w0.heap.size w0 w19) := HB18.out.trans (hb19.mono HB18.out.size)
  clear own19 hb19 G18 T18
  go_wp2_with fail
  refine (implMeaning_any _ m m fs _ dn dn ds _ T19.out E19.out).mono ?_
  rintro e w20 ⟨rfl, own20, hb20⟩
  rw [HM.out] at own20
  have H20 : Hid (w20.ownsRow w19.heap.size 3 1 (SL w19.heap.size m) m (M.map I)) := own20
  have G20 : Hid (w20.ownsRow w6.heap.size 3 1 (SL w6.heap.size m) m ((marksI m).map I)) := owns_below G19.out hb20 (Nat.le_refl _)
  have V20 : Hid (Below w4.heap.size w4 w20) := V19.out.trans (hb20.mono V19.out.size)
  have HB20 : Hid (Below w0.heap.size w0 w20) := HB19.out.trans (hb20.mono HB19.out.size)
  clear own20 hb20 G19 E19 T19
  go_wp2_with fail
  refine (eqIntS_any _ _ m m m vc M M _ (own_intAt H20.out (by omega)) (V4.out.below V20.out (Nat.le_refl _))).mono ?_
  rintro e w21 ⟨rfl, q21, hq21⟩
  rw [show decide (M = M) = true from decide_eq_true rfl]
  have hb21 : Below w20.heap.size w20 w21 := by rw [hq21]; exact below_drewN6 (Below.refl _ _) q21
  have G21 : Hid (w21.ownsRow w6.heap.size 3 1 (SL w6.heap.size m) m ((marksI m).map I)) := owns_below G20.out hb21 (Nat.le_refl _)
  have HB21 : Hid (Below w0.heap.size w0 w21) := HB20.out.trans (hb21.mono HB20.out.size)
  clear hb21 hq21 G20 H20
  go_wp2_with fail
  refine (heldIntS_any _ m m _ (own_intAt G21.out (by omega))).mono ?_
  rintro e w22 ⟨rfl, q22, hq22⟩
  have hb22 : Below w21.heap.size w21 w22 := by rw [hq22]; exact below_drewN6 (Below.refl _ _) q22
  have HB22 : Hid (Below w0.heap.size w0 w22) := HB21.out.trans (hb22.mono HB21.out.size)
  clear hb22 hq22
  go_wp2
  go_ret
  exact ⟨rfl, HB22.out⟩

set_option maxRecDepth 100000 in
theorem lifted (os : Os) (started : os.Started) (H : Type) (enc : TypeId × Value → H) :
    ReturnsInHanded {} Try.checked os 4 .any (Rows.fnExactMeaningSpec.pre6 enc Try.prog Try.f4 Rows.fnExactMeaningRow.domain false) (Rows.fnExactMeaningSpec.post enc Try.prog Try.f4 false true false false) := by
  refine returnsInHanded_of_change (C := Try.checked) own started (by kernel_rfl) Try.func4
    (ChangeSpec.witness6 (enc := enc) (C := Try.checked) false ⟨#[], #[.slice none 0 0, .slice none 0 0], []⟩ 8 (by kernel_rfl) (by kernel_rfl) (by kernel_rfl) (by kernel_rfl)) ?_
  intro W base args ds gs before hval0 hW hcnd _
  have hval : ∀ (j : Nat) t v, Try.f4.params[j]? = some t → args[j]? = some v → Value.okWide Try.prog W .any base t v := hval0
  have hW' := hW
  obtain ⟨p, q, hA0, hV, rfl, hfz, hnd⟩ := hW
  have hA : DataW.TrodAll enc Try.prog W 0 (fun _ => true) true Try.f4.params.toList args.toList ds p := hA0
  rw [Try.params4] at hA hval
  obtain ⟨v0, v1, d0, d1, p0, p1, rfl, rfl, rfl, h0, h1⟩ := trodAll_two hA
  obtain ⟨rfl, rfl⟩ := trodVars_none hV
  have k0 := h0
  have k1 := h1
  have lt0 : ∀ x ∈ p0, x.block < W.heap.size := by obtain ⟨m, hm⟩ := k0; exact DataW.trod_lt m _ _ _ hm
  have lt1 : ∀ x ∈ p1, x.block < W.heap.size := by obtain ⟨m, hm⟩ := k1; exact DataW.trod_lt m _ _ _ hm
  obtain ⟨a, m, c, fs, rfl, hm, hT⟩ := open_words (hval 0 22 v0 rfl rfl) h0
  obtain ⟨da, dn, dc, dsl, rfl, hdm, hD⟩ := open_descs_v (hval 1 23 v1 rfl rfl) h1
  refine (walk a m c fs da dn dc dsl W hm hT hdm hD).mono fun e W' ⟨he, bel⟩ => ?_
  subst he
  exact ⟨_, rfl, _, _, _, [], _, [], hW', trodAll_mk1 (shut_bool Try.underlying4 _), (trodAll_cons_mk (Below.trod laidOut (by kernel_rfl) (of_decide_eq_true (by kernel_rfl)) k0 bel lt0) (trodAll_cons_mk (Below.trod laidOut (by kernel_rfl) (of_decide_eq_true (by kernel_rfl)) k1 bel lt1) trodAll_mk0)), rfl, bel.frame _, fun h => by cases h⟩
end fnExactMeaning
theorem fnExactMeaning_holds : Rows.FnExactMeaningSaid :=
  OpenClaim.holds_of_wide 4 Try.f4 rfl rfl rfl rfl rfl rfl rfl ⟨rfl, rfl, rfl, rfl, rfl⟩ rfl rfl rfl rfl rfl (by kernel_rfl) Try.func4 (by kernel_rfl)
    (of_decide_eq_true (by kernel_rfl)) (by unfold Func.isWrapper; first | (rw [if_pos (by decide +kernel)]; kernel_rfl) | (rw [if_neg (by decide +kernel)]; exact ⟨rfl, rfl⟩))
    (fun os started H enc _ => fnExactMeaning.lifted os started H enc)
#print axioms fnExactMeaning_holds
end Go.Proofs.Ytenlapppaimkkaq
