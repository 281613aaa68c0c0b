/- spec.Whole, walked at any list. -/
import Derived.Test.YtkifebhkgldefaaDoorSpecIn
import Derived.Test.YtkifebhkgldefaaDoorSpecRes
import Derived.Deep.Cut
namespace Go.Proofs.YtkifebhkgldefaaDoor
open Go.ChangeShapes Go.WideShapes Go.ChangeAt Go.RowKit Go.Joins

set_option maxHeartbeats 2000000 in
set_option maxRecDepth 100000 in
theorem specWhole_any (a : Option Addr) (n c : Nat) (ws : List Int) (w : World) (hA : IntAt w a n ws) (hc : n ≤ c) :
    Calls Tryd.prog 16 #[.slice a n c] w fun e w' => Says e (WholeM ws) ∧ Below w.heap.size w w' := by
  have HA : Hid (IntAt w a n ws) := hA
  have HC : Hid (n ≤ c) := hc
  clear hA hc
  go_enter Tryd.func16, Tryd.ntmps16
  go_wp2_with (fail)
  refine (specRowsIn_any a n c ws w HA.out HC.out).mono ?_
  rintro e w1 ⟨hs1, hb1⟩
  obtain ⟨ra, rc, rfl, hrc, RA1⟩ := hs1.at
  clear hs1
  obtain ⟨W, hW⟩ : ∃ W, w1.alloc (.cells #[.slice ra (inX ws).length rc, .int .i64 (inS ws)] 24) = W := ⟨_, rfl⟩
  have hbW : Below w1.heap.size w1 W := by rw [← hW]; exact (Below.refl _ w1).alloc (Nat.le_refl _) _
  have HB2 : Hid (Below w.heap.size w W) := hb1.trans (hbW.mono hb1.size)
  have R2 : Hid (Box W w1.heap.size #[.slice ra (inX ws).length rc, .int .i64 (inS ws)] 24) := by rw [← hW]; exact box_of w1 _ _
  have RA2 : IntAt W ra (inX ws).length (inX ws) := RA1.below hbW (Nat.le_refl _)
  have H2 : Hid (IntAt W ra (inX ws).length (inX ws)) := RA2
  have HW : Hid (w1.alloc (.cells #[.slice ra (inX ws).length rc, .int .i64 (inS ws)] 24) = W) := hW
  clear hb1 hbW RA1 hW
  go_upto_region 2 with (fail)
  rw [HW.out]
  obtain ⟨r0, r1, _, _⟩ := R2.out.two
  go_wp2_with (fail)
  have RA2 := H2.out
  refine (specRowsOk_any ra (inX ws).length rc (inS ws) (inX ws) _ RA2).mono ?_
  rintro e w3 ⟨⟨ok, rfl, hok⟩, hb3⟩
  have HOKI : Hid (ok = true ↔ OkRows (inX ws) (inS ws)) := hok.trans (ok_iff RA2.1)
  have HB3 : Hid (Below w.heap.size w w3) := HB2.out.trans (hb3.mono HB2.out.size)
  have R3 : Hid (Box w3 w1.heap.size #[.slice ra (inX ws).length rc, .int .i64 (inS ws)] 24) := R2.out.below hb3 R2.out.lt
  have H3 : Hid (IntAt w3 ra (inX ws).length (inX ws)) := RA2.below hb3 (Nat.le_refl _)
  clear hb3 hok RA2 r0 r1
  cases ok with
  | false =>
    have hno : ¬ WholeM ws := fun h => by have := HOKI.out.2 h.1; cases this
    have HNO : Hid (¬ WholeM ws) := hno
    clear hno
    go_wp2
    go_ret
    first
    | exact ⟨⟨false, rfl, by simp [HNO.out]⟩, HB3.out⟩
    | exact ⟨.inl ⟨rfl, HNO.out⟩, HB3.out⟩
  | true =>
    have HOK : Hid (OkRows (inX ws) (inS ws)) := HOKI.out.1 rfl
    obtain ⟨r0, r1, _, _⟩ := R3.out.two
    go_wp2_with (fail)
    have RA3 := H3.out
    refine (specWordsT ra (inX ws).length rc (inS ws) (inX ws) (specL (inX ws) (inS ws)) _ RA3 (.inl ⟨HOK.out, rfl⟩)).mono ?_
    rintro e w4 ⟨⟨la, ln, lc, rfl, LA4⟩, hb4⟩
    have HB4 : Hid (Below w.heap.size w w4) := HB3.out.trans (hb4.mono HB3.out.size)
    have HL4 : Hid (IntAt w4 la ln (specL (inX ws) (inS ws))) := LA4
    clear RA3 hb4 LA4 r0 r1
    go_wp2_with (fail)
    refine (l4Ints_any a la n ln c lc ws (specL (inX ws) (inS ws)) _ (HA.out.below HB4.out (Nat.le_refl _)) HL4.out).mono ?_
    rintro e w5 ⟨rfl, hb5⟩
    have HB5 : Hid (Below w.heap.size w w5) := HB4.out.trans (hb5.mono HB4.out.size)
    obtain ⟨B, hB⟩ : ∃ B, decide (ws = specL (inX ws) (inS ws)) = B := ⟨_, rfl⟩
    rw [hB]
    have HBB : Hid (B = true ↔ WholeM ws) := by
      show _ ↔ _
      rw [← hB]
      simp [WholeM, HOK.out]
    clear hb5 hB
    go_wp2
    go_ret
    exact ⟨⟨B, rfl, HBB.out⟩, HB5.out⟩
end Go.Proofs.YtkifebhkgldefaaDoor
