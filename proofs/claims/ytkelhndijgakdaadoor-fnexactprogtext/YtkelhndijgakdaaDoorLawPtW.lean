/- The law FnExactProgText, walked from what the program's function is said to answer. -/
import Derived.Test.YtkelhndijgakdaaDoorSpecTx2
import Derived.Test.YtkelhndijgakdaaDoorKOp
import Derived.Deep.Cut
import Derived.Deep.RegionHeld3
namespace Go.Proofs.YtkelhndijgakdaaDoor
open Go.ChangeShapes Go.WideShapes Go.ChangeAt Go.RowKit Go.Lib

set_option maxHeartbeats 4000000 in
set_option maxRecDepth 100000 in
theorem progText_walk (T : World → Prop) (a : Option Addr) (n c : Nat) (fs : List Int) (w : World) (hA : n ≤ 1048576 → KAt 3 w a n fs) (hm : n ≤ 9223372036854775807) (hT : ∀ w', Below w.heap.size w w' → T w')
    (implC : ∀ (a : Option Addr) (n c : Nat) (fs : List Int) (w : World), KAt 3 w a n fs → n ≤ c → n ≤ 1048576 → T w → Calls Tryd.prog 12 #[.slice a n c] w fun e w' => TextSays e (progT fs n) ∧ Below w.heap.size w w') :
    Calls Tryd.prog 4 #[.slice a n c] w fun e w' => e = .returned (.bool true) ∧ Below w.heap.size w w' := by
  by_cases hn : n ≤ 1048576
  case neg =>
    go_enter Tryd.func4, Tryd.ntmps4
    go_wp2_with fail
    refine (kSzOpS_big a n c 1048576 _ (by omega) (by omega) (by omega) hm).mono ?_
    rintro e w1 ⟨rfl, hw1⟩
    rw [hw1]
    go_wp2
    go_ret
    exact ⟨rfl, Below.refl _ _⟩
  have HA : Hid (KAt 3 w a n fs) := hA hn
  have HT : Hid (∀ w', Below w.heap.size w w' → T w') := hT
  have HC : Hid (∀ (a : Option Addr) (n c : Nat) (fs : List Int) (w : World), KAt 3 w a n fs → n ≤ c → n ≤ 1048576 → T w → Calls Tryd.prog 12 #[.slice a n c] w fun e w' => TextSays e (progT fs n) ∧ Below w.heap.size w w') := implC
  have hl : ¬ (1048576 - (n : Int) < 0) := by omega
  clear hA hT implC
  go_enter Tryd.func4, Tryd.ntmps4
  go_wp2_with fail
  refine (kSzOpS a n c 1048576 _ (by omega) (by omega) (by omega)).mono ?_
  rintro e w0 ⟨rfl, hw0⟩
  rw [hw0]
  clear hw0
  go_wp2_with fail
  refine (kToOpS a n c fs _ HA.out).mono ?_
  rintro e w1 ⟨rfl, own1, hb1⟩
  have B1 : Hid (Below w.heap.size w w1) := hb1
  have K1 : Hid (KAt 3 w1 (some ⟨w.heap.size, 0, none⟩) n fs) := own_kAt own1 (by omega)
  clear own1 hb1
  go_wp2_with fail
  refine (specProgText_any _ n n fs _ K1.out).mono ?_
  rintro e w2 ⟨⟨s2, rfl, hs2⟩, hb2⟩
  have S2 : Hid (s2.data.toList = progT fs n) := hs2
  have B2 : Hid (Below w.heap.size w w2) := B1.out.trans (hb2.mono B1.out.size)
  clear hs2 hb2
  go_wp2_with fail
  refine (kToOpS a n c fs _ (HA.out.below B2.out (Nat.le_refl _))).mono ?_
  rintro e w3 ⟨rfl, own3, hb3⟩
  have B3 : Hid (Below w.heap.size w w3) := B2.out.trans (hb3.mono B2.out.size)
  have K3 : Hid (KAt 3 w3 (some ⟨w2.heap.size, 0, none⟩) n fs) := own_kAt own3 (by omega)
  clear own3 hb3
  go_wp2_with fail
  refine (HC.out _ n n fs _ K3.out (Nat.le_refl _) hn (HT.out _ B3.out)).mono ?_
  rintro e w4 ⟨⟨s4, rfl, hs4⟩, hb4⟩
  obtain rfl : s2 = s4 := str_eq (S2.out.trans hs4.symm)
  have B4 : Hid (Below w.heap.size w w4) := B3.out.trans (hb4.mono B3.out.size)
  have K4 : Hid (KAt 3 w4 (some ⟨w2.heap.size, 0, none⟩) n fs) := K3.out.below hb4 (Nat.le_refl _)
  clear hs4 hb4
  go_wp2_with fail
  refine (kToOpS a n c fs _ (HA.out.below B4.out (Nat.le_refl _))).mono ?_
  rintro e w5 ⟨rfl, own5, hb5⟩
  have B5 : Hid (Below w.heap.size w w5) := B4.out.trans (hb5.mono B4.out.size)
  have K5 : Hid (KAt 3 w5 (some ⟨w4.heap.size, 0, none⟩) n fs) := own_kAt own5 (by omega)
  have L5 : Hid (KAt 3 w5 (some ⟨w2.heap.size, 0, none⟩) n fs) := K4.out.below hb5 (Nat.le_refl _)
  clear own5 hb5
  go_wp2_with fail
  refine (kEqOpS _ _ n n n fs _ L5.out K5.out).mono ?_
  rintro e w6 ⟨rfl, hb6⟩
  have B6 : Hid (Below w.heap.size w w6) := B5.out.trans (hb6.mono B5.out.size)
  clear hb6
  go_wp2
  go_ret
  exact ⟨rfl, B6.out⟩
end Go.Proofs.YtkelhndijgakdaaDoor
