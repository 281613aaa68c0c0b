/- Texts joined: SpecChange, SpecPlan. -/
import Derived.Test.YtenlapppaimkkabGreatDoorPL10
import Derived.Test.YtenlapppaimkkabGreatDoorPL03
import Derived.Test.YtenlapppaimkkabGreatDoorPL04
import Derived.Test.YtenlapppaimkkabGreatDoorPL01
import Derived.Test.YtenlapppaimkkabGreatDoorPL16
set_option maxHeartbeats 8000000
set_option maxRecDepth 100000
namespace Go.Proofs.YtenlapppaimkkabGreatDoor
section
open Go.ChangeShapes Go.WideShapes Go.ChangeAt Go.RowKit
def changeA (fs : List Int) (m : Nat) (k h n : Int) : List Int × Nat :=
  addL (addL (addL (addL (addL (addL ([], 0) fs m (placeN 1 k) n) fs m 13 (readF fs 13 m).1) fs m (placeN 2 h) 0) fs m (placeN 5 h) 0) fs m (placeN 2 n) (k + 1)) fs m (placeN 5 n) (k + 1)
def changeB (fs : List Int) (m : Nat) (L : List Int × Nat) (h n : Int) : List Int × Nat :=
  if classN h = classN n then L else addL (addL L fs m (placeN 3 (classN h)) (max (wrap64 ((readF fs (placeN 3 (classN h)) m).1 + (-1))) 0)) fs m (placeN 3 (classN n)) (max (wrap64 ((readF fs (placeN 3 (classN n)) m).1 + 1)) 0)
def changeL (fs : List Int) (m : Nat) (kind k v : Int) : List Int × Nat :=
  changeB fs m (changeA fs m k (readF fs (placeN 1 k) m).1 (if kind = 3 then 0 else v)) (readF fs (placeN 1 k) m).1 (if kind = 3 then 0 else v)
theorem neqI (x y : Int) : (x = y ∧ (x != y) = false) ∨ (¬ x = y ∧ (x != y) = true) := by
  by_cases h : x = y
  · exact .inl ⟨h, by simpa using h⟩
  · exact .inr ⟨h, by simpa using h⟩

theorem l5Change_any (pa : Option Addr) (m pc : Nat) (fs : List Int) (kind k v : Int) (w : World) (hP : PairAt w pa m fs) (hk : 0 ≤ k ∧ k ≤ 3) :
    Calls Tryz.prog 36 #[OpV kind k v, .slice pa m pc] w fun e w' => ∃ v', e = .returned v' ∧ ListE w.heap.size w' v' (changeL fs m kind k v) ∧ Below w.heap.size w w' := by
  obtain ⟨W1, hW1⟩ : ∃ W1, w.alloc (.cells #[.int .i64 kind, .int .i64 k, .int .i64 v] 28) = W1 := ⟨_, rfl⟩
  have b1 : Below w.heap.size w W1 := by rw [← hW1]; exact (Below.refl _ _).alloc (Nat.le_refl _) _
  have x1 : W1.heap[w.heap.size]? = some (.cells #[.int .i64 kind, .int .i64 k, .int .i64 v] 28 (0, 0)) := by rw [← hW1]; exact (by show (w.heap.push _)[w.heap.size]? = _; simp)
  have HX : Hid (W1.heap[w.heap.size]? = some (.cells #[.int .i64 kind, .int .i64 k, .int .i64 v] 28 (0, 0)) ∧ Below w.heap.size w W1 ∧ PairAt W1 pa m fs ∧ w.heap.size < W1.heap.size) := ⟨x1, b1, hP.below b1 (Nat.le_refl _), (Array.getElem?_eq_some_iff.1 x1).1⟩
  have cells : ∀ {w' : World}, Below W1.heap.size W1 w' → w'.cell? ⟨w.heap.size, 0, none⟩ = some (.int .i64 kind) ∧ w'.cell? ⟨w.heap.size, 1, none⟩ = some (.int .i64 k) ∧ w'.cell? ⟨w.heap.size, 2, none⟩ = some (.int .i64 v) := fun hb => by
    have := (hb.block _ HX.out.2.2.2).trans HX.out.1
    exact ⟨by simp [World.cell?, this], by simp [World.cell?, this], by simp [World.cell?, this]⟩
  have CE : Hid (∀ {w' : World}, Below W1.heap.size W1 w' → w'.cell? ⟨w.heap.size, 0, none⟩ = some (.int .i64 kind) ∧ w'.cell? ⟨w.heap.size, 1, none⟩ = some (.int .i64 k) ∧ w'.cell? ⟨w.heap.size, 2, none⟩ = some (.int .i64 v)) := cells
  clear b1 x1 cells hP
  obtain ⟨⟨h, hh⟩, hr⟩ : ∃ r, readF fs (placeN 1 k) m = r := ⟨_, rfl⟩
  have HH : Hid (readF fs (placeN 1 k) m = (h, hh)) := hr
  obtain ⟨nn, hnn⟩ : ∃ x, (if kind = 3 then 0 else v) = x := ⟨_, rfl⟩
  have HNN : Hid ((if kind = 3 then 0 else v) = nn) := hnn
  have HZ : Hid (changeL fs m kind k v = changeB fs m (changeA fs m k h nn) h nn) := (by unfold changeL; rw [hr, hnn] : changeL fs m kind k v = changeB fs m (changeA fs m k h nn) h nn)
  clear hr hnn
  rw [HZ.out]
  obtain ⟨W2, hW2⟩ : ∃ W2, W1.alloc (.cells #[] 47) = W2 := ⟨_, rfl⟩
  have B0 : Hid (Below W1.heap.size W1 W2) := by rw [← hW2]; exact (Below.refl _ _).alloc (Nat.le_refl _) _
  have L0 : Hid (ListE w.heap.size W2 (.slice (some ⟨W1.heap.size, 0, none⟩) 0 0) ([], 0)) := ⟨_, 0, rfl, ⟨rfl, by omega, .inr ⟨W1.heap.size, 0, rfl, fun i hi => by omega⟩⟩, (fun e => by cases e), Nat.le_refl _, fun q e => by cases e; exact Nat.le_of_lt HX.out.2.2.2⟩
  have WK : Hid (IntKind.i64.wrap (k + 1) = k + 1) := (by rw [IntKind.wrap_i64]; omega : IntKind.i64.wrap (k + 1) = k + 1)
  obtain ⟨c0, c1, c2⟩ := CE.out B0.out
  go_enter Tryz.func36, Tryz.ntmps36
  go_wp2_with fail
  refine (specRowAt_any k _).mono ?_
  rintro e wp ⟨rfl, hwp⟩
  rw [hwp]
  clear hwp
  go_wp2_with fail
  refine (specRead_any pa m pc (placeN 1 k) fs _ (by first | exact HX.out.2.2.1.below B0.out (Nat.le_refl _) | exact hW2 ▸ HX.out.2.2.1.below B0.out (Nat.le_refl _) | (rw [hW1, hW2]; exact HX.out.2.2.1.below B0.out (Nat.le_refl _)))).mono ?_
  rintro e w1 ⟨rfl, hb1⟩
  rw [HH.out]
  have hb1' : Below W2.heap.size W2 w1 := by first | exact hb1 | exact hW2 ▸ hb1
  have B1 : Hid (Below W1.heap.size W1 w1) := B0.out.trans (hb1'.mono B0.out.size)
  have L1 : Hid (ListE w.heap.size w1 (.slice (some ⟨W1.heap.size, 0, none⟩) 0 0) ([], 0)) := L0.out.below hb1' (Nat.le_refl _)
  clear hb1 hb1' c0 c1 c2
  obtain ⟨c0, c1, c2⟩ := CE.out B1.out
  rcases neqI kind 3 with ⟨hk3, hkb⟩ | ⟨hk3, hkb⟩
  · have e : nn = 0 := by rw [← HNN.out, if_pos hk3]
    subst e
    clear hk3
    have N1 : Hid ((([], 0) : List Int × Nat).2 ≤ 0) := (Nat.le_refl _ : (([], 0) : List Int × Nat).2 ≤ 0)
    go_wp2_with fail
    refine (specRowAt_any k _).mono ?_
    rintro e wp ⟨rfl, hwp⟩
    rw [hwp]
    clear hwp
    go_wp2_with fail
    refine (l5Add_L (.slice (some ⟨W1.heap.size, 0, none⟩) 0 0) (([], 0)) pa m pc fs (placeN 1 k) (0) _ w.heap.size L1.out (HX.out.2.2.1.below B1.out (Nat.le_refl _)) (by have hle := N1.out; omega) (Nat.le_trans (Nat.le_of_lt HX.out.2.2.2) B1.out.size)).mono ?_
    rintro e w2 ⟨v2, rfl, hL, hb⟩
    have B2 : Hid (Below W1.heap.size W1 w2) := B1.out.trans (hb.mono B1.out.size)
    obtain ⟨M2, hM⟩ : ∃ M, addL (([], 0)) fs m (placeN 1 k) (0) = M := ⟨_, rfl⟩
    have HM2 : Hid (addL (([], 0)) fs m (placeN 1 k) (0) = M2) := hM
    rw [hM] at hL
    have L2 : Hid (ListE w.heap.size w2 v2 M2) := hL
    have N2 : Hid (M2.2 ≤ 1) := (by rw [← hM]; have hle := N1.out; have hl2 := addL_le (([], 0)) fs m (placeN 1 k) (0); omega : M2.2 ≤ 1)
    clear hL hb hM c0 c1 c2 L1
    obtain ⟨c0, c1, c2⟩ := CE.out B2.out
    go_wp2_with fail
    refine (specStateAt_any _).mono ?_
    rintro e wp ⟨rfl, hwp⟩
    rw [hwp]
    clear hwp
    go_wp2_with fail
    refine (l5Same_L v2 (M2) pa m pc fs 13 _ w.heap.size L2.out (HX.out.2.2.1.below B2.out (Nat.le_refl _)) (by have hle := N2.out; omega) (Nat.le_trans (Nat.le_of_lt HX.out.2.2.2) B2.out.size)).mono ?_
    rintro e w3 ⟨v3, rfl, hL, hb⟩
    have B3 : Hid (Below W1.heap.size W1 w3) := B2.out.trans (hb.mono B2.out.size)
    obtain ⟨M3, hM⟩ : ∃ M, addL (M2) fs m (13) ((readF fs 13 m).1) = M := ⟨_, rfl⟩
    have HM3 : Hid (addL (M2) fs m (13) ((readF fs 13 m).1) = M3) := hM
    rw [hM] at hL
    have L3 : Hid (ListE w.heap.size w3 v3 M3) := hL
    have N3 : Hid (M3.2 ≤ 2) := (by rw [← hM]; have hle := N2.out; have hl2 := addL_le (M2) fs m (13) ((readF fs 13 m).1); omega : M3.2 ≤ 2)
    clear hL hb hM c0 c1 c2 L2
    obtain ⟨c0, c1, c2⟩ := CE.out B3.out
    go_wp2_with fail
    refine (specOwnerAt_any h _).mono ?_
    rintro e wp ⟨rfl, hwp⟩
    rw [hwp]
    clear hwp
    go_wp2_with fail
    refine (l5Add_L v3 (M3) pa m pc fs (placeN 2 h) (0) _ w.heap.size L3.out (HX.out.2.2.1.below B3.out (Nat.le_refl _)) (by have hle := N3.out; omega) (Nat.le_trans (Nat.le_of_lt HX.out.2.2.2) B3.out.size)).mono ?_
    rintro e w4 ⟨v4, rfl, hL, hb⟩
    have B4 : Hid (Below W1.heap.size W1 w4) := B3.out.trans (hb.mono B3.out.size)
    obtain ⟨M4, hM⟩ : ∃ M, addL (M3) fs m (placeN 2 h) (0) = M := ⟨_, rfl⟩
    have HM4 : Hid (addL (M3) fs m (placeN 2 h) (0) = M4) := hM
    rw [hM] at hL
    have L4 : Hid (ListE w.heap.size w4 v4 M4) := hL
    have N4 : Hid (M4.2 ≤ 3) := (by rw [← hM]; have hle := N3.out; have hl2 := addL_le (M3) fs m (placeN 2 h) (0); omega : M4.2 ≤ 3)
    clear hL hb hM c0 c1 c2 L3
    obtain ⟨c0, c1, c2⟩ := CE.out B4.out
    go_wp2_with fail
    refine (specViaAt_any h _).mono ?_
    rintro e wp ⟨rfl, hwp⟩
    rw [hwp]
    clear hwp
    go_wp2_with fail
    refine (l5Add_L v4 (M4) pa m pc fs (placeN 5 h) (0) _ w.heap.size L4.out (HX.out.2.2.1.below B4.out (Nat.le_refl _)) (by have hle := N4.out; omega) (Nat.le_trans (Nat.le_of_lt HX.out.2.2.2) B4.out.size)).mono ?_
    rintro e w5 ⟨v5, rfl, hL, hb⟩
    have B5 : Hid (Below W1.heap.size W1 w5) := B4.out.trans (hb.mono B4.out.size)
    obtain ⟨M5, hM⟩ : ∃ M, addL (M4) fs m (placeN 5 h) (0) = M := ⟨_, rfl⟩
    have HM5 : Hid (addL (M4) fs m (placeN 5 h) (0) = M5) := hM
    rw [hM] at hL
    have L5 : Hid (ListE w.heap.size w5 v5 M5) := hL
    have N5 : Hid (M5.2 ≤ 4) := (by rw [← hM]; have hle := N4.out; have hl2 := addL_le (M4) fs m (placeN 5 h) (0); omega : M5.2 ≤ 4)
    clear hL hb hM c0 c1 c2 L4
    obtain ⟨c0, c1, c2⟩ := CE.out B5.out
    obtain ⟨wd5, hwd⟩ : ∃ wd, w5.drew = wd := ⟨_, rfl⟩
    have hdd : Below w5.heap.size w5 wd5 := by rw [← hwd]; exact (Below.refl _ _).drew
    have BD : Hid (Below W1.heap.size W1 wd5) := B5.out.trans (hdd.mono B5.out.size)
    have LD : Hid (ListE w.heap.size wd5 v5 (M5)) := L5.out.below hdd (Nat.le_refl _)
    have K0 : Hid (wd5.cell? ⟨w.heap.size, 1, none⟩ = some (.int .i64 k)) := (CE.out BD.out).2.1
    clear hdd
    go_wp2_with fail
    go_region_held3 (fun w' => w'.cell? ⟨w.heap.size, 1, none⟩ = some (.int .i64 k))
      (first | (with_reducible exact K1.out) | (with_reducible exact K0.out) | exact hwd ▸ K0.out | go_keep)
      (first
      | (go_at_call 61
         refine (specOwnerAt_any (0) _).mono ?_
         rintro e wp ⟨rfl, hwp⟩
         rw [hwp]
         clear hwp)
      | (go_at_call 34
         (try rw [WK.out])
         refine (l5Add_L v5 (M5) pa m pc fs (placeN 2 (0)) (k + 1) _ w.heap.size (by first | exact LD.out | exact hwd ▸ LD.out) (by first | exact HX.out.2.2.1.below BD.out (Nat.le_refl _) | exact hwd ▸ HX.out.2.2.1.below BD.out (Nat.le_refl _)) (by have hle := N5.out; omega) (by first | exact Nat.le_trans (Nat.le_of_lt HX.out.2.2.2) BD.out.size | exact hwd ▸ Nat.le_trans (Nat.le_of_lt HX.out.2.2.2) BD.out.size)).mono ?_
         rintro e w6 ⟨v6, rfl, hL, hb⟩
         have hb' : Below wd5.heap.size wd5 w6 := by first | exact hb | exact hwd ▸ hb
         have B6 : Hid (Below W1.heap.size W1 w6) := BD.out.trans (hb'.mono BD.out.size)
         obtain ⟨M6, hM⟩ : ∃ M, addL (M5) fs m (placeN 2 (0)) (k + 1) = M := ⟨_, rfl⟩
         have HM6 : Hid (addL (M5) fs m (placeN 2 (0)) (k + 1) = M6) := hM
         rw [hM] at hL
         have L6 : Hid (ListE w.heap.size w6 v6 M6) := hL
         have N6 : Hid (M6.2 ≤ 5) := (by rw [← hM]; have hle := N5.out; have hl2 := addL_le (M5) fs m (placeN 2 (0)) (k + 1); omega : M6.2 ≤ 5)
         have K1 : Hid (w6.cell? ⟨w.heap.size, 1, none⟩ = some (.int .i64 k)) := (CE.out B6.out).2.1
         clear hL hb hb' hM))
    clear c0 c1 c2 hwd BD LD K0 K1 L5
    obtain ⟨c0, c1, c2⟩ := CE.out B6.out
    obtain ⟨wd6, hwd⟩ : ∃ wd, w6.drew = wd := ⟨_, rfl⟩
    have hdd : Below w6.heap.size w6 wd6 := by rw [← hwd]; exact (Below.refl _ _).drew
    have BD : Hid (Below W1.heap.size W1 wd6) := B6.out.trans (hdd.mono B6.out.size)
    have LD : Hid (ListE w.heap.size wd6 v6 (M6)) := L6.out.below hdd (Nat.le_refl _)
    have K0 : Hid (wd6.cell? ⟨w.heap.size, 1, none⟩ = some (.int .i64 k)) := (CE.out BD.out).2.1
    clear hdd
    go_wp2_with fail
    go_region_held3 (fun w' => w'.cell? ⟨w.heap.size, 1, none⟩ = some (.int .i64 k))
      (first | (with_reducible exact K1.out) | (with_reducible exact K0.out) | exact hwd ▸ K0.out | go_keep)
      (first
      | (go_at_call 35
         refine (specViaAt_any (0) _).mono ?_
         rintro e wp ⟨rfl, hwp⟩
         rw [hwp]
         clear hwp)
      | (go_at_call 34
         (try rw [WK.out])
         refine (l5Add_L v6 (M6) pa m pc fs (placeN 5 (0)) (k + 1) _ w.heap.size (by first | exact LD.out | exact hwd ▸ LD.out) (by first | exact HX.out.2.2.1.below BD.out (Nat.le_refl _) | exact hwd ▸ HX.out.2.2.1.below BD.out (Nat.le_refl _)) (by have hle := N6.out; omega) (by first | exact Nat.le_trans (Nat.le_of_lt HX.out.2.2.2) BD.out.size | exact hwd ▸ Nat.le_trans (Nat.le_of_lt HX.out.2.2.2) BD.out.size)).mono ?_
         rintro e w7 ⟨v7, rfl, hL, hb⟩
         have hb' : Below wd6.heap.size wd6 w7 := by first | exact hb | exact hwd ▸ hb
         have B7 : Hid (Below W1.heap.size W1 w7) := BD.out.trans (hb'.mono BD.out.size)
         obtain ⟨M7, hM⟩ : ∃ M, addL (M6) fs m (placeN 5 (0)) (k + 1) = M := ⟨_, rfl⟩
         have HM7 : Hid (addL (M6) fs m (placeN 5 (0)) (k + 1) = M7) := hM
         rw [hM] at hL
         have L7 : Hid (ListE w.heap.size w7 v7 M7) := hL
         have N7 : Hid (M7.2 ≤ 6) := (by rw [← hM]; have hle := N6.out; have hl2 := addL_le (M6) fs m (placeN 5 (0)) (k + 1); omega : M7.2 ≤ 6)
         have K1 : Hid (w7.cell? ⟨w.heap.size, 1, none⟩ = some (.int .i64 k)) := (CE.out B7.out).2.1
         clear hL hb hb' hM))
    clear c0 c1 c2 hwd BD LD K0 K1 L6
    obtain ⟨c0, c1, c2⟩ := CE.out B7.out
    have HA : Hid (changeA fs m k h (0) = M7) := (by unfold changeA; rw [HM2.out, HM3.out, HM4.out, HM5.out, HM6.out, HM7.out] : changeA fs m k h (0) = M7)
    go_wp2_with fail
    refine (specClassOf_any h _).mono ?_
    rintro e wp ⟨rfl, hwp⟩
    rw [hwp]
    clear hwp
    go_wp2_with fail
    refine (specClassOf_any (0) _).mono ?_
    rintro e wp ⟨rfl, hwp⟩
    rw [hwp]
    clear hwp
    rcases neqI (classN h) (classN (0)) with ⟨hcl, hcb⟩ | ⟨hcl, hcb⟩
    · have HCL : Hid (classN h = classN (0)) := hcl
      clear hcl
      go_wp2
      go_ret
      refine ⟨v7, rfl, ?_, (HX.out.2.1.trans (B7.out.mono (Nat.le_of_lt HX.out.2.2.2)))⟩
      rw [HA.out, show changeB fs m M7 h (0) = M7 from if_pos HCL.out]
      exact L7.out
    · have HCL : Hid (¬ classN h = classN (0)) := hcl
      clear hcl
      go_wp2_with fail
      refine (l5More_L v7 M7 pa m pc fs h (-1) _ w.heap.size L7.out (HX.out.2.2.1.below B7.out (Nat.le_refl _)) (by have hle := N7.out; omega) (Nat.le_trans (Nat.le_of_lt HX.out.2.2.2) B7.out.size)).mono ?_
      rintro e w8 ⟨v8, rfl, hL, hb⟩
      have B8 : Hid (Below W1.heap.size W1 w8) := B7.out.trans (hb.mono B7.out.size)
      obtain ⟨M8, hM⟩ : ∃ M, addL M7 fs m (placeN 3 (classN h)) (max (wrap64 ((readF fs (placeN 3 (classN (h))) m).1 + (-1))) 0) = M := ⟨_, rfl⟩
      have HM8 : Hid (addL M7 fs m (placeN 3 (classN h)) (max (wrap64 ((readF fs (placeN 3 (classN (h))) m).1 + (-1))) 0) = M8) := hM
      rw [hM] at hL
      have L8 : Hid (ListE w.heap.size w8 v8 M8) := hL
      have N8 : Hid (M8.2 ≤ 7) := (by rw [← hM]; have hle := N7.out; have hl2 := addL_le M7 fs m (placeN 3 (classN h)) (max (wrap64 ((readF fs (placeN 3 (classN (h))) m).1 + (-1))) 0); omega : M8.2 ≤ 7)
      clear hL hb hM c0 c1 c2
      go_wp2_with fail
      refine (l5More_L v8 M8 pa m pc fs (0) 1 _ w.heap.size L8.out (HX.out.2.2.1.below B8.out (Nat.le_refl _)) (by have hle := N8.out; omega) (Nat.le_trans (Nat.le_of_lt HX.out.2.2.2) B8.out.size)).mono ?_
      rintro e w9 ⟨v9, rfl, hL, hb⟩
      have B9 : Hid (Below W1.heap.size W1 w9) := B8.out.trans (hb.mono B8.out.size)
      have L9 : Hid (ListE w.heap.size w9 v9 (addL M8 fs m (placeN 3 (classN (0))) (max (wrap64 ((readF fs (placeN 3 (classN (0))) m).1 + 1)) 0))) := hL
      clear hL hb
      go_wp2
      go_ret
      refine ⟨v9, rfl, ?_, (HX.out.2.1.trans (B9.out.mono (Nat.le_of_lt HX.out.2.2.2)))⟩
      rw [HA.out, show changeB fs m M7 h (0) = addL (addL M7 fs m (placeN 3 (classN h)) (max (wrap64 ((readF fs (placeN 3 (classN (h))) m).1 + (-1))) 0)) fs m (placeN 3 (classN (0))) (max (wrap64 ((readF fs (placeN 3 (classN (0))) m).1 + 1)) 0) from if_neg HCL.out, HM8.out]
      exact L9.out
  · obtain rfl : v = nn := by rw [← HNN.out, if_neg hk3]
    clear hk3
    have N1 : Hid ((([], 0) : List Int × Nat).2 ≤ 0) := (Nat.le_refl _ : (([], 0) : List Int × Nat).2 ≤ 0)
    go_wp2_with fail
    refine (specRowAt_any k _).mono ?_
    rintro e wp ⟨rfl, hwp⟩
    rw [hwp]
    clear hwp
    go_wp2_with fail
    refine (l5Add_L (.slice (some ⟨W1.heap.size, 0, none⟩) 0 0) (([], 0)) pa m pc fs (placeN 1 k) (v) _ w.heap.size L1.out (HX.out.2.2.1.below B1.out (Nat.le_refl _)) (by have hle := N1.out; omega) (Nat.le_trans (Nat.le_of_lt HX.out.2.2.2) B1.out.size)).mono ?_
    rintro e w2 ⟨v2, rfl, hL, hb⟩
    have B2 : Hid (Below W1.heap.size W1 w2) := B1.out.trans (hb.mono B1.out.size)
    obtain ⟨M2, hM⟩ : ∃ M, addL (([], 0)) fs m (placeN 1 k) (v) = M := ⟨_, rfl⟩
    have HM2 : Hid (addL (([], 0)) fs m (placeN 1 k) (v) = M2) := hM
    rw [hM] at hL
    have L2 : Hid (ListE w.heap.size w2 v2 M2) := hL
    have N2 : Hid (M2.2 ≤ 1) := (by rw [← hM]; have hle := N1.out; have hl2 := addL_le (([], 0)) fs m (placeN 1 k) (v); omega : M2.2 ≤ 1)
    clear hL hb hM c0 c1 c2 L1
    obtain ⟨c0, c1, c2⟩ := CE.out B2.out
    go_wp2_with fail
    refine (specStateAt_any _).mono ?_
    rintro e wp ⟨rfl, hwp⟩
    rw [hwp]
    clear hwp
    go_wp2_with fail
    refine (l5Same_L v2 (M2) pa m pc fs 13 _ w.heap.size L2.out (HX.out.2.2.1.below B2.out (Nat.le_refl _)) (by have hle := N2.out; omega) (Nat.le_trans (Nat.le_of_lt HX.out.2.2.2) B2.out.size)).mono ?_
    rintro e w3 ⟨v3, rfl, hL, hb⟩
    have B3 : Hid (Below W1.heap.size W1 w3) := B2.out.trans (hb.mono B2.out.size)
    obtain ⟨M3, hM⟩ : ∃ M, addL (M2) fs m (13) ((readF fs 13 m).1) = M := ⟨_, rfl⟩
    have HM3 : Hid (addL (M2) fs m (13) ((readF fs 13 m).1) = M3) := hM
    rw [hM] at hL
    have L3 : Hid (ListE w.heap.size w3 v3 M3) := hL
    have N3 : Hid (M3.2 ≤ 2) := (by rw [← hM]; have hle := N2.out; have hl2 := addL_le (M2) fs m (13) ((readF fs 13 m).1); omega : M3.2 ≤ 2)
    clear hL hb hM c0 c1 c2 L2
    obtain ⟨c0, c1, c2⟩ := CE.out B3.out
    go_wp2_with fail
    refine (specOwnerAt_any h _).mono ?_
    rintro e wp ⟨rfl, hwp⟩
    rw [hwp]
    clear hwp
    go_wp2_with fail
    refine (l5Add_L v3 (M3) pa m pc fs (placeN 2 h) (0) _ w.heap.size L3.out (HX.out.2.2.1.below B3.out (Nat.le_refl _)) (by have hle := N3.out; omega) (Nat.le_trans (Nat.le_of_lt HX.out.2.2.2) B3.out.size)).mono ?_
    rintro e w4 ⟨v4, rfl, hL, hb⟩
    have B4 : Hid (Below W1.heap.size W1 w4) := B3.out.trans (hb.mono B3.out.size)
    obtain ⟨M4, hM⟩ : ∃ M, addL (M3) fs m (placeN 2 h) (0) = M := ⟨_, rfl⟩
    have HM4 : Hid (addL (M3) fs m (placeN 2 h) (0) = M4) := hM
    rw [hM] at hL
    have L4 : Hid (ListE w.heap.size w4 v4 M4) := hL
    have N4 : Hid (M4.2 ≤ 3) := (by rw [← hM]; have hle := N3.out; have hl2 := addL_le (M3) fs m (placeN 2 h) (0); omega : M4.2 ≤ 3)
    clear hL hb hM c0 c1 c2 L3
    obtain ⟨c0, c1, c2⟩ := CE.out B4.out
    go_wp2_with fail
    refine (specViaAt_any h _).mono ?_
    rintro e wp ⟨rfl, hwp⟩
    rw [hwp]
    clear hwp
    go_wp2_with fail
    refine (l5Add_L v4 (M4) pa m pc fs (placeN 5 h) (0) _ w.heap.size L4.out (HX.out.2.2.1.below B4.out (Nat.le_refl _)) (by have hle := N4.out; omega) (Nat.le_trans (Nat.le_of_lt HX.out.2.2.2) B4.out.size)).mono ?_
    rintro e w5 ⟨v5, rfl, hL, hb⟩
    have B5 : Hid (Below W1.heap.size W1 w5) := B4.out.trans (hb.mono B4.out.size)
    obtain ⟨M5, hM⟩ : ∃ M, addL (M4) fs m (placeN 5 h) (0) = M := ⟨_, rfl⟩
    have HM5 : Hid (addL (M4) fs m (placeN 5 h) (0) = M5) := hM
    rw [hM] at hL
    have L5 : Hid (ListE w.heap.size w5 v5 M5) := hL
    have N5 : Hid (M5.2 ≤ 4) := (by rw [← hM]; have hle := N4.out; have hl2 := addL_le (M4) fs m (placeN 5 h) (0); omega : M5.2 ≤ 4)
    clear hL hb hM c0 c1 c2 L4
    obtain ⟨c0, c1, c2⟩ := CE.out B5.out
    obtain ⟨wd5, hwd⟩ : ∃ wd, w5.drew = wd := ⟨_, rfl⟩
    have hdd : Below w5.heap.size w5 wd5 := by rw [← hwd]; exact (Below.refl _ _).drew
    have BD : Hid (Below W1.heap.size W1 wd5) := B5.out.trans (hdd.mono B5.out.size)
    have LD : Hid (ListE w.heap.size wd5 v5 (M5)) := L5.out.below hdd (Nat.le_refl _)
    have K0 : Hid (wd5.cell? ⟨w.heap.size, 1, none⟩ = some (.int .i64 k)) := (CE.out BD.out).2.1
    clear hdd
    go_wp2_with fail
    go_region_held3 (fun w' => w'.cell? ⟨w.heap.size, 1, none⟩ = some (.int .i64 k))
      (first | (with_reducible exact K1.out) | (with_reducible exact K0.out) | exact hwd ▸ K0.out | go_keep)
      (first
      | (go_at_call 61
         refine (specOwnerAt_any (v) _).mono ?_
         rintro e wp ⟨rfl, hwp⟩
         rw [hwp]
         clear hwp)
      | (go_at_call 34
         (try rw [WK.out])
         refine (l5Add_L v5 (M5) pa m pc fs (placeN 2 (v)) (k + 1) _ w.heap.size (by first | exact LD.out | exact hwd ▸ LD.out) (by first | exact HX.out.2.2.1.below BD.out (Nat.le_refl _) | exact hwd ▸ HX.out.2.2.1.below BD.out (Nat.le_refl _)) (by have hle := N5.out; omega) (by first | exact Nat.le_trans (Nat.le_of_lt HX.out.2.2.2) BD.out.size | exact hwd ▸ Nat.le_trans (Nat.le_of_lt HX.out.2.2.2) BD.out.size)).mono ?_
         rintro e w6 ⟨v6, rfl, hL, hb⟩
         have hb' : Below wd5.heap.size wd5 w6 := by first | exact hb | exact hwd ▸ hb
         have B6 : Hid (Below W1.heap.size W1 w6) := BD.out.trans (hb'.mono BD.out.size)
         obtain ⟨M6, hM⟩ : ∃ M, addL (M5) fs m (placeN 2 (v)) (k + 1) = M := ⟨_, rfl⟩
         have HM6 : Hid (addL (M5) fs m (placeN 2 (v)) (k + 1) = M6) := hM
         rw [hM] at hL
         have L6 : Hid (ListE w.heap.size w6 v6 M6) := hL
         have N6 : Hid (M6.2 ≤ 5) := (by rw [← hM]; have hle := N5.out; have hl2 := addL_le (M5) fs m (placeN 2 (v)) (k + 1); omega : M6.2 ≤ 5)
         have K1 : Hid (w6.cell? ⟨w.heap.size, 1, none⟩ = some (.int .i64 k)) := (CE.out B6.out).2.1
         clear hL hb hb' hM))
    clear c0 c1 c2 hwd BD LD K0 K1 L5
    obtain ⟨c0, c1, c2⟩ := CE.out B6.out
    obtain ⟨wd6, hwd⟩ : ∃ wd, w6.drew = wd := ⟨_, rfl⟩
    have hdd : Below w6.heap.size w6 wd6 := by rw [← hwd]; exact (Below.refl _ _).drew
    have BD : Hid (Below W1.heap.size W1 wd6) := B6.out.trans (hdd.mono B6.out.size)
    have LD : Hid (ListE w.heap.size wd6 v6 (M6)) := L6.out.below hdd (Nat.le_refl _)
    have K0 : Hid (wd6.cell? ⟨w.heap.size, 1, none⟩ = some (.int .i64 k)) := (CE.out BD.out).2.1
    clear hdd
    go_wp2_with fail
    go_region_held3 (fun w' => w'.cell? ⟨w.heap.size, 1, none⟩ = some (.int .i64 k))
      (first | (with_reducible exact K1.out) | (with_reducible exact K0.out) | exact hwd ▸ K0.out | go_keep)
      (first
      | (go_at_call 35
         refine (specViaAt_any (v) _).mono ?_
         rintro e wp ⟨rfl, hwp⟩
         rw [hwp]
         clear hwp)
      | (go_at_call 34
         (try rw [WK.out])
         refine (l5Add_L v6 (M6) pa m pc fs (placeN 5 (v)) (k + 1) _ w.heap.size (by first | exact LD.out | exact hwd ▸ LD.out) (by first | exact HX.out.2.2.1.below BD.out (Nat.le_refl _) | exact hwd ▸ HX.out.2.2.1.below BD.out (Nat.le_refl _)) (by have hle := N6.out; omega) (by first | exact Nat.le_trans (Nat.le_of_lt HX.out.2.2.2) BD.out.size | exact hwd ▸ Nat.le_trans (Nat.le_of_lt HX.out.2.2.2) BD.out.size)).mono ?_
         rintro e w7 ⟨v7, rfl, hL, hb⟩
         have hb' : Below wd6.heap.size wd6 w7 := by first | exact hb | exact hwd ▸ hb
         have B7 : Hid (Below W1.heap.size W1 w7) := BD.out.trans (hb'.mono BD.out.size)
         obtain ⟨M7, hM⟩ : ∃ M, addL (M6) fs m (placeN 5 (v)) (k + 1) = M := ⟨_, rfl⟩
         have HM7 : Hid (addL (M6) fs m (placeN 5 (v)) (k + 1) = M7) := hM
         rw [hM] at hL
         have L7 : Hid (ListE w.heap.size w7 v7 M7) := hL
         have N7 : Hid (M7.2 ≤ 6) := (by rw [← hM]; have hle := N6.out; have hl2 := addL_le (M6) fs m (placeN 5 (v)) (k + 1); omega : M7.2 ≤ 6)
         have K1 : Hid (w7.cell? ⟨w.heap.size, 1, none⟩ = some (.int .i64 k)) := (CE.out B7.out).2.1
         clear hL hb hb' hM))
    clear c0 c1 c2 hwd BD LD K0 K1 L6
    obtain ⟨c0, c1, c2⟩ := CE.out B7.out
    have HA : Hid (changeA fs m k h (v) = M7) := (by unfold changeA; rw [HM2.out, HM3.out, HM4.out, HM5.out, HM6.out, HM7.out] : changeA fs m k h (v) = M7)
    go_wp2_with fail
    refine (specClassOf_any h _).mono ?_
    rintro e wp ⟨rfl, hwp⟩
    rw [hwp]
    clear hwp
    go_wp2_with fail
    refine (specClassOf_any (v) _).mono ?_
    rintro e wp ⟨rfl, hwp⟩
    rw [hwp]
    clear hwp
    rcases neqI (classN h) (classN (v)) with ⟨hcl, hcb⟩ | ⟨hcl, hcb⟩
    · have HCL : Hid (classN h = classN (v)) := hcl
      clear hcl
      go_wp2
      go_ret
      refine ⟨v7, rfl, ?_, (HX.out.2.1.trans (B7.out.mono (Nat.le_of_lt HX.out.2.2.2)))⟩
      rw [HA.out, show changeB fs m M7 h (v) = M7 from if_pos HCL.out]
      exact L7.out
    · have HCL : Hid (¬ classN h = classN (v)) := hcl
      clear hcl
      go_wp2_with fail
      refine (l5More_L v7 M7 pa m pc fs h (-1) _ w.heap.size L7.out (HX.out.2.2.1.below B7.out (Nat.le_refl _)) (by have hle := N7.out; omega) (Nat.le_trans (Nat.le_of_lt HX.out.2.2.2) B7.out.size)).mono ?_
      rintro e w8 ⟨v8, rfl, hL, hb⟩
      have B8 : Hid (Below W1.heap.size W1 w8) := B7.out.trans (hb.mono B7.out.size)
      obtain ⟨M8, hM⟩ : ∃ M, addL M7 fs m (placeN 3 (classN h)) (max (wrap64 ((readF fs (placeN 3 (classN (h))) m).1 + (-1))) 0) = M := ⟨_, rfl⟩
      have HM8 : Hid (addL M7 fs m (placeN 3 (classN h)) (max (wrap64 ((readF fs (placeN 3 (classN (h))) m).1 + (-1))) 0) = M8) := hM
      rw [hM] at hL
      have L8 : Hid (ListE w.heap.size w8 v8 M8) := hL
      have N8 : Hid (M8.2 ≤ 7) := (by rw [← hM]; have hle := N7.out; have hl2 := addL_le M7 fs m (placeN 3 (classN h)) (max (wrap64 ((readF fs (placeN 3 (classN (h))) m).1 + (-1))) 0); omega : M8.2 ≤ 7)
      clear hL hb hM c0 c1 c2
      go_wp2_with fail
      refine (l5More_L v8 M8 pa m pc fs (v) 1 _ w.heap.size L8.out (HX.out.2.2.1.below B8.out (Nat.le_refl _)) (by have hle := N8.out; omega) (Nat.le_trans (Nat.le_of_lt HX.out.2.2.2) B8.out.size)).mono ?_
      rintro e w9 ⟨v9, rfl, hL, hb⟩
      have B9 : Hid (Below W1.heap.size W1 w9) := B8.out.trans (hb.mono B8.out.size)
      have L9 : Hid (ListE w.heap.size w9 v9 (addL M8 fs m (placeN 3 (classN (v))) (max (wrap64 ((readF fs (placeN 3 (classN (v))) m).1 + 1)) 0))) := hL
      clear hL hb
      go_wp2
      go_ret
      refine ⟨v9, rfl, ?_, (HX.out.2.1.trans (B9.out.mono (Nat.le_of_lt HX.out.2.2.2)))⟩
      rw [HA.out, show changeB fs m M7 h (v) = addL (addL M7 fs m (placeN 3 (classN h)) (max (wrap64 ((readF fs (placeN 3 (classN (h))) m).1 + (-1))) 0)) fs m (placeN 3 (classN (v))) (max (wrap64 ((readF fs (placeN 3 (classN (v))) m).1 + 1)) 0) from if_neg HCL.out, HM8.out]
      exact L9.out
theorem int_far {w : World} {a : Option Addr} {n : Nat} {xs : List Int} (h : IntAt w a n xs) {p : Addr} (hp : ∀ q, a = some q → q.block ≠ p.block) (u : Value) : IntAt (w.setCell p u) a n xs := by
  obtain ⟨h1, h2, h3 | ⟨b, o, e, g⟩⟩ := h
  · exact ⟨h1, h2, .inl h3⟩
  · refine ⟨h1, h2, .inr ⟨b, o, e, fun i hi => ?_⟩⟩
    rw [World.cell?_setCell_other _ _ _ _ (fun e' => hp _ e (by rw [e']))]
    exact g i hi
theorem ent_far {w : World} {a : Option Addr} {n : Nat} {gs : List Int} (h : EntAt w a n gs) {p : Addr} (hp : ∀ q, a = some q → q.block ≠ p.block) (u : Value) : EntAt (w.setCell p u) a n gs := by
  obtain ⟨h1, h2, h3 | ⟨b, o, e, g⟩⟩ := h
  · exact ⟨h1, h2, .inl h3⟩
  · refine ⟨h1, h2, .inr ⟨b, o, e, fun i hi => ?_⟩⟩
    rw [World.cell?_setCell_other _ _ _ _ (fun e' => hp _ e (by rw [e']))]
    exact g i hi

theorem plan_now (pa : Option Addr) (m pc : Nat) (fs : List Int) (kind k v : Int) (w : World) (hP : PairAt w pa m fs) (hg : OpGood kind k v) (hn : nextM fs m kind k v = -1) (hz : 0 ≤ (nowR fs m kind k v).1) :
    Calls Tryz.prog 8 #[OpV kind k v, .slice pa m pc] w fun e w' => (∃ a c, e = .returned (.tuple #[.agg #[.bool true, .int .i64 (nowR fs m kind k v).1, .slice a (nowR fs m kind k v).2.length c, .slice none 0 0], .bool true]) ∧ IntAt w' a (nowR fs m kind k v).2.length (nowR fs m kind k v).2) ∧ Below w.heap.size w w' := by
  have HP : Hid (PairAt w pa m fs) := hP
  have HG : Hid (OpGood kind k v) := hg
  have HN : Hid (nextM fs m kind k v = -1) := hn
  have HZ : Hid (0 ≤ (nowR fs m kind k v).1) := hz
  clear hz
  clear hP hg hn
  obtain ⟨W1, hW1⟩ : ∃ W1, (w.alloc (.cells #[.int .i64 kind, .int .i64 k, .int .i64 v] 28)).alloc (.cells #[.bool false, .int .i64 0, .slice none 0 0, .slice none 0 0] 36) = W1 := ⟨_, rfl⟩
  have b1 : Below w.heap.size w W1 := by rw [← hW1]; exact ((Below.refl _ _).alloc (Nat.le_refl _) _).alloc (by simp) _
  have x0 : W1.heap[w.heap.size]? = some (.cells #[.int .i64 kind, .int .i64 k, .int .i64 v] 28 (0, 0)) := by rw [← hW1]; exact (Below.heap_alloc _ _ _ (by simp)).trans (by show (w.heap.push _)[w.heap.size]? = _; simp)
  have x1 : W1.heap[w.heap.size + 1]? = some (.cells #[.bool false, .int .i64 0, .slice none 0 0, .slice none 0 0] 36 (0, 0)) := by rw [← hW1]; show ((w.heap.push _).push _)[w.heap.size + 1]? = _; rw [Array.getElem?_push]; simp
  have HX : Hid (Below w.heap.size w W1 ∧ W1.heap[w.heap.size]? = some (.cells #[.int .i64 kind, .int .i64 k, .int .i64 v] 28 (0, 0)) ∧ W1.heap[w.heap.size + 1]? = some (.cells #[.bool false, .int .i64 0, .slice none 0 0, .slice none 0 0] 36 (0, 0)) ∧ w.heap.size + 1 < W1.heap.size) := ⟨b1, x0, x1, (Array.getElem?_eq_some_iff.1 x1).1⟩
  have CE : Hid (∀ {w' : World}, Below W1.heap.size W1 w' → (w'.cell? ⟨w.heap.size, 0, none⟩ = some (.int .i64 kind) ∧ w'.cell? ⟨w.heap.size, 1, none⟩ = some (.int .i64 k) ∧ w'.cell? ⟨w.heap.size, 2, none⟩ = some (.int .i64 v)) ∧ w'.heap[w.heap.size + 1]? = some (.cells #[.bool false, .int .i64 0, .slice none 0 0, .slice none 0 0] 36 (0, 0))) := fun hb => by
    have h0 := (hb.block _ (Nat.lt_of_succ_lt HX.out.2.2.2)).trans HX.out.2.1
    exact ⟨⟨by simp [World.cell?, h0], by simp [World.cell?, h0], by simp [World.cell?, h0]⟩, (hb.block _ HX.out.2.2.2).trans HX.out.2.2.1⟩
  clear b1 x0 x1
  obtain ⟨c0, c1, c2⟩ := (CE.out (Below.refl _ W1)).1
  go_enter Tryz.func8, Tryz.ntmps8
  go_wp2_with fail
  refine (specOpOk_any kind k v _).mono ?_
  rintro e w1 ⟨rfl, hb⟩
  rw [decide_eq_true HG.out]
  have B1 : Hid (Below W1.heap.size W1 w1) := (by first | exact hb | exact hW1 ▸ hb)
  clear hb c0 c1 c2
  obtain ⟨⟨c0, c1, c2⟩, _⟩ := CE.out B1.out
  have LO : Hid (∀ {w' : World}, Below W1.heap.size W1 w' → Below w.heap.size w w') := fun hb => HX.out.1.trans (hb.mono (Nat.le_of_lt (Nat.lt_of_succ_lt HX.out.2.2.2)))
  go_wp2_with fail
  refine (specNext_any pa m pc kind k v fs _ (HP.out.below (LO.out B1.out) (Nat.le_refl _))).mono ?_
  rintro e w2 ⟨rfl, hb⟩
  rw [HN.out]
  have B2 : Hid (Below W1.heap.size W1 w2) := B1.out.trans (hb.mono B1.out.size)
  clear hb c0 c1 c2
  obtain ⟨⟨c0, c1, c2⟩, _⟩ := CE.out B2.out
  go_wp2_with fail
  refine (l5Now_any pa m pc fs kind k v _ (HP.out.below (LO.out B2.out) (Nat.le_refl _)) HG.out.1).mono ?_
  rintro e w3 ⟨⟨a, c, rfl, hI, hfr⟩, hb⟩
  rw [decide_eq_true HZ.out]
  have B3 : Hid (Below W1.heap.size W1 w3) := B2.out.trans (hb.mono B2.out.size)
  obtain ⟨⟨code, lst⟩, hR⟩ : ∃ R, nowR fs m kind k v = R := ⟨_, rfl⟩
  have HR : Hid (nowR fs m kind k v = (code, lst)) := hR
  rw [hR] at hI
  rw [hR]
  dsimp only at hI ⊢
  have HI : Hid (IntAt w3 a lst.length lst ∧ ∀ q, a = some q → w.heap.size + 1 < q.block) := ⟨hI, fun q e => by have h1 := hfr q e; have h2 := HX.out.2.2.2; have h3 := B2.out.size; omega⟩
  clear hb c0 c1 c2 hI hR hfr
  obtain ⟨W4, hW4⟩ : ∃ W4, w3.alloc (.cells #[.bool true, .int .i64 code, .slice a lst.length c, .slice none 0 0] 36) = W4 := ⟨_, rfl⟩
  have hb4 : Below w3.heap.size w3 W4 := by rw [← hW4]; exact (Below.refl _ _).alloc (Nat.le_refl _) _
  have y4 : W4.heap[w3.heap.size]? = some (.cells #[.bool true, .int .i64 code, .slice a lst.length c, .slice none 0 0] 36 (0, 0)) := by rw [← hW4]; show (w3.heap.push _)[w3.heap.size]? = _; simp
  have B4 : Hid (Below W1.heap.size W1 W4) := B3.out.trans (hb4.mono B3.out.size)
  have HI4 : Hid (IntAt W4 a lst.length lst) := HI.out.1.below hb4 (Nat.le_refl _)
  clear hb4
  obtain ⟨⟨c0, c1, c2⟩, x3⟩ := CE.out B4.out
  have s0 : W4.cell? ⟨w3.heap.size, 0, none⟩ = some (.bool true) := by simp [World.cell?, y4]
  have s1 : W4.cell? ⟨w3.heap.size, 1, none⟩ = some (.int .i64 code) := by simp [World.cell?, y4]
  have s2 : W4.cell? ⟨w3.heap.size, 2, none⟩ = some (.slice a lst.length c) := by simp [World.cell?, y4]
  have s3 : W4.cell? ⟨w3.heap.size, 3, none⟩ = some (.slice none 0 0) := by simp [World.cell?, y4]
  have p0 : W4.cell? ⟨w.heap.size + 1, 0, none⟩ = some (.bool false) := by simp [World.cell?, x3]
  have p1 : W4.cell? ⟨w.heap.size + 1, 1, none⟩ = some (.int .i64 0) := by simp [World.cell?, x3]
  have p2 : W4.cell? ⟨w.heap.size + 1, 2, none⟩ = some (.slice none 0 0) := by simp [World.cell?, x3]
  have p3 : W4.cell? ⟨w.heap.size + 1, 3, none⟩ = some (.slice none 0 0) := by simp [World.cell?, x3]
  have q0 : W4.frozen? ⟨w.heap.size + 1, 0, none⟩ = false := by simp [World.frozen?, x3]
  have q1 : W4.frozen? ⟨w.heap.size + 1, 1, none⟩ = false := by simp [World.frozen?, x3]
  have q2 : W4.frozen? ⟨w.heap.size + 1, 2, none⟩ = false := by simp [World.frozen?, x3]
  have q3 : W4.frozen? ⟨w.heap.size + 1, 3, none⟩ = false := by simp [World.frozen?, x3]
  clear x3 y4
  have hlo := LO.out B4.out
  have HLO : Hid (Below w.heap.size w W4) := hlo
  clear hlo
  subst hW4
  go_wp2
  (try simp only [Exit.inBlock, Exit.then])
  refine bodyPost_ret (by simp [results, Tryz.results8, go_sem, p0, p1, p2, p3]; try rfl) rfl ?_
  have hlo := HLO.out
  rw [HR.out]
  refine ⟨⟨a, c, rfl, ?_⟩, (((hlo.setCell (p := ⟨w.heap.size + 1, 0, none⟩) (by simp) _).setCell (p := ⟨w.heap.size + 1, 1, none⟩) (by simp) _).setCell (p := ⟨w.heap.size + 1, 2, none⟩) (by simp) _).setCell (p := ⟨w.heap.size + 1, 3, none⟩) (by simp) _⟩
  exact int_far (int_far (int_far (int_far HI4.out (fun q e => by have h1 := HI.out.2 q e; simp; omega) _) (fun q e => by have h1 := HI.out.2 q e; simp; omega) _) (fun q e => by have h1 := HI.out.2 q e; simp; omega) _) (fun q e => by have h1 := HI.out.2 q e; simp; omega) _
theorem plan_change (pa : Option Addr) (m pc : Nat) (fs : List Int) (kind k v : Int) (w : World) (hP : PairAt w pa m fs) (hg : OpGood kind k v) (hn : nextM fs m kind k v = -1) (hz : (nowR fs m kind k v).1 = -1 ∧ kind ≤ 3) :
    Calls Tryz.prog 8 #[OpV kind k v, .slice pa m pc] w fun e w' => (∃ v', e = .returned (.tuple #[.agg #[.bool false, .int .i64 0, .slice none 0 0, v'], .bool true]) ∧ ListE (w.heap.size + 1 + 1) w' v' (changeL fs m kind k v)) ∧ Below w.heap.size w w' := by
  have HP : Hid (PairAt w pa m fs) := hP
  have HG : Hid (OpGood kind k v) := hg
  have HN : Hid (nextM fs m kind k v = -1) := hn
  have HZ : Hid ((nowR fs m kind k v).1 = -1 ∧ kind ≤ 3) := hz
  clear hz
  clear hP hg hn
  obtain ⟨W1, hW1⟩ : ∃ W1, (w.alloc (.cells #[.int .i64 kind, .int .i64 k, .int .i64 v] 28)).alloc (.cells #[.bool false, .int .i64 0, .slice none 0 0, .slice none 0 0] 36) = W1 := ⟨_, rfl⟩
  have b1 : Below w.heap.size w W1 := by rw [← hW1]; exact ((Below.refl _ _).alloc (Nat.le_refl _) _).alloc (by simp) _
  have x0 : W1.heap[w.heap.size]? = some (.cells #[.int .i64 kind, .int .i64 k, .int .i64 v] 28 (0, 0)) := by rw [← hW1]; exact (Below.heap_alloc _ _ _ (by simp)).trans (by show (w.heap.push _)[w.heap.size]? = _; simp)
  have x1 : W1.heap[w.heap.size + 1]? = some (.cells #[.bool false, .int .i64 0, .slice none 0 0, .slice none 0 0] 36 (0, 0)) := by rw [← hW1]; show ((w.heap.push _).push _)[w.heap.size + 1]? = _; rw [Array.getElem?_push]; simp
  have HX : Hid (Below w.heap.size w W1 ∧ W1.heap[w.heap.size]? = some (.cells #[.int .i64 kind, .int .i64 k, .int .i64 v] 28 (0, 0)) ∧ W1.heap[w.heap.size + 1]? = some (.cells #[.bool false, .int .i64 0, .slice none 0 0, .slice none 0 0] 36 (0, 0)) ∧ w.heap.size + 1 < W1.heap.size) := ⟨b1, x0, x1, (Array.getElem?_eq_some_iff.1 x1).1⟩
  have CE : Hid (∀ {w' : World}, Below W1.heap.size W1 w' → (w'.cell? ⟨w.heap.size, 0, none⟩ = some (.int .i64 kind) ∧ w'.cell? ⟨w.heap.size, 1, none⟩ = some (.int .i64 k) ∧ w'.cell? ⟨w.heap.size, 2, none⟩ = some (.int .i64 v)) ∧ w'.heap[w.heap.size + 1]? = some (.cells #[.bool false, .int .i64 0, .slice none 0 0, .slice none 0 0] 36 (0, 0))) := fun hb => by
    have h0 := (hb.block _ (Nat.lt_of_succ_lt HX.out.2.2.2)).trans HX.out.2.1
    exact ⟨⟨by simp [World.cell?, h0], by simp [World.cell?, h0], by simp [World.cell?, h0]⟩, (hb.block _ HX.out.2.2.2).trans HX.out.2.2.1⟩
  clear b1 x0 x1
  obtain ⟨c0, c1, c2⟩ := (CE.out (Below.refl _ W1)).1
  go_enter Tryz.func8, Tryz.ntmps8
  go_wp2_with fail
  refine (specOpOk_any kind k v _).mono ?_
  rintro e w1 ⟨rfl, hb⟩
  rw [decide_eq_true HG.out]
  have B1 : Hid (Below W1.heap.size W1 w1) := (by first | exact hb | exact hW1 ▸ hb)
  clear hb c0 c1 c2
  obtain ⟨⟨c0, c1, c2⟩, _⟩ := CE.out B1.out
  have LO : Hid (∀ {w' : World}, Below W1.heap.size W1 w' → Below w.heap.size w w') := fun hb => HX.out.1.trans (hb.mono (Nat.le_of_lt (Nat.lt_of_succ_lt HX.out.2.2.2)))
  go_wp2_with fail
  refine (specNext_any pa m pc kind k v fs _ (HP.out.below (LO.out B1.out) (Nat.le_refl _))).mono ?_
  rintro e w2 ⟨rfl, hb⟩
  rw [HN.out]
  have B2 : Hid (Below W1.heap.size W1 w2) := B1.out.trans (hb.mono B1.out.size)
  clear hb c0 c1 c2
  obtain ⟨⟨c0, c1, c2⟩, _⟩ := CE.out B2.out
  go_wp2_with fail
  refine (l5Now_any pa m pc fs kind k v _ (HP.out.below (LO.out B2.out) (Nat.le_refl _)) HG.out.1).mono ?_
  rintro e w3 ⟨⟨a, c, rfl, hI, hfr⟩, hb⟩
  rw [show decide (0 ≤ (nowR fs m kind k v).1) = false by rw [HZ.out.1]; rfl]
  have B3 : Hid (Below W1.heap.size W1 w3) := B2.out.trans (hb.mono B2.out.size)
  obtain ⟨⟨code, lst⟩, hR⟩ : ∃ R, nowR fs m kind k v = R := ⟨_, rfl⟩
  have HR : Hid (nowR fs m kind k v = (code, lst)) := hR
  rw [hR] at hI
  rw [hR]
  dsimp only at hI ⊢
  have HI : Hid (IntAt w3 a lst.length lst ∧ ∀ q, a = some q → w.heap.size + 1 < q.block) := ⟨hI, fun q e => by have h1 := hfr q e; have h2 := HX.out.2.2.2; have h3 := B2.out.size; omega⟩
  clear hb c0 c1 c2 hI hR hfr
  obtain ⟨W4, hW4⟩ : ∃ W4, w3.alloc (.cells #[.bool true, .int .i64 code, .slice a lst.length c, .slice none 0 0] 36) = W4 := ⟨_, rfl⟩
  have hb4 : Below w3.heap.size w3 W4 := by rw [← hW4]; exact (Below.refl _ _).alloc (Nat.le_refl _) _
  have y4 : W4.heap[w3.heap.size]? = some (.cells #[.bool true, .int .i64 code, .slice a lst.length c, .slice none 0 0] 36 (0, 0)) := by rw [← hW4]; show (w3.heap.push _)[w3.heap.size]? = _; simp
  have B4 : Hid (Below W1.heap.size W1 W4) := B3.out.trans (hb4.mono B3.out.size)
  have HI4 : Hid (IntAt W4 a lst.length lst) := HI.out.1.below hb4 (Nat.le_refl _)
  clear hb4
  obtain ⟨⟨c0, c1, c2⟩, x3⟩ := CE.out B4.out
  have s0 : W4.cell? ⟨w3.heap.size, 0, none⟩ = some (.bool true) := by simp [World.cell?, y4]
  have s1 : W4.cell? ⟨w3.heap.size, 1, none⟩ = some (.int .i64 code) := by simp [World.cell?, y4]
  have s2 : W4.cell? ⟨w3.heap.size, 2, none⟩ = some (.slice a lst.length c) := by simp [World.cell?, y4]
  have s3 : W4.cell? ⟨w3.heap.size, 3, none⟩ = some (.slice none 0 0) := by simp [World.cell?, y4]
  have p0 : W4.cell? ⟨w.heap.size + 1, 0, none⟩ = some (.bool false) := by simp [World.cell?, x3]
  have p1 : W4.cell? ⟨w.heap.size + 1, 1, none⟩ = some (.int .i64 0) := by simp [World.cell?, x3]
  have p2 : W4.cell? ⟨w.heap.size + 1, 2, none⟩ = some (.slice none 0 0) := by simp [World.cell?, x3]
  have p3 : W4.cell? ⟨w.heap.size + 1, 3, none⟩ = some (.slice none 0 0) := by simp [World.cell?, x3]
  have q0 : W4.frozen? ⟨w.heap.size + 1, 0, none⟩ = false := by simp [World.frozen?, x3]
  have q1 : W4.frozen? ⟨w.heap.size + 1, 1, none⟩ = false := by simp [World.frozen?, x3]
  have q2 : W4.frozen? ⟨w.heap.size + 1, 2, none⟩ = false := by simp [World.frozen?, x3]
  have q3 : W4.frozen? ⟨w.heap.size + 1, 3, none⟩ = false := by simp [World.frozen?, x3]
  clear x3 y4
  have hlo := LO.out B4.out
  have HLO : Hid (Below w.heap.size w W4) := hlo
  clear hlo
  subst hW4
  obtain ⟨W5, hW5⟩ : ∃ W5, (w3.alloc (.cells #[.bool true, .int .i64 code, .slice a lst.length c, .slice none 0 0] 36)).alloc (.cells #[.bool false, .int .i64 0, .slice none 0 0, .slice none 0 0] 36) = W5 := ⟨_, rfl⟩
  have hb5 : Below (w3.alloc (.cells #[.bool true, .int .i64 code, .slice a lst.length c, .slice none 0 0] 36)).heap.size (w3.alloc (.cells #[.bool true, .int .i64 code, .slice a lst.length c, .slice none 0 0] 36)) W5 := by rw [← hW5]; exact (Below.refl _ _).alloc (Nat.le_refl _) _
  have y5 : W5.heap[w3.heap.size + 1]? = some (.cells #[.bool false, .int .i64 0, .slice none 0 0, .slice none 0 0] 36 (0, 0)) := by rw [← hW5]; show ((w3.heap.push _).push _)[w3.heap.size + 1]? = _; rw [Array.getElem?_push]; simp
  have B5 : Hid (Below W1.heap.size W1 W5) := B4.out.trans (hb5.mono B4.out.size)
  have Y5 : Hid (W5.heap[w3.heap.size + 1]? = some (.cells #[.bool false, .int .i64 0, .slice none 0 0, .slice none 0 0] 36 (0, 0)) ∧ w.heap.size + 1 < w3.heap.size + 1) := ⟨y5, by have h1 := HX.out.2.2.2; have h2 := B3.out.size; omega⟩
  clear hb5 y5 s0 s1 s2 s3 p0 p1 p2 p3 q0 q1 q2 q3 c0 c1 c2
  obtain ⟨⟨c0, c1, c2⟩, _⟩ := CE.out B5.out
  subst hW5
  go_wp2_with fail
  refine (specStateAt_any _).mono ?_
  rintro e wp ⟨rfl, hwp⟩
  rw [hwp]
  clear hwp
  go_wp2_with fail
  refine (specRead_any pa m pc 13 fs _ (HP.out.below (LO.out B5.out) (Nat.le_refl _))).mono ?_
  rintro e w6 ⟨rfl, hb⟩
  have hb' := hb
  have B6 : Hid (Below W1.heap.size W1 w6) := B5.out.trans (hb'.mono B5.out.size)
  have Y6 : Hid (w6.heap[w3.heap.size + 1]? = some (.cells #[.bool false, .int .i64 0, .slice none 0 0, .slice none 0 0] 36 (0, 0))) := (hb'.block _ (Array.getElem?_eq_some_iff.1 Y5.out.1).1).trans Y5.out.1
  clear hb hb' c0 c1 c2
  obtain ⟨⟨st, sb⟩, hst⟩ : ∃ x, readF fs 13 m = x := ⟨_, rfl⟩
  rw [hst]
  clear hst
  obtain ⟨⟨c0, c1, c2⟩, _⟩ := CE.out B6.out
  have k7 : (kind == 7) = false := by have := HZ.out.2; simp; omega
  have k8 : (kind == 8) = false := by have := HZ.out.2; simp; omega
  have k9 : (kind == 9) = false := by have := HZ.out.2; simp; omega
  have k10 : (kind == 10) = false := by have := HZ.out.2; simp; omega
  go_wp2_with fail
  refine (l5Change_any pa m pc fs kind k v _ (HP.out.below (LO.out B6.out) (Nat.le_refl _)) (by have h1 := HG.out; have h2 := HZ.out.2; unfold OpGood KeyGood at h1; omega)).mono ?_
  rintro e w7 ⟨v7, rfl, hL, hb⟩
  obtain ⟨a7, c7, rfl, g1, g2, g3, g4⟩ := hL
  obtain ⟨⟨es, en⟩, hes⟩ : ∃ x, changeL fs m kind k v = x := ⟨_, rfl⟩
  have HES : Hid (changeL fs m kind k v = (es, en)) := hes
  rw [hes] at g1 g3
  rw [hes]
  dsimp only at g1 g3 ⊢
  have B7 : Hid (Below W1.heap.size W1 w7) := B6.out.trans (hb.mono B6.out.size)
  have Y7 : Hid (w7.heap[w3.heap.size + 1]? = some (.cells #[.bool false, .int .i64 0, .slice none 0 0, .slice none 0 0] 36 (0, 0))) := (hb.block _ (Array.getElem?_eq_some_iff.1 Y6.out).1).trans Y6.out
  have G7 : Hid (EntAt w7 a7 en es ∧ (a7 = none → c7 = 0) ∧ en ≤ c7 ∧ ∀ q, a7 = some q → w.heap.size + 1 < q.block ∧ q.block ≠ w3.heap.size + 1) := ⟨g1, g2, g3, fun q e => by have h1 := g4 q e; have h2 := (Array.getElem?_eq_some_iff.1 Y6.out).1; have h3 := Y5.out.2; omega⟩
  clear hb c0 c1 c2 g1 g2 g3 g4 hes k7 k8 k9 k10
  have y7 := Y7.out
  have x7 := (CE.out B7.out).2
  have t0 : w7.cell? ⟨w3.heap.size + 1, 0, none⟩ = some (.bool false) := by simp [World.cell?, y7]
  have t1 : w7.cell? ⟨w3.heap.size + 1, 1, none⟩ = some (.int .i64 0) := by simp [World.cell?, y7]
  have t2 : w7.cell? ⟨w3.heap.size + 1, 2, none⟩ = some (.slice none 0 0) := by simp [World.cell?, y7]
  have t3 : w7.cell? ⟨w3.heap.size + 1, 3, none⟩ = some (.slice none 0 0) := by simp [World.cell?, y7]
  have u3 : w7.frozen? ⟨w3.heap.size + 1, 3, none⟩ = false := by simp [World.frozen?, y7]
  have p0 : w7.cell? ⟨w.heap.size + 1, 0, none⟩ = some (.bool false) := by simp [World.cell?, x7]
  have p1 : w7.cell? ⟨w.heap.size + 1, 1, none⟩ = some (.int .i64 0) := by simp [World.cell?, x7]
  have p2 : w7.cell? ⟨w.heap.size + 1, 2, none⟩ = some (.slice none 0 0) := by simp [World.cell?, x7]
  have p3 : w7.cell? ⟨w.heap.size + 1, 3, none⟩ = some (.slice none 0 0) := by simp [World.cell?, x7]
  have q0 : w7.frozen? ⟨w.heap.size + 1, 0, none⟩ = false := by simp [World.frozen?, x7]
  have q1 : w7.frozen? ⟨w.heap.size + 1, 1, none⟩ = false := by simp [World.frozen?, x7]
  have q2 : w7.frozen? ⟨w.heap.size + 1, 2, none⟩ = false := by simp [World.frozen?, x7]
  have q3 : w7.frozen? ⟨w.heap.size + 1, 3, none⟩ = false := by simp [World.frozen?, x7]
  have hne : w.heap.size + 1 ≠ w3.heap.size + 1 := by have := Y5.out.2; omega
  have hne' : w3.heap.size ≠ w.heap.size := by have := Y5.out.2; omega
  clear y7 x7
  go_wp2
  (try simp only [Exit.inBlock, Exit.then])
  refine bodyPost_ret (by simp [results, Tryz.results8, go_sem, p0, p1, p2, p3]; try rfl) rfl ?_
  have hlo := LO.out B7.out
  have hy := Y5.out.2
  rw [HES.out]
  refine ⟨⟨_, rfl, a7, c7, rfl, ?_, G7.out.2.1, G7.out.2.2.1, fun q e => by have h1 := (G7.out.2.2.2 q e).1; omega⟩, ((((hlo.setCell (p := ⟨w3.heap.size + 1, 3, none⟩) (by simp; omega) _).setCell (p := ⟨w.heap.size + 1, 0, none⟩) (by simp) _).setCell (p := ⟨w.heap.size + 1, 1, none⟩) (by simp) _).setCell (p := ⟨w.heap.size + 1, 2, none⟩) (by simp) _).setCell (p := ⟨w.heap.size + 1, 3, none⟩) (by simp) _⟩
  have far : ∀ q, a7 = some q → q.block ≠ w.heap.size + 1 := fun q e => by have h1 := (G7.out.2.2.2 q e).1; omega
  exact ent_far (ent_far (ent_far (ent_far (ent_far G7.out.1 (p := ⟨w3.heap.size + 1, 3, none⟩) (fun q e => (G7.out.2.2.2 q e).2) _) (p := ⟨w.heap.size + 1, 0, none⟩) far _) (p := ⟨w.heap.size + 1, 1, none⟩) far _) (p := ⟨w.heap.size + 1, 2, none⟩) far _) (p := ⟨w.heap.size + 1, 3, none⟩) far _
end
end Go.Proofs.YtenlapppaimkkabGreatDoor
