/- Texts joined: SpecNext2. -/
import Derived.Test.YtenlapppaimkkabGreatDoorPL13
import Derived.Deep.RegionHeld3
set_option maxHeartbeats 2000000
set_option maxRecDepth 100000
namespace Go.Proofs.YtenlapppaimkkabGreatDoor
section
open Go.ChangeShapes Go.WideShapes Go.ChangeAt Go.RowKit
theorem nebN (a b : Int) : (a = b ∧ (a != b) = false) ∨ (¬ a = b ∧ (a != b) = true) := by
  by_cases h : a = b
  · exact .inl ⟨h, by simp [h]⟩
  · exact .inr ⟨h, by simp [h]⟩
theorem ifM_ne (s : Work) (x : Int) : (s.1, s.2 || (x != 0)) = ifM s (x ≠ 0) := by
  unfold ifM
  rw [show (x != 0) = decide (x ≠ 0) by by_cases h : x = 0 <;> simp [h]]

theorem l5Put_any (b : Nat) (a : Option Addr) (n c : Nat) (kind k v : Int) (fs : List Int) (w : World) (hq : ∀ q, a = some q → n ≠ 0 → q.block ≠ b) (hW : WBox w b a n c (-1, false)) (hP : PairAt w a n fs) (hk : 0 ≤ k ∧ k ≤ 3) :
    Calls Tryz.prog 92 #[.pointer (some ⟨b, 0, none⟩), OpV kind k v] w fun e w' => e = .returned (.tuple #[]) ∧ WBox w' b a n c (putM fs n k v) ∧ w.grownBy w' (some b) := by
  have HQ : Hid (∀ q, a = some q → n ≠ 0 → q.block ≠ b) := hq
  have hbl : b < w.heap.size := hW.facts.2.2.2.2.2
  have hbn : w.heap.size ≠ b := by omega
  have hbA : Below w.heap.size w (w.alloc (.cells #[.int .i64 kind, .int .i64 k, .int .i64 v] 28)) := (Below.refl _ w).alloc (Nat.le_refl _) _
  obtain ⟨W0, hW0⟩ : ∃ W0, W0 = w.alloc (.cells #[.int .i64 kind, .int .i64 k, .int .i64 v] 28) := ⟨_, rfl⟩
  have HF0 : Hid (w.grownBy W0 (some b)) := by rw [hW0]; exact World.grownBy_alloc _ _ _
  have HS0 : Hid (NextSt W0 b a n c fs W0 (-1, false)) := by rw [hW0]; exact ⟨hW.bel hbA, hP.below hbA (Nat.le_refl _), World.grownBy.refl _ _⟩
  have o0 : W0.cell? ⟨w.heap.size, 0, none⟩ = some (.int .i64 kind) := by rw [hW0]; simp
  have o1 : W0.cell? ⟨w.heap.size, 1, none⟩ = some (.int .i64 k) := by rw [hW0]; simp
  have o2 : W0.cell? ⟨w.heap.size, 2, none⟩ = some (.int .i64 v) := by rw [hW0]; simp
  have O0 : Hid (W0.cell? ⟨w.heap.size, 0, none⟩ = some (.int .i64 kind)) := o0
  have O1 : Hid (W0.cell? ⟨w.heap.size, 1, none⟩ = some (.int .i64 k)) := o1
  have O2 : Hid (W0.cell? ⟨w.heap.size, 2, none⟩ = some (.int .i64 v)) := o2
  clear hW hP hq hbA
  go_enter Tryz.func92, Tryz.ntmps92
  go_wp2_with fail
  rw [← hW0]
  clear hW0
  refine (specRowAt_any k _).mono ?_
  rintro e wp ⟨rfl, hwp⟩
  rw [hwp]
  clear hwp
  go_wp2_with fail
  refine (l5Know_any b a n c ((-1, false)) (placeN 1 k) fs _ HS0.out.box HS0.out.ps).mono ?_
  rintro e w1 ⟨rfl, hW, hf⟩
  obtain ⟨r1, hr1⟩ : ∃ r, knowM fs n ((-1, false)) (placeN 1 k) = r := ⟨_, rfl⟩
  rw [hr1] at hW
  rw [hr1]
  have HR1 : Hid (knowM fs n ((-1, false)) (placeN 1 k) = r1) := hr1
  have HS1 : Hid (NextSt W0 b a n c fs w1 r1.1) := HS0.out.know HQ.out hW hf
  clear hW hf hr1
  clear o0 o1 o2
  have o0 : _ = some (Value.int .i64 kind) := far_cell HS1.out.far (g := w.heap.size) (o := 0) O0.out hbn
  have o1 : _ = some (Value.int .i64 k) := far_cell HS1.out.far (g := w.heap.size) (o := 1) O1.out hbn
  have o2 : _ = some (Value.int .i64 v) := far_cell HS1.out.far (g := w.heap.size) (o := 2) O2.out hbn
  go_wp2_with fail
  refine (l5If_any b a n c (r1.1) (r1.2 != 0) _ HS1.out.box).mono ?_
  rintro e w2 ⟨rfl, hW, hf⟩
  rw [ifM_ne] at hW
  have HS2 : Hid (NextSt W0 b a n c fs w2 (ifM (r1.1) (r1.2 ≠ 0))) := HS1.out.know HQ.out hW hf
  clear hW hf
  clear o0 o1 o2
  have o0 : _ = some (Value.int .i64 kind) := far_cell HS2.out.far (g := w.heap.size) (o := 0) O0.out hbn
  have o1 : _ = some (Value.int .i64 k) := far_cell HS2.out.far (g := w.heap.size) (o := 1) O1.out hbn
  have o2 : _ = some (Value.int .i64 v) := far_cell HS2.out.far (g := w.heap.size) (o := 2) O2.out hbn
  go_wp2_with fail
  refine (specOwnerAt_any v _).mono ?_
  rintro e wp ⟨rfl, hwp⟩
  rw [hwp]
  clear hwp
  go_wp2_with fail
  refine (l5Know_any b a n c (ifM r1.1 (r1.2 ≠ 0)) (placeN 2 v) fs _ HS2.out.box HS2.out.ps).mono ?_
  rintro e w3 ⟨rfl, hW, hf⟩
  obtain ⟨r3, hr3⟩ : ∃ r, knowM fs n (ifM r1.1 (r1.2 ≠ 0)) (placeN 2 v) = r := ⟨_, rfl⟩
  rw [hr3] at hW
  rw [hr3]
  have HR3 : Hid (knowM fs n (ifM r1.1 (r1.2 ≠ 0)) (placeN 2 v) = r3) := hr3
  have HS3 : Hid (NextSt W0 b a n c fs w3 r3.1) := HS2.out.know HQ.out hW hf
  clear hW hf hr3
  clear o0 o1 o2
  have o0 : _ = some (Value.int .i64 kind) := far_cell HS3.out.far (g := w.heap.size) (o := 0) O0.out hbn
  have o1 : _ = some (Value.int .i64 k) := far_cell HS3.out.far (g := w.heap.size) (o := 1) O1.out hbn
  have o2 : _ = some (Value.int .i64 v) := far_cell HS3.out.far (g := w.heap.size) (o := 2) O2.out hbn
  go_wp2_with fail
  refine (l5If_any b a n c (r3.1) (r3.2 != 0) _ HS3.out.box).mono ?_
  rintro e w4 ⟨rfl, hW, hf⟩
  rw [ifM_ne] at hW
  have HS4 : Hid (NextSt W0 b a n c fs w4 (ifM (r3.1) (r3.2 ≠ 0))) := HS3.out.know HQ.out hW hf
  clear hW hf
  clear o0 o1 o2
  have o0 : _ = some (Value.int .i64 kind) := far_cell HS4.out.far (g := w.heap.size) (o := 0) O0.out hbn
  have o1 : _ = some (Value.int .i64 k) := far_cell HS4.out.far (g := w.heap.size) (o := 1) O1.out hbn
  have o2 : _ = some (Value.int .i64 v) := far_cell HS4.out.far (g := w.heap.size) (o := 2) O2.out hbn
  go_wp2_with fail
  refine (specClassOf_any v _).mono ?_
  rintro e wp ⟨rfl, hwp⟩
  rw [hwp]
  clear hwp
  go_wp2_with fail
  refine (specCountAt_any (classN v) _).mono ?_
  rintro e wp ⟨rfl, hwp⟩
  rw [hwp]
  clear hwp
  go_wp2_with fail
  refine (l5Know_any b a n c (ifM r3.1 (r3.2 ≠ 0)) (placeN 3 (classN v)) fs _ HS4.out.box HS4.out.ps).mono ?_
  rintro e w5 ⟨rfl, hW, hf⟩
  obtain ⟨r5, hr5⟩ : ∃ r, knowM fs n (ifM r3.1 (r3.2 ≠ 0)) (placeN 3 (classN v)) = r := ⟨_, rfl⟩
  rw [hr5] at hW
  rw [hr5]
  have HR5 : Hid (knowM fs n (ifM r3.1 (r3.2 ≠ 0)) (placeN 3 (classN v)) = r5) := hr5
  have HS5 : Hid (NextSt W0 b a n c fs w5 r5.1) := HS4.out.know HQ.out hW hf
  clear hW hf hr5
  clear o0 o1 o2
  have o0 : _ = some (Value.int .i64 kind) := far_cell HS5.out.far (g := w.heap.size) (o := 0) O0.out hbn
  have o1 : _ = some (Value.int .i64 k) := far_cell HS5.out.far (g := w.heap.size) (o := 1) O1.out hbn
  have o2 : _ = some (Value.int .i64 v) := far_cell HS5.out.far (g := w.heap.size) (o := 2) O2.out hbn
  go_wp2_with fail
  have hbv : Below w5.heap.size w5 (w5.alloc (.cells #[.int .i64 v] 3)) := (Below.refl _ _).alloc (Nat.le_refl _) _
  have HSv : Hid (NextSt W0 b a n c fs (w5.alloc (.cells #[.int .i64 v] 3)) (r5.1)) := ⟨HS5.out.box.bel hbv, HS5.out.ps.below hbv (Nat.le_refl _), HS5.out.far.trans (World.grownBy_alloc _ _ _)⟩
  have hgb : w5.heap.size ≠ b := by have h := HS5.out.box.facts.2.2.2.2.2; omega
  have hvl : IntAt (w5.alloc (.cells #[.int .i64 v] 3)) (some ⟨w5.heap.size, 0, none⟩) 1 [v] := ⟨rfl, by omega, .inr ⟨w5.heap.size, 0, rfl, fun i hi => by rcases i with _ | _ | i <;> first | (simp; done) | omega⟩⟩
  refine (l5Via_any b a n c (r5.1) k w5.heap.size [v] 1 fs _ HQ.out HSv.out.box HSv.out.ps hk hgb (by omega) hvl).mono ?_
  rintro e wv ⟨rfl, hWv, hfv⟩
  have HWv : Hid (WBox wv b a n c (viaM fs n (r5.1) k [v])) := hWv
  have HFv : Hid (w.grownBy wv (some b)) := (HF0.out.trans HSv.out.far).trans hfv
  clear hWv hfv hvl hbv
  go_wp2
  go_end0
  rw [show putM fs n k v = viaM fs n r5.1 k [v] by unfold putM; simp only [HR1.out, HR3.out, HR5.out]]
  exact ⟨rfl, HWv.out, HFv.out⟩

theorem l5Del_any (b : Nat) (a : Option Addr) (n c : Nat) (kind k v : Int) (fs : List Int) (w : World) (hq : ∀ q, a = some q → n ≠ 0 → q.block ≠ b) (hW : WBox w b a n c (-1, false)) (hP : PairAt w a n fs) (hk : 0 ≤ k ∧ k ≤ 3) :
    Calls Tryz.prog 94 #[.pointer (some ⟨b, 0, none⟩), OpV kind k v] w fun e w' => e = .returned (.tuple #[]) ∧ WBox w' b a n c (delM fs n k) ∧ w.grownBy w' (some b) := by
  have HQ : Hid (∀ q, a = some q → n ≠ 0 → q.block ≠ b) := hq
  have hbl : b < w.heap.size := hW.facts.2.2.2.2.2
  have hbn : w.heap.size ≠ b := by omega
  have hbA : Below w.heap.size w (w.alloc (.cells #[.int .i64 kind, .int .i64 k, .int .i64 v] 28)) := (Below.refl _ w).alloc (Nat.le_refl _) _
  obtain ⟨W0, hW0⟩ : ∃ W0, W0 = w.alloc (.cells #[.int .i64 kind, .int .i64 k, .int .i64 v] 28) := ⟨_, rfl⟩
  have HF0 : Hid (w.grownBy W0 (some b)) := by rw [hW0]; exact World.grownBy_alloc _ _ _
  have HS0 : Hid (NextSt W0 b a n c fs W0 (-1, false)) := by rw [hW0]; exact ⟨hW.bel hbA, hP.below hbA (Nat.le_refl _), World.grownBy.refl _ _⟩
  have o0 : W0.cell? ⟨w.heap.size, 0, none⟩ = some (.int .i64 kind) := by rw [hW0]; simp
  have o1 : W0.cell? ⟨w.heap.size, 1, none⟩ = some (.int .i64 k) := by rw [hW0]; simp
  have o2 : W0.cell? ⟨w.heap.size, 2, none⟩ = some (.int .i64 v) := by rw [hW0]; simp
  have O0 : Hid (W0.cell? ⟨w.heap.size, 0, none⟩ = some (.int .i64 kind)) := o0
  have O1 : Hid (W0.cell? ⟨w.heap.size, 1, none⟩ = some (.int .i64 k)) := o1
  have O2 : Hid (W0.cell? ⟨w.heap.size, 2, none⟩ = some (.int .i64 v)) := o2
  clear hW hP hq hbA
  go_enter Tryz.func94, Tryz.ntmps94
  go_wp2_with fail
  rw [← hW0]
  clear hW0
  refine (specRowAt_any k _).mono ?_
  rintro e wp ⟨rfl, hwp⟩
  rw [hwp]
  clear hwp
  go_wp2_with fail
  refine (l5Know_any b a n c ((-1, false)) (placeN 1 k) fs _ HS0.out.box HS0.out.ps).mono ?_
  rintro e w1 ⟨rfl, hW, hf⟩
  obtain ⟨r1, hr1⟩ : ∃ r, knowM fs n ((-1, false)) (placeN 1 k) = r := ⟨_, rfl⟩
  rw [hr1] at hW
  rw [hr1]
  have HR1 : Hid (knowM fs n ((-1, false)) (placeN 1 k) = r1) := hr1
  have HS1 : Hid (NextSt W0 b a n c fs w1 r1.1) := HS0.out.know HQ.out hW hf
  clear hW hf hr1
  clear o0 o1 o2
  have o0 : _ = some (Value.int .i64 kind) := far_cell HS1.out.far (g := w.heap.size) (o := 0) O0.out hbn
  have o1 : _ = some (Value.int .i64 k) := far_cell HS1.out.far (g := w.heap.size) (o := 1) O1.out hbn
  have o2 : _ = some (Value.int .i64 v) := far_cell HS1.out.far (g := w.heap.size) (o := 2) O2.out hbn
  have hz : (r1.2 == 0) = decide (r1.2 = 0) := by by_cases h : r1.2 = 0 <;> simp [h]
  have HZ : Hid ((r1.2 == 0) = decide (r1.2 = 0)) := hz
  clear hz
  go_wp2_with fail
  refine (l5If_any b a n c r1.1 (r1.2 == 0) _ HS1.out.box).mono ?_
  rintro e w2 ⟨rfl, hW, hf⟩
  rw [HZ.out] at hW
  have HS2 : Hid (NextSt W0 b a n c fs w2 (ifM r1.1 (r1.2 = 0))) := HS1.out.know HQ.out hW hf
  clear hW hf
  clear o0 o1 o2
  have o0 : _ = some (Value.int .i64 kind) := far_cell HS2.out.far (g := w.heap.size) (o := 0) O0.out hbn
  have o1 : _ = some (Value.int .i64 k) := far_cell HS2.out.far (g := w.heap.size) (o := 1) O1.out hbn
  have o2 : _ = some (Value.int .i64 v) := far_cell HS2.out.far (g := w.heap.size) (o := 2) O2.out hbn
  go_wp2_with fail
  refine (specOwnerAt_any r1.2 _).mono ?_
  rintro e wp ⟨rfl, hwp⟩
  rw [hwp]
  clear hwp
  go_wp2_with fail
  refine (l5Know_any b a n c (ifM r1.1 (r1.2 = 0)) (placeN 2 r1.2) fs _ HS2.out.box HS2.out.ps).mono ?_
  rintro e w3 ⟨rfl, hW, hf⟩
  obtain ⟨r3, hr3⟩ : ∃ r, knowM fs n (ifM r1.1 (r1.2 = 0)) (placeN 2 r1.2) = r := ⟨_, rfl⟩
  rw [hr3] at hW
  rw [hr3]
  have HR3 : Hid (knowM fs n (ifM r1.1 (r1.2 = 0)) (placeN 2 r1.2) = r3) := hr3
  have HS3 : Hid (NextSt W0 b a n c fs w3 r3.1) := HS2.out.know HQ.out hW hf
  clear hW hf hr3
  clear o0 o1 o2
  have o0 : _ = some (Value.int .i64 kind) := far_cell HS3.out.far (g := w.heap.size) (o := 0) O0.out hbn
  have o1 : _ = some (Value.int .i64 k) := far_cell HS3.out.far (g := w.heap.size) (o := 1) O1.out hbn
  have o2 : _ = some (Value.int .i64 v) := far_cell HS3.out.far (g := w.heap.size) (o := 2) O2.out hbn
  go_wp2_with fail
  refine (specClassOf_any r1.2 _).mono ?_
  rintro e wp ⟨rfl, hwp⟩
  rw [hwp]
  clear hwp
  go_wp2_with fail
  refine (specCountAt_any (classN r1.2) _).mono ?_
  rintro e wp ⟨rfl, hwp⟩
  rw [hwp]
  clear hwp
  go_wp2_with fail
  refine (l5Know_any b a n c (r3.1) (placeN 3 (classN r1.2)) fs _ HS3.out.box HS3.out.ps).mono ?_
  rintro e w5 ⟨rfl, hW, hf⟩
  obtain ⟨r5, hr5⟩ : ∃ r, knowM fs n (r3.1) (placeN 3 (classN r1.2)) = r := ⟨_, rfl⟩
  rw [hr5] at hW
  rw [hr5]
  have HR5 : Hid (knowM fs n (r3.1) (placeN 3 (classN r1.2)) = r5) := hr5
  have HS5 : Hid (NextSt W0 b a n c fs w5 r5.1) := HS3.out.know HQ.out hW hf
  clear hW hf hr5
  clear o0 o1 o2
  have o0 : _ = some (Value.int .i64 kind) := far_cell HS5.out.far (g := w.heap.size) (o := 0) O0.out hbn
  have o1 : _ = some (Value.int .i64 k) := far_cell HS5.out.far (g := w.heap.size) (o := 1) O1.out hbn
  have o2 : _ = some (Value.int .i64 v) := far_cell HS5.out.far (g := w.heap.size) (o := 2) O2.out hbn
  go_wp2_with fail
  have hbv : Below w5.heap.size w5 (w5.alloc (.cells #[.int .i64 r1.2] 3)) := (Below.refl _ _).alloc (Nat.le_refl _) _
  have HSv : Hid (NextSt W0 b a n c fs (w5.alloc (.cells #[.int .i64 r1.2] 3)) (r5.1)) := ⟨HS5.out.box.bel hbv, HS5.out.ps.below hbv (Nat.le_refl _), HS5.out.far.trans (World.grownBy_alloc _ _ _)⟩
  have hgb : w5.heap.size ≠ b := by have h := HS5.out.box.facts.2.2.2.2.2; omega
  have hvl : IntAt (w5.alloc (.cells #[.int .i64 r1.2] 3)) (some ⟨w5.heap.size, 0, none⟩) 1 [r1.2] := ⟨rfl, by omega, .inr ⟨w5.heap.size, 0, rfl, fun i hi => by rcases i with _ | _ | i <;> first | (simp; done) | omega⟩⟩
  refine (l5Via_any b a n c (r5.1) k w5.heap.size [r1.2] 1 fs _ HQ.out HSv.out.box HSv.out.ps hk hgb (by omega) hvl).mono ?_
  rintro e wv ⟨rfl, hWv, hfv⟩
  have HWv : Hid (WBox wv b a n c (viaM fs n (r5.1) k [r1.2])) := hWv
  have HFv : Hid (w.grownBy wv (some b)) := (HF0.out.trans HSv.out.far).trans hfv
  clear hWv hfv hvl hbv
  go_wp2
  go_end0
  rw [show delM fs n k = viaM fs n r5.1 k [r1.2] by unfold delM; simp only [HR1.out, HR3.out, HR5.out]]
  exact ⟨rfl, HWv.out, HFv.out⟩

theorem l5Set_any (b : Nat) (a : Option Addr) (n c : Nat) (kind k v : Int) (fs : List Int) (w : World) (hq : ∀ q, a = some q → n ≠ 0 → q.block ≠ b) (hW : WBox w b a n c (-1, false)) (hP : PairAt w a n fs) (hk : 0 ≤ k ∧ k ≤ 3) :
    Calls Tryz.prog 93 #[.pointer (some ⟨b, 0, none⟩), OpV kind k v] w fun e w' => e = .returned (.tuple #[]) ∧ WBox w' b a n c (setM fs n k v) ∧ w.grownBy w' (some b) := by
  have HQ : Hid (∀ q, a = some q → n ≠ 0 → q.block ≠ b) := hq
  have hbl : b < w.heap.size := hW.facts.2.2.2.2.2
  have hbn : w.heap.size ≠ b := by omega
  have hbA : Below w.heap.size w (w.alloc (.cells #[.int .i64 kind, .int .i64 k, .int .i64 v] 28)) := (Below.refl _ w).alloc (Nat.le_refl _) _
  obtain ⟨W0, hW0⟩ : ∃ W0, W0 = w.alloc (.cells #[.int .i64 kind, .int .i64 k, .int .i64 v] 28) := ⟨_, rfl⟩
  have HF0 : Hid (w.grownBy W0 (some b)) := by rw [hW0]; exact World.grownBy_alloc _ _ _
  have HS0 : Hid (NextSt W0 b a n c fs W0 (-1, false)) := by rw [hW0]; exact ⟨hW.bel hbA, hP.below hbA (Nat.le_refl _), World.grownBy.refl _ _⟩
  have o0 : W0.cell? ⟨w.heap.size, 0, none⟩ = some (.int .i64 kind) := by rw [hW0]; simp
  have o1 : W0.cell? ⟨w.heap.size, 1, none⟩ = some (.int .i64 k) := by rw [hW0]; simp
  have o2 : W0.cell? ⟨w.heap.size, 2, none⟩ = some (.int .i64 v) := by rw [hW0]; simp
  have O0 : Hid (W0.cell? ⟨w.heap.size, 0, none⟩ = some (.int .i64 kind)) := o0
  have O1 : Hid (W0.cell? ⟨w.heap.size, 1, none⟩ = some (.int .i64 k)) := o1
  have O2 : Hid (W0.cell? ⟨w.heap.size, 2, none⟩ = some (.int .i64 v)) := o2
  clear hW hP hq hbA
  go_enter Tryz.func93, Tryz.ntmps93
  go_wp2_with fail
  rw [← hW0]
  clear hW0
  refine (specRowAt_any k _).mono ?_
  rintro e wp ⟨rfl, hwp⟩
  rw [hwp]
  clear hwp
  go_wp2_with fail
  refine (l5Know_any b a n c ((-1, false)) (placeN 1 k) fs _ HS0.out.box HS0.out.ps).mono ?_
  rintro e w1 ⟨rfl, hW, hf⟩
  obtain ⟨r1, hr1⟩ : ∃ r, knowM fs n ((-1, false)) (placeN 1 k) = r := ⟨_, rfl⟩
  rw [hr1] at hW
  rw [hr1]
  have HR1 : Hid (knowM fs n ((-1, false)) (placeN 1 k) = r1) := hr1
  have HS1 : Hid (NextSt W0 b a n c fs w1 r1.1) := HS0.out.know HQ.out hW hf
  clear hW hf hr1
  clear o0 o1 o2
  have o0 : _ = some (Value.int .i64 kind) := far_cell HS1.out.far (g := w.heap.size) (o := 0) O0.out hbn
  have o1 : _ = some (Value.int .i64 k) := far_cell HS1.out.far (g := w.heap.size) (o := 1) O1.out hbn
  have o2 : _ = some (Value.int .i64 v) := far_cell HS1.out.far (g := w.heap.size) (o := 2) O2.out hbn
  have cases3 : ∃ B : Bool, Hid ((r1.1.1, r1.1.2 || B) = ifM r1.1 (r1.2 = 0 ∨ r1.2 = v)) ∧ (((r1.2 == 0) = true ∧ (r1.2 == v) = (r1.2 == v) ∧ B = true) ∨ ((r1.2 == 0) = false ∧ (r1.2 == v) = B)) := by
    by_cases h0 : r1.2 = 0
    · refine ⟨true, ?_, .inl ⟨by simp [h0], rfl, rfl⟩⟩
      show _ = _
      unfold ifM
      simp [h0]
    · refine ⟨r1.2 == v, ?_, .inr ⟨by simp [h0], rfl⟩⟩
      show _ = _
      unfold ifM
      by_cases hv : r1.2 = v <;> simp [h0, hv]
  obtain ⟨B, HBB, ⟨hz0, hzv, rfl⟩ | ⟨hz0, hzv⟩⟩ := cases3
  all_goals
    go_wp2_with fail
    refine (l5If_any b a n c r1.1 _ _ HS1.out.box).mono ?_
    rintro e w2 ⟨rfl, hW, hf⟩
    have HS2 : Hid (NextSt W0 b a n c fs w2 (ifM r1.1 (r1.2 = 0 ∨ r1.2 = v))) := HS1.out.know HQ.out (by rw [← HBB.out]; exact hW) hf
    clear hW hf hz0 hzv
    clear o0 o1 o2
    have o0 : _ = some (Value.int .i64 kind) := far_cell HS2.out.far (g := w.heap.size) (o := 0) O0.out hbn
    have o1 : _ = some (Value.int .i64 k) := far_cell HS2.out.far (g := w.heap.size) (o := 1) O1.out hbn
    have o2 : _ = some (Value.int .i64 v) := far_cell HS2.out.far (g := w.heap.size) (o := 2) O2.out hbn
    go_wp2_with fail
    refine (specOwnerAt_any v _).mono ?_
    rintro e wp ⟨rfl, hwp⟩
    rw [hwp]
    clear hwp
    go_wp2_with fail
    refine (l5Know_any b a n c (ifM r1.1 (r1.2 = 0 ∨ r1.2 = v)) (placeN 2 v) fs _ HS2.out.box HS2.out.ps).mono ?_
    rintro e w3 ⟨rfl, hW, hf⟩
    obtain ⟨r3, hr3⟩ : ∃ r, knowM fs n (ifM r1.1 (r1.2 = 0 ∨ r1.2 = v)) (placeN 2 v) = r := ⟨_, rfl⟩
    rw [hr3] at hW
    rw [hr3]
    have HR3 : Hid (knowM fs n (ifM r1.1 (r1.2 = 0 ∨ r1.2 = v)) (placeN 2 v) = r3) := hr3
    have HS3 : Hid (NextSt W0 b a n c fs w3 r3.1) := HS2.out.know HQ.out hW hf
    clear hW hf hr3
    clear o0 o1 o2
    have o0 : _ = some (Value.int .i64 kind) := far_cell HS3.out.far (g := w.heap.size) (o := 0) O0.out hbn
    have o1 : _ = some (Value.int .i64 k) := far_cell HS3.out.far (g := w.heap.size) (o := 1) O1.out hbn
    have o2 : _ = some (Value.int .i64 v) := far_cell HS3.out.far (g := w.heap.size) (o := 2) O2.out hbn
    go_wp2_with fail
    refine (l5If_any b a n c (r3.1) (r3.2 != 0) _ HS3.out.box).mono ?_
    rintro e w4 ⟨rfl, hW, hf⟩
    rw [ifM_ne] at hW
    have HS4 : Hid (NextSt W0 b a n c fs w4 (ifM (r3.1) (r3.2 ≠ 0))) := HS3.out.know HQ.out hW hf
    clear hW hf
    clear o0 o1 o2
    have o0 : _ = some (Value.int .i64 kind) := far_cell HS4.out.far (g := w.heap.size) (o := 0) O0.out hbn
    have o1 : _ = some (Value.int .i64 k) := far_cell HS4.out.far (g := w.heap.size) (o := 1) O1.out hbn
    have o2 : _ = some (Value.int .i64 v) := far_cell HS4.out.far (g := w.heap.size) (o := 2) O2.out hbn
    go_wp2_with fail
    refine (specOwnerAt_any r1.2 _).mono ?_
    rintro e wp ⟨rfl, hwp⟩
    rw [hwp]
    clear hwp
    go_wp2_with fail
    refine (l5Know_any b a n c (ifM r3.1 (r3.2 ≠ 0)) (placeN 2 r1.2) fs _ HS4.out.box HS4.out.ps).mono ?_
    rintro e w5 ⟨rfl, hW, hf⟩
    obtain ⟨r5, hr5⟩ : ∃ r, knowM fs n (ifM r3.1 (r3.2 ≠ 0)) (placeN 2 r1.2) = r := ⟨_, rfl⟩
    rw [hr5] at hW
    rw [hr5]
    have HR5 : Hid (knowM fs n (ifM r3.1 (r3.2 ≠ 0)) (placeN 2 r1.2) = r5) := hr5
    have HS5 : Hid (NextSt W0 b a n c fs w5 r5.1) := HS4.out.know HQ.out hW hf
    clear hW hf hr5
    clear o0 o1 o2
    have o0 : _ = some (Value.int .i64 kind) := far_cell HS5.out.far (g := w.heap.size) (o := 0) O0.out hbn
    have o1 : _ = some (Value.int .i64 k) := far_cell HS5.out.far (g := w.heap.size) (o := 1) O1.out hbn
    have o2 : _ = some (Value.int .i64 v) := far_cell HS5.out.far (g := w.heap.size) (o := 2) O2.out hbn
    rcases nebN (classN r1.2) (classN v) with ⟨hcl, hcb⟩ | ⟨hcl, hcb⟩
    · skip
      have HCL : Hid (classN r1.2 = classN v) := hcl
      clear hcl
      go_wp2_with fail
      go_region_held3 (fun w' => w'.cell? ⟨w.heap.size, 2, none⟩ = some (.int .i64 v))
        (first | (with_reducible exact o2) | go_keep)
        (first
        | (have _m := m1
           go_at_call 80
           refine (specClassOf_any v _).mono ?_
           rintro e wp ⟨rfl, rfl⟩)
        | (go_at_call 80
           refine (specClassOf_any r1.2 _).mono ?_
           rintro e wp ⟨rfl, rfl⟩
           have m1 : True := trivial))
      have HS6 : Hid (NextSt W0 b a n c fs w5.drew r5.1) := ⟨HS5.out.box, HS5.out.ps, far_drew HS5.out.far⟩
      obtain ⟨w6, hw6⟩ : ∃ w6, w6 = w5.drew := ⟨_, rfl⟩
      rw [← hw6] at HS6
      rw [← hw6]
      clear hw6
      clear o0 o1 o2
      have o0 : _ = some (Value.int .i64 kind) := far_cell HS6.out.far (g := w.heap.size) (o := 0) O0.out hbn
      have o1 : _ = some (Value.int .i64 k) := far_cell HS6.out.far (g := w.heap.size) (o := 1) O1.out hbn
      have o2 : _ = some (Value.int .i64 v) := far_cell HS6.out.far (g := w.heap.size) (o := 2) O2.out hbn
      go_wp2_with fail
      have hbv : Below w6.heap.size w6 (w6.alloc (.cells #[.int .i64 r1.2, .int .i64 v] 3)) := (Below.refl _ _).alloc (Nat.le_refl _) _
      have HSv : Hid (NextSt W0 b a n c fs (w6.alloc (.cells #[.int .i64 r1.2, .int .i64 v] 3)) (r5.1)) := ⟨HS6.out.box.bel hbv, HS6.out.ps.below hbv (Nat.le_refl _), HS6.out.far.trans (World.grownBy_alloc _ _ _)⟩
      have hgb : w6.heap.size ≠ b := by have h := HS6.out.box.facts.2.2.2.2.2; omega
      have hvl : IntAt (w6.alloc (.cells #[.int .i64 r1.2, .int .i64 v] 3)) (some ⟨w6.heap.size, 0, none⟩) 2 [r1.2, v] := ⟨rfl, by omega, .inr ⟨w6.heap.size, 0, rfl, fun i hi => by rcases i with _ | _ | i <;> first | (simp; done) | omega⟩⟩
      refine (l5Via_any b a n c (r5.1) k w6.heap.size [r1.2, v] 2 fs _ HQ.out HSv.out.box HSv.out.ps hk hgb (by omega) hvl).mono ?_
      rintro e wv ⟨rfl, hWv, hfv⟩
      have HWv : Hid (WBox wv b a n c (viaM fs n (r5.1) k [r1.2, v])) := hWv
      have HFv : Hid (w.grownBy wv (some b)) := (HF0.out.trans HSv.out.far).trans hfv
      clear hWv hfv hvl hbv
      go_wp2
      go_end0
      rw [show setM fs n k v = viaM fs n r5.1 k [r1.2, v] by unfold setM; simp only [HR1.out, HR3.out, HR5.out]; rw [if_pos HCL.out]]
      exact ⟨rfl, HWv.out, HFv.out⟩
    · skip
      have HCL : Hid (¬ classN r1.2 = classN v) := hcl
      clear hcl
      go_wp2_with fail
      go_region_held3 (fun w' => w'.cell? ⟨w.heap.size, 2, none⟩ = some (.int .i64 v))
        (first | (with_reducible exact o2) | go_keep)
        (first
        | (have _m := m1
           go_at_call 80
           refine (specClassOf_any v _).mono ?_
           rintro e wp ⟨rfl, rfl⟩)
        | (go_at_call 80
           refine (specClassOf_any r1.2 _).mono ?_
           rintro e wp ⟨rfl, rfl⟩
           have m1 : True := trivial))
      have HS6 : Hid (NextSt W0 b a n c fs w5.drew r5.1) := ⟨HS5.out.box, HS5.out.ps, far_drew HS5.out.far⟩
      obtain ⟨w6, hw6⟩ : ∃ w6, w6 = w5.drew := ⟨_, rfl⟩
      rw [← hw6] at HS6
      rw [← hw6]
      clear hw6
      clear o0 o1 o2
      have o0 : _ = some (Value.int .i64 kind) := far_cell HS6.out.far (g := w.heap.size) (o := 0) O0.out hbn
      have o1 : _ = some (Value.int .i64 k) := far_cell HS6.out.far (g := w.heap.size) (o := 1) O1.out hbn
      have o2 : _ = some (Value.int .i64 v) := far_cell HS6.out.far (g := w.heap.size) (o := 2) O2.out hbn
      go_wp2_with fail
      refine (specClassOf_any r1.2 _).mono ?_
      rintro e wp ⟨rfl, hwp⟩
      rw [hwp]
      clear hwp
      go_wp2_with fail
      refine (specCountAt_any (classN r1.2) _).mono ?_
      rintro e wp ⟨rfl, hwp⟩
      rw [hwp]
      clear hwp
      go_wp2_with fail
      refine (l5Know_any b a n c (r5.1) (placeN 3 (classN r1.2)) fs _ HS6.out.box HS6.out.ps).mono ?_
      rintro e w7 ⟨rfl, hW, hf⟩
      obtain ⟨r7, hr7⟩ : ∃ r, knowM fs n (r5.1) (placeN 3 (classN r1.2)) = r := ⟨_, rfl⟩
      rw [hr7] at hW
      rw [hr7]
      have HR7 : Hid (knowM fs n (r5.1) (placeN 3 (classN r1.2)) = r7) := hr7
      have HS7 : Hid (NextSt W0 b a n c fs w7 r7.1) := HS6.out.know HQ.out hW hf
      clear hW hf hr7
      clear o0 o1 o2
      have o0 : _ = some (Value.int .i64 kind) := far_cell HS7.out.far (g := w.heap.size) (o := 0) O0.out hbn
      have o1 : _ = some (Value.int .i64 k) := far_cell HS7.out.far (g := w.heap.size) (o := 1) O1.out hbn
      have o2 : _ = some (Value.int .i64 v) := far_cell HS7.out.far (g := w.heap.size) (o := 2) O2.out hbn
      go_wp2_with fail
      refine (specClassOf_any v _).mono ?_
      rintro e wp ⟨rfl, hwp⟩
      rw [hwp]
      clear hwp
      go_wp2_with fail
      refine (specCountAt_any (classN v) _).mono ?_
      rintro e wp ⟨rfl, hwp⟩
      rw [hwp]
      clear hwp
      go_wp2_with fail
      refine (l5Know_any b a n c (r7.1) (placeN 3 (classN v)) fs _ HS7.out.box HS7.out.ps).mono ?_
      rintro e w8 ⟨rfl, hW, hf⟩
      obtain ⟨r8, hr8⟩ : ∃ r, knowM fs n (r7.1) (placeN 3 (classN v)) = r := ⟨_, rfl⟩
      rw [hr8] at hW
      rw [hr8]
      have HR8 : Hid (knowM fs n (r7.1) (placeN 3 (classN v)) = r8) := hr8
      have HS8 : Hid (NextSt W0 b a n c fs w8 r8.1) := HS7.out.know HQ.out hW hf
      clear hW hf hr8
      clear o0 o1 o2
      have o0 : _ = some (Value.int .i64 kind) := far_cell HS8.out.far (g := w.heap.size) (o := 0) O0.out hbn
      have o1 : _ = some (Value.int .i64 k) := far_cell HS8.out.far (g := w.heap.size) (o := 1) O1.out hbn
      have o2 : _ = some (Value.int .i64 v) := far_cell HS8.out.far (g := w.heap.size) (o := 2) O2.out hbn
      go_wp2_with fail
      have hbv : Below w8.heap.size w8 (w8.alloc (.cells #[.int .i64 r1.2, .int .i64 v] 3)) := (Below.refl _ _).alloc (Nat.le_refl _) _
      have HSv : Hid (NextSt W0 b a n c fs (w8.alloc (.cells #[.int .i64 r1.2, .int .i64 v] 3)) (r8.1)) := ⟨HS8.out.box.bel hbv, HS8.out.ps.below hbv (Nat.le_refl _), HS8.out.far.trans (World.grownBy_alloc _ _ _)⟩
      have hgb : w8.heap.size ≠ b := by have h := HS8.out.box.facts.2.2.2.2.2; omega
      have hvl : IntAt (w8.alloc (.cells #[.int .i64 r1.2, .int .i64 v] 3)) (some ⟨w8.heap.size, 0, none⟩) 2 [r1.2, v] := ⟨rfl, by omega, .inr ⟨w8.heap.size, 0, rfl, fun i hi => by rcases i with _ | _ | i <;> first | (simp; done) | omega⟩⟩
      refine (l5Via_any b a n c (r8.1) k w8.heap.size [r1.2, v] 2 fs _ HQ.out HSv.out.box HSv.out.ps hk hgb (by omega) hvl).mono ?_
      rintro e wv ⟨rfl, hWv, hfv⟩
      have HWv : Hid (WBox wv b a n c (viaM fs n (r8.1) k [r1.2, v])) := hWv
      have HFv : Hid (w.grownBy wv (some b)) := (HF0.out.trans HSv.out.far).trans hfv
      clear hWv hfv hvl hbv
      go_wp2
      go_end0
      rw [show setM fs n k v = viaM fs n r8.1 k [r1.2, v] by unfold setM; simp only [HR1.out, HR3.out, HR5.out]; rw [if_neg HCL.out]; simp only [HR7.out, HR8.out]]
      exact ⟨rfl, HWv.out, HFv.out⟩
end
end Go.Proofs.YtenlapppaimkkabGreatDoor
