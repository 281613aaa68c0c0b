/- Texts joined: ComR3, ComR4. -/
import Derived.Test.YtecheopkfhfgkaaGreatLN10
import Derived.Test.YtecheopkfhfgkaaGreatLN04
import Derived.Test.YtecheopkfhfgkaaGreatLN12
import Derived.Test.YtecheopkfhfgkaaGreatLN11
import Derived.Deep.RegionHeld3
set_option maxHeartbeats 4000000
set_option maxRecDepth 100000
namespace Go.Proofs.YtecheopkfhfgkaaGreat
section
open Go.ChangeShapes Go.WideShapes Go.ChangeAt Go.RowKit Go.Maps
theorem comR_2_00 (p o cp : Nat) (hcp : 4 ≤ cp) (j : Nat) (st x : Int) (xs : List Int) (w : World) (hA : IntAt w (some ⟨p, o, none⟩) 4 xs) (hi : ∀ x ∈ xs, (Lit.int .i64 x).wf = true) (hj : j < 4) (hx : xs.getD j 0 = x) (v q : Int) (hv : 1 ≤ v ∧ v ≤ 6) (hq : keyN xs v = q) (h0 : x = 0) (hq0 : q < 0) :
    Calls Tryz.prog 50 #[.agg #[.slice (some ⟨p, o, none⟩) 4 cp, .int .i64 st], .iface 106 (OpV 2 ((j : Int)) (v))] w fun e w' => ComSays e w w' [(3, [])] ∧ Below w.heap.size w w' := by
  have hc : w.cell? ⟨p, o + j, none⟩ = some (I x) := by have h := hA.cells j hj; rwa [hx] at h
  have hp : p < w.heap.size := World.block_lt_of_cell? w _ hc
  have hj0 : (0 : Int) ≤ (j : Int) := by omega
  have hj1 : (j : Int) < 4 := by omega
  have HA : Hid (IntAt w (some ⟨p, o, none⟩) 4 xs) := hA
  have HI : Hid (∀ x ∈ xs, (Lit.int .i64 x).wf = true) := hi
  have HCP : Hid (4 ≤ cp) := hcp
  clear hA hi hx hcp
  have HQ : Hid (keyN xs v = q) := hq
  clear hq
  have h0' : (x != 0) = false := by simpa using h0
  clear h0
  have hq1 : ¬ 0 ≤ q := by omega
  have HD1 : Hid (decide (0 ≤ q) = false) := decide_eq_false hq1
  have HD2 : Hid (decide (q < 0) = true) := decide_eq_true hq0
  obtain ⟨W0, hW0⟩ : ∃ W0, W0 = (w.alloc (.cells #[.slice (some ⟨p, o, none⟩) 4 cp, .int .i64 st] 29)).alloc (.cells #[.int .i64 2, .int .i64 (j : Int), .int .i64 v] 106) := ⟨_, rfl⟩
  have hs0 : W0.heap.size = w.heap.size + 1 + 1 := by rw [hW0]; simp
  have HBX : Hid (∀ w', Below (w.heap.size + 1 + 1) W0 w' → (w'.cell? ⟨w.heap.size, 0, none⟩ = some (.slice (some ⟨p, o, none⟩) 4 cp) ∧ w'.cell? ⟨w.heap.size, 1, none⟩ = some (.int .i64 st) ∧ w'.cell? ⟨w.heap.size + 1, 1, none⟩ = some (.int .i64 (j : Int)) ∧ w'.cell? ⟨w.heap.size + 1, 2, none⟩ = some (.int .i64 v) ∧ w'.cell? ⟨p, o + j, none⟩ = some (I x)) ∧ Below w.heap.size w w') := fun w' hb => com_boxesR hc hW0 hb
  have t1 : ∀ w : World, (Instr.typeAssert (.iface 106 (OpV 2 ((j : Int)) (v))) 92 104 true).run Tryz.prog w = .ok (.tuple #[OpV 0 0 0, .bool false]) w := fun _ => by kernel_rfl
  have t2 : ∀ w : World, (Instr.typeAssert (.iface 106 (OpV 2 ((j : Int)) (v))) 92 106 true).run Tryz.prog w = .ok (.tuple #[OpV 2 ((j : Int)) (v), .bool true]) w := fun _ => by kernel_rfl
  go_enter Tryz.func50, Tryz.ntmps50
  go_wp2_with fail
  rw [← hW0]
  clear hW0
  have hb9 : Below (w.heap.size + 1 + 1) W0 W0 := Below.refl _ _
  go_region_held3 (fun w' => w'.cell? ⟨w.heap.size, 0, none⟩ = some (.slice (some ⟨p, o, none⟩) 4 cp) ∧ w'.cell? ⟨w.heap.size, 1, none⟩ = some (.int .i64 st) ∧ w'.cell? ⟨w.heap.size + 1, 1, none⟩ = some (.int .i64 (j : Int)) ∧ w'.cell? ⟨w.heap.size + 1, 2, none⟩ = some (.int .i64 v) ∧ w'.cell? ⟨p, o + j, none⟩ = some (I x))
      (first | (exact (HBX.out _ (by repeat first | exact hb9 | apply Below.drew | apply Below.alloc | omega | (simp; omega) | simp)).1) | go_keep)
      (first
      | (go_at_call 71
         refine (implKeyOf_room _ cp HCP.out st v xs _ (HA.out.below (HBX.out _ (by repeat first | exact hb9 | apply Below.drew | apply Below.alloc | omega | (simp; omega) | simp)).2 (Nat.le_refl _)) HI.out hv).mono ?_
         rintro e w1 ⟨rfl, hb1⟩
         rw [HQ.out]
         have hb9 : Below (w.heap.size + 1 + 1) W0 w1 := (show Below (w.heap.size + 1 + 1) W0 _ from (by repeat first | exact hb9 | apply Below.drew | apply Below.alloc | omega | (simp; omega) | simp)).trans (hb1.mono (by simp [hs0]))
         have hs1 : w.heap.size + 1 + 1 ≤ w1.heap.size := by have h := hb9.size; omega))
  go_wp2_with fail
  try rw [HD1.out]
  try rw [HD2.out]
  refine (or_on (w.heap.size + 1 + 1) W0 _ _ _ _ _ _ _ (by repeat first | exact hc9 | exact com_empty_at rfl (by omega) | exact com_empty_drew rfl (by omega) | exact com_empty_drew (by simp [hs0]) (by omega) | exact com_empty_at (by simp [hs0]) (by omega) | apply World.ownsRow.alloc) (by simp) (by repeat first | exact hb9 | apply Below.drew | apply Below.alloc | omega | (simp; omega) | simp) (by omega)).mono ?_
  rintro e w9 ⟨v9, rfl, hc9, hg9, hb9⟩
  have hs9 : w.heap.size + 1 + 1 ≤ w9.heap.size := by have h := hb9.size; omega
  have kc9 := (HBX.out _ hb9).1.2.2.1
  go_wp2_with fail
  try rw [HD1.out]
  try rw [HD2.out]
  refine (or_no _ _ _ _ _ _).mono ?_
  rintro e w8 ⟨rfl, rfl⟩
  go_wp2_with fail
  try rw [HD1.out]
  try rw [HD2.out]
  refine (or_no _ _ _ _ _ _).mono ?_
  rintro e w8 ⟨rfl, rfl⟩
  go_wp2
  go_ret
  first | exact ⟨com_done (by omega) hc9 (tells_1 _ _), (HBX.out _ hb9).2⟩ | exact ⟨com_done (by omega) (hc9.alloc _) (tells_1 _ _), (HBX.out _ (hb9.alloc (by omega) _)).2⟩

theorem comR_2_01 (p o cp : Nat) (hcp : 4 ≤ cp) (j : Nat) (st x : Int) (xs : List Int) (w : World) (hA : IntAt w (some ⟨p, o, none⟩) 4 xs) (hi : ∀ x ∈ xs, (Lit.int .i64 x).wf = true) (hj : j < 4) (hx : xs.getD j 0 = x) (v q : Int) (hv : 1 ≤ v ∧ v ≤ 6) (hq : keyN xs v = q) (h0 : x = 0) (hq0 : 0 ≤ q) :
    Calls Tryz.prog 50 #[.agg #[.slice (some ⟨p, o, none⟩) 4 cp, .int .i64 st], .iface 106 (OpV 2 ((j : Int)) (v))] w fun e w' => ComSays e w w' [(3, []), (2, [])] ∧ Below w.heap.size w w' := by
  have hc : w.cell? ⟨p, o + j, none⟩ = some (I x) := by have h := hA.cells j hj; rwa [hx] at h
  have hp : p < w.heap.size := World.block_lt_of_cell? w _ hc
  have hj0 : (0 : Int) ≤ (j : Int) := by omega
  have hj1 : (j : Int) < 4 := by omega
  have HA : Hid (IntAt w (some ⟨p, o, none⟩) 4 xs) := hA
  have HI : Hid (∀ x ∈ xs, (Lit.int .i64 x).wf = true) := hi
  have HCP : Hid (4 ≤ cp) := hcp
  clear hA hi hx hcp
  have HQ : Hid (keyN xs v = q) := hq
  clear hq
  have h0' : (x != 0) = false := by simpa using h0
  clear h0
  have hq1 : ¬ q < 0 := by omega
  have HD1 : Hid (decide (0 ≤ q) = true) := decide_eq_true hq0
  have HD2 : Hid (decide (q < 0) = false) := decide_eq_false hq1
  obtain ⟨W0, hW0⟩ : ∃ W0, W0 = (w.alloc (.cells #[.slice (some ⟨p, o, none⟩) 4 cp, .int .i64 st] 29)).alloc (.cells #[.int .i64 2, .int .i64 (j : Int), .int .i64 v] 106) := ⟨_, rfl⟩
  have hs0 : W0.heap.size = w.heap.size + 1 + 1 := by rw [hW0]; simp
  have HBX : Hid (∀ w', Below (w.heap.size + 1 + 1) W0 w' → (w'.cell? ⟨w.heap.size, 0, none⟩ = some (.slice (some ⟨p, o, none⟩) 4 cp) ∧ w'.cell? ⟨w.heap.size, 1, none⟩ = some (.int .i64 st) ∧ w'.cell? ⟨w.heap.size + 1, 1, none⟩ = some (.int .i64 (j : Int)) ∧ w'.cell? ⟨w.heap.size + 1, 2, none⟩ = some (.int .i64 v) ∧ w'.cell? ⟨p, o + j, none⟩ = some (I x)) ∧ Below w.heap.size w w') := fun w' hb => com_boxesR hc hW0 hb
  have t1 : ∀ w : World, (Instr.typeAssert (.iface 106 (OpV 2 ((j : Int)) (v))) 92 104 true).run Tryz.prog w = .ok (.tuple #[OpV 0 0 0, .bool false]) w := fun _ => by kernel_rfl
  have t2 : ∀ w : World, (Instr.typeAssert (.iface 106 (OpV 2 ((j : Int)) (v))) 92 106 true).run Tryz.prog w = .ok (.tuple #[OpV 2 ((j : Int)) (v), .bool true]) w := fun _ => by kernel_rfl
  go_enter Tryz.func50, Tryz.ntmps50
  go_wp2_with fail
  rw [← hW0]
  clear hW0
  have hb9 : Below (w.heap.size + 1 + 1) W0 W0 := Below.refl _ _
  go_region_held3 (fun w' => w'.cell? ⟨w.heap.size, 0, none⟩ = some (.slice (some ⟨p, o, none⟩) 4 cp) ∧ w'.cell? ⟨w.heap.size, 1, none⟩ = some (.int .i64 st) ∧ w'.cell? ⟨w.heap.size + 1, 1, none⟩ = some (.int .i64 (j : Int)) ∧ w'.cell? ⟨w.heap.size + 1, 2, none⟩ = some (.int .i64 v) ∧ w'.cell? ⟨p, o + j, none⟩ = some (I x))
      (first | (exact (HBX.out _ (by repeat first | exact hb9 | apply Below.drew | apply Below.alloc | omega | (simp; omega) | simp)).1) | go_keep)
      (first
      | (go_at_call 71
         refine (implKeyOf_room _ cp HCP.out st v xs _ (HA.out.below (HBX.out _ (by repeat first | exact hb9 | apply Below.drew | apply Below.alloc | omega | (simp; omega) | simp)).2 (Nat.le_refl _)) HI.out hv).mono ?_
         rintro e w1 ⟨rfl, hb1⟩
         rw [HQ.out]
         have hb9 : Below (w.heap.size + 1 + 1) W0 w1 := (show Below (w.heap.size + 1 + 1) W0 _ from (by repeat first | exact hb9 | apply Below.drew | apply Below.alloc | omega | (simp; omega) | simp)).trans (hb1.mono (by simp [hs0]))
         have hs1 : w.heap.size + 1 + 1 ≤ w1.heap.size := by have h := hb9.size; omega))
  go_wp2_with fail
  try rw [HD1.out]
  try rw [HD2.out]
  refine (or_on (w.heap.size + 1 + 1) W0 _ _ _ _ _ _ _ (by repeat first | exact hc9 | exact com_empty_at rfl (by omega) | exact com_empty_drew rfl (by omega) | exact com_empty_drew (by simp [hs0]) (by omega) | exact com_empty_at (by simp [hs0]) (by omega) | apply World.ownsRow.alloc) (by simp) (by repeat first | exact hb9 | apply Below.drew | apply Below.alloc | omega | (simp; omega) | simp) (by omega)).mono ?_
  rintro e w9 ⟨v9, rfl, hc9, hg9, hb9⟩
  have hs9 : w.heap.size + 1 + 1 ≤ w9.heap.size := by have h := hb9.size; omega
  have kc9 := (HBX.out _ hb9).1.2.2.1
  go_wp2_with fail
  try rw [HD1.out]
  try rw [HD2.out]
  refine (or_on (w.heap.size + 1 + 1) W0 _ _ _ _ _ _ _ (by repeat first | exact hc9 | exact com_empty_at rfl (by omega) | exact com_empty_drew rfl (by omega) | exact com_empty_drew (by simp [hs0]) (by omega) | exact com_empty_at (by simp [hs0]) (by omega) | apply World.ownsRow.alloc) (by simp) (by repeat first | exact hb9 | apply Below.drew | apply Below.alloc | omega | (simp; omega) | simp) (by omega)).mono ?_
  rintro e w9 ⟨v9, rfl, hc9, hg9, hb9⟩
  have hs9 : w.heap.size + 1 + 1 ≤ w9.heap.size := by have h := hb9.size; omega
  have kc9 := (HBX.out _ hb9).1.2.2.1
  go_wp2_with fail
  try rw [HD1.out]
  try rw [HD2.out]
  refine (or_no _ _ _ _ _ _).mono ?_
  rintro e w8 ⟨rfl, rfl⟩
  go_wp2
  go_ret
  exact ⟨com_done (by omega) hc9 (tells_2 _ _ _), (HBX.out _ hb9).2⟩

theorem comR_2_10 (p o cp : Nat) (hcp : 4 ≤ cp) (j : Nat) (st x : Int) (xs : List Int) (w : World) (hA : IntAt w (some ⟨p, o, none⟩) 4 xs) (hi : ∀ x ∈ xs, (Lit.int .i64 x).wf = true) (hj : j < 4) (hx : xs.getD j 0 = x) (v q : Int) (hv : 1 ≤ v ∧ v ≤ 6) (hq : keyN xs v = q) (h0 : x ≠ 0) (hq0 : q < 0) :
    Calls Tryz.prog 50 #[.agg #[.slice (some ⟨p, o, none⟩) 4 cp, .int .i64 st], .iface 106 (OpV 2 ((j : Int)) (v))] w fun e w' => ComSays e w w' [(0, [])] ∧ Below w.heap.size w w' := by
  have hc : w.cell? ⟨p, o + j, none⟩ = some (I x) := by have h := hA.cells j hj; rwa [hx] at h
  have hp : p < w.heap.size := World.block_lt_of_cell? w _ hc
  have hj0 : (0 : Int) ≤ (j : Int) := by omega
  have hj1 : (j : Int) < 4 := by omega
  have HA : Hid (IntAt w (some ⟨p, o, none⟩) 4 xs) := hA
  have HI : Hid (∀ x ∈ xs, (Lit.int .i64 x).wf = true) := hi
  have HCP : Hid (4 ≤ cp) := hcp
  clear hA hi hx hcp
  have HQ : Hid (keyN xs v = q) := hq
  clear hq
  have h0' : (x != 0) = true := by simpa using h0
  clear h0
  have hq1 : ¬ 0 ≤ q := by omega
  have HD1 : Hid (decide (0 ≤ q) = false) := decide_eq_false hq1
  have HD2 : Hid (decide (q < 0) = true) := decide_eq_true hq0
  obtain ⟨W0, hW0⟩ : ∃ W0, W0 = (w.alloc (.cells #[.slice (some ⟨p, o, none⟩) 4 cp, .int .i64 st] 29)).alloc (.cells #[.int .i64 2, .int .i64 (j : Int), .int .i64 v] 106) := ⟨_, rfl⟩
  have hs0 : W0.heap.size = w.heap.size + 1 + 1 := by rw [hW0]; simp
  have HBX : Hid (∀ w', Below (w.heap.size + 1 + 1) W0 w' → (w'.cell? ⟨w.heap.size, 0, none⟩ = some (.slice (some ⟨p, o, none⟩) 4 cp) ∧ w'.cell? ⟨w.heap.size, 1, none⟩ = some (.int .i64 st) ∧ w'.cell? ⟨w.heap.size + 1, 1, none⟩ = some (.int .i64 (j : Int)) ∧ w'.cell? ⟨w.heap.size + 1, 2, none⟩ = some (.int .i64 v) ∧ w'.cell? ⟨p, o + j, none⟩ = some (I x)) ∧ Below w.heap.size w w') := fun w' hb => com_boxesR hc hW0 hb
  have t1 : ∀ w : World, (Instr.typeAssert (.iface 106 (OpV 2 ((j : Int)) (v))) 92 104 true).run Tryz.prog w = .ok (.tuple #[OpV 0 0 0, .bool false]) w := fun _ => by kernel_rfl
  have t2 : ∀ w : World, (Instr.typeAssert (.iface 106 (OpV 2 ((j : Int)) (v))) 92 106 true).run Tryz.prog w = .ok (.tuple #[OpV 2 ((j : Int)) (v), .bool true]) w := fun _ => by kernel_rfl
  go_enter Tryz.func50, Tryz.ntmps50
  go_wp2_with fail
  rw [← hW0]
  clear hW0
  have hb9 : Below (w.heap.size + 1 + 1) W0 W0 := Below.refl _ _
  go_region_held3 (fun w' => w'.cell? ⟨w.heap.size, 0, none⟩ = some (.slice (some ⟨p, o, none⟩) 4 cp) ∧ w'.cell? ⟨w.heap.size, 1, none⟩ = some (.int .i64 st) ∧ w'.cell? ⟨w.heap.size + 1, 1, none⟩ = some (.int .i64 (j : Int)) ∧ w'.cell? ⟨w.heap.size + 1, 2, none⟩ = some (.int .i64 v) ∧ w'.cell? ⟨p, o + j, none⟩ = some (I x))
      (first | (exact (HBX.out _ (by repeat first | exact hb9 | apply Below.drew | apply Below.alloc | omega | (simp; omega) | simp)).1) | go_keep)
      (first
      | (go_at_call 71
         refine (implKeyOf_room _ cp HCP.out st v xs _ (HA.out.below (HBX.out _ (by repeat first | exact hb9 | apply Below.drew | apply Below.alloc | omega | (simp; omega) | simp)).2 (Nat.le_refl _)) HI.out hv).mono ?_
         rintro e w1 ⟨rfl, hb1⟩
         rw [HQ.out]
         have hb9 : Below (w.heap.size + 1 + 1) W0 w1 := (show Below (w.heap.size + 1 + 1) W0 _ from (by repeat first | exact hb9 | apply Below.drew | apply Below.alloc | omega | (simp; omega) | simp)).trans (hb1.mono (by simp [hs0]))
         have hs1 : w.heap.size + 1 + 1 ≤ w1.heap.size := by have h := hb9.size; omega))
  go_wp2_with fail
  try rw [HD1.out]
  try rw [HD2.out]
  refine (or_no _ _ _ _ _ _).mono ?_
  rintro e w8 ⟨rfl, rfl⟩
  go_wp2_with fail
  try rw [HD1.out]
  try rw [HD2.out]
  refine (or_no _ _ _ _ _ _).mono ?_
  rintro e w8 ⟨rfl, rfl⟩
  go_wp2_with fail
  try rw [HD1.out]
  try rw [HD2.out]
  refine (or_on (w.heap.size + 1 + 1) W0 _ _ _ _ _ _ _ (by repeat first | exact hc9 | exact com_empty_at rfl (by omega) | exact com_empty_drew rfl (by omega) | exact com_empty_drew (by simp [hs0]) (by omega) | exact com_empty_at (by simp [hs0]) (by omega) | apply World.ownsRow.alloc) (by simp) (by repeat first | exact hb9 | apply Below.drew | apply Below.alloc | omega | (simp; omega) | simp) (by omega)).mono ?_
  rintro e w9 ⟨v9, rfl, hc9, hg9, hb9⟩
  have hs9 : w.heap.size + 1 + 1 ≤ w9.heap.size := by have h := hb9.size; omega
  go_wp2
  go_ret
  first | exact ⟨com_done (by omega) hc9 (tells_1 _ _), (HBX.out _ hb9).2⟩ | exact ⟨com_done (by omega) (hc9.alloc _) (tells_1 _ _), (HBX.out _ (hb9.alloc (by omega) _)).2⟩

theorem comR_2_11 (p o cp : Nat) (hcp : 4 ≤ cp) (j : Nat) (st x : Int) (xs : List Int) (w : World) (hA : IntAt w (some ⟨p, o, none⟩) 4 xs) (hi : ∀ x ∈ xs, (Lit.int .i64 x).wf = true) (hj : j < 4) (hx : xs.getD j 0 = x) (v q : Int) (hv : 1 ≤ v ∧ v ≤ 6) (hq : keyN xs v = q) (h0 : x ≠ 0) (hq0 : 0 ≤ q) (he0 : q = (j : Int)) :
    Calls Tryz.prog 50 #[.agg #[.slice (some ⟨p, o, none⟩) 4 cp, .int .i64 st], .iface 106 (OpV 2 ((j : Int)) (v))] w fun e w' => ComSays e w w' [(2, []), (0, [])] ∧ Below w.heap.size w w' := by
  have hc : w.cell? ⟨p, o + j, none⟩ = some (I x) := by have h := hA.cells j hj; rwa [hx] at h
  have hp : p < w.heap.size := World.block_lt_of_cell? w _ hc
  have hj0 : (0 : Int) ≤ (j : Int) := by omega
  have hj1 : (j : Int) < 4 := by omega
  have HA : Hid (IntAt w (some ⟨p, o, none⟩) 4 xs) := hA
  have HI : Hid (∀ x ∈ xs, (Lit.int .i64 x).wf = true) := hi
  have HCP : Hid (4 ≤ cp) := hcp
  clear hA hi hx hcp
  have HQ : Hid (keyN xs v = q) := hq
  clear hq
  have h0' : (x != 0) = true := by simpa using h0
  clear h0
  have hq1 : ¬ q < 0 := by omega
  have HD1 : Hid (decide (0 ≤ q) = true) := decide_eq_true hq0
  have HD2 : Hid (decide (q < 0) = false) := decide_eq_false hq1
  have he : (q == (j : Int)) = true := by simpa using he0
  clear he0
  obtain ⟨W0, hW0⟩ : ∃ W0, W0 = (w.alloc (.cells #[.slice (some ⟨p, o, none⟩) 4 cp, .int .i64 st] 29)).alloc (.cells #[.int .i64 2, .int .i64 (j : Int), .int .i64 v] 106) := ⟨_, rfl⟩
  have hs0 : W0.heap.size = w.heap.size + 1 + 1 := by rw [hW0]; simp
  have HBX : Hid (∀ w', Below (w.heap.size + 1 + 1) W0 w' → (w'.cell? ⟨w.heap.size, 0, none⟩ = some (.slice (some ⟨p, o, none⟩) 4 cp) ∧ w'.cell? ⟨w.heap.size, 1, none⟩ = some (.int .i64 st) ∧ w'.cell? ⟨w.heap.size + 1, 1, none⟩ = some (.int .i64 (j : Int)) ∧ w'.cell? ⟨w.heap.size + 1, 2, none⟩ = some (.int .i64 v) ∧ w'.cell? ⟨p, o + j, none⟩ = some (I x)) ∧ Below w.heap.size w w') := fun w' hb => com_boxesR hc hW0 hb
  have t1 : ∀ w : World, (Instr.typeAssert (.iface 106 (OpV 2 ((j : Int)) (v))) 92 104 true).run Tryz.prog w = .ok (.tuple #[OpV 0 0 0, .bool false]) w := fun _ => by kernel_rfl
  have t2 : ∀ w : World, (Instr.typeAssert (.iface 106 (OpV 2 ((j : Int)) (v))) 92 106 true).run Tryz.prog w = .ok (.tuple #[OpV 2 ((j : Int)) (v), .bool true]) w := fun _ => by kernel_rfl
  go_enter Tryz.func50, Tryz.ntmps50
  go_wp2_with fail
  rw [← hW0]
  clear hW0
  have hb9 : Below (w.heap.size + 1 + 1) W0 W0 := Below.refl _ _
  go_region_held3 (fun w' => w'.cell? ⟨w.heap.size, 0, none⟩ = some (.slice (some ⟨p, o, none⟩) 4 cp) ∧ w'.cell? ⟨w.heap.size, 1, none⟩ = some (.int .i64 st) ∧ w'.cell? ⟨w.heap.size + 1, 1, none⟩ = some (.int .i64 (j : Int)) ∧ w'.cell? ⟨w.heap.size + 1, 2, none⟩ = some (.int .i64 v) ∧ w'.cell? ⟨p, o + j, none⟩ = some (I x))
      (first | (exact (HBX.out _ (by repeat first | exact hb9 | apply Below.drew | apply Below.alloc | omega | (simp; omega) | simp)).1) | go_keep)
      (first
      | (go_at_call 71
         refine (implKeyOf_room _ cp HCP.out st v xs _ (HA.out.below (HBX.out _ (by repeat first | exact hb9 | apply Below.drew | apply Below.alloc | omega | (simp; omega) | simp)).2 (Nat.le_refl _)) HI.out hv).mono ?_
         rintro e w1 ⟨rfl, hb1⟩
         rw [HQ.out]
         have hb9 : Below (w.heap.size + 1 + 1) W0 w1 := (show Below (w.heap.size + 1 + 1) W0 _ from (by repeat first | exact hb9 | apply Below.drew | apply Below.alloc | omega | (simp; omega) | simp)).trans (hb1.mono (by simp [hs0]))
         have hs1 : w.heap.size + 1 + 1 ≤ w1.heap.size := by have h := hb9.size; omega))
  go_wp2_with fail
  try rw [HD1.out]
  try rw [HD2.out]
  refine (or_no _ _ _ _ _ _).mono ?_
  rintro e w8 ⟨rfl, rfl⟩
  go_wp2_with fail
  try rw [HD1.out]
  try rw [HD2.out]
  refine (or_on (w.heap.size + 1 + 1) W0 _ _ _ _ _ _ _ (by repeat first | exact hc9 | exact com_empty_at rfl (by omega) | exact com_empty_drew rfl (by omega) | exact com_empty_drew (by simp [hs0]) (by omega) | exact com_empty_at (by simp [hs0]) (by omega) | apply World.ownsRow.alloc) (by simp) (by repeat first | exact hb9 | apply Below.drew | apply Below.alloc | omega | (simp; omega) | simp) (by omega)).mono ?_
  rintro e w9 ⟨v9, rfl, hc9, hg9, hb9⟩
  have hs9 : w.heap.size + 1 + 1 ≤ w9.heap.size := by have h := hb9.size; omega
  have kc9 := (HBX.out _ hb9).1.2.2.1
  go_wp2_with fail
  try rw [HD1.out]
  try rw [HD2.out]
  refine (or_on (w.heap.size + 1 + 1) W0 _ _ _ _ _ _ _ (by repeat first | exact hc9 | exact com_empty_at rfl (by omega) | exact com_empty_drew rfl (by omega) | exact com_empty_drew (by simp [hs0]) (by omega) | exact com_empty_at (by simp [hs0]) (by omega) | apply World.ownsRow.alloc) (by simp) (by repeat first | exact hb9 | apply Below.drew | apply Below.alloc | omega | (simp; omega) | simp) (by omega)).mono ?_
  rintro e w9 ⟨v9, rfl, hc9, hg9, hb9⟩
  have hs9 : w.heap.size + 1 + 1 ≤ w9.heap.size := by have h := hb9.size; omega
  go_wp2
  go_ret
  exact ⟨com_done (by omega) hc9 (tells_2 _ _ _), (HBX.out _ hb9).2⟩

theorem comR_2_12 (p o cp : Nat) (hcp : 4 ≤ cp) (j : Nat) (st x : Int) (xs : List Int) (w : World) (hA : IntAt w (some ⟨p, o, none⟩) 4 xs) (hi : ∀ x ∈ xs, (Lit.int .i64 x).wf = true) (hj : j < 4) (hx : xs.getD j 0 = x) (v q : Int) (hv : 1 ≤ v ∧ v ≤ 6) (hq : keyN xs v = q) (h0 : x ≠ 0) (hq0 : 0 ≤ q) (he0 : q ≠ (j : Int)) :
    Calls Tryz.prog 50 #[.agg #[.slice (some ⟨p, o, none⟩) 4 cp, .int .i64 st], .iface 106 (OpV 2 ((j : Int)) (v))] w fun e w' => ComSays e w w' [(2, [])] ∧ Below w.heap.size w w' := by
  have hc : w.cell? ⟨p, o + j, none⟩ = some (I x) := by have h := hA.cells j hj; rwa [hx] at h
  have hp : p < w.heap.size := World.block_lt_of_cell? w _ hc
  have hj0 : (0 : Int) ≤ (j : Int) := by omega
  have hj1 : (j : Int) < 4 := by omega
  have HA : Hid (IntAt w (some ⟨p, o, none⟩) 4 xs) := hA
  have HI : Hid (∀ x ∈ xs, (Lit.int .i64 x).wf = true) := hi
  have HCP : Hid (4 ≤ cp) := hcp
  clear hA hi hx hcp
  have HQ : Hid (keyN xs v = q) := hq
  clear hq
  have h0' : (x != 0) = true := by simpa using h0
  clear h0
  have hq1 : ¬ q < 0 := by omega
  have HD1 : Hid (decide (0 ≤ q) = true) := decide_eq_true hq0
  have HD2 : Hid (decide (q < 0) = false) := decide_eq_false hq1
  have he : (q == (j : Int)) = false := by simpa using he0
  clear he0
  obtain ⟨W0, hW0⟩ : ∃ W0, W0 = (w.alloc (.cells #[.slice (some ⟨p, o, none⟩) 4 cp, .int .i64 st] 29)).alloc (.cells #[.int .i64 2, .int .i64 (j : Int), .int .i64 v] 106) := ⟨_, rfl⟩
  have hs0 : W0.heap.size = w.heap.size + 1 + 1 := by rw [hW0]; simp
  have HBX : Hid (∀ w', Below (w.heap.size + 1 + 1) W0 w' → (w'.cell? ⟨w.heap.size, 0, none⟩ = some (.slice (some ⟨p, o, none⟩) 4 cp) ∧ w'.cell? ⟨w.heap.size, 1, none⟩ = some (.int .i64 st) ∧ w'.cell? ⟨w.heap.size + 1, 1, none⟩ = some (.int .i64 (j : Int)) ∧ w'.cell? ⟨w.heap.size + 1, 2, none⟩ = some (.int .i64 v) ∧ w'.cell? ⟨p, o + j, none⟩ = some (I x)) ∧ Below w.heap.size w w') := fun w' hb => com_boxesR hc hW0 hb
  have t1 : ∀ w : World, (Instr.typeAssert (.iface 106 (OpV 2 ((j : Int)) (v))) 92 104 true).run Tryz.prog w = .ok (.tuple #[OpV 0 0 0, .bool false]) w := fun _ => by kernel_rfl
  have t2 : ∀ w : World, (Instr.typeAssert (.iface 106 (OpV 2 ((j : Int)) (v))) 92 106 true).run Tryz.prog w = .ok (.tuple #[OpV 2 ((j : Int)) (v), .bool true]) w := fun _ => by kernel_rfl
  go_enter Tryz.func50, Tryz.ntmps50
  go_wp2_with fail
  rw [← hW0]
  clear hW0
  have hb9 : Below (w.heap.size + 1 + 1) W0 W0 := Below.refl _ _
  go_region_held3 (fun w' => w'.cell? ⟨w.heap.size, 0, none⟩ = some (.slice (some ⟨p, o, none⟩) 4 cp) ∧ w'.cell? ⟨w.heap.size, 1, none⟩ = some (.int .i64 st) ∧ w'.cell? ⟨w.heap.size + 1, 1, none⟩ = some (.int .i64 (j : Int)) ∧ w'.cell? ⟨w.heap.size + 1, 2, none⟩ = some (.int .i64 v) ∧ w'.cell? ⟨p, o + j, none⟩ = some (I x))
      (first | (exact (HBX.out _ (by repeat first | exact hb9 | apply Below.drew | apply Below.alloc | omega | (simp; omega) | simp)).1) | go_keep)
      (first
      | (go_at_call 71
         refine (implKeyOf_room _ cp HCP.out st v xs _ (HA.out.below (HBX.out _ (by repeat first | exact hb9 | apply Below.drew | apply Below.alloc | omega | (simp; omega) | simp)).2 (Nat.le_refl _)) HI.out hv).mono ?_
         rintro e w1 ⟨rfl, hb1⟩
         rw [HQ.out]
         have hb9 : Below (w.heap.size + 1 + 1) W0 w1 := (show Below (w.heap.size + 1 + 1) W0 _ from (by repeat first | exact hb9 | apply Below.drew | apply Below.alloc | omega | (simp; omega) | simp)).trans (hb1.mono (by simp [hs0]))
         have hs1 : w.heap.size + 1 + 1 ≤ w1.heap.size := by have h := hb9.size; omega))
  go_wp2_with fail
  try rw [HD1.out]
  try rw [HD2.out]
  refine (or_no _ _ _ _ _ _).mono ?_
  rintro e w8 ⟨rfl, rfl⟩
  go_wp2_with fail
  try rw [HD1.out]
  try rw [HD2.out]
  refine (or_on (w.heap.size + 1 + 1) W0 _ _ _ _ _ _ _ (by repeat first | exact hc9 | exact com_empty_at rfl (by omega) | exact com_empty_drew rfl (by omega) | exact com_empty_drew (by simp [hs0]) (by omega) | exact com_empty_at (by simp [hs0]) (by omega) | apply World.ownsRow.alloc) (by simp) (by repeat first | exact hb9 | apply Below.drew | apply Below.alloc | omega | (simp; omega) | simp) (by omega)).mono ?_
  rintro e w9 ⟨v9, rfl, hc9, hg9, hb9⟩
  have hs9 : w.heap.size + 1 + 1 ≤ w9.heap.size := by have h := hb9.size; omega
  have kc9 := (HBX.out _ hb9).1.2.2.1
  go_wp2_with fail
  try rw [HD1.out]
  try rw [HD2.out]
  refine (or_no _ _ _ _ _ _).mono ?_
  rintro e w8 ⟨rfl, rfl⟩
  go_wp2
  go_ret
  first | exact ⟨com_done (by omega) hc9 (tells_1 _ _), (HBX.out _ hb9).2⟩ | exact ⟨com_done (by omega) (hc9.alloc _) (tells_1 _ _), (HBX.out _ (hb9.alloc (by omega) _)).2⟩
theorem comR_8_0 (p o cp : Nat) (hcp : 4 ≤ cp) (j : Nat) (st x : Int) (xs : List Int) (w : World) (hA : IntAt w (some ⟨p, o, none⟩) 4 xs) (hi : ∀ x ∈ xs, (Lit.int .i64 x).wf = true) (hj : j < 4) (hx : xs.getD j 0 = x) (h0 : st = 0) :
    Calls Tryz.prog 50 #[.agg #[.slice (some ⟨p, o, none⟩) 4 cp, .int .i64 st], .iface 112 (OpV 8 (0) (0))] w fun e w' => ComSays e w w' [(0, [])] ∧ Below w.heap.size w w' := by
  have hc : w.cell? ⟨p, o + j, none⟩ = some (I x) := by have h := hA.cells j hj; rwa [hx] at h
  have hp : p < w.heap.size := World.block_lt_of_cell? w _ hc
  have hj0 : (0 : Int) ≤ (j : Int) := by omega
  have hj1 : (j : Int) < 4 := by omega
  have HA : Hid (IntAt w (some ⟨p, o, none⟩) 4 xs) := hA
  have HI : Hid (∀ x ∈ xs, (Lit.int .i64 x).wf = true) := hi
  have HCP : Hid (4 ≤ cp) := hcp
  clear hA hi hx hcp
  have h0' : (st != 0) = false := by simpa using h0
  have h0'' : (st == 0) = true := by simpa using h0
  clear h0
  obtain ⟨W0, hW0⟩ : ∃ W0, W0 = (w.alloc (.cells #[.slice (some ⟨p, o, none⟩) 4 cp, .int .i64 st] 29)).alloc (.cells #[.int .i64 8, .int .i64 0, .int .i64 0] 112) := ⟨_, rfl⟩
  have hs0 : W0.heap.size = w.heap.size + 1 + 1 := by rw [hW0]; simp
  have HBX : Hid (∀ w', Below (w.heap.size + 1 + 1) W0 w' → (w'.cell? ⟨w.heap.size, 0, none⟩ = some (.slice (some ⟨p, o, none⟩) 4 cp) ∧ w'.cell? ⟨w.heap.size, 1, none⟩ = some (.int .i64 st) ∧ w'.cell? ⟨w.heap.size + 1, 1, none⟩ = some (.int .i64 0) ∧ w'.cell? ⟨w.heap.size + 1, 2, none⟩ = some (.int .i64 0) ∧ w'.cell? ⟨p, o + j, none⟩ = some (I x)) ∧ Below w.heap.size w w') := fun w' hb => com_boxesR hc hW0 hb
  have t1 : ∀ w : World, (Instr.typeAssert (.iface 112 (OpV 8 (0) (0))) 92 104 true).run Tryz.prog w = .ok (.tuple #[OpV 0 0 0, .bool false]) w := fun _ => by kernel_rfl
  have t2 : ∀ w : World, (Instr.typeAssert (.iface 112 (OpV 8 (0) (0))) 92 106 true).run Tryz.prog w = .ok (.tuple #[OpV 0 0 0, .bool false]) w := fun _ => by kernel_rfl
  have t3 : ∀ w : World, (Instr.typeAssert (.iface 112 (OpV 8 (0) (0))) 92 107 true).run Tryz.prog w = .ok (.tuple #[OpV 0 0 0, .bool false]) w := fun _ => by kernel_rfl
  have t4 : ∀ w : World, (Instr.typeAssert (.iface 112 (OpV 8 (0) (0))) 92 108 true).run Tryz.prog w = .ok (.tuple #[OpV 0 0 0, .bool false]) w := fun _ => by kernel_rfl
  have t5 : ∀ w : World, (Instr.typeAssert (.iface 112 (OpV 8 (0) (0))) 92 109 true).run Tryz.prog w = .ok (.tuple #[OpV 0 0 0, .bool false]) w := fun _ => by kernel_rfl
  have t6 : ∀ w : World, (Instr.typeAssert (.iface 112 (OpV 8 (0) (0))) 92 110 true).run Tryz.prog w = .ok (.tuple #[OpV 0 0 0, .bool false]) w := fun _ => by kernel_rfl
  have t7 : ∀ w : World, (Instr.typeAssert (.iface 112 (OpV 8 (0) (0))) 92 111 true).run Tryz.prog w = .ok (.tuple #[OpV 0 0 0, .bool false]) w := fun _ => by kernel_rfl
  have t8 : ∀ w : World, (Instr.typeAssert (.iface 112 (OpV 8 (0) (0))) 92 112 true).run Tryz.prog w = .ok (.tuple #[OpV 8 (0) (0), .bool true]) w := fun _ => by kernel_rfl
  go_enter Tryz.func50, Tryz.ntmps50
  go_wp2_with fail
  rw [← hW0]
  clear hW0
  have hb9 : Below (w.heap.size + 1 + 1) W0 W0 := Below.refl _ _
  go_region_held3 (fun w' => w'.cell? ⟨w.heap.size, 0, none⟩ = some (.slice (some ⟨p, o, none⟩) 4 cp) ∧ w'.cell? ⟨w.heap.size, 1, none⟩ = some (.int .i64 st) ∧ w'.cell? ⟨w.heap.size + 1, 1, none⟩ = some (.int .i64 0) ∧ w'.cell? ⟨w.heap.size + 1, 2, none⟩ = some (.int .i64 0) ∧ w'.cell? ⟨p, o + j, none⟩ = some (I x))
      (first | (exact (HBX.out _ (by repeat first | exact hb9 | apply Below.drew | apply Below.alloc | omega | (simp; omega) | simp)).1) | go_keep)
      (first
      | (have _m := m1
         go_at_call 72
         refine (or_on (w.heap.size + 1 + 1) W0 _ _ _ _ _ _ _ (by repeat first | exact hc9 | exact com_empty_at rfl (by omega) | exact com_empty_drew rfl (by omega) | exact com_empty_drew (by simp [hs0]) (by omega) | exact com_empty_at (by simp [hs0]) (by omega) | apply World.ownsRow.alloc) (by simp) (by repeat first | exact hb9 | apply Below.drew | apply Below.alloc | omega | (simp; omega) | simp) (by omega)).mono ?_
         rintro e w9 ⟨v9, rfl, hc9, hg9, hb9⟩
         have hs9 : w.heap.size + 1 + 1 ≤ w9.heap.size := by have h := hb9.size; omega
         have m2 : True := trivial)
      | (skip
         go_at_call 72
         refine (or_no _ _ _ _ _ _).mono ?_
         rintro e w8 ⟨rfl, rfl⟩
         have m1 : True := trivial))
  all_goals
    go_wp2
    go_ret
    first | exact ⟨com_done (by omega) hc9 (tells_1 _ _), (HBX.out _ hb9).2⟩ | exact ⟨com_done (by omega) (hc9.alloc _) (tells_1 _ _), (HBX.out _ (hb9.alloc (by omega) _)).2⟩

theorem comR_8_1 (p o cp : Nat) (hcp : 4 ≤ cp) (j : Nat) (st x : Int) (xs : List Int) (w : World) (hA : IntAt w (some ⟨p, o, none⟩) 4 xs) (hi : ∀ x ∈ xs, (Lit.int .i64 x).wf = true) (hj : j < 4) (hx : xs.getD j 0 = x) (h0 : st ≠ 0) :
    Calls Tryz.prog 50 #[.agg #[.slice (some ⟨p, o, none⟩) 4 cp, .int .i64 st], .iface 112 (OpV 8 (0) (0))] w fun e w' => ComSays e w w' [(4, [])] ∧ Below w.heap.size w w' := by
  have hc : w.cell? ⟨p, o + j, none⟩ = some (I x) := by have h := hA.cells j hj; rwa [hx] at h
  have hp : p < w.heap.size := World.block_lt_of_cell? w _ hc
  have hj0 : (0 : Int) ≤ (j : Int) := by omega
  have hj1 : (j : Int) < 4 := by omega
  have HA : Hid (IntAt w (some ⟨p, o, none⟩) 4 xs) := hA
  have HI : Hid (∀ x ∈ xs, (Lit.int .i64 x).wf = true) := hi
  have HCP : Hid (4 ≤ cp) := hcp
  clear hA hi hx hcp
  have h0' : (st != 0) = true := by simpa using h0
  have h0'' : (st == 0) = false := by simpa using h0
  clear h0
  obtain ⟨W0, hW0⟩ : ∃ W0, W0 = (w.alloc (.cells #[.slice (some ⟨p, o, none⟩) 4 cp, .int .i64 st] 29)).alloc (.cells #[.int .i64 8, .int .i64 0, .int .i64 0] 112) := ⟨_, rfl⟩
  have hs0 : W0.heap.size = w.heap.size + 1 + 1 := by rw [hW0]; simp
  have HBX : Hid (∀ w', Below (w.heap.size + 1 + 1) W0 w' → (w'.cell? ⟨w.heap.size, 0, none⟩ = some (.slice (some ⟨p, o, none⟩) 4 cp) ∧ w'.cell? ⟨w.heap.size, 1, none⟩ = some (.int .i64 st) ∧ w'.cell? ⟨w.heap.size + 1, 1, none⟩ = some (.int .i64 0) ∧ w'.cell? ⟨w.heap.size + 1, 2, none⟩ = some (.int .i64 0) ∧ w'.cell? ⟨p, o + j, none⟩ = some (I x)) ∧ Below w.heap.size w w') := fun w' hb => com_boxesR hc hW0 hb
  have t1 : ∀ w : World, (Instr.typeAssert (.iface 112 (OpV 8 (0) (0))) 92 104 true).run Tryz.prog w = .ok (.tuple #[OpV 0 0 0, .bool false]) w := fun _ => by kernel_rfl
  have t2 : ∀ w : World, (Instr.typeAssert (.iface 112 (OpV 8 (0) (0))) 92 106 true).run Tryz.prog w = .ok (.tuple #[OpV 0 0 0, .bool false]) w := fun _ => by kernel_rfl
  have t3 : ∀ w : World, (Instr.typeAssert (.iface 112 (OpV 8 (0) (0))) 92 107 true).run Tryz.prog w = .ok (.tuple #[OpV 0 0 0, .bool false]) w := fun _ => by kernel_rfl
  have t4 : ∀ w : World, (Instr.typeAssert (.iface 112 (OpV 8 (0) (0))) 92 108 true).run Tryz.prog w = .ok (.tuple #[OpV 0 0 0, .bool false]) w := fun _ => by kernel_rfl
  have t5 : ∀ w : World, (Instr.typeAssert (.iface 112 (OpV 8 (0) (0))) 92 109 true).run Tryz.prog w = .ok (.tuple #[OpV 0 0 0, .bool false]) w := fun _ => by kernel_rfl
  have t6 : ∀ w : World, (Instr.typeAssert (.iface 112 (OpV 8 (0) (0))) 92 110 true).run Tryz.prog w = .ok (.tuple #[OpV 0 0 0, .bool false]) w := fun _ => by kernel_rfl
  have t7 : ∀ w : World, (Instr.typeAssert (.iface 112 (OpV 8 (0) (0))) 92 111 true).run Tryz.prog w = .ok (.tuple #[OpV 0 0 0, .bool false]) w := fun _ => by kernel_rfl
  have t8 : ∀ w : World, (Instr.typeAssert (.iface 112 (OpV 8 (0) (0))) 92 112 true).run Tryz.prog w = .ok (.tuple #[OpV 8 (0) (0), .bool true]) w := fun _ => by kernel_rfl
  go_enter Tryz.func50, Tryz.ntmps50
  go_wp2_with fail
  rw [← hW0]
  clear hW0
  have hb9 : Below (w.heap.size + 1 + 1) W0 W0 := Below.refl _ _
  go_region_held3 (fun w' => w'.cell? ⟨w.heap.size, 0, none⟩ = some (.slice (some ⟨p, o, none⟩) 4 cp) ∧ w'.cell? ⟨w.heap.size, 1, none⟩ = some (.int .i64 st) ∧ w'.cell? ⟨w.heap.size + 1, 1, none⟩ = some (.int .i64 0) ∧ w'.cell? ⟨w.heap.size + 1, 2, none⟩ = some (.int .i64 0) ∧ w'.cell? ⟨p, o + j, none⟩ = some (I x))
      (first | (exact (HBX.out _ (by repeat first | exact hb9 | apply Below.drew | apply Below.alloc | omega | (simp; omega) | simp)).1) | go_keep)
      (first
      | (have _m := m1
         go_at_call 72
         refine (or_no _ _ _ _ _ _).mono ?_
         rintro e w8 ⟨rfl, rfl⟩
         have m2 : True := trivial)
      | (skip
         go_at_call 72
         refine (or_on (w.heap.size + 1 + 1) W0 _ _ _ _ _ _ _ (by repeat first | exact hc9 | exact com_empty_at rfl (by omega) | exact com_empty_drew rfl (by omega) | exact com_empty_drew (by simp [hs0]) (by omega) | exact com_empty_at (by simp [hs0]) (by omega) | apply World.ownsRow.alloc) (by simp) (by repeat first | exact hb9 | apply Below.drew | apply Below.alloc | omega | (simp; omega) | simp) (by omega)).mono ?_
         rintro e w9 ⟨v9, rfl, hc9, hg9, hb9⟩
         have hs9 : w.heap.size + 1 + 1 ≤ w9.heap.size := by have h := hb9.size; omega
         have m1 : True := trivial))
  all_goals
    go_wp2
    go_ret
    first | exact ⟨com_done (by omega) hc9 (tells_1 _ _), (HBX.out _ hb9).2⟩ | exact ⟨com_done (by omega) (hc9.alloc _) (tells_1 _ _), (HBX.out _ (hb9.alloc (by omega) _)).2⟩

theorem comR_9_0 (p o cp : Nat) (hcp : 4 ≤ cp) (j : Nat) (st x : Int) (xs : List Int) (w : World) (hA : IntAt w (some ⟨p, o, none⟩) 4 xs) (hi : ∀ x ∈ xs, (Lit.int .i64 x).wf = true) (hj : j < 4) (hx : xs.getD j 0 = x) (h0 : st = 0) :
    Calls Tryz.prog 50 #[.agg #[.slice (some ⟨p, o, none⟩) 4 cp, .int .i64 st], .iface 113 (OpV 9 (0) (0))] w fun e w' => ComSays e w w' [(4, [])] ∧ Below w.heap.size w w' := by
  have hc : w.cell? ⟨p, o + j, none⟩ = some (I x) := by have h := hA.cells j hj; rwa [hx] at h
  have hp : p < w.heap.size := World.block_lt_of_cell? w _ hc
  have hj0 : (0 : Int) ≤ (j : Int) := by omega
  have hj1 : (j : Int) < 4 := by omega
  have HA : Hid (IntAt w (some ⟨p, o, none⟩) 4 xs) := hA
  have HI : Hid (∀ x ∈ xs, (Lit.int .i64 x).wf = true) := hi
  have HCP : Hid (4 ≤ cp) := hcp
  clear hA hi hx hcp
  have h0' : (st != 0) = false := by simpa using h0
  have h0'' : (st == 0) = true := by simpa using h0
  clear h0
  obtain ⟨W0, hW0⟩ : ∃ W0, W0 = (w.alloc (.cells #[.slice (some ⟨p, o, none⟩) 4 cp, .int .i64 st] 29)).alloc (.cells #[.int .i64 9, .int .i64 0, .int .i64 0] 113) := ⟨_, rfl⟩
  have hs0 : W0.heap.size = w.heap.size + 1 + 1 := by rw [hW0]; simp
  have HBX : Hid (∀ w', Below (w.heap.size + 1 + 1) W0 w' → (w'.cell? ⟨w.heap.size, 0, none⟩ = some (.slice (some ⟨p, o, none⟩) 4 cp) ∧ w'.cell? ⟨w.heap.size, 1, none⟩ = some (.int .i64 st) ∧ w'.cell? ⟨w.heap.size + 1, 1, none⟩ = some (.int .i64 0) ∧ w'.cell? ⟨w.heap.size + 1, 2, none⟩ = some (.int .i64 0) ∧ w'.cell? ⟨p, o + j, none⟩ = some (I x)) ∧ Below w.heap.size w w') := fun w' hb => com_boxesR hc hW0 hb
  have t1 : ∀ w : World, (Instr.typeAssert (.iface 113 (OpV 9 (0) (0))) 92 104 true).run Tryz.prog w = .ok (.tuple #[OpV 0 0 0, .bool false]) w := fun _ => by kernel_rfl
  have t2 : ∀ w : World, (Instr.typeAssert (.iface 113 (OpV 9 (0) (0))) 92 106 true).run Tryz.prog w = .ok (.tuple #[OpV 0 0 0, .bool false]) w := fun _ => by kernel_rfl
  have t3 : ∀ w : World, (Instr.typeAssert (.iface 113 (OpV 9 (0) (0))) 92 107 true).run Tryz.prog w = .ok (.tuple #[OpV 0 0 0, .bool false]) w := fun _ => by kernel_rfl
  have t4 : ∀ w : World, (Instr.typeAssert (.iface 113 (OpV 9 (0) (0))) 92 108 true).run Tryz.prog w = .ok (.tuple #[OpV 0 0 0, .bool false]) w := fun _ => by kernel_rfl
  have t5 : ∀ w : World, (Instr.typeAssert (.iface 113 (OpV 9 (0) (0))) 92 109 true).run Tryz.prog w = .ok (.tuple #[OpV 0 0 0, .bool false]) w := fun _ => by kernel_rfl
  have t6 : ∀ w : World, (Instr.typeAssert (.iface 113 (OpV 9 (0) (0))) 92 110 true).run Tryz.prog w = .ok (.tuple #[OpV 0 0 0, .bool false]) w := fun _ => by kernel_rfl
  have t7 : ∀ w : World, (Instr.typeAssert (.iface 113 (OpV 9 (0) (0))) 92 111 true).run Tryz.prog w = .ok (.tuple #[OpV 0 0 0, .bool false]) w := fun _ => by kernel_rfl
  have t8 : ∀ w : World, (Instr.typeAssert (.iface 113 (OpV 9 (0) (0))) 92 112 true).run Tryz.prog w = .ok (.tuple #[OpV 0 0 0, .bool false]) w := fun _ => by kernel_rfl
  have t9 : ∀ w : World, (Instr.typeAssert (.iface 113 (OpV 9 (0) (0))) 92 113 true).run Tryz.prog w = .ok (.tuple #[OpV 9 (0) (0), .bool true]) w := fun _ => by kernel_rfl
  go_enter Tryz.func50, Tryz.ntmps50
  go_wp2_with fail
  rw [← hW0]
  clear hW0
  have hb9 : Below (w.heap.size + 1 + 1) W0 W0 := Below.refl _ _
  refine (or_on (w.heap.size + 1 + 1) W0 _ _ _ _ _ _ _ (by repeat first | exact hc9 | exact com_empty_at rfl (by omega) | exact com_empty_drew rfl (by omega) | exact com_empty_drew (by simp [hs0]) (by omega) | exact com_empty_at (by simp [hs0]) (by omega) | apply World.ownsRow.alloc) (by simp) (by repeat first | exact hb9 | apply Below.drew | apply Below.alloc | omega | (simp; omega) | simp) (by omega)).mono ?_
  rintro e w9 ⟨v9, rfl, hc9, hg9, hb9⟩
  have hs9 : w.heap.size + 1 + 1 ≤ w9.heap.size := by have h := hb9.size; omega
  go_wp2_with fail
  refine (or_no _ _ _ _ _ _).mono ?_
  rintro e w8 ⟨rfl, rfl⟩
  go_wp2
  go_ret
  first | exact ⟨com_done (by omega) hc9 (tells_1 _ _), (HBX.out _ hb9).2⟩ | exact ⟨com_done (by omega) (hc9.alloc _) (tells_1 _ _), (HBX.out _ (hb9.alloc (by omega) _)).2⟩

theorem comR_9_5 (p o cp : Nat) (hcp : 4 ≤ cp) (j : Nat) (st x : Int) (xs : List Int) (w : World) (hA : IntAt w (some ⟨p, o, none⟩) 4 xs) (hi : ∀ x ∈ xs, (Lit.int .i64 x).wf = true) (hj : j < 4) (hx : xs.getD j 0 = x) (h0 : st ≠ 0) (h5 : st = 5) :
    Calls Tryz.prog 50 #[.agg #[.slice (some ⟨p, o, none⟩) 4 cp, .int .i64 st], .iface 113 (OpV 9 (0) (0))] w fun e w' => ComSays e w w' [(4, [])] ∧ Below w.heap.size w w' := by
  have hc : w.cell? ⟨p, o + j, none⟩ = some (I x) := by have h := hA.cells j hj; rwa [hx] at h
  have hp : p < w.heap.size := World.block_lt_of_cell? w _ hc
  have hj0 : (0 : Int) ≤ (j : Int) := by omega
  have hj1 : (j : Int) < 4 := by omega
  have HA : Hid (IntAt w (some ⟨p, o, none⟩) 4 xs) := hA
  have HI : Hid (∀ x ∈ xs, (Lit.int .i64 x).wf = true) := hi
  have HCP : Hid (4 ≤ cp) := hcp
  clear hA hi hx hcp
  have h0' : (st != 0) = true := by simpa using h0
  have h0'' : (st == 0) = false := by simpa using h0
  clear h0
  have h5' : (st != 5) = false := by simpa using h5
  have h5'' : (st == 5) = true := by simpa using h5
  clear h5
  obtain ⟨W0, hW0⟩ : ∃ W0, W0 = (w.alloc (.cells #[.slice (some ⟨p, o, none⟩) 4 cp, .int .i64 st] 29)).alloc (.cells #[.int .i64 9, .int .i64 0, .int .i64 0] 113) := ⟨_, rfl⟩
  have hs0 : W0.heap.size = w.heap.size + 1 + 1 := by rw [hW0]; simp
  have HBX : Hid (∀ w', Below (w.heap.size + 1 + 1) W0 w' → (w'.cell? ⟨w.heap.size, 0, none⟩ = some (.slice (some ⟨p, o, none⟩) 4 cp) ∧ w'.cell? ⟨w.heap.size, 1, none⟩ = some (.int .i64 st) ∧ w'.cell? ⟨w.heap.size + 1, 1, none⟩ = some (.int .i64 0) ∧ w'.cell? ⟨w.heap.size + 1, 2, none⟩ = some (.int .i64 0) ∧ w'.cell? ⟨p, o + j, none⟩ = some (I x)) ∧ Below w.heap.size w w') := fun w' hb => com_boxesR hc hW0 hb
  have t1 : ∀ w : World, (Instr.typeAssert (.iface 113 (OpV 9 (0) (0))) 92 104 true).run Tryz.prog w = .ok (.tuple #[OpV 0 0 0, .bool false]) w := fun _ => by kernel_rfl
  have t2 : ∀ w : World, (Instr.typeAssert (.iface 113 (OpV 9 (0) (0))) 92 106 true).run Tryz.prog w = .ok (.tuple #[OpV 0 0 0, .bool false]) w := fun _ => by kernel_rfl
  have t3 : ∀ w : World, (Instr.typeAssert (.iface 113 (OpV 9 (0) (0))) 92 107 true).run Tryz.prog w = .ok (.tuple #[OpV 0 0 0, .bool false]) w := fun _ => by kernel_rfl
  have t4 : ∀ w : World, (Instr.typeAssert (.iface 113 (OpV 9 (0) (0))) 92 108 true).run Tryz.prog w = .ok (.tuple #[OpV 0 0 0, .bool false]) w := fun _ => by kernel_rfl
  have t5 : ∀ w : World, (Instr.typeAssert (.iface 113 (OpV 9 (0) (0))) 92 109 true).run Tryz.prog w = .ok (.tuple #[OpV 0 0 0, .bool false]) w := fun _ => by kernel_rfl
  have t6 : ∀ w : World, (Instr.typeAssert (.iface 113 (OpV 9 (0) (0))) 92 110 true).run Tryz.prog w = .ok (.tuple #[OpV 0 0 0, .bool false]) w := fun _ => by kernel_rfl
  have t7 : ∀ w : World, (Instr.typeAssert (.iface 113 (OpV 9 (0) (0))) 92 111 true).run Tryz.prog w = .ok (.tuple #[OpV 0 0 0, .bool false]) w := fun _ => by kernel_rfl
  have t8 : ∀ w : World, (Instr.typeAssert (.iface 113 (OpV 9 (0) (0))) 92 112 true).run Tryz.prog w = .ok (.tuple #[OpV 0 0 0, .bool false]) w := fun _ => by kernel_rfl
  have t9 : ∀ w : World, (Instr.typeAssert (.iface 113 (OpV 9 (0) (0))) 92 113 true).run Tryz.prog w = .ok (.tuple #[OpV 9 (0) (0), .bool true]) w := fun _ => by kernel_rfl
  go_enter Tryz.func50, Tryz.ntmps50
  go_wp2_with fail
  rw [← hW0]
  clear hW0
  have hb9 : Below (w.heap.size + 1 + 1) W0 W0 := Below.refl _ _
  refine (or_on (w.heap.size + 1 + 1) W0 _ _ _ _ _ _ _ (by repeat first | exact hc9 | exact com_empty_at rfl (by omega) | exact com_empty_drew rfl (by omega) | exact com_empty_drew (by simp [hs0]) (by omega) | exact com_empty_at (by simp [hs0]) (by omega) | apply World.ownsRow.alloc) (by simp) (by repeat first | exact hb9 | apply Below.drew | apply Below.alloc | omega | (simp; omega) | simp) (by omega)).mono ?_
  rintro e w9 ⟨v9, rfl, hc9, hg9, hb9⟩
  have hs9 : w.heap.size + 1 + 1 ≤ w9.heap.size := by have h := hb9.size; omega
  go_wp2_with fail
  refine (or_no _ _ _ _ _ _).mono ?_
  rintro e w8 ⟨rfl, rfl⟩
  go_wp2
  go_ret
  first | exact ⟨com_done (by omega) hc9 (tells_1 _ _), (HBX.out _ hb9).2⟩ | exact ⟨com_done (by omega) (hc9.alloc _) (tells_1 _ _), (HBX.out _ (hb9.alloc (by omega) _)).2⟩

theorem comR_9_1 (p o cp : Nat) (hcp : 4 ≤ cp) (j : Nat) (st x : Int) (xs : List Int) (w : World) (hA : IntAt w (some ⟨p, o, none⟩) 4 xs) (hi : ∀ x ∈ xs, (Lit.int .i64 x).wf = true) (hj : j < 4) (hx : xs.getD j 0 = x) (h0 : st ≠ 0) (h5 : st ≠ 5) :
    Calls Tryz.prog 50 #[.agg #[.slice (some ⟨p, o, none⟩) 4 cp, .int .i64 st], .iface 113 (OpV 9 (0) (0))] w fun e w' => ComSays e w w' [(0, [])] ∧ Below w.heap.size w w' := by
  have hc : w.cell? ⟨p, o + j, none⟩ = some (I x) := by have h := hA.cells j hj; rwa [hx] at h
  have hp : p < w.heap.size := World.block_lt_of_cell? w _ hc
  have hj0 : (0 : Int) ≤ (j : Int) := by omega
  have hj1 : (j : Int) < 4 := by omega
  have HA : Hid (IntAt w (some ⟨p, o, none⟩) 4 xs) := hA
  have HI : Hid (∀ x ∈ xs, (Lit.int .i64 x).wf = true) := hi
  have HCP : Hid (4 ≤ cp) := hcp
  clear hA hi hx hcp
  have h0' : (st != 0) = true := by simpa using h0
  have h0'' : (st == 0) = false := by simpa using h0
  clear h0
  have h5' : (st != 5) = true := by simpa using h5
  have h5'' : (st == 5) = false := by simpa using h5
  clear h5
  obtain ⟨W0, hW0⟩ : ∃ W0, W0 = (w.alloc (.cells #[.slice (some ⟨p, o, none⟩) 4 cp, .int .i64 st] 29)).alloc (.cells #[.int .i64 9, .int .i64 0, .int .i64 0] 113) := ⟨_, rfl⟩
  have hs0 : W0.heap.size = w.heap.size + 1 + 1 := by rw [hW0]; simp
  have HBX : Hid (∀ w', Below (w.heap.size + 1 + 1) W0 w' → (w'.cell? ⟨w.heap.size, 0, none⟩ = some (.slice (some ⟨p, o, none⟩) 4 cp) ∧ w'.cell? ⟨w.heap.size, 1, none⟩ = some (.int .i64 st) ∧ w'.cell? ⟨w.heap.size + 1, 1, none⟩ = some (.int .i64 0) ∧ w'.cell? ⟨w.heap.size + 1, 2, none⟩ = some (.int .i64 0) ∧ w'.cell? ⟨p, o + j, none⟩ = some (I x)) ∧ Below w.heap.size w w') := fun w' hb => com_boxesR hc hW0 hb
  have t1 : ∀ w : World, (Instr.typeAssert (.iface 113 (OpV 9 (0) (0))) 92 104 true).run Tryz.prog w = .ok (.tuple #[OpV 0 0 0, .bool false]) w := fun _ => by kernel_rfl
  have t2 : ∀ w : World, (Instr.typeAssert (.iface 113 (OpV 9 (0) (0))) 92 106 true).run Tryz.prog w = .ok (.tuple #[OpV 0 0 0, .bool false]) w := fun _ => by kernel_rfl
  have t3 : ∀ w : World, (Instr.typeAssert (.iface 113 (OpV 9 (0) (0))) 92 107 true).run Tryz.prog w = .ok (.tuple #[OpV 0 0 0, .bool false]) w := fun _ => by kernel_rfl
  have t4 : ∀ w : World, (Instr.typeAssert (.iface 113 (OpV 9 (0) (0))) 92 108 true).run Tryz.prog w = .ok (.tuple #[OpV 0 0 0, .bool false]) w := fun _ => by kernel_rfl
  have t5 : ∀ w : World, (Instr.typeAssert (.iface 113 (OpV 9 (0) (0))) 92 109 true).run Tryz.prog w = .ok (.tuple #[OpV 0 0 0, .bool false]) w := fun _ => by kernel_rfl
  have t6 : ∀ w : World, (Instr.typeAssert (.iface 113 (OpV 9 (0) (0))) 92 110 true).run Tryz.prog w = .ok (.tuple #[OpV 0 0 0, .bool false]) w := fun _ => by kernel_rfl
  have t7 : ∀ w : World, (Instr.typeAssert (.iface 113 (OpV 9 (0) (0))) 92 111 true).run Tryz.prog w = .ok (.tuple #[OpV 0 0 0, .bool false]) w := fun _ => by kernel_rfl
  have t8 : ∀ w : World, (Instr.typeAssert (.iface 113 (OpV 9 (0) (0))) 92 112 true).run Tryz.prog w = .ok (.tuple #[OpV 0 0 0, .bool false]) w := fun _ => by kernel_rfl
  have t9 : ∀ w : World, (Instr.typeAssert (.iface 113 (OpV 9 (0) (0))) 92 113 true).run Tryz.prog w = .ok (.tuple #[OpV 9 (0) (0), .bool true]) w := fun _ => by kernel_rfl
  go_enter Tryz.func50, Tryz.ntmps50
  go_wp2_with fail
  rw [← hW0]
  clear hW0
  have hb9 : Below (w.heap.size + 1 + 1) W0 W0 := Below.refl _ _
  refine (or_no _ _ _ _ _ _).mono ?_
  rintro e w8 ⟨rfl, rfl⟩
  go_wp2_with fail
  refine (or_on (w.heap.size + 1 + 1) W0 _ _ _ _ _ _ _ (by repeat first | exact hc9 | exact com_empty_at rfl (by omega) | exact com_empty_drew rfl (by omega) | exact com_empty_drew (by simp [hs0]) (by omega) | exact com_empty_at (by simp [hs0]) (by omega) | apply World.ownsRow.alloc) (by simp) (by repeat first | exact hb9 | apply Below.drew | apply Below.alloc | omega | (simp; omega) | simp) (by omega)).mono ?_
  rintro e w9 ⟨v9, rfl, hc9, hg9, hb9⟩
  have hs9 : w.heap.size + 1 + 1 ≤ w9.heap.size := by have h := hb9.size; omega
  go_wp2
  go_ret
  first | exact ⟨com_done (by omega) hc9 (tells_1 _ _), (HBX.out _ hb9).2⟩ | exact ⟨com_done (by omega) (hc9.alloc _) (tells_1 _ _), (HBX.out _ (hb9.alloc (by omega) _)).2⟩
end
end Go.Proofs.YtecheopkfhfgkaaGreat
