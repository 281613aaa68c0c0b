/- Texts joined: ImplCom5, ImplCom6, ImplCom7, ComLL, ImplCom. -/
import Derived.Test.YtenlapppaimkkabGreatDoorPL03
import Derived.Test.YtenlapppaimkkabGreatDoorPL21
import Derived.Test.YtenlapppaimkkabGreatDoorPL02
import Derived.Deep.RegionHeld3
import Derived.Test.YtenlapppaimkkabGreatDoorPL30
import Derived.Test.YtenlapppaimkkabGreatDoorPL31
import Derived.Test.YtenlapppaimkkabGreatDoorPL32
import Derived.Test.YtenlapppaimkkabGreatDoorPL33
set_option maxHeartbeats 4000000
set_option maxRecDepth 100000
namespace Go.Proofs.YtenlapppaimkkabGreatDoor
section
open Go.ChangeShapes Go.WideShapes Go.ChangeAt Go.RowKit Go.Maps
theorem com_10_n (p o j : Nat) (st x : Int) (xs : List Int) (w : World) (hA : IntAt w (some ⟨p, o, none⟩) 4 xs) (hi : ∀ x ∈ xs, (Lit.int .i64 x).wf = true) (hj : j < 4) (hx : xs.getD j 0 = x) (v q : Int) (hv : 1 ≤ v ∧ v ≤ 6) (hq : keyN xs v = q) (h5 : st ≠ 5) (hq0 : q < 0) :
    Calls Tryz.prog 42 #[.agg #[.slice (some ⟨p, o, none⟩) 4 4, .int .i64 st], .iface 102 (OpV 10 (0) (v))] w fun e w' => ComSays e w w' [(4, [])] ∧ Below w.heap.size w w' := by
  have hc : w.cell? ⟨p, o + j, none⟩ = some (I x) := by have h := hA.cells j hj; rwa [hx] at h
  have hp : p < w.heap.size := World.block_lt_of_cell? w _ hc
  have hj0 : (0 : Int) ≤ (j : Int) := by omega
  have hj1 : (j : Int) < 4 := by omega
  have HA : Hid (IntAt w (some ⟨p, o, none⟩) 4 xs) := hA
  have HI : Hid (∀ x ∈ xs, (Lit.int .i64 x).wf = true) := hi
  clear hA hi hx
  have HQ : Hid (keyN xs v = q) := hq
  clear hq
  have h5' : (st != 5) = true := by simpa using h5
  have h5'' : (st == 5) = false := by simpa using h5
  clear h5
  have hq1 : ¬ 0 ≤ q := by omega
  have HD1 : Hid (decide (0 ≤ q) = false) := decide_eq_false hq1
  have HD2 : Hid (decide (q < 0) = true) := decide_eq_true hq0
  obtain ⟨W0, hW0⟩ : ∃ W0, W0 = (w.alloc (.cells #[.slice (some ⟨p, o, none⟩) 4 4, .int .i64 st] 26)).alloc (.cells #[.int .i64 10, .int .i64 0, .int .i64 v] 102) := ⟨_, rfl⟩
  have hs0 : W0.heap.size = w.heap.size + 1 + 1 := by rw [hW0]; simp
  have HBX : Hid (∀ w', Below (w.heap.size + 1 + 1) W0 w' → (w'.cell? ⟨w.heap.size, 0, none⟩ = some (.slice (some ⟨p, o, none⟩) 4 4) ∧ w'.cell? ⟨w.heap.size, 1, none⟩ = some (.int .i64 st) ∧ w'.cell? ⟨w.heap.size + 1, 1, none⟩ = some (.int .i64 0) ∧ w'.cell? ⟨w.heap.size + 1, 2, none⟩ = some (.int .i64 v) ∧ w'.cell? ⟨p, o + j, none⟩ = some (I x)) ∧ Below w.heap.size w w') := fun w' hb => com_boxes hc hW0 hb
  have t1 : ∀ w : World, (Instr.typeAssert (.iface 102 (OpV 10 (0) (v))) 56 93 true).run Tryz.prog w = .ok (.tuple #[OpV 0 0 0, .bool false]) w := fun _ => by kernel_rfl
  have t2 : ∀ w : World, (Instr.typeAssert (.iface 102 (OpV 10 (0) (v))) 56 94 true).run Tryz.prog w = .ok (.tuple #[OpV 0 0 0, .bool false]) w := fun _ => by kernel_rfl
  have t3 : ∀ w : World, (Instr.typeAssert (.iface 102 (OpV 10 (0) (v))) 56 95 true).run Tryz.prog w = .ok (.tuple #[OpV 0 0 0, .bool false]) w := fun _ => by kernel_rfl
  have t4 : ∀ w : World, (Instr.typeAssert (.iface 102 (OpV 10 (0) (v))) 56 96 true).run Tryz.prog w = .ok (.tuple #[OpV 0 0 0, .bool false]) w := fun _ => by kernel_rfl
  have t5 : ∀ w : World, (Instr.typeAssert (.iface 102 (OpV 10 (0) (v))) 56 97 true).run Tryz.prog w = .ok (.tuple #[OpV 0 0 0, .bool false]) w := fun _ => by kernel_rfl
  have t6 : ∀ w : World, (Instr.typeAssert (.iface 102 (OpV 10 (0) (v))) 56 98 true).run Tryz.prog w = .ok (.tuple #[OpV 0 0 0, .bool false]) w := fun _ => by kernel_rfl
  have t7 : ∀ w : World, (Instr.typeAssert (.iface 102 (OpV 10 (0) (v))) 56 99 true).run Tryz.prog w = .ok (.tuple #[OpV 0 0 0, .bool false]) w := fun _ => by kernel_rfl
  have t8 : ∀ w : World, (Instr.typeAssert (.iface 102 (OpV 10 (0) (v))) 56 100 true).run Tryz.prog w = .ok (.tuple #[OpV 0 0 0, .bool false]) w := fun _ => by kernel_rfl
  have t9 : ∀ w : World, (Instr.typeAssert (.iface 102 (OpV 10 (0) (v))) 56 101 true).run Tryz.prog w = .ok (.tuple #[OpV 0 0 0, .bool false]) w := fun _ => by kernel_rfl
  have t10 : ∀ w : World, (Instr.typeAssert (.iface 102 (OpV 10 (0) (v))) 56 102 true).run Tryz.prog w = .ok (.tuple #[OpV 10 (0) (v), .bool true]) w := fun _ => by kernel_rfl
  go_enter Tryz.func42, Tryz.ntmps42
  go_wp2_with fail
  rw [← hW0]
  clear hW0
  have hb9 : Below (w.heap.size + 1 + 1) W0 W0 := Below.refl _ _
  go_region_held3 (fun w' => w'.cell? ⟨w.heap.size, 0, none⟩ = some (.slice (some ⟨p, o, none⟩) 4 4) ∧ w'.cell? ⟨w.heap.size, 1, none⟩ = some (.int .i64 st) ∧ w'.cell? ⟨w.heap.size + 1, 1, none⟩ = some (.int .i64 0) ∧ w'.cell? ⟨w.heap.size + 1, 2, none⟩ = some (.int .i64 v) ∧ w'.cell? ⟨p, o + j, none⟩ = some (I x))
      (first | (exact (HBX.out _ hb9).1) | (exact (HBX.out _ hb9.drew).1) | (exact (HBX.out _ (hb9.alloc (by omega) _)).1) | (exact (HBX.out _ (hb9.alloc (by omega) _).drew).1) | (exact (HBX.out _ ((hb9.alloc (by omega) _).alloc (by simp; omega) _)).1) | (exact (HBX.out _ ((hb9.alloc (by omega) _).alloc (by simp; omega) _).drew).1) | go_keep)
      (first
      | (go_at_call 84
         refine (implKeyOf_four _ st v xs _ (HA.out.below (HBX.out _ (by first | exact hb9 | exact hb9.drew | exact hb9.alloc (by omega) _ | exact (hb9.alloc (by omega) _).drew | exact (hb9.alloc (by omega) _).alloc (by simp; omega) _ | exact ((hb9.alloc (by omega) _).alloc (by simp; omega) _).drew)).2 (Nat.le_refl _)) HI.out hv).mono ?_
         rintro e w1 ⟨rfl, hb1⟩
         rw [HQ.out]
         have hb9 : Below (w.heap.size + 1 + 1) W0 w1 := (show Below (w.heap.size + 1 + 1) W0 _ from (by first | exact hb9 | exact hb9.drew | exact hb9.alloc (by omega) _ | exact (hb9.alloc (by omega) _).drew | exact (hb9.alloc (by omega) _).alloc (by simp; omega) _ | exact ((hb9.alloc (by omega) _).alloc (by simp; omega) _).drew)).trans (hb1.mono (by simp [hs0]))
         have hs1 : w.heap.size + 1 + 1 ≤ w1.heap.size := by have h := hb9.size; omega))
  go_wp2_with fail
  try rw [HD1.out]
  try rw [HD2.out]
  refine (or_on (w.heap.size + 1 + 1) W0 _ _ _ _ _ _ _ (by first | exact hc9 | exact hc9.alloc _ | exact com_empty_at rfl (by omega) | exact (com_empty_at rfl (by omega)).alloc _ | exact com_empty_drew rfl (by omega) | exact (com_empty_drew rfl (by omega)).alloc _ | exact com_empty_drew (by simp [hs0]) (by omega) | exact com_empty_at (by simp [hs0]) (by omega) | exact (com_empty_drew (by simp [hs0]) (by omega)).alloc _ | exact (com_empty_at (by simp [hs0]) (by omega)).alloc _) (by simp) (by first | exact hb9 | exact hb9.drew | exact hb9.alloc (by omega) _ | exact (hb9.alloc (by omega) _).drew | exact (hb9.alloc (by omega) _).alloc (by simp; omega) _ | exact ((hb9.alloc (by omega) _).alloc (by simp; omega) _).drew) (by omega)).mono ?_
  rintro e w9 ⟨v9, rfl, hc9, hg9, hb9⟩
  have hs9 : w.heap.size + 1 + 1 ≤ w9.heap.size := by have h := hb9.size; omega
  go_wp2_with fail
  try rw [HD1.out]
  try rw [HD2.out]
  refine (or_no _ _ _ _ _ _).mono ?_
  rintro e w8 ⟨rfl, rfl⟩
  go_wp2_with fail
  try rw [HD1.out]
  try rw [HD2.out]
  refine (or_no _ _ _ _ _ _).mono ?_
  rintro e w8 ⟨rfl, rfl⟩
  go_wp2
  go_ret
  first | exact ⟨com_done (by omega) hc9 (tells_1 _ _), (HBX.out _ hb9).2⟩ | exact ⟨com_done (by omega) (hc9.alloc _) (tells_1 _ _), (HBX.out _ (hb9.alloc (by omega) _)).2⟩

theorem com_10_m (p o j : Nat) (st x : Int) (xs : List Int) (w : World) (hA : IntAt w (some ⟨p, o, none⟩) 4 xs) (hi : ∀ x ∈ xs, (Lit.int .i64 x).wf = true) (hj : j < 4) (hx : xs.getD j 0 = x) (v q : Int) (hv : 1 ≤ v ∧ v ≤ 6) (hq : keyN xs v = q) (h5 : st ≠ 5) (hq0 : 0 ≤ q) :
    Calls Tryz.prog 42 #[.agg #[.slice (some ⟨p, o, none⟩) 4 4, .int .i64 st], .iface 102 (OpV 10 (0) (v))] w fun e w' => ComSays e w w' [(4, [])] ∧ Below w.heap.size w w' := by
  have hc : w.cell? ⟨p, o + j, none⟩ = some (I x) := by have h := hA.cells j hj; rwa [hx] at h
  have hp : p < w.heap.size := World.block_lt_of_cell? w _ hc
  have hj0 : (0 : Int) ≤ (j : Int) := by omega
  have hj1 : (j : Int) < 4 := by omega
  have HA : Hid (IntAt w (some ⟨p, o, none⟩) 4 xs) := hA
  have HI : Hid (∀ x ∈ xs, (Lit.int .i64 x).wf = true) := hi
  clear hA hi hx
  have HQ : Hid (keyN xs v = q) := hq
  clear hq
  have h5' : (st != 5) = true := by simpa using h5
  have h5'' : (st == 5) = false := by simpa using h5
  clear h5
  have hq1 : ¬ q < 0 := by omega
  have HD1 : Hid (decide (0 ≤ q) = true) := decide_eq_true hq0
  have HD2 : Hid (decide (q < 0) = false) := decide_eq_false hq1
  obtain ⟨W0, hW0⟩ : ∃ W0, W0 = (w.alloc (.cells #[.slice (some ⟨p, o, none⟩) 4 4, .int .i64 st] 26)).alloc (.cells #[.int .i64 10, .int .i64 0, .int .i64 v] 102) := ⟨_, rfl⟩
  have hs0 : W0.heap.size = w.heap.size + 1 + 1 := by rw [hW0]; simp
  have HBX : Hid (∀ w', Below (w.heap.size + 1 + 1) W0 w' → (w'.cell? ⟨w.heap.size, 0, none⟩ = some (.slice (some ⟨p, o, none⟩) 4 4) ∧ w'.cell? ⟨w.heap.size, 1, none⟩ = some (.int .i64 st) ∧ w'.cell? ⟨w.heap.size + 1, 1, none⟩ = some (.int .i64 0) ∧ w'.cell? ⟨w.heap.size + 1, 2, none⟩ = some (.int .i64 v) ∧ w'.cell? ⟨p, o + j, none⟩ = some (I x)) ∧ Below w.heap.size w w') := fun w' hb => com_boxes hc hW0 hb
  have t1 : ∀ w : World, (Instr.typeAssert (.iface 102 (OpV 10 (0) (v))) 56 93 true).run Tryz.prog w = .ok (.tuple #[OpV 0 0 0, .bool false]) w := fun _ => by kernel_rfl
  have t2 : ∀ w : World, (Instr.typeAssert (.iface 102 (OpV 10 (0) (v))) 56 94 true).run Tryz.prog w = .ok (.tuple #[OpV 0 0 0, .bool false]) w := fun _ => by kernel_rfl
  have t3 : ∀ w : World, (Instr.typeAssert (.iface 102 (OpV 10 (0) (v))) 56 95 true).run Tryz.prog w = .ok (.tuple #[OpV 0 0 0, .bool false]) w := fun _ => by kernel_rfl
  have t4 : ∀ w : World, (Instr.typeAssert (.iface 102 (OpV 10 (0) (v))) 56 96 true).run Tryz.prog w = .ok (.tuple #[OpV 0 0 0, .bool false]) w := fun _ => by kernel_rfl
  have t5 : ∀ w : World, (Instr.typeAssert (.iface 102 (OpV 10 (0) (v))) 56 97 true).run Tryz.prog w = .ok (.tuple #[OpV 0 0 0, .bool false]) w := fun _ => by kernel_rfl
  have t6 : ∀ w : World, (Instr.typeAssert (.iface 102 (OpV 10 (0) (v))) 56 98 true).run Tryz.prog w = .ok (.tuple #[OpV 0 0 0, .bool false]) w := fun _ => by kernel_rfl
  have t7 : ∀ w : World, (Instr.typeAssert (.iface 102 (OpV 10 (0) (v))) 56 99 true).run Tryz.prog w = .ok (.tuple #[OpV 0 0 0, .bool false]) w := fun _ => by kernel_rfl
  have t8 : ∀ w : World, (Instr.typeAssert (.iface 102 (OpV 10 (0) (v))) 56 100 true).run Tryz.prog w = .ok (.tuple #[OpV 0 0 0, .bool false]) w := fun _ => by kernel_rfl
  have t9 : ∀ w : World, (Instr.typeAssert (.iface 102 (OpV 10 (0) (v))) 56 101 true).run Tryz.prog w = .ok (.tuple #[OpV 0 0 0, .bool false]) w := fun _ => by kernel_rfl
  have t10 : ∀ w : World, (Instr.typeAssert (.iface 102 (OpV 10 (0) (v))) 56 102 true).run Tryz.prog w = .ok (.tuple #[OpV 10 (0) (v), .bool true]) w := fun _ => by kernel_rfl
  go_enter Tryz.func42, Tryz.ntmps42
  go_wp2_with fail
  rw [← hW0]
  clear hW0
  have hb9 : Below (w.heap.size + 1 + 1) W0 W0 := Below.refl _ _
  go_region_held3 (fun w' => w'.cell? ⟨w.heap.size, 0, none⟩ = some (.slice (some ⟨p, o, none⟩) 4 4) ∧ w'.cell? ⟨w.heap.size, 1, none⟩ = some (.int .i64 st) ∧ w'.cell? ⟨w.heap.size + 1, 1, none⟩ = some (.int .i64 0) ∧ w'.cell? ⟨w.heap.size + 1, 2, none⟩ = some (.int .i64 v) ∧ w'.cell? ⟨p, o + j, none⟩ = some (I x))
      (first | (exact (HBX.out _ hb9).1) | (exact (HBX.out _ hb9.drew).1) | (exact (HBX.out _ (hb9.alloc (by omega) _)).1) | (exact (HBX.out _ (hb9.alloc (by omega) _).drew).1) | (exact (HBX.out _ ((hb9.alloc (by omega) _).alloc (by simp; omega) _)).1) | (exact (HBX.out _ ((hb9.alloc (by omega) _).alloc (by simp; omega) _).drew).1) | go_keep)
      (first
      | (go_at_call 84
         refine (implKeyOf_four _ st v xs _ (HA.out.below (HBX.out _ (by first | exact hb9 | exact hb9.drew | exact hb9.alloc (by omega) _ | exact (hb9.alloc (by omega) _).drew | exact (hb9.alloc (by omega) _).alloc (by simp; omega) _ | exact ((hb9.alloc (by omega) _).alloc (by simp; omega) _).drew)).2 (Nat.le_refl _)) HI.out hv).mono ?_
         rintro e w1 ⟨rfl, hb1⟩
         rw [HQ.out]
         have hb9 : Below (w.heap.size + 1 + 1) W0 w1 := (show Below (w.heap.size + 1 + 1) W0 _ from (by first | exact hb9 | exact hb9.drew | exact hb9.alloc (by omega) _ | exact (hb9.alloc (by omega) _).drew | exact (hb9.alloc (by omega) _).alloc (by simp; omega) _ | exact ((hb9.alloc (by omega) _).alloc (by simp; omega) _).drew)).trans (hb1.mono (by simp [hs0]))
         have hs1 : w.heap.size + 1 + 1 ≤ w1.heap.size := by have h := hb9.size; omega))
  go_wp2_with fail
  try rw [HD1.out]
  try rw [HD2.out]
  refine (or_on (w.heap.size + 1 + 1) W0 _ _ _ _ _ _ _ (by first | exact hc9 | exact hc9.alloc _ | exact com_empty_at rfl (by omega) | exact (com_empty_at rfl (by omega)).alloc _ | exact com_empty_drew rfl (by omega) | exact (com_empty_drew rfl (by omega)).alloc _ | exact com_empty_drew (by simp [hs0]) (by omega) | exact com_empty_at (by simp [hs0]) (by omega) | exact (com_empty_drew (by simp [hs0]) (by omega)).alloc _ | exact (com_empty_at (by simp [hs0]) (by omega)).alloc _) (by simp) (by first | exact hb9 | exact hb9.drew | exact hb9.alloc (by omega) _ | exact (hb9.alloc (by omega) _).drew | exact (hb9.alloc (by omega) _).alloc (by simp; omega) _ | exact ((hb9.alloc (by omega) _).alloc (by simp; omega) _).drew) (by omega)).mono ?_
  rintro e w9 ⟨v9, rfl, hc9, hg9, hb9⟩
  have hs9 : w.heap.size + 1 + 1 ≤ w9.heap.size := by have h := hb9.size; omega
  go_wp2_with fail
  try rw [HD1.out]
  try rw [HD2.out]
  refine (or_no _ _ _ _ _ _).mono ?_
  rintro e w8 ⟨rfl, rfl⟩
  go_wp2_with fail
  try rw [HD1.out]
  try rw [HD2.out]
  refine (or_no _ _ _ _ _ _).mono ?_
  rintro e w8 ⟨rfl, rfl⟩
  go_wp2
  go_ret
  first | exact ⟨com_done (by omega) hc9 (tells_1 _ _), (HBX.out _ hb9).2⟩ | exact ⟨com_done (by omega) (hc9.alloc _) (tells_1 _ _), (HBX.out _ (hb9.alloc (by omega) _)).2⟩

theorem com_10_0 (p o j : Nat) (st x : Int) (xs : List Int) (w : World) (hA : IntAt w (some ⟨p, o, none⟩) 4 xs) (hi : ∀ x ∈ xs, (Lit.int .i64 x).wf = true) (hj : j < 4) (hx : xs.getD j 0 = x) (v q : Int) (hv : 1 ≤ v ∧ v ≤ 6) (hq : keyN xs v = q) (h5 : st = 5) (hq0 : q < 0) :
    Calls Tryz.prog 42 #[.agg #[.slice (some ⟨p, o, none⟩) 4 4, .int .i64 st], .iface 102 (OpV 10 (0) (v))] w fun e w' => ComSays e w w' [(3, [])] ∧ Below w.heap.size w w' := by
  have hc : w.cell? ⟨p, o + j, none⟩ = some (I x) := by have h := hA.cells j hj; rwa [hx] at h
  have hp : p < w.heap.size := World.block_lt_of_cell? w _ hc
  have hj0 : (0 : Int) ≤ (j : Int) := by omega
  have hj1 : (j : Int) < 4 := by omega
  have HA : Hid (IntAt w (some ⟨p, o, none⟩) 4 xs) := hA
  have HI : Hid (∀ x ∈ xs, (Lit.int .i64 x).wf = true) := hi
  clear hA hi hx
  have HQ : Hid (keyN xs v = q) := hq
  clear hq
  have h5' : (st != 5) = false := by simpa using h5
  have h5'' : (st == 5) = true := by simpa using h5
  clear h5
  have hq1 : ¬ 0 ≤ q := by omega
  have HD1 : Hid (decide (0 ≤ q) = false) := decide_eq_false hq1
  have HD2 : Hid (decide (q < 0) = true) := decide_eq_true hq0
  obtain ⟨W0, hW0⟩ : ∃ W0, W0 = (w.alloc (.cells #[.slice (some ⟨p, o, none⟩) 4 4, .int .i64 st] 26)).alloc (.cells #[.int .i64 10, .int .i64 0, .int .i64 v] 102) := ⟨_, rfl⟩
  have hs0 : W0.heap.size = w.heap.size + 1 + 1 := by rw [hW0]; simp
  have HBX : Hid (∀ w', Below (w.heap.size + 1 + 1) W0 w' → (w'.cell? ⟨w.heap.size, 0, none⟩ = some (.slice (some ⟨p, o, none⟩) 4 4) ∧ w'.cell? ⟨w.heap.size, 1, none⟩ = some (.int .i64 st) ∧ w'.cell? ⟨w.heap.size + 1, 1, none⟩ = some (.int .i64 0) ∧ w'.cell? ⟨w.heap.size + 1, 2, none⟩ = some (.int .i64 v) ∧ w'.cell? ⟨p, o + j, none⟩ = some (I x)) ∧ Below w.heap.size w w') := fun w' hb => com_boxes hc hW0 hb
  have t1 : ∀ w : World, (Instr.typeAssert (.iface 102 (OpV 10 (0) (v))) 56 93 true).run Tryz.prog w = .ok (.tuple #[OpV 0 0 0, .bool false]) w := fun _ => by kernel_rfl
  have t2 : ∀ w : World, (Instr.typeAssert (.iface 102 (OpV 10 (0) (v))) 56 94 true).run Tryz.prog w = .ok (.tuple #[OpV 0 0 0, .bool false]) w := fun _ => by kernel_rfl
  have t3 : ∀ w : World, (Instr.typeAssert (.iface 102 (OpV 10 (0) (v))) 56 95 true).run Tryz.prog w = .ok (.tuple #[OpV 0 0 0, .bool false]) w := fun _ => by kernel_rfl
  have t4 : ∀ w : World, (Instr.typeAssert (.iface 102 (OpV 10 (0) (v))) 56 96 true).run Tryz.prog w = .ok (.tuple #[OpV 0 0 0, .bool false]) w := fun _ => by kernel_rfl
  have t5 : ∀ w : World, (Instr.typeAssert (.iface 102 (OpV 10 (0) (v))) 56 97 true).run Tryz.prog w = .ok (.tuple #[OpV 0 0 0, .bool false]) w := fun _ => by kernel_rfl
  have t6 : ∀ w : World, (Instr.typeAssert (.iface 102 (OpV 10 (0) (v))) 56 98 true).run Tryz.prog w = .ok (.tuple #[OpV 0 0 0, .bool false]) w := fun _ => by kernel_rfl
  have t7 : ∀ w : World, (Instr.typeAssert (.iface 102 (OpV 10 (0) (v))) 56 99 true).run Tryz.prog w = .ok (.tuple #[OpV 0 0 0, .bool false]) w := fun _ => by kernel_rfl
  have t8 : ∀ w : World, (Instr.typeAssert (.iface 102 (OpV 10 (0) (v))) 56 100 true).run Tryz.prog w = .ok (.tuple #[OpV 0 0 0, .bool false]) w := fun _ => by kernel_rfl
  have t9 : ∀ w : World, (Instr.typeAssert (.iface 102 (OpV 10 (0) (v))) 56 101 true).run Tryz.prog w = .ok (.tuple #[OpV 0 0 0, .bool false]) w := fun _ => by kernel_rfl
  have t10 : ∀ w : World, (Instr.typeAssert (.iface 102 (OpV 10 (0) (v))) 56 102 true).run Tryz.prog w = .ok (.tuple #[OpV 10 (0) (v), .bool true]) w := fun _ => by kernel_rfl
  go_enter Tryz.func42, Tryz.ntmps42
  go_wp2_with fail
  rw [← hW0]
  clear hW0
  have hb9 : Below (w.heap.size + 1 + 1) W0 W0 := Below.refl _ _
  go_region_held3 (fun w' => w'.cell? ⟨w.heap.size, 0, none⟩ = some (.slice (some ⟨p, o, none⟩) 4 4) ∧ w'.cell? ⟨w.heap.size, 1, none⟩ = some (.int .i64 st) ∧ w'.cell? ⟨w.heap.size + 1, 1, none⟩ = some (.int .i64 0) ∧ w'.cell? ⟨w.heap.size + 1, 2, none⟩ = some (.int .i64 v) ∧ w'.cell? ⟨p, o + j, none⟩ = some (I x))
      (first | (exact (HBX.out _ hb9).1) | (exact (HBX.out _ hb9.drew).1) | (exact (HBX.out _ (hb9.alloc (by omega) _)).1) | (exact (HBX.out _ (hb9.alloc (by omega) _).drew).1) | (exact (HBX.out _ ((hb9.alloc (by omega) _).alloc (by simp; omega) _)).1) | (exact (HBX.out _ ((hb9.alloc (by omega) _).alloc (by simp; omega) _).drew).1) | go_keep)
      (first
      | (go_at_call 84
         refine (implKeyOf_four _ st v xs _ (HA.out.below (HBX.out _ (by first | exact hb9 | exact hb9.drew | exact hb9.alloc (by omega) _ | exact (hb9.alloc (by omega) _).drew | exact (hb9.alloc (by omega) _).alloc (by simp; omega) _ | exact ((hb9.alloc (by omega) _).alloc (by simp; omega) _).drew)).2 (Nat.le_refl _)) HI.out hv).mono ?_
         rintro e w1 ⟨rfl, hb1⟩
         rw [HQ.out]
         have hb9 : Below (w.heap.size + 1 + 1) W0 w1 := (show Below (w.heap.size + 1 + 1) W0 _ from (by first | exact hb9 | exact hb9.drew | exact hb9.alloc (by omega) _ | exact (hb9.alloc (by omega) _).drew | exact (hb9.alloc (by omega) _).alloc (by simp; omega) _ | exact ((hb9.alloc (by omega) _).alloc (by simp; omega) _).drew)).trans (hb1.mono (by simp [hs0]))
         have hs1 : w.heap.size + 1 + 1 ≤ w1.heap.size := by have h := hb9.size; omega))
  go_wp2_with fail
  try rw [HD1.out]
  try rw [HD2.out]
  refine (or_no _ _ _ _ _ _).mono ?_
  rintro e w8 ⟨rfl, rfl⟩
  go_wp2_with fail
  try rw [HD1.out]
  try rw [HD2.out]
  refine (or_on (w.heap.size + 1 + 1) W0 _ _ _ _ _ _ _ (by first | exact hc9 | exact hc9.alloc _ | exact com_empty_at rfl (by omega) | exact (com_empty_at rfl (by omega)).alloc _ | exact com_empty_drew rfl (by omega) | exact (com_empty_drew rfl (by omega)).alloc _ | exact com_empty_drew (by simp [hs0]) (by omega) | exact com_empty_at (by simp [hs0]) (by omega) | exact (com_empty_drew (by simp [hs0]) (by omega)).alloc _ | exact (com_empty_at (by simp [hs0]) (by omega)).alloc _) (by simp) (by first | exact hb9 | exact hb9.drew | exact hb9.alloc (by omega) _ | exact (hb9.alloc (by omega) _).drew | exact (hb9.alloc (by omega) _).alloc (by simp; omega) _ | exact ((hb9.alloc (by omega) _).alloc (by simp; omega) _).drew) (by omega)).mono ?_
  rintro e w9 ⟨v9, rfl, hc9, hg9, hb9⟩
  have hs9 : w.heap.size + 1 + 1 ≤ w9.heap.size := by have h := hb9.size; omega
  go_wp2_with fail
  try rw [HD1.out]
  try rw [HD2.out]
  refine (or_no _ _ _ _ _ _).mono ?_
  rintro e w8 ⟨rfl, rfl⟩
  go_wp2
  go_ret
  first | exact ⟨com_done (by omega) hc9 (tells_1 _ _), (HBX.out _ hb9).2⟩ | exact ⟨com_done (by omega) (hc9.alloc _) (tells_1 _ _), (HBX.out _ (hb9.alloc (by omega) _)).2⟩

theorem com_10_1 (p o j : Nat) (st x : Int) (xs : List Int) (w : World) (hA : IntAt w (some ⟨p, o, none⟩) 4 xs) (hi : ∀ x ∈ xs, (Lit.int .i64 x).wf = true) (hj : j < 4) (hx : xs.getD j 0 = x) (v q : Int) (hv : 1 ≤ v ∧ v ≤ 6) (hq : keyN xs v = q) (h5 : st = 5) (hq0 : 0 ≤ q) :
    Calls Tryz.prog 42 #[.agg #[.slice (some ⟨p, o, none⟩) 4 4, .int .i64 st], .iface 102 (OpV 10 (0) (v))] w fun e w' => ComSays e w w' [(0, [q])] ∧ Below w.heap.size w w' := by
  have hc : w.cell? ⟨p, o + j, none⟩ = some (I x) := by have h := hA.cells j hj; rwa [hx] at h
  have hp : p < w.heap.size := World.block_lt_of_cell? w _ hc
  have hj0 : (0 : Int) ≤ (j : Int) := by omega
  have hj1 : (j : Int) < 4 := by omega
  have HA : Hid (IntAt w (some ⟨p, o, none⟩) 4 xs) := hA
  have HI : Hid (∀ x ∈ xs, (Lit.int .i64 x).wf = true) := hi
  clear hA hi hx
  have HQ : Hid (keyN xs v = q) := hq
  clear hq
  have h5' : (st != 5) = false := by simpa using h5
  have h5'' : (st == 5) = true := by simpa using h5
  clear h5
  have hq1 : ¬ q < 0 := by omega
  have HD1 : Hid (decide (0 ≤ q) = true) := decide_eq_true hq0
  have HD2 : Hid (decide (q < 0) = false) := decide_eq_false hq1
  obtain ⟨W0, hW0⟩ : ∃ W0, W0 = (w.alloc (.cells #[.slice (some ⟨p, o, none⟩) 4 4, .int .i64 st] 26)).alloc (.cells #[.int .i64 10, .int .i64 0, .int .i64 v] 102) := ⟨_, rfl⟩
  have hs0 : W0.heap.size = w.heap.size + 1 + 1 := by rw [hW0]; simp
  have HBX : Hid (∀ w', Below (w.heap.size + 1 + 1) W0 w' → (w'.cell? ⟨w.heap.size, 0, none⟩ = some (.slice (some ⟨p, o, none⟩) 4 4) ∧ w'.cell? ⟨w.heap.size, 1, none⟩ = some (.int .i64 st) ∧ w'.cell? ⟨w.heap.size + 1, 1, none⟩ = some (.int .i64 0) ∧ w'.cell? ⟨w.heap.size + 1, 2, none⟩ = some (.int .i64 v) ∧ w'.cell? ⟨p, o + j, none⟩ = some (I x)) ∧ Below w.heap.size w w') := fun w' hb => com_boxes hc hW0 hb
  have t1 : ∀ w : World, (Instr.typeAssert (.iface 102 (OpV 10 (0) (v))) 56 93 true).run Tryz.prog w = .ok (.tuple #[OpV 0 0 0, .bool false]) w := fun _ => by kernel_rfl
  have t2 : ∀ w : World, (Instr.typeAssert (.iface 102 (OpV 10 (0) (v))) 56 94 true).run Tryz.prog w = .ok (.tuple #[OpV 0 0 0, .bool false]) w := fun _ => by kernel_rfl
  have t3 : ∀ w : World, (Instr.typeAssert (.iface 102 (OpV 10 (0) (v))) 56 95 true).run Tryz.prog w = .ok (.tuple #[OpV 0 0 0, .bool false]) w := fun _ => by kernel_rfl
  have t4 : ∀ w : World, (Instr.typeAssert (.iface 102 (OpV 10 (0) (v))) 56 96 true).run Tryz.prog w = .ok (.tuple #[OpV 0 0 0, .bool false]) w := fun _ => by kernel_rfl
  have t5 : ∀ w : World, (Instr.typeAssert (.iface 102 (OpV 10 (0) (v))) 56 97 true).run Tryz.prog w = .ok (.tuple #[OpV 0 0 0, .bool false]) w := fun _ => by kernel_rfl
  have t6 : ∀ w : World, (Instr.typeAssert (.iface 102 (OpV 10 (0) (v))) 56 98 true).run Tryz.prog w = .ok (.tuple #[OpV 0 0 0, .bool false]) w := fun _ => by kernel_rfl
  have t7 : ∀ w : World, (Instr.typeAssert (.iface 102 (OpV 10 (0) (v))) 56 99 true).run Tryz.prog w = .ok (.tuple #[OpV 0 0 0, .bool false]) w := fun _ => by kernel_rfl
  have t8 : ∀ w : World, (Instr.typeAssert (.iface 102 (OpV 10 (0) (v))) 56 100 true).run Tryz.prog w = .ok (.tuple #[OpV 0 0 0, .bool false]) w := fun _ => by kernel_rfl
  have t9 : ∀ w : World, (Instr.typeAssert (.iface 102 (OpV 10 (0) (v))) 56 101 true).run Tryz.prog w = .ok (.tuple #[OpV 0 0 0, .bool false]) w := fun _ => by kernel_rfl
  have t10 : ∀ w : World, (Instr.typeAssert (.iface 102 (OpV 10 (0) (v))) 56 102 true).run Tryz.prog w = .ok (.tuple #[OpV 10 (0) (v), .bool true]) w := fun _ => by kernel_rfl
  go_enter Tryz.func42, Tryz.ntmps42
  go_wp2_with fail
  rw [← hW0]
  clear hW0
  have hb9 : Below (w.heap.size + 1 + 1) W0 W0 := Below.refl _ _
  go_region_held3 (fun w' => w'.cell? ⟨w.heap.size, 0, none⟩ = some (.slice (some ⟨p, o, none⟩) 4 4) ∧ w'.cell? ⟨w.heap.size, 1, none⟩ = some (.int .i64 st) ∧ w'.cell? ⟨w.heap.size + 1, 1, none⟩ = some (.int .i64 0) ∧ w'.cell? ⟨w.heap.size + 1, 2, none⟩ = some (.int .i64 v) ∧ w'.cell? ⟨p, o + j, none⟩ = some (I x))
      (first | (exact (HBX.out _ hb9).1) | (exact (HBX.out _ hb9.drew).1) | (exact (HBX.out _ (hb9.alloc (by omega) _)).1) | (exact (HBX.out _ (hb9.alloc (by omega) _).drew).1) | (exact (HBX.out _ ((hb9.alloc (by omega) _).alloc (by simp; omega) _)).1) | (exact (HBX.out _ ((hb9.alloc (by omega) _).alloc (by simp; omega) _).drew).1) | go_keep)
      (first
      | (go_at_call 84
         refine (implKeyOf_four _ st v xs _ (HA.out.below (HBX.out _ (by first | exact hb9 | exact hb9.drew | exact hb9.alloc (by omega) _ | exact (hb9.alloc (by omega) _).drew | exact (hb9.alloc (by omega) _).alloc (by simp; omega) _ | exact ((hb9.alloc (by omega) _).alloc (by simp; omega) _).drew)).2 (Nat.le_refl _)) HI.out hv).mono ?_
         rintro e w1 ⟨rfl, hb1⟩
         rw [HQ.out]
         have hb9 : Below (w.heap.size + 1 + 1) W0 w1 := (show Below (w.heap.size + 1 + 1) W0 _ from (by first | exact hb9 | exact hb9.drew | exact hb9.alloc (by omega) _ | exact (hb9.alloc (by omega) _).drew | exact (hb9.alloc (by omega) _).alloc (by simp; omega) _ | exact ((hb9.alloc (by omega) _).alloc (by simp; omega) _).drew)).trans (hb1.mono (by simp [hs0]))
         have hs1 : w.heap.size + 1 + 1 ≤ w1.heap.size := by have h := hb9.size; omega))
  go_wp2_with fail
  try rw [HD1.out]
  try rw [HD2.out]
  refine (or_no _ _ _ _ _ _).mono ?_
  rintro e w8 ⟨rfl, rfl⟩
  go_wp2_with fail
  try rw [HD1.out]
  try rw [HD2.out]
  refine (or_no _ _ _ _ _ _).mono ?_
  rintro e w8 ⟨rfl, rfl⟩
  go_wp2_with fail
  try rw [HD1.out]
  try rw [HD2.out]
  refine (or_on (w.heap.size + 1 + 1) W0 _ _ _ _ _ _ _ (by first | exact hc9 | exact hc9.alloc _ | exact com_empty_at rfl (by omega) | exact (com_empty_at rfl (by omega)).alloc _ | exact com_empty_drew rfl (by omega) | exact (com_empty_drew rfl (by omega)).alloc _ | exact com_empty_drew (by simp [hs0]) (by omega) | exact com_empty_at (by simp [hs0]) (by omega) | exact (com_empty_drew (by simp [hs0]) (by omega)).alloc _ | exact (com_empty_at (by simp [hs0]) (by omega)).alloc _) (by simp) (by first | exact hb9 | exact hb9.drew | exact hb9.alloc (by omega) _ | exact (hb9.alloc (by omega) _).drew | exact (hb9.alloc (by omega) _).alloc (by simp; omega) _ | exact ((hb9.alloc (by omega) _).alloc (by simp; omega) _).drew) (by omega)).mono ?_
  rintro e w9 ⟨v9, rfl, hc9, hg9, hb9⟩
  have hs9 : w.heap.size + 1 + 1 ≤ w9.heap.size := by have h := hb9.size; omega
  go_wp2
  go_ret
  first | exact ⟨com_done (by omega) hc9 (tells_l (one_at (hg9.cell (by first | exact told_first rfl | exact told_second rfl) (by simp [Value.ownBlock]))) _), (HBX.out _ hb9).2⟩ | exact ⟨com_done (by omega) hc9 (tells_l (one_at (hg9.cell (by first | exact told_first_drew rfl | exact told_second_drew rfl) (by simp [Value.ownBlock]))) _), (HBX.out _ hb9).2⟩
theorem com_5_0 (p o j : Nat) (st x : Int) (xs : List Int) (w : World) (hA : IntAt w (some ⟨p, o, none⟩) 4 xs) (hi : ∀ x ∈ xs, (Lit.int .i64 x).wf = true) (hj : j < 4) (hx : xs.getD j 0 = x) (v q : Int) (hv : 1 ≤ v ∧ v ≤ 6) (hq : keyN xs v = q) (hq0 : q < 0) :
    Calls Tryz.prog 42 #[.agg #[.slice (some ⟨p, o, none⟩) 4 4, .int .i64 st], .iface 97 (OpV 5 (0) (v))] w fun e w' => ComSays e w w' [(3, [])] ∧ Below w.heap.size w w' := by
  have hc : w.cell? ⟨p, o + j, none⟩ = some (I x) := by have h := hA.cells j hj; rwa [hx] at h
  have hp : p < w.heap.size := World.block_lt_of_cell? w _ hc
  have hj0 : (0 : Int) ≤ (j : Int) := by omega
  have hj1 : (j : Int) < 4 := by omega
  have HA : Hid (IntAt w (some ⟨p, o, none⟩) 4 xs) := hA
  have HI : Hid (∀ x ∈ xs, (Lit.int .i64 x).wf = true) := hi
  clear hA hi hx
  have HQ : Hid (keyN xs v = q) := hq
  clear hq
  have hq1 : ¬ 0 ≤ q := by omega
  have HD1 : Hid (decide (0 ≤ q) = false) := decide_eq_false hq1
  have HD2 : Hid (decide (q < 0) = true) := decide_eq_true hq0
  obtain ⟨W0, hW0⟩ : ∃ W0, W0 = (w.alloc (.cells #[.slice (some ⟨p, o, none⟩) 4 4, .int .i64 st] 26)).alloc (.cells #[.int .i64 5, .int .i64 0, .int .i64 v] 97) := ⟨_, rfl⟩
  have hs0 : W0.heap.size = w.heap.size + 1 + 1 := by rw [hW0]; simp
  have HBX : Hid (∀ w', Below (w.heap.size + 1 + 1) W0 w' → (w'.cell? ⟨w.heap.size, 0, none⟩ = some (.slice (some ⟨p, o, none⟩) 4 4) ∧ w'.cell? ⟨w.heap.size, 1, none⟩ = some (.int .i64 st) ∧ w'.cell? ⟨w.heap.size + 1, 1, none⟩ = some (.int .i64 0) ∧ w'.cell? ⟨w.heap.size + 1, 2, none⟩ = some (.int .i64 v) ∧ w'.cell? ⟨p, o + j, none⟩ = some (I x)) ∧ Below w.heap.size w w') := fun w' hb => com_boxes hc hW0 hb
  have t1 : ∀ w : World, (Instr.typeAssert (.iface 97 (OpV 5 (0) (v))) 56 93 true).run Tryz.prog w = .ok (.tuple #[OpV 0 0 0, .bool false]) w := fun _ => by kernel_rfl
  have t2 : ∀ w : World, (Instr.typeAssert (.iface 97 (OpV 5 (0) (v))) 56 94 true).run Tryz.prog w = .ok (.tuple #[OpV 0 0 0, .bool false]) w := fun _ => by kernel_rfl
  have t3 : ∀ w : World, (Instr.typeAssert (.iface 97 (OpV 5 (0) (v))) 56 95 true).run Tryz.prog w = .ok (.tuple #[OpV 0 0 0, .bool false]) w := fun _ => by kernel_rfl
  have t4 : ∀ w : World, (Instr.typeAssert (.iface 97 (OpV 5 (0) (v))) 56 96 true).run Tryz.prog w = .ok (.tuple #[OpV 0 0 0, .bool false]) w := fun _ => by kernel_rfl
  have t5 : ∀ w : World, (Instr.typeAssert (.iface 97 (OpV 5 (0) (v))) 56 97 true).run Tryz.prog w = .ok (.tuple #[OpV 5 (0) (v), .bool true]) w := fun _ => by kernel_rfl
  go_enter Tryz.func42, Tryz.ntmps42
  go_wp2_with fail
  rw [← hW0]
  clear hW0
  have hb9 : Below (w.heap.size + 1 + 1) W0 W0 := Below.refl _ _
  refine (implKeyOf_four _ st v xs _ (HA.out.below (HBX.out _ (by first | exact hb9 | exact hb9.drew | exact hb9.alloc (by omega) _ | exact (hb9.alloc (by omega) _).drew | exact (hb9.alloc (by omega) _).alloc (by simp; omega) _ | exact ((hb9.alloc (by omega) _).alloc (by simp; omega) _).drew)).2 (Nat.le_refl _)) HI.out hv).mono ?_
  rintro e w1 ⟨rfl, hb1⟩
  rw [HQ.out]
  have hb9 : Below (w.heap.size + 1 + 1) W0 w1 := hb9.trans (hb1.mono (by omega))
  have hs1 : w.heap.size + 1 + 1 ≤ w1.heap.size := by have h := hb9.size; omega
  go_wp2_with fail
  try rw [HD1.out]
  try rw [HD2.out]
  refine (or_on (w.heap.size + 1 + 1) W0 _ _ _ _ _ _ _ (by first | exact hc9 | exact hc9.alloc _ | exact com_empty_at rfl (by omega) | exact (com_empty_at rfl (by omega)).alloc _ | exact com_empty_drew rfl (by omega) | exact (com_empty_drew rfl (by omega)).alloc _ | exact com_empty_drew (by simp [hs0]) (by omega) | exact com_empty_at (by simp [hs0]) (by omega) | exact (com_empty_drew (by simp [hs0]) (by omega)).alloc _ | exact (com_empty_at (by simp [hs0]) (by omega)).alloc _) (by simp) (by first | exact hb9 | exact hb9.drew | exact hb9.alloc (by omega) _ | exact (hb9.alloc (by omega) _).drew | exact (hb9.alloc (by omega) _).alloc (by simp; omega) _ | exact ((hb9.alloc (by omega) _).alloc (by simp; omega) _).drew) (by omega)).mono ?_
  rintro e w9 ⟨v9, rfl, hc9, hg9, hb9⟩
  have hs9 : w.heap.size + 1 + 1 ≤ w9.heap.size := by have h := hb9.size; omega
  go_wp2_with fail
  try rw [HD1.out]
  try rw [HD2.out]
  refine (or_no _ _ _ _ _ _).mono ?_
  rintro e w8 ⟨rfl, rfl⟩
  go_wp2
  go_ret
  first | exact ⟨com_done (by omega) hc9 (tells_1 _ _), (HBX.out _ hb9).2⟩ | exact ⟨com_done (by omega) (hc9.alloc _) (tells_1 _ _), (HBX.out _ (hb9.alloc (by omega) _)).2⟩

theorem com_5_1 (p o j : Nat) (st x : Int) (xs : List Int) (w : World) (hA : IntAt w (some ⟨p, o, none⟩) 4 xs) (hi : ∀ x ∈ xs, (Lit.int .i64 x).wf = true) (hj : j < 4) (hx : xs.getD j 0 = x) (v q : Int) (hv : 1 ≤ v ∧ v ≤ 6) (hq : keyN xs v = q) (hq0 : 0 ≤ q) :
    Calls Tryz.prog 42 #[.agg #[.slice (some ⟨p, o, none⟩) 4 4, .int .i64 st], .iface 97 (OpV 5 (0) (v))] w fun e w' => ComSays e w w' [(0, [q])] ∧ Below w.heap.size w w' := by
  have hc : w.cell? ⟨p, o + j, none⟩ = some (I x) := by have h := hA.cells j hj; rwa [hx] at h
  have hp : p < w.heap.size := World.block_lt_of_cell? w _ hc
  have hj0 : (0 : Int) ≤ (j : Int) := by omega
  have hj1 : (j : Int) < 4 := by omega
  have HA : Hid (IntAt w (some ⟨p, o, none⟩) 4 xs) := hA
  have HI : Hid (∀ x ∈ xs, (Lit.int .i64 x).wf = true) := hi
  clear hA hi hx
  have HQ : Hid (keyN xs v = q) := hq
  clear hq
  have hq1 : ¬ q < 0 := by omega
  have HD1 : Hid (decide (0 ≤ q) = true) := decide_eq_true hq0
  have HD2 : Hid (decide (q < 0) = false) := decide_eq_false hq1
  obtain ⟨W0, hW0⟩ : ∃ W0, W0 = (w.alloc (.cells #[.slice (some ⟨p, o, none⟩) 4 4, .int .i64 st] 26)).alloc (.cells #[.int .i64 5, .int .i64 0, .int .i64 v] 97) := ⟨_, rfl⟩
  have hs0 : W0.heap.size = w.heap.size + 1 + 1 := by rw [hW0]; simp
  have HBX : Hid (∀ w', Below (w.heap.size + 1 + 1) W0 w' → (w'.cell? ⟨w.heap.size, 0, none⟩ = some (.slice (some ⟨p, o, none⟩) 4 4) ∧ w'.cell? ⟨w.heap.size, 1, none⟩ = some (.int .i64 st) ∧ w'.cell? ⟨w.heap.size + 1, 1, none⟩ = some (.int .i64 0) ∧ w'.cell? ⟨w.heap.size + 1, 2, none⟩ = some (.int .i64 v) ∧ w'.cell? ⟨p, o + j, none⟩ = some (I x)) ∧ Below w.heap.size w w') := fun w' hb => com_boxes hc hW0 hb
  have t1 : ∀ w : World, (Instr.typeAssert (.iface 97 (OpV 5 (0) (v))) 56 93 true).run Tryz.prog w = .ok (.tuple #[OpV 0 0 0, .bool false]) w := fun _ => by kernel_rfl
  have t2 : ∀ w : World, (Instr.typeAssert (.iface 97 (OpV 5 (0) (v))) 56 94 true).run Tryz.prog w = .ok (.tuple #[OpV 0 0 0, .bool false]) w := fun _ => by kernel_rfl
  have t3 : ∀ w : World, (Instr.typeAssert (.iface 97 (OpV 5 (0) (v))) 56 95 true).run Tryz.prog w = .ok (.tuple #[OpV 0 0 0, .bool false]) w := fun _ => by kernel_rfl
  have t4 : ∀ w : World, (Instr.typeAssert (.iface 97 (OpV 5 (0) (v))) 56 96 true).run Tryz.prog w = .ok (.tuple #[OpV 0 0 0, .bool false]) w := fun _ => by kernel_rfl
  have t5 : ∀ w : World, (Instr.typeAssert (.iface 97 (OpV 5 (0) (v))) 56 97 true).run Tryz.prog w = .ok (.tuple #[OpV 5 (0) (v), .bool true]) w := fun _ => by kernel_rfl
  go_enter Tryz.func42, Tryz.ntmps42
  go_wp2_with fail
  rw [← hW0]
  clear hW0
  have hb9 : Below (w.heap.size + 1 + 1) W0 W0 := Below.refl _ _
  refine (implKeyOf_four _ st v xs _ (HA.out.below (HBX.out _ (by first | exact hb9 | exact hb9.drew | exact hb9.alloc (by omega) _ | exact (hb9.alloc (by omega) _).drew | exact (hb9.alloc (by omega) _).alloc (by simp; omega) _ | exact ((hb9.alloc (by omega) _).alloc (by simp; omega) _).drew)).2 (Nat.le_refl _)) HI.out hv).mono ?_
  rintro e w1 ⟨rfl, hb1⟩
  rw [HQ.out]
  have hb9 : Below (w.heap.size + 1 + 1) W0 w1 := hb9.trans (hb1.mono (by omega))
  have hs1 : w.heap.size + 1 + 1 ≤ w1.heap.size := by have h := hb9.size; omega
  go_wp2_with fail
  try rw [HD1.out]
  try rw [HD2.out]
  refine (or_no _ _ _ _ _ _).mono ?_
  rintro e w8 ⟨rfl, rfl⟩
  go_wp2_with fail
  try rw [HD1.out]
  try rw [HD2.out]
  refine (or_on (w.heap.size + 1 + 1) W0 _ _ _ _ _ _ _ (by first | exact hc9 | exact hc9.alloc _ | exact com_empty_at rfl (by omega) | exact (com_empty_at rfl (by omega)).alloc _ | exact com_empty_drew rfl (by omega) | exact (com_empty_drew rfl (by omega)).alloc _ | exact com_empty_drew (by simp [hs0]) (by omega) | exact com_empty_at (by simp [hs0]) (by omega) | exact (com_empty_drew (by simp [hs0]) (by omega)).alloc _ | exact (com_empty_at (by simp [hs0]) (by omega)).alloc _) (by simp) (by first | exact hb9 | exact hb9.drew | exact hb9.alloc (by omega) _ | exact (hb9.alloc (by omega) _).drew | exact (hb9.alloc (by omega) _).alloc (by simp; omega) _ | exact ((hb9.alloc (by omega) _).alloc (by simp; omega) _).drew) (by omega)).mono ?_
  rintro e w9 ⟨v9, rfl, hc9, hg9, hb9⟩
  have hs9 : w.heap.size + 1 + 1 ≤ w9.heap.size := by have h := hb9.size; omega
  go_wp2
  go_ret
  first | exact ⟨com_done (by omega) hc9 (tells_l (one_at (hg9.cell (by first | exact told_first rfl | exact told_second rfl) (by simp [Value.ownBlock]))) _), (HBX.out _ hb9).2⟩ | exact ⟨com_done (by omega) hc9 (tells_l (one_at (hg9.cell (by first | exact told_first_drew rfl | exact told_second_drew rfl) (by simp [Value.ownBlock]))) _), (HBX.out _ hb9).2⟩

theorem com_7 (p o j : Nat) (st x : Int) (xs : List Int) (w : World) (hA : IntAt w (some ⟨p, o, none⟩) 4 xs) (hi : ∀ x ∈ xs, (Lit.int .i64 x).wf = true) (hj : j < 4) (hx : xs.getD j 0 = x) :
    Calls Tryz.prog 42 #[.agg #[.slice (some ⟨p, o, none⟩) 4 4, .int .i64 st], .iface 99 (OpV 7 (0) (0))] w fun e w' => ComSays e w w' [(0, xs)] ∧ Below w.heap.size w w' := by
  have hc : w.cell? ⟨p, o + j, none⟩ = some (I x) := by have h := hA.cells j hj; rwa [hx] at h
  have hp : p < w.heap.size := World.block_lt_of_cell? w _ hc
  have hj0 : (0 : Int) ≤ (j : Int) := by omega
  have hj1 : (j : Int) < 4 := by omega
  have HA : Hid (IntAt w (some ⟨p, o, none⟩) 4 xs) := hA
  have HI : Hid (∀ x ∈ xs, (Lit.int .i64 x).wf = true) := hi
  clear hA hi hx
  obtain ⟨W0, hW0⟩ : ∃ W0, W0 = (w.alloc (.cells #[.slice (some ⟨p, o, none⟩) 4 4, .int .i64 st] 26)).alloc (.cells #[.int .i64 7, .int .i64 0, .int .i64 0] 99) := ⟨_, rfl⟩
  have hs0 : W0.heap.size = w.heap.size + 1 + 1 := by rw [hW0]; simp
  have HBX : Hid (∀ w', Below (w.heap.size + 1 + 1) W0 w' → (w'.cell? ⟨w.heap.size, 0, none⟩ = some (.slice (some ⟨p, o, none⟩) 4 4) ∧ w'.cell? ⟨w.heap.size, 1, none⟩ = some (.int .i64 st) ∧ w'.cell? ⟨w.heap.size + 1, 1, none⟩ = some (.int .i64 0) ∧ w'.cell? ⟨w.heap.size + 1, 2, none⟩ = some (.int .i64 0) ∧ w'.cell? ⟨p, o + j, none⟩ = some (I x)) ∧ Below w.heap.size w w') := fun w' hb => com_boxes hc hW0 hb
  have t1 : ∀ w : World, (Instr.typeAssert (.iface 99 (OpV 7 (0) (0))) 56 93 true).run Tryz.prog w = .ok (.tuple #[OpV 0 0 0, .bool false]) w := fun _ => by kernel_rfl
  have t2 : ∀ w : World, (Instr.typeAssert (.iface 99 (OpV 7 (0) (0))) 56 94 true).run Tryz.prog w = .ok (.tuple #[OpV 0 0 0, .bool false]) w := fun _ => by kernel_rfl
  have t3 : ∀ w : World, (Instr.typeAssert (.iface 99 (OpV 7 (0) (0))) 56 95 true).run Tryz.prog w = .ok (.tuple #[OpV 0 0 0, .bool false]) w := fun _ => by kernel_rfl
  have t4 : ∀ w : World, (Instr.typeAssert (.iface 99 (OpV 7 (0) (0))) 56 96 true).run Tryz.prog w = .ok (.tuple #[OpV 0 0 0, .bool false]) w := fun _ => by kernel_rfl
  have t5 : ∀ w : World, (Instr.typeAssert (.iface 99 (OpV 7 (0) (0))) 56 97 true).run Tryz.prog w = .ok (.tuple #[OpV 0 0 0, .bool false]) w := fun _ => by kernel_rfl
  have t6 : ∀ w : World, (Instr.typeAssert (.iface 99 (OpV 7 (0) (0))) 56 98 true).run Tryz.prog w = .ok (.tuple #[OpV 0 0 0, .bool false]) w := fun _ => by kernel_rfl
  have t7 : ∀ w : World, (Instr.typeAssert (.iface 99 (OpV 7 (0) (0))) 56 99 true).run Tryz.prog w = .ok (.tuple #[OpV 7 (0) (0), .bool true]) w := fun _ => by kernel_rfl
  go_enter Tryz.func42, Tryz.ntmps42
  go_wp2_with fail
  rw [← hW0]
  clear hW0
  have hb9 : Below (w.heap.size + 1 + 1) W0 W0 := Below.refl _ _
  refine (or_on (w.heap.size + 1 + 1) W0 _ _ _ _ _ _ _ (by first | exact hc9 | exact hc9.alloc _ | exact com_empty_at rfl (by omega) | exact (com_empty_at rfl (by omega)).alloc _ | exact com_empty_drew rfl (by omega) | exact (com_empty_drew rfl (by omega)).alloc _ | exact com_empty_drew (by simp [hs0]) (by omega) | exact com_empty_at (by simp [hs0]) (by omega) | exact (com_empty_drew (by simp [hs0]) (by omega)).alloc _ | exact (com_empty_at (by simp [hs0]) (by omega)).alloc _) (by simp) (by first | exact hb9 | exact hb9.drew | exact hb9.alloc (by omega) _ | exact (hb9.alloc (by omega) _).drew | exact (hb9.alloc (by omega) _).alloc (by simp; omega) _ | exact ((hb9.alloc (by omega) _).alloc (by simp; omega) _).drew) (by omega)).mono ?_
  rintro e w9 ⟨v9, rfl, hc9, hg9, hb9⟩
  have hs9 : w.heap.size + 1 + 1 ≤ w9.heap.size := by have h := hb9.size; omega
  go_wp2
  go_ret
  exact ⟨com_done (by omega) hc9 (tells_l (HA.out.below (HBX.out _ hb9).2 (Nat.le_refl _)) _), (HBX.out _ hb9).2⟩
theorem com_6 (p o j : Nat) (st x : Int) (xs : List Int) (w : World) (hA : IntAt w (some ⟨p, o, none⟩) 4 xs) (hi : ∀ x ∈ xs, (Lit.int .i64 x).wf = true) (hj : j < 4) (hx : xs.getD j 0 = x) (c : Int) :
    Calls Tryz.prog 42 #[.agg #[.slice (some ⟨p, o, none⟩) 4 4, .int .i64 st], .iface 98 (OpV 6 (c) (0))] w fun e w' => ComSays e w w' [(0, [cntK xs c 4])] ∧ Below w.heap.size w w' := by
  have hc : w.cell? ⟨p, o + j, none⟩ = some (I x) := by have h := hA.cells j hj; rwa [hx] at h
  have hp : p < w.heap.size := World.block_lt_of_cell? w _ hc
  have hj0 : (0 : Int) ≤ (j : Int) := by omega
  have hj1 : (j : Int) < 4 := by omega
  have HA : Hid (IntAt w (some ⟨p, o, none⟩) 4 xs) := hA
  have HI : Hid (∀ x ∈ xs, (Lit.int .i64 x).wf = true) := hi
  clear hA hi hx
  obtain ⟨W0, hW0⟩ : ∃ W0, W0 = (w.alloc (.cells #[.slice (some ⟨p, o, none⟩) 4 4, .int .i64 st] 26)).alloc (.cells #[.int .i64 6, .int .i64 c, .int .i64 0] 98) := ⟨_, rfl⟩
  have hs0 : W0.heap.size = w.heap.size + 1 + 1 := by rw [hW0]; simp
  have HBX : Hid (∀ w', Below (w.heap.size + 1 + 1) W0 w' → (w'.cell? ⟨w.heap.size, 0, none⟩ = some (.slice (some ⟨p, o, none⟩) 4 4) ∧ w'.cell? ⟨w.heap.size, 1, none⟩ = some (.int .i64 st) ∧ w'.cell? ⟨w.heap.size + 1, 1, none⟩ = some (.int .i64 c) ∧ w'.cell? ⟨w.heap.size + 1, 2, none⟩ = some (.int .i64 0) ∧ w'.cell? ⟨p, o + j, none⟩ = some (I x)) ∧ Below w.heap.size w w') := fun w' hb => com_boxes hc hW0 hb
  have t1 : ∀ w : World, (Instr.typeAssert (.iface 98 (OpV 6 (c) (0))) 56 93 true).run Tryz.prog w = .ok (.tuple #[OpV 0 0 0, .bool false]) w := fun _ => by kernel_rfl
  have t2 : ∀ w : World, (Instr.typeAssert (.iface 98 (OpV 6 (c) (0))) 56 94 true).run Tryz.prog w = .ok (.tuple #[OpV 0 0 0, .bool false]) w := fun _ => by kernel_rfl
  have t3 : ∀ w : World, (Instr.typeAssert (.iface 98 (OpV 6 (c) (0))) 56 95 true).run Tryz.prog w = .ok (.tuple #[OpV 0 0 0, .bool false]) w := fun _ => by kernel_rfl
  have t4 : ∀ w : World, (Instr.typeAssert (.iface 98 (OpV 6 (c) (0))) 56 96 true).run Tryz.prog w = .ok (.tuple #[OpV 0 0 0, .bool false]) w := fun _ => by kernel_rfl
  have t5 : ∀ w : World, (Instr.typeAssert (.iface 98 (OpV 6 (c) (0))) 56 97 true).run Tryz.prog w = .ok (.tuple #[OpV 0 0 0, .bool false]) w := fun _ => by kernel_rfl
  have t6 : ∀ w : World, (Instr.typeAssert (.iface 98 (OpV 6 (c) (0))) 56 98 true).run Tryz.prog w = .ok (.tuple #[OpV 6 (c) (0), .bool true]) w := fun _ => by kernel_rfl
  go_enter Tryz.func42, Tryz.ntmps42
  go_wp2_with fail
  rw [← hW0]
  clear hW0
  have hb9 : Below (w.heap.size + 1 + 1) W0 W0 := Below.refl _ _
  refine (implHowMany_four _ st c xs _ (HA.out.below (HBX.out _ (hb9.alloc (by omega) _)).2 (Nat.le_refl _)) HI.out).mono ?_
  rintro e w1 ⟨rfl, hb1⟩
  have hc9 : ComAt w1 (w.heap.size + 1 + 1) (.slice (some ⟨w.heap.size + 1 + 1, 0, none⟩) 0 0) [] := owns_below (com_empty_at hs0 (by omega)) hb1 (Nat.le_refl _)
  have hb9 : Below (w.heap.size + 1 + 1) W0 w1 := (hb9.alloc (by omega) _).trans (hb1.mono (by simp [hs0]))
  have hs1 : w.heap.size + 1 + 1 + 1 ≤ w1.heap.size := by have h := hb1.size; simp [hs0] at h; omega
  go_wp2_with fail
  refine (or_on (w.heap.size + 1 + 1) W0 _ _ _ _ _ _ _ (by first | exact hc9 | exact hc9.alloc _ | exact com_empty_at rfl (by omega) | exact (com_empty_at rfl (by omega)).alloc _ | exact com_empty_drew rfl (by omega) | exact (com_empty_drew rfl (by omega)).alloc _ | exact com_empty_drew (by simp [hs0]) (by omega) | exact com_empty_at (by simp [hs0]) (by omega) | exact (com_empty_drew (by simp [hs0]) (by omega)).alloc _ | exact (com_empty_at (by simp [hs0]) (by omega)).alloc _) (by simp) (by first | exact hb9 | exact hb9.drew | exact hb9.alloc (by omega) _ | exact (hb9.alloc (by omega) _).drew | exact (hb9.alloc (by omega) _).alloc (by simp; omega) _ | exact ((hb9.alloc (by omega) _).alloc (by simp; omega) _).drew) (by omega)).mono ?_
  rintro e w9 ⟨v9, rfl, hc9, hg9, hb9⟩
  have hs9 : w.heap.size + 1 + 1 ≤ w9.heap.size := by have h := hb9.size; omega
  go_wp2
  go_ret
  exact ⟨com_done (by omega) hc9 (tells_l (one_at (hg9.cell (by simp) (by simp [Value.ownBlock]; omega))) _), (HBX.out _ hb9).2⟩
end
def comLL (xs : List Int) (st kind k v : Int) : List (Int × List Int) :=
  if kind = 1 then (if atK xs k = 0 then (if keyN xs v < 0 then [(0, [])] else [(2, [])]) else (if keyN xs v < 0 then [(1, [])] else [(1, []), (2, [])]))
  else if kind = 2 then (if atK xs k = 0 then (if keyN xs v < 0 then [(3, [])] else [(3, []), (2, [])]) else (if keyN xs v < 0 then [(0, [])] else if keyN xs v = k then [(2, []), (0, [])] else [(2, [])]))
  else if kind = 3 then (if atK xs k = 0 then [(3, [])] else [(0, [])])
  else if kind = 4 then (if atK xs k = 0 then [(3, [])] else [(0, [atK xs k])])
  else if kind = 5 then (if keyN xs v < 0 then [(3, [])] else [(0, [keyN xs v])])
  else if kind = 6 then [(0, [cntK xs k 4])]
  else if kind = 7 then [(0, xs)]
  else if kind = 8 then (if st = 0 then [(0, [])] else [(4, [])])
  else if kind = 9 then (if st = 0 then [(4, [])] else if st = 5 then [(4, [])] else [(0, [])])
  else (if st = 5 then (if keyN xs v < 0 then [(3, [])] else [(0, [keyN xs v])]) else [(4, [])])
theorem ite_len {α : Type} {p : Prop} [Decidable p] {a b : List α} (ha : a.length ≤ 4) (hb : b.length ≤ 4) : (if p then a else b).length ≤ 4 := by split <;> assumption
theorem comLL_len (xs : List Int) (st kind k v : Int) : (comLL xs st kind k v).length ≤ 4 := by
  unfold comLL
  repeat' apply ite_len
  all_goals (try simp)
theorem codesC (code : Int) : code = 0 ∨ code = 1 ∨ code = 2 ∨ code = 3 ∨ code = 4 ∨ (code ≠ 0 ∧ code ≠ 1 ∧ code ≠ 2 ∧ code ≠ 3 ∧ code ≠ 4) := by omega
theorem com_mem_1 (xs : List Int) (st k v code : Int) (ys : List Int) (hst : 0 ≤ st ∧ st ≤ 5) :
    (code, ys) ∈ comLL xs st 1 k v ↔ ((code ≠ 0 ∧ ys = [] ∧ FailsM xs st 1 k v code) ∨ (code = 0 ∧ DoneM xs st 1 k v ∧ listM xs 1 k v = ys)) := by
  have _h := hst
  have hk := keyN_le xs v
  obtain ⟨q, hq⟩ : ∃ q, keyN xs v = q := ⟨_, rfl⟩
  obtain ⟨x, hx⟩ : ∃ x, atK xs k = x := ⟨_, rfl⟩
  rw [hq] at hk
  unfold comLL FailsM DoneM listM
  rw [hq, hx]
  clear hq hx
  rcases codesC code with rfl | rfl | rfl | rfl | rfl | ⟨c0, c1, c2, c3, c4⟩ <;> by_cases h1 : x = 0 <;> (rcases (show (q < 0 ∧ ¬ 0 ≤ q) ∨ (0 ≤ q ∧ ¬ q < 0) by omega) with ⟨h2, h2'⟩ | ⟨h2, h2'⟩)
  all_goals simp [*]
  all_goals first | done | omega | (intros; omega) | exact eq_comm | (constructor <;> intro h <;> simp_all <;> omega)
theorem com_mem_2 (xs : List Int) (st k v code : Int) (ys : List Int) (hst : 0 ≤ st ∧ st ≤ 5) :
    (code, ys) ∈ comLL xs st 2 k v ↔ ((code ≠ 0 ∧ ys = [] ∧ FailsM xs st 2 k v code) ∨ (code = 0 ∧ DoneM xs st 2 k v ∧ listM xs 2 k v = ys)) := by
  have _h := hst
  have hk := keyN_le xs v
  obtain ⟨q, hq⟩ : ∃ q, keyN xs v = q := ⟨_, rfl⟩
  obtain ⟨x, hx⟩ : ∃ x, atK xs k = x := ⟨_, rfl⟩
  rw [hq] at hk
  unfold comLL FailsM DoneM listM
  rw [hq, hx]
  clear hq hx
  rcases codesC code with rfl | rfl | rfl | rfl | rfl | ⟨c0, c1, c2, c3, c4⟩ <;> by_cases h1 : x = 0 <;> (rcases (show (q < 0 ∧ ¬ 0 ≤ q) ∨ (0 ≤ q ∧ ¬ q < 0) by omega) with ⟨h2, h2'⟩ | ⟨h2, h2'⟩) <;> (rcases Decidable.em (q = k) with rfl | h3)
  all_goals simp [*]
  all_goals first | done | omega | (intros; omega) | exact eq_comm | (constructor <;> intro h <;> simp_all <;> omega)
theorem com_mem_3 (xs : List Int) (st k v code : Int) (ys : List Int) (hst : 0 ≤ st ∧ st ≤ 5) :
    (code, ys) ∈ comLL xs st 3 k v ↔ ((code ≠ 0 ∧ ys = [] ∧ FailsM xs st 3 k v code) ∨ (code = 0 ∧ DoneM xs st 3 k v ∧ listM xs 3 k v = ys)) := by
  have _h := hst
  have hk := keyN_le xs v
  obtain ⟨q, hq⟩ : ∃ q, keyN xs v = q := ⟨_, rfl⟩
  obtain ⟨x, hx⟩ : ∃ x, atK xs k = x := ⟨_, rfl⟩
  rw [hq] at hk
  unfold comLL FailsM DoneM listM
  rw [hq, hx]
  clear hq hx
  rcases codesC code with rfl | rfl | rfl | rfl | rfl | ⟨c0, c1, c2, c3, c4⟩ <;> by_cases h1 : x = 0
  all_goals simp [*]
  all_goals first | done | omega | (intros; omega) | exact eq_comm | (constructor <;> intro h <;> simp_all <;> omega)
theorem com_mem_4 (xs : List Int) (st k v code : Int) (ys : List Int) (hst : 0 ≤ st ∧ st ≤ 5) :
    (code, ys) ∈ comLL xs st 4 k v ↔ ((code ≠ 0 ∧ ys = [] ∧ FailsM xs st 4 k v code) ∨ (code = 0 ∧ DoneM xs st 4 k v ∧ listM xs 4 k v = ys)) := by
  have _h := hst
  have hk := keyN_le xs v
  obtain ⟨q, hq⟩ : ∃ q, keyN xs v = q := ⟨_, rfl⟩
  obtain ⟨x, hx⟩ : ∃ x, atK xs k = x := ⟨_, rfl⟩
  rw [hq] at hk
  unfold comLL FailsM DoneM listM
  rw [hq, hx]
  clear hq hx
  rcases codesC code with rfl | rfl | rfl | rfl | rfl | ⟨c0, c1, c2, c3, c4⟩ <;> by_cases h1 : x = 0
  all_goals simp [*]
  all_goals first | done | omega | (intros; omega) | exact eq_comm | (constructor <;> intro h <;> simp_all <;> omega)
theorem com_mem_5 (xs : List Int) (st k v code : Int) (ys : List Int) (hst : 0 ≤ st ∧ st ≤ 5) :
    (code, ys) ∈ comLL xs st 5 k v ↔ ((code ≠ 0 ∧ ys = [] ∧ FailsM xs st 5 k v code) ∨ (code = 0 ∧ DoneM xs st 5 k v ∧ listM xs 5 k v = ys)) := by
  have _h := hst
  have hk := keyN_le xs v
  obtain ⟨q, hq⟩ : ∃ q, keyN xs v = q := ⟨_, rfl⟩
  obtain ⟨x, hx⟩ : ∃ x, atK xs k = x := ⟨_, rfl⟩
  rw [hq] at hk
  unfold comLL FailsM DoneM listM
  rw [hq, hx]
  clear hq hx
  rcases codesC code with rfl | rfl | rfl | rfl | rfl | ⟨c0, c1, c2, c3, c4⟩ <;> (rcases (show (q < 0 ∧ ¬ 0 ≤ q) ∨ (0 ≤ q ∧ ¬ q < 0) by omega) with ⟨h2, h2'⟩ | ⟨h2, h2'⟩)
  all_goals simp [*]
  all_goals first | done | omega | (intros; omega) | exact eq_comm | (constructor <;> intro h <;> simp_all <;> omega)
theorem com_mem_6 (xs : List Int) (st k v code : Int) (ys : List Int) (hst : 0 ≤ st ∧ st ≤ 5) :
    (code, ys) ∈ comLL xs st 6 k v ↔ ((code ≠ 0 ∧ ys = [] ∧ FailsM xs st 6 k v code) ∨ (code = 0 ∧ DoneM xs st 6 k v ∧ listM xs 6 k v = ys)) := by
  have _h := hst
  have hk := keyN_le xs v
  obtain ⟨q, hq⟩ : ∃ q, keyN xs v = q := ⟨_, rfl⟩
  obtain ⟨x, hx⟩ : ∃ x, atK xs k = x := ⟨_, rfl⟩
  rw [hq] at hk
  unfold comLL FailsM DoneM listM
  rw [hq, hx]
  clear hq hx
  rcases codesC code with rfl | rfl | rfl | rfl | rfl | ⟨c0, c1, c2, c3, c4⟩
  all_goals simp [*]
  all_goals first | done | omega | (intros; omega) | exact eq_comm | (constructor <;> intro h <;> simp_all <;> omega)
theorem com_mem_7 (xs : List Int) (st k v code : Int) (ys : List Int) (hst : 0 ≤ st ∧ st ≤ 5) :
    (code, ys) ∈ comLL xs st 7 k v ↔ ((code ≠ 0 ∧ ys = [] ∧ FailsM xs st 7 k v code) ∨ (code = 0 ∧ DoneM xs st 7 k v ∧ listM xs 7 k v = ys)) := by
  have _h := hst
  have hk := keyN_le xs v
  obtain ⟨q, hq⟩ : ∃ q, keyN xs v = q := ⟨_, rfl⟩
  obtain ⟨x, hx⟩ : ∃ x, atK xs k = x := ⟨_, rfl⟩
  rw [hq] at hk
  unfold comLL FailsM DoneM listM
  rw [hq, hx]
  clear hq hx
  rcases codesC code with rfl | rfl | rfl | rfl | rfl | ⟨c0, c1, c2, c3, c4⟩
  all_goals simp [*]
  all_goals first | done | omega | (intros; omega) | exact eq_comm | (constructor <;> intro h <;> simp_all <;> omega)
theorem com_mem_8 (xs : List Int) (st k v code : Int) (ys : List Int) (hst : 0 ≤ st ∧ st ≤ 5) :
    (code, ys) ∈ comLL xs st 8 k v ↔ ((code ≠ 0 ∧ ys = [] ∧ FailsM xs st 8 k v code) ∨ (code = 0 ∧ DoneM xs st 8 k v ∧ listM xs 8 k v = ys)) := by
  have _h := hst
  have hk := keyN_le xs v
  obtain ⟨q, hq⟩ : ∃ q, keyN xs v = q := ⟨_, rfl⟩
  obtain ⟨x, hx⟩ : ∃ x, atK xs k = x := ⟨_, rfl⟩
  rw [hq] at hk
  unfold comLL FailsM DoneM listM
  rw [hq, hx]
  clear hq hx
  rcases codesC code with rfl | rfl | rfl | rfl | rfl | ⟨c0, c1, c2, c3, c4⟩ <;> by_cases h4 : st = 0
  all_goals simp [*]
  all_goals first | done | omega | (intros; omega) | exact eq_comm | (constructor <;> intro h <;> simp_all <;> omega)
theorem com_mem_9 (xs : List Int) (st k v code : Int) (ys : List Int) (hst : 0 ≤ st ∧ st ≤ 5) :
    (code, ys) ∈ comLL xs st 9 k v ↔ ((code ≠ 0 ∧ ys = [] ∧ FailsM xs st 9 k v code) ∨ (code = 0 ∧ DoneM xs st 9 k v ∧ listM xs 9 k v = ys)) := by
  have _h := hst
  have hk := keyN_le xs v
  obtain ⟨q, hq⟩ : ∃ q, keyN xs v = q := ⟨_, rfl⟩
  obtain ⟨x, hx⟩ : ∃ x, atK xs k = x := ⟨_, rfl⟩
  rw [hq] at hk
  unfold comLL FailsM DoneM listM
  rw [hq, hx]
  clear hq hx
  rcases codesC code with rfl | rfl | rfl | rfl | rfl | ⟨c0, c1, c2, c3, c4⟩ <;> by_cases h4 : st = 0 <;> by_cases h5 : st = 5
  all_goals simp [*]
  all_goals first | done | omega | (intros; omega) | exact eq_comm | (constructor <;> intro h <;> simp_all <;> omega)
theorem com_mem_10 (xs : List Int) (st k v code : Int) (ys : List Int) (hst : 0 ≤ st ∧ st ≤ 5) :
    (code, ys) ∈ comLL xs st 10 k v ↔ ((code ≠ 0 ∧ ys = [] ∧ FailsM xs st 10 k v code) ∨ (code = 0 ∧ DoneM xs st 10 k v ∧ listM xs 10 k v = ys)) := by
  have _h := hst
  have hk := keyN_le xs v
  obtain ⟨q, hq⟩ : ∃ q, keyN xs v = q := ⟨_, rfl⟩
  obtain ⟨x, hx⟩ : ∃ x, atK xs k = x := ⟨_, rfl⟩
  rw [hq] at hk
  unfold comLL FailsM DoneM listM
  rw [hq, hx]
  clear hq hx
  rcases codesC code with rfl | rfl | rfl | rfl | rfl | ⟨c0, c1, c2, c3, c4⟩ <;> by_cases h5 : st = 5 <;> (rcases (show (q < 0 ∧ ¬ 0 ≤ q) ∨ (0 ≤ q ∧ ¬ q < 0) by omega) with ⟨h2, h2'⟩ | ⟨h2, h2'⟩)
  all_goals simp [*]
  all_goals first | done | omega | (intros; omega) | exact eq_comm | (constructor <;> intro h <;> simp_all <;> omega)
section
open Go.ChangeShapes Go.WideShapes Go.ChangeAt Go.RowKit Go.Maps
theorem atK_nat (xs : List Int) (j : Nat) : atK xs (j : Int) = xs.getD j 0 := by simp [atK]
theorem comAny_1 (p o : Nat) (st : Int) (xs : List Int) (w : World) (hA : IntAt w (some ⟨p, o, none⟩) 4 xs) (hi : ∀ x ∈ xs, (Lit.int .i64 x).wf = true) (k : Int) (hk : 0 ≤ k ∧ k ≤ 3) (v : Int) (hv : 1 ≤ v ∧ v ≤ 6) :
    Calls Tryz.prog 42 #[.agg #[.slice (some ⟨p, o, none⟩) 4 4, .int .i64 st], DeedV 1 k v] w fun e w' => ComSays e w w' (comLL xs st 1 k v) ∧ Below w.heap.size w w' := by
  obtain ⟨j, rfl⟩ : ∃ j : Nat, k = j := ⟨k.toNat, by omega⟩
  have hj : j < 4 := by omega
  rw [show DeedV 1 (j : Int) v = .iface 93 (OpV 1 (j : Int) v) from rfl]
  by_cases h0 : xs.getD j 0 = 0
  · rcases (show keyN xs v < 0 ∨ 0 ≤ keyN xs v by omega) with hq | hq
    · rw [show comLL xs st 1 (j : Int) v = [(0, [])] by rw [comLL, if_pos rfl, atK_nat, if_pos h0, if_pos hq]]
      exact com_1_00 p o j st _ xs w hA hi hj rfl v _ hv rfl h0 hq
    · rw [show comLL xs st 1 (j : Int) v = [(2, [])] by rw [comLL, if_pos rfl, atK_nat, if_pos h0, if_neg (by omega)]]
      exact com_1_01 p o j st _ xs w hA hi hj rfl v _ hv rfl h0 hq
  · rcases (show keyN xs v < 0 ∨ 0 ≤ keyN xs v by omega) with hq | hq
    · rw [show comLL xs st 1 (j : Int) v = [(1, [])] by rw [comLL, if_pos rfl, atK_nat, if_neg h0, if_pos hq]]
      exact com_1_10 p o j st _ xs w hA hi hj rfl v _ hv rfl h0 hq
    · rw [show comLL xs st 1 (j : Int) v = [(1, []), (2, [])] by rw [comLL, if_pos rfl, atK_nat, if_neg h0, if_neg (by omega)]]
      exact com_1_11 p o j st _ xs w hA hi hj rfl v _ hv rfl h0 hq
theorem comAny_2 (p o : Nat) (st : Int) (xs : List Int) (w : World) (hA : IntAt w (some ⟨p, o, none⟩) 4 xs) (hi : ∀ x ∈ xs, (Lit.int .i64 x).wf = true) (k : Int) (hk : 0 ≤ k ∧ k ≤ 3) (v : Int) (hv : 1 ≤ v ∧ v ≤ 6) :
    Calls Tryz.prog 42 #[.agg #[.slice (some ⟨p, o, none⟩) 4 4, .int .i64 st], DeedV 2 k v] w fun e w' => ComSays e w w' (comLL xs st 2 k v) ∧ Below w.heap.size w w' := by
  obtain ⟨j, rfl⟩ : ∃ j : Nat, k = j := ⟨k.toNat, by omega⟩
  have hj : j < 4 := by omega
  rw [show DeedV 2 (j : Int) v = .iface 94 (OpV 2 (j : Int) v) from rfl]
  by_cases h0 : xs.getD j 0 = 0
  · rcases (show keyN xs v < 0 ∨ 0 ≤ keyN xs v by omega) with hq | hq
    · rw [show comLL xs st 2 (j : Int) v = [(3, [])] by rw [comLL, if_neg (by omega), if_pos rfl, atK_nat, if_pos h0, if_pos hq]]
      exact com_2_00 p o j st _ xs w hA hi hj rfl v _ hv rfl h0 hq
    · rw [show comLL xs st 2 (j : Int) v = [(3, []), (2, [])] by rw [comLL, if_neg (by omega), if_pos rfl, atK_nat, if_pos h0, if_neg (by omega)]]
      exact com_2_01 p o j st _ xs w hA hi hj rfl v _ hv rfl h0 hq
  · rcases (show keyN xs v < 0 ∨ 0 ≤ keyN xs v by omega) with hq | hq
    · rw [show comLL xs st 2 (j : Int) v = [(0, [])] by rw [comLL, if_neg (by omega), if_pos rfl, atK_nat, if_neg h0, if_pos hq]]
      exact com_2_10 p o j st _ xs w hA hi hj rfl v _ hv rfl h0 hq
    · by_cases he : keyN xs v = (j : Int)
      · rw [show comLL xs st 2 (j : Int) v = [(2, []), (0, [])] by rw [comLL, if_neg (by omega), if_pos rfl, atK_nat, if_neg h0, if_neg (by omega), if_pos he]]
        exact com_2_11 p o j st _ xs w hA hi hj rfl v _ hv rfl h0 hq he
      · rw [show comLL xs st 2 (j : Int) v = [(2, [])] by rw [comLL, if_neg (by omega), if_pos rfl, atK_nat, if_neg h0, if_neg (by omega), if_neg he]]
        exact com_2_12 p o j st _ xs w hA hi hj rfl v _ hv rfl h0 hq he
theorem comAny_3 (p o : Nat) (st : Int) (xs : List Int) (w : World) (hA : IntAt w (some ⟨p, o, none⟩) 4 xs) (hi : ∀ x ∈ xs, (Lit.int .i64 x).wf = true) (k : Int) (hk : 0 ≤ k ∧ k ≤ 3) :
    Calls Tryz.prog 42 #[.agg #[.slice (some ⟨p, o, none⟩) 4 4, .int .i64 st], DeedV 3 k 0] w fun e w' => ComSays e w w' (comLL xs st 3 k 0) ∧ Below w.heap.size w w' := by
  obtain ⟨j, rfl⟩ : ∃ j : Nat, k = j := ⟨k.toNat, by omega⟩
  have hj : j < 4 := by omega
  rw [show DeedV 3 (j : Int) 0 = .iface 95 (OpV 3 (j : Int) 0) from rfl]
  by_cases h0 : xs.getD j 0 = 0
  · rw [show comLL xs st 3 (j : Int) 0 = [(3, [])] by rw [comLL, if_neg (by omega), if_neg (by omega), if_pos rfl, atK_nat, if_pos h0]]
    exact com_3_0 p o j st _ xs w hA hi hj rfl h0
  · rw [show comLL xs st 3 (j : Int) 0 = [(0, [])] by rw [comLL, if_neg (by omega), if_neg (by omega), if_pos rfl, atK_nat, if_neg h0]]
    exact com_3_1 p o j st _ xs w hA hi hj rfl h0
theorem comAny_4 (p o : Nat) (st : Int) (xs : List Int) (w : World) (hA : IntAt w (some ⟨p, o, none⟩) 4 xs) (hi : ∀ x ∈ xs, (Lit.int .i64 x).wf = true) (k : Int) (hk : 0 ≤ k ∧ k ≤ 3) :
    Calls Tryz.prog 42 #[.agg #[.slice (some ⟨p, o, none⟩) 4 4, .int .i64 st], DeedV 4 k 0] w fun e w' => ComSays e w w' (comLL xs st 4 k 0) ∧ Below w.heap.size w w' := by
  obtain ⟨j, rfl⟩ : ∃ j : Nat, k = j := ⟨k.toNat, by omega⟩
  have hj : j < 4 := by omega
  rw [show DeedV 4 (j : Int) 0 = .iface 96 (OpV 4 (j : Int) 0) from rfl]
  by_cases h0 : xs.getD j 0 = 0
  · rw [show comLL xs st 4 (j : Int) 0 = [(3, [])] by rw [comLL, if_neg (by omega), if_neg (by omega), if_neg (by omega), if_pos rfl, atK_nat, if_pos h0]]
    exact com_4_0 p o j st _ xs w hA hi hj rfl h0
  · rw [show comLL xs st 4 (j : Int) 0 = [(0, [xs.getD j 0])] by rw [comLL, if_neg (by omega), if_neg (by omega), if_neg (by omega), if_pos rfl, atK_nat, if_neg h0]]
    exact com_4_1 p o j st _ xs w hA hi hj rfl h0
theorem comAny_5 (p o : Nat) (st : Int) (xs : List Int) (w : World) (hA : IntAt w (some ⟨p, o, none⟩) 4 xs) (hi : ∀ x ∈ xs, (Lit.int .i64 x).wf = true) (v : Int) (hv : 1 ≤ v ∧ v ≤ 6) :
    Calls Tryz.prog 42 #[.agg #[.slice (some ⟨p, o, none⟩) 4 4, .int .i64 st], DeedV 5 0 v] w fun e w' => ComSays e w w' (comLL xs st 5 0 v) ∧ Below w.heap.size w w' := by
  have hj : (0 : Nat) < 4 := by omega
  rw [show DeedV 5 0 v = .iface 97 (OpV 5 0 v) from rfl]
  rcases (show keyN xs v < 0 ∨ 0 ≤ keyN xs v by omega) with hq | hq
  · rw [show comLL xs st 5 0 v = [(3, [])] by rw [comLL, if_neg (by omega), if_neg (by omega), if_neg (by omega), if_neg (by omega), if_pos rfl, if_pos hq]]
    exact com_5_0 p o 0 st _ xs w hA hi hj rfl v _ hv rfl hq
  · rw [show comLL xs st 5 0 v = [(0, [keyN xs v])] by rw [comLL, if_neg (by omega), if_neg (by omega), if_neg (by omega), if_neg (by omega), if_pos rfl, if_neg (by omega)]]
    exact com_5_1 p o 0 st _ xs w hA hi hj rfl v _ hv rfl hq
theorem comAny_6 (p o : Nat) (st : Int) (xs : List Int) (w : World) (hA : IntAt w (some ⟨p, o, none⟩) 4 xs) (hi : ∀ x ∈ xs, (Lit.int .i64 x).wf = true) (c : Int) :
    Calls Tryz.prog 42 #[.agg #[.slice (some ⟨p, o, none⟩) 4 4, .int .i64 st], DeedV 6 c 0] w fun e w' => ComSays e w w' (comLL xs st 6 c 0) ∧ Below w.heap.size w w' := by
  have hj : (0 : Nat) < 4 := by omega
  rw [show DeedV 6 c 0 = .iface 98 (OpV 6 c 0) from rfl]
  rw [show comLL xs st 6 c 0 = [(0, [cntK xs c 4])] by rw [comLL, if_neg (by omega), if_neg (by omega), if_neg (by omega), if_neg (by omega), if_neg (by omega), if_pos rfl]]
  exact com_6 p o 0 st _ xs w hA hi hj rfl c
theorem comAny_7 (p o : Nat) (st : Int) (xs : List Int) (w : World) (hA : IntAt w (some ⟨p, o, none⟩) 4 xs) (hi : ∀ x ∈ xs, (Lit.int .i64 x).wf = true) :
    Calls Tryz.prog 42 #[.agg #[.slice (some ⟨p, o, none⟩) 4 4, .int .i64 st], DeedV 7 0 0] w fun e w' => ComSays e w w' (comLL xs st 7 0 0) ∧ Below w.heap.size w w' := by
  have hj : (0 : Nat) < 4 := by omega
  rw [show DeedV 7 0 0 = .iface 99 (OpV 7 0 0) from rfl]
  rw [show comLL xs st 7 0 0 = [(0, xs)] by rw [comLL, if_neg (by omega), if_neg (by omega), if_neg (by omega), if_neg (by omega), if_neg (by omega), if_neg (by omega), if_pos rfl]]
  exact com_7 p o 0 st _ xs w hA hi hj rfl
theorem comAny_8 (p o : Nat) (st : Int) (xs : List Int) (w : World) (hA : IntAt w (some ⟨p, o, none⟩) 4 xs) (hi : ∀ x ∈ xs, (Lit.int .i64 x).wf = true) :
    Calls Tryz.prog 42 #[.agg #[.slice (some ⟨p, o, none⟩) 4 4, .int .i64 st], DeedV 8 0 0] w fun e w' => ComSays e w w' (comLL xs st 8 0 0) ∧ Below w.heap.size w w' := by
  have hj : (0 : Nat) < 4 := by omega
  rw [show DeedV 8 0 0 = .iface 100 (OpV 8 0 0) from rfl]
  by_cases h0 : st = 0
  · rw [show comLL xs st 8 0 0 = [(0, [])] by rw [comLL, if_neg (by omega), if_neg (by omega), if_neg (by omega), if_neg (by omega), if_neg (by omega), if_neg (by omega), if_neg (by omega), if_pos rfl, if_pos h0]]
    exact com_8_0 p o 0 st _ xs w hA hi hj rfl h0
  · rw [show comLL xs st 8 0 0 = [(4, [])] by rw [comLL, if_neg (by omega), if_neg (by omega), if_neg (by omega), if_neg (by omega), if_neg (by omega), if_neg (by omega), if_neg (by omega), if_pos rfl, if_neg h0]]
    exact com_8_1 p o 0 st _ xs w hA hi hj rfl h0
theorem comAny_9 (p o : Nat) (st : Int) (xs : List Int) (w : World) (hA : IntAt w (some ⟨p, o, none⟩) 4 xs) (hi : ∀ x ∈ xs, (Lit.int .i64 x).wf = true) :
    Calls Tryz.prog 42 #[.agg #[.slice (some ⟨p, o, none⟩) 4 4, .int .i64 st], DeedV 9 0 0] w fun e w' => ComSays e w w' (comLL xs st 9 0 0) ∧ Below w.heap.size w w' := by
  have hj : (0 : Nat) < 4 := by omega
  rw [show DeedV 9 0 0 = .iface 101 (OpV 9 0 0) from rfl]
  by_cases h0 : st = 0
  · rw [show comLL xs st 9 0 0 = [(4, [])] by rw [comLL, if_neg (by omega), if_neg (by omega), if_neg (by omega), if_neg (by omega), if_neg (by omega), if_neg (by omega), if_neg (by omega), if_neg (by omega), if_pos rfl, if_pos h0]]
    exact com_9_0 p o 0 st _ xs w hA hi hj rfl h0
  · by_cases h5 : st = 5
    · rw [show comLL xs st 9 0 0 = [(4, [])] by rw [comLL, if_neg (by omega), if_neg (by omega), if_neg (by omega), if_neg (by omega), if_neg (by omega), if_neg (by omega), if_neg (by omega), if_neg (by omega), if_pos rfl, if_neg h0, if_pos h5]]
      exact com_9_5 p o 0 st _ xs w hA hi hj rfl h0 h5
    · rw [show comLL xs st 9 0 0 = [(0, [])] by rw [comLL, if_neg (by omega), if_neg (by omega), if_neg (by omega), if_neg (by omega), if_neg (by omega), if_neg (by omega), if_neg (by omega), if_neg (by omega), if_pos rfl, if_neg h0, if_neg h5]]
      exact com_9_1 p o 0 st _ xs w hA hi hj rfl h0 h5
theorem comAny_10 (p o : Nat) (st : Int) (xs : List Int) (w : World) (hA : IntAt w (some ⟨p, o, none⟩) 4 xs) (hi : ∀ x ∈ xs, (Lit.int .i64 x).wf = true) (v : Int) (hv : 1 ≤ v ∧ v ≤ 6) :
    Calls Tryz.prog 42 #[.agg #[.slice (some ⟨p, o, none⟩) 4 4, .int .i64 st], DeedV 10 0 v] w fun e w' => ComSays e w w' (comLL xs st 10 0 v) ∧ Below w.heap.size w w' := by
  have hj : (0 : Nat) < 4 := by omega
  rw [show DeedV 10 0 v = .iface 102 (OpV 10 0 v) from rfl]
  by_cases h5 : st = 5
  · rcases (show keyN xs v < 0 ∨ 0 ≤ keyN xs v by omega) with hq | hq
    · rw [show comLL xs st 10 0 v = [(3, [])] by rw [comLL, if_neg (by omega), if_neg (by omega), if_neg (by omega), if_neg (by omega), if_neg (by omega), if_neg (by omega), if_neg (by omega), if_neg (by omega), if_neg (by omega), if_pos h5, if_pos hq]]
      exact com_10_0 p o 0 st _ xs w hA hi hj rfl v _ hv rfl h5 hq
    · rw [show comLL xs st 10 0 v = [(0, [keyN xs v])] by rw [comLL, if_neg (by omega), if_neg (by omega), if_neg (by omega), if_neg (by omega), if_neg (by omega), if_neg (by omega), if_neg (by omega), if_neg (by omega), if_neg (by omega), if_pos h5, if_neg (by omega)]]
      exact com_10_1 p o 0 st _ xs w hA hi hj rfl v _ hv rfl h5 hq
  · rw [show comLL xs st 10 0 v = [(4, [])] by rw [comLL, if_neg (by omega), if_neg (by omega), if_neg (by omega), if_neg (by omega), if_neg (by omega), if_neg (by omega), if_neg (by omega), if_neg (by omega), if_neg (by omega), if_neg h5]]
    rcases (show keyN xs v < 0 ∨ 0 ≤ keyN xs v by omega) with hq | hq
    · exact com_10_n p o 0 st _ xs w hA hi hj rfl v _ hv rfl h5 hq
    · exact com_10_m p o 0 st _ xs w hA hi hj rfl v _ hv rfl h5 hq

theorem comAny (p o : Nat) (st kind k v : Int) (xs : List Int) (w : World) (hA : IntAt w (some ⟨p, o, none⟩) 4 xs) (hi : ∀ x ∈ xs, (Lit.int .i64 x).wf = true) (hop : OpGood kind k v) :
    Calls Tryz.prog 42 #[.agg #[.slice (some ⟨p, o, none⟩) 4 4, .int .i64 st], DeedV kind k v] w fun e w' => ComSays e w w' (comLL xs st kind k v) ∧ Below w.heap.size w w' := by
  obtain ⟨hk, hkey, hval⟩ := hop
  unfold KeyGood at hkey
  unfold ValGood at hval
  rcases kinds hk with rfl | rfl | rfl | rfl | rfl | rfl | rfl | rfl | rfl | rfl
  · exact comAny_1 p o st xs w hA hi k (by omega) v (by omega)
  · exact comAny_2 p o st xs w hA hi k (by omega) v (by omega)
  · obtain rfl : v = 0 := by omega
    exact comAny_3 p o st xs w hA hi k (by omega)
  · obtain rfl : v = 0 := by omega
    exact comAny_4 p o st xs w hA hi k (by omega)
  · obtain rfl : k = 0 := by omega
    exact comAny_5 p o st xs w hA hi v (by omega)
  · obtain rfl : v = 0 := by omega
    exact comAny_6 p o st xs w hA hi k
  · obtain rfl : v = 0 := by omega
    obtain rfl : k = 0 := by omega
    exact comAny_7 p o st xs w hA hi
  · obtain rfl : v = 0 := by omega
    obtain rfl : k = 0 := by omega
    exact comAny_8 p o st xs w hA hi
  · obtain rfl : v = 0 := by omega
    obtain rfl : k = 0 := by omega
    exact comAny_9 p o st xs w hA hi
  · obtain rfl : k = 0 := by omega
    exact comAny_10 p o st xs w hA hi v (by omega)
theorem com_mem (xs : List Int) (st kind k v code : Int) (ys : List Int) (hst : 0 ≤ st ∧ st ≤ 5) (hk : 1 ≤ kind ∧ kind ≤ 10) :
    (code, ys) ∈ comLL xs st kind k v ↔ ((code ≠ 0 ∧ ys = [] ∧ FailsM xs st kind k v code) ∨ (code = 0 ∧ DoneM xs st kind k v ∧ listM xs kind k v = ys)) := by
  rcases kinds hk with rfl | rfl | rfl | rfl | rfl | rfl | rfl | rfl | rfl | rfl
  · exact com_mem_1 xs st k v code ys hst
  · exact com_mem_2 xs st k v code ys hst
  · exact com_mem_3 xs st k v code ys hst
  · exact com_mem_4 xs st k v code ys hst
  · exact com_mem_5 xs st k v code ys hst
  · exact com_mem_6 xs st k v code ys hst
  · exact com_mem_7 xs st k v code ys hst
  · exact com_mem_8 xs st k v code ys hst
  · exact com_mem_9 xs st k v code ys hst
  · exact com_mem_10 xs st k v code ys hst
end
end Go.Proofs.YtenlapppaimkkabGreatDoor
