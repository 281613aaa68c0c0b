/- Texts joined: ImplCom4, ImplCom5, ImplCom6, ImplCom7, ComLL. -/
import Derived.Test.YtenlapppaimkkaeGreatDoorAL01
import Derived.Test.YtenlapppaimkkaeGreatDoorAL15
import Derived.Deep.RegionHeld3
import Derived.Test.YtenlapppaimkkaeGreatDoorAL14
/- impl.comingsOf, walked: the other way begun and made. -/
namespace Go.Proofs.YtenlapppaimkkaeGreatDoor
open Go.ChangeShapes Go.WideShapes Go.ChangeAt Go.RowKit Go.Maps

set_option maxHeartbeats 4000000 in
set_option maxRecDepth 100000 in
theorem com_8_0 (p o j : Nat) (st x : Int) (xs : List Int) (w : World) (hA : IntAt w (some ⟨p, o, none⟩) 4 xs) (hi : ∀ x ∈ xs, (Lit.int .i64 x).wf = true) (hj : j < 4) (hx : xs.getD j 0 = x) (h0 : st = 0) :
    Calls Tryz.prog 36 #[.agg #[.slice (some ⟨p, o, none⟩) 4 4, .int .i64 st], .iface 98 (OpV 8 (0) (0))] w fun e w' => ComSays e w w' [(0, [])] ∧ Below w.heap.size w w' := by
  have hc : w.cell? ⟨p, o + j, none⟩ = some (I x) := by have h := hA.cells j hj; rwa [hx] at h
  have hp : p < w.heap.size := World.block_lt_of_cell? w _ hc
  have hj0 : (0 : Int) ≤ (j : Int) := by omega
  have hj1 : (j : Int) < 4 := by omega
  have HA : Hid (IntAt w (some ⟨p, o, none⟩) 4 xs) := hA
  have HI : Hid (∀ x ∈ xs, (Lit.int .i64 x).wf = true) := hi
  clear hA hi hx
  have h0' : (st != 0) = false := by simpa using h0
  have h0'' : (st == 0) = true := by simpa using h0
  clear h0
  obtain ⟨W0, hW0⟩ : ∃ W0, W0 = (w.alloc (.cells #[.slice (some ⟨p, o, none⟩) 4 4, .int .i64 st] 26)).alloc (.cells #[.int .i64 8, .int .i64 0, .int .i64 0] 98) := ⟨_, rfl⟩
  have hs0 : W0.heap.size = w.heap.size + 1 + 1 := by rw [hW0]; simp
  have HBX : Hid (∀ w', Below (w.heap.size + 1 + 1) W0 w' → (w'.cell? ⟨w.heap.size, 0, none⟩ = some (.slice (some ⟨p, o, none⟩) 4 4) ∧ w'.cell? ⟨w.heap.size, 1, none⟩ = some (.int .i64 st) ∧ w'.cell? ⟨w.heap.size + 1, 1, none⟩ = some (.int .i64 0) ∧ w'.cell? ⟨w.heap.size + 1, 2, none⟩ = some (.int .i64 0) ∧ w'.cell? ⟨p, o + j, none⟩ = some (I x)) ∧ Below w.heap.size w w') := fun w' hb => com_boxes hc hW0 hb
  have t1 : ∀ w : World, (Instr.typeAssert (.iface 98 (OpV 8 (0) (0))) 53 91 true).run Tryz.prog w = .ok (.tuple #[OpV 0 0 0, .bool false]) w := fun _ => by kernel_rfl
  have t2 : ∀ w : World, (Instr.typeAssert (.iface 98 (OpV 8 (0) (0))) 53 92 true).run Tryz.prog w = .ok (.tuple #[OpV 0 0 0, .bool false]) w := fun _ => by kernel_rfl
  have t3 : ∀ w : World, (Instr.typeAssert (.iface 98 (OpV 8 (0) (0))) 53 93 true).run Tryz.prog w = .ok (.tuple #[OpV 0 0 0, .bool false]) w := fun _ => by kernel_rfl
  have t4 : ∀ w : World, (Instr.typeAssert (.iface 98 (OpV 8 (0) (0))) 53 94 true).run Tryz.prog w = .ok (.tuple #[OpV 0 0 0, .bool false]) w := fun _ => by kernel_rfl
  have t5 : ∀ w : World, (Instr.typeAssert (.iface 98 (OpV 8 (0) (0))) 53 95 true).run Tryz.prog w = .ok (.tuple #[OpV 0 0 0, .bool false]) w := fun _ => by kernel_rfl
  have t6 : ∀ w : World, (Instr.typeAssert (.iface 98 (OpV 8 (0) (0))) 53 96 true).run Tryz.prog w = .ok (.tuple #[OpV 0 0 0, .bool false]) w := fun _ => by kernel_rfl
  have t7 : ∀ w : World, (Instr.typeAssert (.iface 98 (OpV 8 (0) (0))) 53 97 true).run Tryz.prog w = .ok (.tuple #[OpV 0 0 0, .bool false]) w := fun _ => by kernel_rfl
  have t8 : ∀ w : World, (Instr.typeAssert (.iface 98 (OpV 8 (0) (0))) 53 98 true).run Tryz.prog w = .ok (.tuple #[OpV 8 (0) (0), .bool true]) w := fun _ => by kernel_rfl
  go_enter Tryz.func36, Tryz.ntmps36
  go_wp2_with fail
  rw [← hW0]
  clear hW0
  have hb9 : Below (w.heap.size + 1 + 1) W0 W0 := Below.refl _ _
  go_region_held3 (fun w' => w'.cell? ⟨w.heap.size, 0, none⟩ = some (.slice (some ⟨p, o, none⟩) 4 4) ∧ w'.cell? ⟨w.heap.size, 1, none⟩ = some (.int .i64 st) ∧ w'.cell? ⟨w.heap.size + 1, 1, none⟩ = some (.int .i64 0) ∧ w'.cell? ⟨w.heap.size + 1, 2, none⟩ = some (.int .i64 0) ∧ w'.cell? ⟨p, o + j, none⟩ = some (I x))
      (first | (exact (HBX.out _ hb9).1) | (exact (HBX.out _ hb9.drew).1) | (exact (HBX.out _ (hb9.alloc (by omega) _)).1) | (exact (HBX.out _ (hb9.alloc (by omega) _).drew).1) | (exact (HBX.out _ ((hb9.alloc (by omega) _).alloc (by simp; omega) _)).1) | (exact (HBX.out _ ((hb9.alloc (by omega) _).alloc (by simp; omega) _).drew).1) | go_keep)
      (first
      | (have _m := m1
         go_at_call 55
         refine (or_on (w.heap.size + 1 + 1) W0 _ _ _ _ _ _ _ (by first | exact hc9 | exact hc9.alloc _ | exact com_empty_at rfl (by omega) | exact (com_empty_at rfl (by omega)).alloc _ | exact com_empty_drew rfl (by omega) | exact (com_empty_drew rfl (by omega)).alloc _ | exact com_empty_drew (by simp [hs0]) (by omega) | exact com_empty_at (by simp [hs0]) (by omega) | exact (com_empty_drew (by simp [hs0]) (by omega)).alloc _ | exact (com_empty_at (by simp [hs0]) (by omega)).alloc _) (by simp) (by first | exact hb9 | exact hb9.drew | exact hb9.alloc (by omega) _ | exact (hb9.alloc (by omega) _).drew | exact (hb9.alloc (by omega) _).alloc (by simp; omega) _ | exact ((hb9.alloc (by omega) _).alloc (by simp; omega) _).drew) (by omega)).mono ?_
         rintro e w9 ⟨v9, rfl, hc9, hg9, hb9⟩
         have hs9 : w.heap.size + 1 + 1 ≤ w9.heap.size := by have h := hb9.size; omega
         have m2 : True := trivial)
      | (skip
         go_at_call 55
         refine (or_no _ _ _ _ _ _).mono ?_
         rintro e w8 ⟨rfl, rfl⟩
         have m1 : True := trivial))
  all_goals
    go_wp2
    go_ret
    first | exact ⟨com_done (by omega) hc9 (tells_1 _ _), (HBX.out _ hb9).2⟩ | exact ⟨com_done (by omega) (hc9.alloc _) (tells_1 _ _), (HBX.out _ (hb9.alloc (by omega) _)).2⟩

set_option maxHeartbeats 4000000 in
set_option maxRecDepth 100000 in
theorem com_8_1 (p o j : Nat) (st x : Int) (xs : List Int) (w : World) (hA : IntAt w (some ⟨p, o, none⟩) 4 xs) (hi : ∀ x ∈ xs, (Lit.int .i64 x).wf = true) (hj : j < 4) (hx : xs.getD j 0 = x) (h0 : st ≠ 0) :
    Calls Tryz.prog 36 #[.agg #[.slice (some ⟨p, o, none⟩) 4 4, .int .i64 st], .iface 98 (OpV 8 (0) (0))] w fun e w' => ComSays e w w' [(4, [])] ∧ Below w.heap.size w w' := by
  have hc : w.cell? ⟨p, o + j, none⟩ = some (I x) := by have h := hA.cells j hj; rwa [hx] at h
  have hp : p < w.heap.size := World.block_lt_of_cell? w _ hc
  have hj0 : (0 : Int) ≤ (j : Int) := by omega
  have hj1 : (j : Int) < 4 := by omega
  have HA : Hid (IntAt w (some ⟨p, o, none⟩) 4 xs) := hA
  have HI : Hid (∀ x ∈ xs, (Lit.int .i64 x).wf = true) := hi
  clear hA hi hx
  have h0' : (st != 0) = true := by simpa using h0
  have h0'' : (st == 0) = false := by simpa using h0
  clear h0
  obtain ⟨W0, hW0⟩ : ∃ W0, W0 = (w.alloc (.cells #[.slice (some ⟨p, o, none⟩) 4 4, .int .i64 st] 26)).alloc (.cells #[.int .i64 8, .int .i64 0, .int .i64 0] 98) := ⟨_, rfl⟩
  have hs0 : W0.heap.size = w.heap.size + 1 + 1 := by rw [hW0]; simp
  have HBX : Hid (∀ w', Below (w.heap.size + 1 + 1) W0 w' → (w'.cell? ⟨w.heap.size, 0, none⟩ = some (.slice (some ⟨p, o, none⟩) 4 4) ∧ w'.cell? ⟨w.heap.size, 1, none⟩ = some (.int .i64 st) ∧ w'.cell? ⟨w.heap.size + 1, 1, none⟩ = some (.int .i64 0) ∧ w'.cell? ⟨w.heap.size + 1, 2, none⟩ = some (.int .i64 0) ∧ w'.cell? ⟨p, o + j, none⟩ = some (I x)) ∧ Below w.heap.size w w') := fun w' hb => com_boxes hc hW0 hb
  have t1 : ∀ w : World, (Instr.typeAssert (.iface 98 (OpV 8 (0) (0))) 53 91 true).run Tryz.prog w = .ok (.tuple #[OpV 0 0 0, .bool false]) w := fun _ => by kernel_rfl
  have t2 : ∀ w : World, (Instr.typeAssert (.iface 98 (OpV 8 (0) (0))) 53 92 true).run Tryz.prog w = .ok (.tuple #[OpV 0 0 0, .bool false]) w := fun _ => by kernel_rfl
  have t3 : ∀ w : World, (Instr.typeAssert (.iface 98 (OpV 8 (0) (0))) 53 93 true).run Tryz.prog w = .ok (.tuple #[OpV 0 0 0, .bool false]) w := fun _ => by kernel_rfl
  have t4 : ∀ w : World, (Instr.typeAssert (.iface 98 (OpV 8 (0) (0))) 53 94 true).run Tryz.prog w = .ok (.tuple #[OpV 0 0 0, .bool false]) w := fun _ => by kernel_rfl
  have t5 : ∀ w : World, (Instr.typeAssert (.iface 98 (OpV 8 (0) (0))) 53 95 true).run Tryz.prog w = .ok (.tuple #[OpV 0 0 0, .bool false]) w := fun _ => by kernel_rfl
  have t6 : ∀ w : World, (Instr.typeAssert (.iface 98 (OpV 8 (0) (0))) 53 96 true).run Tryz.prog w = .ok (.tuple #[OpV 0 0 0, .bool false]) w := fun _ => by kernel_rfl
  have t7 : ∀ w : World, (Instr.typeAssert (.iface 98 (OpV 8 (0) (0))) 53 97 true).run Tryz.prog w = .ok (.tuple #[OpV 0 0 0, .bool false]) w := fun _ => by kernel_rfl
  have t8 : ∀ w : World, (Instr.typeAssert (.iface 98 (OpV 8 (0) (0))) 53 98 true).run Tryz.prog w = .ok (.tuple #[OpV 8 (0) (0), .bool true]) w := fun _ => by kernel_rfl
  go_enter Tryz.func36, Tryz.ntmps36
  go_wp2_with fail
  rw [← hW0]
  clear hW0
  have hb9 : Below (w.heap.size + 1 + 1) W0 W0 := Below.refl _ _
  go_region_held3 (fun w' => w'.cell? ⟨w.heap.size, 0, none⟩ = some (.slice (some ⟨p, o, none⟩) 4 4) ∧ w'.cell? ⟨w.heap.size, 1, none⟩ = some (.int .i64 st) ∧ w'.cell? ⟨w.heap.size + 1, 1, none⟩ = some (.int .i64 0) ∧ w'.cell? ⟨w.heap.size + 1, 2, none⟩ = some (.int .i64 0) ∧ w'.cell? ⟨p, o + j, none⟩ = some (I x))
      (first | (exact (HBX.out _ hb9).1) | (exact (HBX.out _ hb9.drew).1) | (exact (HBX.out _ (hb9.alloc (by omega) _)).1) | (exact (HBX.out _ (hb9.alloc (by omega) _).drew).1) | (exact (HBX.out _ ((hb9.alloc (by omega) _).alloc (by simp; omega) _)).1) | (exact (HBX.out _ ((hb9.alloc (by omega) _).alloc (by simp; omega) _).drew).1) | go_keep)
      (first
      | (have _m := m1
         go_at_call 55
         refine (or_no _ _ _ _ _ _).mono ?_
         rintro e w8 ⟨rfl, rfl⟩
         have m2 : True := trivial)
      | (skip
         go_at_call 55
         refine (or_on (w.heap.size + 1 + 1) W0 _ _ _ _ _ _ _ (by first | exact hc9 | exact hc9.alloc _ | exact com_empty_at rfl (by omega) | exact (com_empty_at rfl (by omega)).alloc _ | exact com_empty_drew rfl (by omega) | exact (com_empty_drew rfl (by omega)).alloc _ | exact com_empty_drew (by simp [hs0]) (by omega) | exact com_empty_at (by simp [hs0]) (by omega) | exact (com_empty_drew (by simp [hs0]) (by omega)).alloc _ | exact (com_empty_at (by simp [hs0]) (by omega)).alloc _) (by simp) (by first | exact hb9 | exact hb9.drew | exact hb9.alloc (by omega) _ | exact (hb9.alloc (by omega) _).drew | exact (hb9.alloc (by omega) _).alloc (by simp; omega) _ | exact ((hb9.alloc (by omega) _).alloc (by simp; omega) _).drew) (by omega)).mono ?_
         rintro e w9 ⟨v9, rfl, hc9, hg9, hb9⟩
         have hs9 : w.heap.size + 1 + 1 ≤ w9.heap.size := by have h := hb9.size; omega
         have m1 : True := trivial))
  all_goals
    go_wp2
    go_ret
    first | exact ⟨com_done (by omega) hc9 (tells_1 _ _), (HBX.out _ hb9).2⟩ | exact ⟨com_done (by omega) (hc9.alloc _) (tells_1 _ _), (HBX.out _ (hb9.alloc (by omega) _)).2⟩

set_option maxHeartbeats 4000000 in
set_option maxRecDepth 100000 in
theorem com_9_0 (p o j : Nat) (st x : Int) (xs : List Int) (w : World) (hA : IntAt w (some ⟨p, o, none⟩) 4 xs) (hi : ∀ x ∈ xs, (Lit.int .i64 x).wf = true) (hj : j < 4) (hx : xs.getD j 0 = x) (h0 : st = 0) :
    Calls Tryz.prog 36 #[.agg #[.slice (some ⟨p, o, none⟩) 4 4, .int .i64 st], .iface 99 (OpV 9 (0) (0))] w fun e w' => ComSays e w w' [(4, [])] ∧ Below w.heap.size w w' := by
  have hc : w.cell? ⟨p, o + j, none⟩ = some (I x) := by have h := hA.cells j hj; rwa [hx] at h
  have hp : p < w.heap.size := World.block_lt_of_cell? w _ hc
  have hj0 : (0 : Int) ≤ (j : Int) := by omega
  have hj1 : (j : Int) < 4 := by omega
  have HA : Hid (IntAt w (some ⟨p, o, none⟩) 4 xs) := hA
  have HI : Hid (∀ x ∈ xs, (Lit.int .i64 x).wf = true) := hi
  clear hA hi hx
  have h0' : (st != 0) = false := by simpa using h0
  have h0'' : (st == 0) = true := by simpa using h0
  clear h0
  obtain ⟨W0, hW0⟩ : ∃ W0, W0 = (w.alloc (.cells #[.slice (some ⟨p, o, none⟩) 4 4, .int .i64 st] 26)).alloc (.cells #[.int .i64 9, .int .i64 0, .int .i64 0] 99) := ⟨_, rfl⟩
  have hs0 : W0.heap.size = w.heap.size + 1 + 1 := by rw [hW0]; simp
  have HBX : Hid (∀ w', Below (w.heap.size + 1 + 1) W0 w' → (w'.cell? ⟨w.heap.size, 0, none⟩ = some (.slice (some ⟨p, o, none⟩) 4 4) ∧ w'.cell? ⟨w.heap.size, 1, none⟩ = some (.int .i64 st) ∧ w'.cell? ⟨w.heap.size + 1, 1, none⟩ = some (.int .i64 0) ∧ w'.cell? ⟨w.heap.size + 1, 2, none⟩ = some (.int .i64 0) ∧ w'.cell? ⟨p, o + j, none⟩ = some (I x)) ∧ Below w.heap.size w w') := fun w' hb => com_boxes hc hW0 hb
  have t1 : ∀ w : World, (Instr.typeAssert (.iface 99 (OpV 9 (0) (0))) 53 91 true).run Tryz.prog w = .ok (.tuple #[OpV 0 0 0, .bool false]) w := fun _ => by kernel_rfl
  have t2 : ∀ w : World, (Instr.typeAssert (.iface 99 (OpV 9 (0) (0))) 53 92 true).run Tryz.prog w = .ok (.tuple #[OpV 0 0 0, .bool false]) w := fun _ => by kernel_rfl
  have t3 : ∀ w : World, (Instr.typeAssert (.iface 99 (OpV 9 (0) (0))) 53 93 true).run Tryz.prog w = .ok (.tuple #[OpV 0 0 0, .bool false]) w := fun _ => by kernel_rfl
  have t4 : ∀ w : World, (Instr.typeAssert (.iface 99 (OpV 9 (0) (0))) 53 94 true).run Tryz.prog w = .ok (.tuple #[OpV 0 0 0, .bool false]) w := fun _ => by kernel_rfl
  have t5 : ∀ w : World, (Instr.typeAssert (.iface 99 (OpV 9 (0) (0))) 53 95 true).run Tryz.prog w = .ok (.tuple #[OpV 0 0 0, .bool false]) w := fun _ => by kernel_rfl
  have t6 : ∀ w : World, (Instr.typeAssert (.iface 99 (OpV 9 (0) (0))) 53 96 true).run Tryz.prog w = .ok (.tuple #[OpV 0 0 0, .bool false]) w := fun _ => by kernel_rfl
  have t7 : ∀ w : World, (Instr.typeAssert (.iface 99 (OpV 9 (0) (0))) 53 97 true).run Tryz.prog w = .ok (.tuple #[OpV 0 0 0, .bool false]) w := fun _ => by kernel_rfl
  have t8 : ∀ w : World, (Instr.typeAssert (.iface 99 (OpV 9 (0) (0))) 53 98 true).run Tryz.prog w = .ok (.tuple #[OpV 0 0 0, .bool false]) w := fun _ => by kernel_rfl
  have t9 : ∀ w : World, (Instr.typeAssert (.iface 99 (OpV 9 (0) (0))) 53 99 true).run Tryz.prog w = .ok (.tuple #[OpV 9 (0) (0), .bool true]) w := fun _ => by kernel_rfl
  go_enter Tryz.func36, Tryz.ntmps36
  go_wp2_with fail
  rw [← hW0]
  clear hW0
  have hb9 : Below (w.heap.size + 1 + 1) W0 W0 := Below.refl _ _
  refine (or_on (w.heap.size + 1 + 1) W0 _ _ _ _ _ _ _ (by first | exact hc9 | exact hc9.alloc _ | exact com_empty_at rfl (by omega) | exact (com_empty_at rfl (by omega)).alloc _ | exact com_empty_drew rfl (by omega) | exact (com_empty_drew rfl (by omega)).alloc _ | exact com_empty_drew (by simp [hs0]) (by omega) | exact com_empty_at (by simp [hs0]) (by omega) | exact (com_empty_drew (by simp [hs0]) (by omega)).alloc _ | exact (com_empty_at (by simp [hs0]) (by omega)).alloc _) (by simp) (by first | exact hb9 | exact hb9.drew | exact hb9.alloc (by omega) _ | exact (hb9.alloc (by omega) _).drew | exact (hb9.alloc (by omega) _).alloc (by simp; omega) _ | exact ((hb9.alloc (by omega) _).alloc (by simp; omega) _).drew) (by omega)).mono ?_
  rintro e w9 ⟨v9, rfl, hc9, hg9, hb9⟩
  have hs9 : w.heap.size + 1 + 1 ≤ w9.heap.size := by have h := hb9.size; omega
  go_wp2_with fail
  refine (or_no _ _ _ _ _ _).mono ?_
  rintro e w8 ⟨rfl, rfl⟩
  go_wp2
  go_ret
  first | exact ⟨com_done (by omega) hc9 (tells_1 _ _), (HBX.out _ hb9).2⟩ | exact ⟨com_done (by omega) (hc9.alloc _) (tells_1 _ _), (HBX.out _ (hb9.alloc (by omega) _)).2⟩

set_option maxHeartbeats 4000000 in
set_option maxRecDepth 100000 in
theorem com_9_5 (p o j : Nat) (st x : Int) (xs : List Int) (w : World) (hA : IntAt w (some ⟨p, o, none⟩) 4 xs) (hi : ∀ x ∈ xs, (Lit.int .i64 x).wf = true) (hj : j < 4) (hx : xs.getD j 0 = x) (h0 : st ≠ 0) (h5 : st = 5) :
    Calls Tryz.prog 36 #[.agg #[.slice (some ⟨p, o, none⟩) 4 4, .int .i64 st], .iface 99 (OpV 9 (0) (0))] w fun e w' => ComSays e w w' [(4, [])] ∧ Below w.heap.size w w' := by
  have hc : w.cell? ⟨p, o + j, none⟩ = some (I x) := by have h := hA.cells j hj; rwa [hx] at h
  have hp : p < w.heap.size := World.block_lt_of_cell? w _ hc
  have hj0 : (0 : Int) ≤ (j : Int) := by omega
  have hj1 : (j : Int) < 4 := by omega
  have HA : Hid (IntAt w (some ⟨p, o, none⟩) 4 xs) := hA
  have HI : Hid (∀ x ∈ xs, (Lit.int .i64 x).wf = true) := hi
  clear hA hi hx
  have h0' : (st != 0) = true := by simpa using h0
  have h0'' : (st == 0) = false := by simpa using h0
  clear h0
  have h5' : (st != 5) = false := by simpa using h5
  have h5'' : (st == 5) = true := by simpa using h5
  clear h5
  obtain ⟨W0, hW0⟩ : ∃ W0, W0 = (w.alloc (.cells #[.slice (some ⟨p, o, none⟩) 4 4, .int .i64 st] 26)).alloc (.cells #[.int .i64 9, .int .i64 0, .int .i64 0] 99) := ⟨_, rfl⟩
  have hs0 : W0.heap.size = w.heap.size + 1 + 1 := by rw [hW0]; simp
  have HBX : Hid (∀ w', Below (w.heap.size + 1 + 1) W0 w' → (w'.cell? ⟨w.heap.size, 0, none⟩ = some (.slice (some ⟨p, o, none⟩) 4 4) ∧ w'.cell? ⟨w.heap.size, 1, none⟩ = some (.int .i64 st) ∧ w'.cell? ⟨w.heap.size + 1, 1, none⟩ = some (.int .i64 0) ∧ w'.cell? ⟨w.heap.size + 1, 2, none⟩ = some (.int .i64 0) ∧ w'.cell? ⟨p, o + j, none⟩ = some (I x)) ∧ Below w.heap.size w w') := fun w' hb => com_boxes hc hW0 hb
  have t1 : ∀ w : World, (Instr.typeAssert (.iface 99 (OpV 9 (0) (0))) 53 91 true).run Tryz.prog w = .ok (.tuple #[OpV 0 0 0, .bool false]) w := fun _ => by kernel_rfl
  have t2 : ∀ w : World, (Instr.typeAssert (.iface 99 (OpV 9 (0) (0))) 53 92 true).run Tryz.prog w = .ok (.tuple #[OpV 0 0 0, .bool false]) w := fun _ => by kernel_rfl
  have t3 : ∀ w : World, (Instr.typeAssert (.iface 99 (OpV 9 (0) (0))) 53 93 true).run Tryz.prog w = .ok (.tuple #[OpV 0 0 0, .bool false]) w := fun _ => by kernel_rfl
  have t4 : ∀ w : World, (Instr.typeAssert (.iface 99 (OpV 9 (0) (0))) 53 94 true).run Tryz.prog w = .ok (.tuple #[OpV 0 0 0, .bool false]) w := fun _ => by kernel_rfl
  have t5 : ∀ w : World, (Instr.typeAssert (.iface 99 (OpV 9 (0) (0))) 53 95 true).run Tryz.prog w = .ok (.tuple #[OpV 0 0 0, .bool false]) w := fun _ => by kernel_rfl
  have t6 : ∀ w : World, (Instr.typeAssert (.iface 99 (OpV 9 (0) (0))) 53 96 true).run Tryz.prog w = .ok (.tuple #[OpV 0 0 0, .bool false]) w := fun _ => by kernel_rfl
  have t7 : ∀ w : World, (Instr.typeAssert (.iface 99 (OpV 9 (0) (0))) 53 97 true).run Tryz.prog w = .ok (.tuple #[OpV 0 0 0, .bool false]) w := fun _ => by kernel_rfl
  have t8 : ∀ w : World, (Instr.typeAssert (.iface 99 (OpV 9 (0) (0))) 53 98 true).run Tryz.prog w = .ok (.tuple #[OpV 0 0 0, .bool false]) w := fun _ => by kernel_rfl
  have t9 : ∀ w : World, (Instr.typeAssert (.iface 99 (OpV 9 (0) (0))) 53 99 true).run Tryz.prog w = .ok (.tuple #[OpV 9 (0) (0), .bool true]) w := fun _ => by kernel_rfl
  go_enter Tryz.func36, Tryz.ntmps36
  go_wp2_with fail
  rw [← hW0]
  clear hW0
  have hb9 : Below (w.heap.size + 1 + 1) W0 W0 := Below.refl _ _
  refine (or_on (w.heap.size + 1 + 1) W0 _ _ _ _ _ _ _ (by first | exact hc9 | exact hc9.alloc _ | exact com_empty_at rfl (by omega) | exact (com_empty_at rfl (by omega)).alloc _ | exact com_empty_drew rfl (by omega) | exact (com_empty_drew rfl (by omega)).alloc _ | exact com_empty_drew (by simp [hs0]) (by omega) | exact com_empty_at (by simp [hs0]) (by omega) | exact (com_empty_drew (by simp [hs0]) (by omega)).alloc _ | exact (com_empty_at (by simp [hs0]) (by omega)).alloc _) (by simp) (by first | exact hb9 | exact hb9.drew | exact hb9.alloc (by omega) _ | exact (hb9.alloc (by omega) _).drew | exact (hb9.alloc (by omega) _).alloc (by simp; omega) _ | exact ((hb9.alloc (by omega) _).alloc (by simp; omega) _).drew) (by omega)).mono ?_
  rintro e w9 ⟨v9, rfl, hc9, hg9, hb9⟩
  have hs9 : w.heap.size + 1 + 1 ≤ w9.heap.size := by have h := hb9.size; omega
  go_wp2_with fail
  refine (or_no _ _ _ _ _ _).mono ?_
  rintro e w8 ⟨rfl, rfl⟩
  go_wp2
  go_ret
  first | exact ⟨com_done (by omega) hc9 (tells_1 _ _), (HBX.out _ hb9).2⟩ | exact ⟨com_done (by omega) (hc9.alloc _) (tells_1 _ _), (HBX.out _ (hb9.alloc (by omega) _)).2⟩

set_option maxHeartbeats 4000000 in
set_option maxRecDepth 100000 in
theorem com_9_1 (p o j : Nat) (st x : Int) (xs : List Int) (w : World) (hA : IntAt w (some ⟨p, o, none⟩) 4 xs) (hi : ∀ x ∈ xs, (Lit.int .i64 x).wf = true) (hj : j < 4) (hx : xs.getD j 0 = x) (h0 : st ≠ 0) (h5 : st ≠ 5) :
    Calls Tryz.prog 36 #[.agg #[.slice (some ⟨p, o, none⟩) 4 4, .int .i64 st], .iface 99 (OpV 9 (0) (0))] w fun e w' => ComSays e w w' [(0, [])] ∧ Below w.heap.size w w' := by
  have hc : w.cell? ⟨p, o + j, none⟩ = some (I x) := by have h := hA.cells j hj; rwa [hx] at h
  have hp : p < w.heap.size := World.block_lt_of_cell? w _ hc
  have hj0 : (0 : Int) ≤ (j : Int) := by omega
  have hj1 : (j : Int) < 4 := by omega
  have HA : Hid (IntAt w (some ⟨p, o, none⟩) 4 xs) := hA
  have HI : Hid (∀ x ∈ xs, (Lit.int .i64 x).wf = true) := hi
  clear hA hi hx
  have h0' : (st != 0) = true := by simpa using h0
  have h0'' : (st == 0) = false := by simpa using h0
  clear h0
  have h5' : (st != 5) = true := by simpa using h5
  have h5'' : (st == 5) = false := by simpa using h5
  clear h5
  obtain ⟨W0, hW0⟩ : ∃ W0, W0 = (w.alloc (.cells #[.slice (some ⟨p, o, none⟩) 4 4, .int .i64 st] 26)).alloc (.cells #[.int .i64 9, .int .i64 0, .int .i64 0] 99) := ⟨_, rfl⟩
  have hs0 : W0.heap.size = w.heap.size + 1 + 1 := by rw [hW0]; simp
  have HBX : Hid (∀ w', Below (w.heap.size + 1 + 1) W0 w' → (w'.cell? ⟨w.heap.size, 0, none⟩ = some (.slice (some ⟨p, o, none⟩) 4 4) ∧ w'.cell? ⟨w.heap.size, 1, none⟩ = some (.int .i64 st) ∧ w'.cell? ⟨w.heap.size + 1, 1, none⟩ = some (.int .i64 0) ∧ w'.cell? ⟨w.heap.size + 1, 2, none⟩ = some (.int .i64 0) ∧ w'.cell? ⟨p, o + j, none⟩ = some (I x)) ∧ Below w.heap.size w w') := fun w' hb => com_boxes hc hW0 hb
  have t1 : ∀ w : World, (Instr.typeAssert (.iface 99 (OpV 9 (0) (0))) 53 91 true).run Tryz.prog w = .ok (.tuple #[OpV 0 0 0, .bool false]) w := fun _ => by kernel_rfl
  have t2 : ∀ w : World, (Instr.typeAssert (.iface 99 (OpV 9 (0) (0))) 53 92 true).run Tryz.prog w = .ok (.tuple #[OpV 0 0 0, .bool false]) w := fun _ => by kernel_rfl
  have t3 : ∀ w : World, (Instr.typeAssert (.iface 99 (OpV 9 (0) (0))) 53 93 true).run Tryz.prog w = .ok (.tuple #[OpV 0 0 0, .bool false]) w := fun _ => by kernel_rfl
  have t4 : ∀ w : World, (Instr.typeAssert (.iface 99 (OpV 9 (0) (0))) 53 94 true).run Tryz.prog w = .ok (.tuple #[OpV 0 0 0, .bool false]) w := fun _ => by kernel_rfl
  have t5 : ∀ w : World, (Instr.typeAssert (.iface 99 (OpV 9 (0) (0))) 53 95 true).run Tryz.prog w = .ok (.tuple #[OpV 0 0 0, .bool false]) w := fun _ => by kernel_rfl
  have t6 : ∀ w : World, (Instr.typeAssert (.iface 99 (OpV 9 (0) (0))) 53 96 true).run Tryz.prog w = .ok (.tuple #[OpV 0 0 0, .bool false]) w := fun _ => by kernel_rfl
  have t7 : ∀ w : World, (Instr.typeAssert (.iface 99 (OpV 9 (0) (0))) 53 97 true).run Tryz.prog w = .ok (.tuple #[OpV 0 0 0, .bool false]) w := fun _ => by kernel_rfl
  have t8 : ∀ w : World, (Instr.typeAssert (.iface 99 (OpV 9 (0) (0))) 53 98 true).run Tryz.prog w = .ok (.tuple #[OpV 0 0 0, .bool false]) w := fun _ => by kernel_rfl
  have t9 : ∀ w : World, (Instr.typeAssert (.iface 99 (OpV 9 (0) (0))) 53 99 true).run Tryz.prog w = .ok (.tuple #[OpV 9 (0) (0), .bool true]) w := fun _ => by kernel_rfl
  go_enter Tryz.func36, Tryz.ntmps36
  go_wp2_with fail
  rw [← hW0]
  clear hW0
  have hb9 : Below (w.heap.size + 1 + 1) W0 W0 := Below.refl _ _
  refine (or_no _ _ _ _ _ _).mono ?_
  rintro e w8 ⟨rfl, rfl⟩
  go_wp2_with fail
  refine (or_on (w.heap.size + 1 + 1) W0 _ _ _ _ _ _ _ (by first | exact hc9 | exact hc9.alloc _ | exact com_empty_at rfl (by omega) | exact (com_empty_at rfl (by omega)).alloc _ | exact com_empty_drew rfl (by omega) | exact (com_empty_drew rfl (by omega)).alloc _ | exact com_empty_drew (by simp [hs0]) (by omega) | exact com_empty_at (by simp [hs0]) (by omega) | exact (com_empty_drew (by simp [hs0]) (by omega)).alloc _ | exact (com_empty_at (by simp [hs0]) (by omega)).alloc _) (by simp) (by first | exact hb9 | exact hb9.drew | exact hb9.alloc (by omega) _ | exact (hb9.alloc (by omega) _).drew | exact (hb9.alloc (by omega) _).alloc (by simp; omega) _ | exact ((hb9.alloc (by omega) _).alloc (by simp; omega) _).drew) (by omega)).mono ?_
  rintro e w9 ⟨v9, rfl, hc9, hg9, hb9⟩
  have hs9 : w.heap.size + 1 + 1 ≤ w9.heap.size := by have h := hb9.size; omega
  go_wp2
  go_ret
  first | exact ⟨com_done (by omega) hc9 (tells_1 _ _), (HBX.out _ hb9).2⟩ | exact ⟨com_done (by omega) (hc9.alloc _) (tells_1 _ _), (HBX.out _ (hb9.alloc (by omega) _)).2⟩
end Go.Proofs.YtenlapppaimkkaeGreatDoor

/- impl.comingsOf, walked: a row found by the other way. -/
namespace Go.Proofs.YtenlapppaimkkaeGreatDoor
open Go.ChangeShapes Go.WideShapes Go.ChangeAt Go.RowKit Go.Maps

set_option maxHeartbeats 4000000 in
set_option maxRecDepth 100000 in
theorem com_10_n (p o j : Nat) (st x : Int) (xs : List Int) (w : World) (hA : IntAt w (some ⟨p, o, none⟩) 4 xs) (hi : ∀ x ∈ xs, (Lit.int .i64 x).wf = true) (hj : j < 4) (hx : xs.getD j 0 = x) (v q : Int) (hv : 1 ≤ v ∧ v ≤ 6) (hq : keyN xs v = q) (h5 : st ≠ 5) (hq0 : q < 0) :
    Calls Tryz.prog 36 #[.agg #[.slice (some ⟨p, o, none⟩) 4 4, .int .i64 st], .iface 100 (OpV 10 (0) (v))] w fun e w' => ComSays e w w' [(4, [])] ∧ Below w.heap.size w w' := by
  have hc : w.cell? ⟨p, o + j, none⟩ = some (I x) := by have h := hA.cells j hj; rwa [hx] at h
  have hp : p < w.heap.size := World.block_lt_of_cell? w _ hc
  have hj0 : (0 : Int) ≤ (j : Int) := by omega
  have hj1 : (j : Int) < 4 := by omega
  have HA : Hid (IntAt w (some ⟨p, o, none⟩) 4 xs) := hA
  have HI : Hid (∀ x ∈ xs, (Lit.int .i64 x).wf = true) := hi
  clear hA hi hx
  have HQ : Hid (keyN xs v = q) := hq
  clear hq
  have h5' : (st != 5) = true := by simpa using h5
  have h5'' : (st == 5) = false := by simpa using h5
  clear h5
  have hq1 : ¬ 0 ≤ q := by omega
  have HD1 : Hid (decide (0 ≤ q) = false) := decide_eq_false hq1
  have HD2 : Hid (decide (q < 0) = true) := decide_eq_true hq0
  obtain ⟨W0, hW0⟩ : ∃ W0, W0 = (w.alloc (.cells #[.slice (some ⟨p, o, none⟩) 4 4, .int .i64 st] 26)).alloc (.cells #[.int .i64 10, .int .i64 0, .int .i64 v] 100) := ⟨_, rfl⟩
  have hs0 : W0.heap.size = w.heap.size + 1 + 1 := by rw [hW0]; simp
  have HBX : Hid (∀ w', Below (w.heap.size + 1 + 1) W0 w' → (w'.cell? ⟨w.heap.size, 0, none⟩ = some (.slice (some ⟨p, o, none⟩) 4 4) ∧ w'.cell? ⟨w.heap.size, 1, none⟩ = some (.int .i64 st) ∧ w'.cell? ⟨w.heap.size + 1, 1, none⟩ = some (.int .i64 0) ∧ w'.cell? ⟨w.heap.size + 1, 2, none⟩ = some (.int .i64 v) ∧ w'.cell? ⟨p, o + j, none⟩ = some (I x)) ∧ Below w.heap.size w w') := fun w' hb => com_boxes hc hW0 hb
  have t1 : ∀ w : World, (Instr.typeAssert (.iface 100 (OpV 10 (0) (v))) 53 91 true).run Tryz.prog w = .ok (.tuple #[OpV 0 0 0, .bool false]) w := fun _ => by kernel_rfl
  have t2 : ∀ w : World, (Instr.typeAssert (.iface 100 (OpV 10 (0) (v))) 53 92 true).run Tryz.prog w = .ok (.tuple #[OpV 0 0 0, .bool false]) w := fun _ => by kernel_rfl
  have t3 : ∀ w : World, (Instr.typeAssert (.iface 100 (OpV 10 (0) (v))) 53 93 true).run Tryz.prog w = .ok (.tuple #[OpV 0 0 0, .bool false]) w := fun _ => by kernel_rfl
  have t4 : ∀ w : World, (Instr.typeAssert (.iface 100 (OpV 10 (0) (v))) 53 94 true).run Tryz.prog w = .ok (.tuple #[OpV 0 0 0, .bool false]) w := fun _ => by kernel_rfl
  have t5 : ∀ w : World, (Instr.typeAssert (.iface 100 (OpV 10 (0) (v))) 53 95 true).run Tryz.prog w = .ok (.tuple #[OpV 0 0 0, .bool false]) w := fun _ => by kernel_rfl
  have t6 : ∀ w : World, (Instr.typeAssert (.iface 100 (OpV 10 (0) (v))) 53 96 true).run Tryz.prog w = .ok (.tuple #[OpV 0 0 0, .bool false]) w := fun _ => by kernel_rfl
  have t7 : ∀ w : World, (Instr.typeAssert (.iface 100 (OpV 10 (0) (v))) 53 97 true).run Tryz.prog w = .ok (.tuple #[OpV 0 0 0, .bool false]) w := fun _ => by kernel_rfl
  have t8 : ∀ w : World, (Instr.typeAssert (.iface 100 (OpV 10 (0) (v))) 53 98 true).run Tryz.prog w = .ok (.tuple #[OpV 0 0 0, .bool false]) w := fun _ => by kernel_rfl
  have t9 : ∀ w : World, (Instr.typeAssert (.iface 100 (OpV 10 (0) (v))) 53 99 true).run Tryz.prog w = .ok (.tuple #[OpV 0 0 0, .bool false]) w := fun _ => by kernel_rfl
  have t10 : ∀ w : World, (Instr.typeAssert (.iface 100 (OpV 10 (0) (v))) 53 100 true).run Tryz.prog w = .ok (.tuple #[OpV 10 (0) (v), .bool true]) w := fun _ => by kernel_rfl
  go_enter Tryz.func36, Tryz.ntmps36
  go_wp2_with fail
  rw [← hW0]
  clear hW0
  have hb9 : Below (w.heap.size + 1 + 1) W0 W0 := Below.refl _ _
  go_region_held3 (fun w' => w'.cell? ⟨w.heap.size, 0, none⟩ = some (.slice (some ⟨p, o, none⟩) 4 4) ∧ w'.cell? ⟨w.heap.size, 1, none⟩ = some (.int .i64 st) ∧ w'.cell? ⟨w.heap.size + 1, 1, none⟩ = some (.int .i64 0) ∧ w'.cell? ⟨w.heap.size + 1, 2, none⟩ = some (.int .i64 v) ∧ w'.cell? ⟨p, o + j, none⟩ = some (I x))
      (first | (exact (HBX.out _ hb9).1) | (exact (HBX.out _ hb9.drew).1) | (exact (HBX.out _ (hb9.alloc (by omega) _)).1) | (exact (HBX.out _ (hb9.alloc (by omega) _).drew).1) | (exact (HBX.out _ ((hb9.alloc (by omega) _).alloc (by simp; omega) _)).1) | (exact (HBX.out _ ((hb9.alloc (by omega) _).alloc (by simp; omega) _).drew).1) | go_keep)
      (first
      | (go_at_call 11
         refine (implKeyOf_four _ st v xs _ (HA.out.below (HBX.out _ (by first | exact hb9 | exact hb9.drew | exact hb9.alloc (by omega) _ | exact (hb9.alloc (by omega) _).drew | exact (hb9.alloc (by omega) _).alloc (by simp; omega) _ | exact ((hb9.alloc (by omega) _).alloc (by simp; omega) _).drew)).2 (Nat.le_refl _)) HI.out hv).mono ?_
         rintro e w1 ⟨rfl, hb1⟩
         rw [HQ.out]
         have hb9 : Below (w.heap.size + 1 + 1) W0 w1 := (show Below (w.heap.size + 1 + 1) W0 _ from (by first | exact hb9 | exact hb9.drew | exact hb9.alloc (by omega) _ | exact (hb9.alloc (by omega) _).drew | exact (hb9.alloc (by omega) _).alloc (by simp; omega) _ | exact ((hb9.alloc (by omega) _).alloc (by simp; omega) _).drew)).trans (hb1.mono (by simp [hs0]))
         have hs1 : w.heap.size + 1 + 1 ≤ w1.heap.size := by have h := hb9.size; omega))
  go_wp2_with fail
  try rw [HD1.out]
  try rw [HD2.out]
  refine (or_on (w.heap.size + 1 + 1) W0 _ _ _ _ _ _ _ (by first | exact hc9 | exact hc9.alloc _ | exact com_empty_at rfl (by omega) | exact (com_empty_at rfl (by omega)).alloc _ | exact com_empty_drew rfl (by omega) | exact (com_empty_drew rfl (by omega)).alloc _ | exact com_empty_drew (by simp [hs0]) (by omega) | exact com_empty_at (by simp [hs0]) (by omega) | exact (com_empty_drew (by simp [hs0]) (by omega)).alloc _ | exact (com_empty_at (by simp [hs0]) (by omega)).alloc _) (by simp) (by first | exact hb9 | exact hb9.drew | exact hb9.alloc (by omega) _ | exact (hb9.alloc (by omega) _).drew | exact (hb9.alloc (by omega) _).alloc (by simp; omega) _ | exact ((hb9.alloc (by omega) _).alloc (by simp; omega) _).drew) (by omega)).mono ?_
  rintro e w9 ⟨v9, rfl, hc9, hg9, hb9⟩
  have hs9 : w.heap.size + 1 + 1 ≤ w9.heap.size := by have h := hb9.size; omega
  go_wp2_with fail
  try rw [HD1.out]
  try rw [HD2.out]
  refine (or_no _ _ _ _ _ _).mono ?_
  rintro e w8 ⟨rfl, rfl⟩
  go_wp2_with fail
  try rw [HD1.out]
  try rw [HD2.out]
  refine (or_no _ _ _ _ _ _).mono ?_
  rintro e w8 ⟨rfl, rfl⟩
  go_wp2
  go_ret
  first | exact ⟨com_done (by omega) hc9 (tells_1 _ _), (HBX.out _ hb9).2⟩ | exact ⟨com_done (by omega) (hc9.alloc _) (tells_1 _ _), (HBX.out _ (hb9.alloc (by omega) _)).2⟩

set_option maxHeartbeats 4000000 in
set_option maxRecDepth 100000 in
theorem com_10_m (p o j : Nat) (st x : Int) (xs : List Int) (w : World) (hA : IntAt w (some ⟨p, o, none⟩) 4 xs) (hi : ∀ x ∈ xs, (Lit.int .i64 x).wf = true) (hj : j < 4) (hx : xs.getD j 0 = x) (v q : Int) (hv : 1 ≤ v ∧ v ≤ 6) (hq : keyN xs v = q) (h5 : st ≠ 5) (hq0 : 0 ≤ q) :
    Calls Tryz.prog 36 #[.agg #[.slice (some ⟨p, o, none⟩) 4 4, .int .i64 st], .iface 100 (OpV 10 (0) (v))] w fun e w' => ComSays e w w' [(4, [])] ∧ Below w.heap.size w w' := by
  have hc : w.cell? ⟨p, o + j, none⟩ = some (I x) := by have h := hA.cells j hj; rwa [hx] at h
  have hp : p < w.heap.size := World.block_lt_of_cell? w _ hc
  have hj0 : (0 : Int) ≤ (j : Int) := by omega
  have hj1 : (j : Int) < 4 := by omega
  have HA : Hid (IntAt w (some ⟨p, o, none⟩) 4 xs) := hA
  have HI : Hid (∀ x ∈ xs, (Lit.int .i64 x).wf = true) := hi
  clear hA hi hx
  have HQ : Hid (keyN xs v = q) := hq
  clear hq
  have h5' : (st != 5) = true := by simpa using h5
  have h5'' : (st == 5) = false := by simpa using h5
  clear h5
  have hq1 : ¬ q < 0 := by omega
  have HD1 : Hid (decide (0 ≤ q) = true) := decide_eq_true hq0
  have HD2 : Hid (decide (q < 0) = false) := decide_eq_false hq1
  obtain ⟨W0, hW0⟩ : ∃ W0, W0 = (w.alloc (.cells #[.slice (some ⟨p, o, none⟩) 4 4, .int .i64 st] 26)).alloc (.cells #[.int .i64 10, .int .i64 0, .int .i64 v] 100) := ⟨_, rfl⟩
  have hs0 : W0.heap.size = w.heap.size + 1 + 1 := by rw [hW0]; simp
  have HBX : Hid (∀ w', Below (w.heap.size + 1 + 1) W0 w' → (w'.cell? ⟨w.heap.size, 0, none⟩ = some (.slice (some ⟨p, o, none⟩) 4 4) ∧ w'.cell? ⟨w.heap.size, 1, none⟩ = some (.int .i64 st) ∧ w'.cell? ⟨w.heap.size + 1, 1, none⟩ = some (.int .i64 0) ∧ w'.cell? ⟨w.heap.size + 1, 2, none⟩ = some (.int .i64 v) ∧ w'.cell? ⟨p, o + j, none⟩ = some (I x)) ∧ Below w.heap.size w w') := fun w' hb => com_boxes hc hW0 hb
  have t1 : ∀ w : World, (Instr.typeAssert (.iface 100 (OpV 10 (0) (v))) 53 91 true).run Tryz.prog w = .ok (.tuple #[OpV 0 0 0, .bool false]) w := fun _ => by kernel_rfl
  have t2 : ∀ w : World, (Instr.typeAssert (.iface 100 (OpV 10 (0) (v))) 53 92 true).run Tryz.prog w = .ok (.tuple #[OpV 0 0 0, .bool false]) w := fun _ => by kernel_rfl
  have t3 : ∀ w : World, (Instr.typeAssert (.iface 100 (OpV 10 (0) (v))) 53 93 true).run Tryz.prog w = .ok (.tuple #[OpV 0 0 0, .bool false]) w := fun _ => by kernel_rfl
  have t4 : ∀ w : World, (Instr.typeAssert (.iface 100 (OpV 10 (0) (v))) 53 94 true).run Tryz.prog w = .ok (.tuple #[OpV 0 0 0, .bool false]) w := fun _ => by kernel_rfl
  have t5 : ∀ w : World, (Instr.typeAssert (.iface 100 (OpV 10 (0) (v))) 53 95 true).run Tryz.prog w = .ok (.tuple #[OpV 0 0 0, .bool false]) w := fun _ => by kernel_rfl
  have t6 : ∀ w : World, (Instr.typeAssert (.iface 100 (OpV 10 (0) (v))) 53 96 true).run Tryz.prog w = .ok (.tuple #[OpV 0 0 0, .bool false]) w := fun _ => by kernel_rfl
  have t7 : ∀ w : World, (Instr.typeAssert (.iface 100 (OpV 10 (0) (v))) 53 97 true).run Tryz.prog w = .ok (.tuple #[OpV 0 0 0, .bool false]) w := fun _ => by kernel_rfl
  have t8 : ∀ w : World, (Instr.typeAssert (.iface 100 (OpV 10 (0) (v))) 53 98 true).run Tryz.prog w = .ok (.tuple #[OpV 0 0 0, .bool false]) w := fun _ => by kernel_rfl
  have t9 : ∀ w : World, (Instr.typeAssert (.iface 100 (OpV 10 (0) (v))) 53 99 true).run Tryz.prog w = .ok (.tuple #[OpV 0 0 0, .bool false]) w := fun _ => by kernel_rfl
  have t10 : ∀ w : World, (Instr.typeAssert (.iface 100 (OpV 10 (0) (v))) 53 100 true).run Tryz.prog w = .ok (.tuple #[OpV 10 (0) (v), .bool true]) w := fun _ => by kernel_rfl
  go_enter Tryz.func36, Tryz.ntmps36
  go_wp2_with fail
  rw [← hW0]
  clear hW0
  have hb9 : Below (w.heap.size + 1 + 1) W0 W0 := Below.refl _ _
  go_region_held3 (fun w' => w'.cell? ⟨w.heap.size, 0, none⟩ = some (.slice (some ⟨p, o, none⟩) 4 4) ∧ w'.cell? ⟨w.heap.size, 1, none⟩ = some (.int .i64 st) ∧ w'.cell? ⟨w.heap.size + 1, 1, none⟩ = some (.int .i64 0) ∧ w'.cell? ⟨w.heap.size + 1, 2, none⟩ = some (.int .i64 v) ∧ w'.cell? ⟨p, o + j, none⟩ = some (I x))
      (first | (exact (HBX.out _ hb9).1) | (exact (HBX.out _ hb9.drew).1) | (exact (HBX.out _ (hb9.alloc (by omega) _)).1) | (exact (HBX.out _ (hb9.alloc (by omega) _).drew).1) | (exact (HBX.out _ ((hb9.alloc (by omega) _).alloc (by simp; omega) _)).1) | (exact (HBX.out _ ((hb9.alloc (by omega) _).alloc (by simp; omega) _).drew).1) | go_keep)
      (first
      | (go_at_call 11
         refine (implKeyOf_four _ st v xs _ (HA.out.below (HBX.out _ (by first | exact hb9 | exact hb9.drew | exact hb9.alloc (by omega) _ | exact (hb9.alloc (by omega) _).drew | exact (hb9.alloc (by omega) _).alloc (by simp; omega) _ | exact ((hb9.alloc (by omega) _).alloc (by simp; omega) _).drew)).2 (Nat.le_refl _)) HI.out hv).mono ?_
         rintro e w1 ⟨rfl, hb1⟩
         rw [HQ.out]
         have hb9 : Below (w.heap.size + 1 + 1) W0 w1 := (show Below (w.heap.size + 1 + 1) W0 _ from (by first | exact hb9 | exact hb9.drew | exact hb9.alloc (by omega) _ | exact (hb9.alloc (by omega) _).drew | exact (hb9.alloc (by omega) _).alloc (by simp; omega) _ | exact ((hb9.alloc (by omega) _).alloc (by simp; omega) _).drew)).trans (hb1.mono (by simp [hs0]))
         have hs1 : w.heap.size + 1 + 1 ≤ w1.heap.size := by have h := hb9.size; omega))
  go_wp2_with fail
  try rw [HD1.out]
  try rw [HD2.out]
  refine (or_on (w.heap.size + 1 + 1) W0 _ _ _ _ _ _ _ (by first | exact hc9 | exact hc9.alloc _ | exact com_empty_at rfl (by omega) | exact (com_empty_at rfl (by omega)).alloc _ | exact com_empty_drew rfl (by omega) | exact (com_empty_drew rfl (by omega)).alloc _ | exact com_empty_drew (by simp [hs0]) (by omega) | exact com_empty_at (by simp [hs0]) (by omega) | exact (com_empty_drew (by simp [hs0]) (by omega)).alloc _ | exact (com_empty_at (by simp [hs0]) (by omega)).alloc _) (by simp) (by first | exact hb9 | exact hb9.drew | exact hb9.alloc (by omega) _ | exact (hb9.alloc (by omega) _).drew | exact (hb9.alloc (by omega) _).alloc (by simp; omega) _ | exact ((hb9.alloc (by omega) _).alloc (by simp; omega) _).drew) (by omega)).mono ?_
  rintro e w9 ⟨v9, rfl, hc9, hg9, hb9⟩
  have hs9 : w.heap.size + 1 + 1 ≤ w9.heap.size := by have h := hb9.size; omega
  go_wp2_with fail
  try rw [HD1.out]
  try rw [HD2.out]
  refine (or_no _ _ _ _ _ _).mono ?_
  rintro e w8 ⟨rfl, rfl⟩
  go_wp2_with fail
  try rw [HD1.out]
  try rw [HD2.out]
  refine (or_no _ _ _ _ _ _).mono ?_
  rintro e w8 ⟨rfl, rfl⟩
  go_wp2
  go_ret
  first | exact ⟨com_done (by omega) hc9 (tells_1 _ _), (HBX.out _ hb9).2⟩ | exact ⟨com_done (by omega) (hc9.alloc _) (tells_1 _ _), (HBX.out _ (hb9.alloc (by omega) _)).2⟩

set_option maxHeartbeats 4000000 in
set_option maxRecDepth 100000 in
theorem com_10_0 (p o j : Nat) (st x : Int) (xs : List Int) (w : World) (hA : IntAt w (some ⟨p, o, none⟩) 4 xs) (hi : ∀ x ∈ xs, (Lit.int .i64 x).wf = true) (hj : j < 4) (hx : xs.getD j 0 = x) (v q : Int) (hv : 1 ≤ v ∧ v ≤ 6) (hq : keyN xs v = q) (h5 : st = 5) (hq0 : q < 0) :
    Calls Tryz.prog 36 #[.agg #[.slice (some ⟨p, o, none⟩) 4 4, .int .i64 st], .iface 100 (OpV 10 (0) (v))] w fun e w' => ComSays e w w' [(3, [])] ∧ Below w.heap.size w w' := by
  have hc : w.cell? ⟨p, o + j, none⟩ = some (I x) := by have h := hA.cells j hj; rwa [hx] at h
  have hp : p < w.heap.size := World.block_lt_of_cell? w _ hc
  have hj0 : (0 : Int) ≤ (j : Int) := by omega
  have hj1 : (j : Int) < 4 := by omega
  have HA : Hid (IntAt w (some ⟨p, o, none⟩) 4 xs) := hA
  have HI : Hid (∀ x ∈ xs, (Lit.int .i64 x).wf = true) := hi
  clear hA hi hx
  have HQ : Hid (keyN xs v = q) := hq
  clear hq
  have h5' : (st != 5) = false := by simpa using h5
  have h5'' : (st == 5) = true := by simpa using h5
  clear h5
  have hq1 : ¬ 0 ≤ q := by omega
  have HD1 : Hid (decide (0 ≤ q) = false) := decide_eq_false hq1
  have HD2 : Hid (decide (q < 0) = true) := decide_eq_true hq0
  obtain ⟨W0, hW0⟩ : ∃ W0, W0 = (w.alloc (.cells #[.slice (some ⟨p, o, none⟩) 4 4, .int .i64 st] 26)).alloc (.cells #[.int .i64 10, .int .i64 0, .int .i64 v] 100) := ⟨_, rfl⟩
  have hs0 : W0.heap.size = w.heap.size + 1 + 1 := by rw [hW0]; simp
  have HBX : Hid (∀ w', Below (w.heap.size + 1 + 1) W0 w' → (w'.cell? ⟨w.heap.size, 0, none⟩ = some (.slice (some ⟨p, o, none⟩) 4 4) ∧ w'.cell? ⟨w.heap.size, 1, none⟩ = some (.int .i64 st) ∧ w'.cell? ⟨w.heap.size + 1, 1, none⟩ = some (.int .i64 0) ∧ w'.cell? ⟨w.heap.size + 1, 2, none⟩ = some (.int .i64 v) ∧ w'.cell? ⟨p, o + j, none⟩ = some (I x)) ∧ Below w.heap.size w w') := fun w' hb => com_boxes hc hW0 hb
  have t1 : ∀ w : World, (Instr.typeAssert (.iface 100 (OpV 10 (0) (v))) 53 91 true).run Tryz.prog w = .ok (.tuple #[OpV 0 0 0, .bool false]) w := fun _ => by kernel_rfl
  have t2 : ∀ w : World, (Instr.typeAssert (.iface 100 (OpV 10 (0) (v))) 53 92 true).run Tryz.prog w = .ok (.tuple #[OpV 0 0 0, .bool false]) w := fun _ => by kernel_rfl
  have t3 : ∀ w : World, (Instr.typeAssert (.iface 100 (OpV 10 (0) (v))) 53 93 true).run Tryz.prog w = .ok (.tuple #[OpV 0 0 0, .bool false]) w := fun _ => by kernel_rfl
  have t4 : ∀ w : World, (Instr.typeAssert (.iface 100 (OpV 10 (0) (v))) 53 94 true).run Tryz.prog w = .ok (.tuple #[OpV 0 0 0, .bool false]) w := fun _ => by kernel_rfl
  have t5 : ∀ w : World, (Instr.typeAssert (.iface 100 (OpV 10 (0) (v))) 53 95 true).run Tryz.prog w = .ok (.tuple #[OpV 0 0 0, .bool false]) w := fun _ => by kernel_rfl
  have t6 : ∀ w : World, (Instr.typeAssert (.iface 100 (OpV 10 (0) (v))) 53 96 true).run Tryz.prog w = .ok (.tuple #[OpV 0 0 0, .bool false]) w := fun _ => by kernel_rfl
  have t7 : ∀ w : World, (Instr.typeAssert (.iface 100 (OpV 10 (0) (v))) 53 97 true).run Tryz.prog w = .ok (.tuple #[OpV 0 0 0, .bool false]) w := fun _ => by kernel_rfl
  have t8 : ∀ w : World, (Instr.typeAssert (.iface 100 (OpV 10 (0) (v))) 53 98 true).run Tryz.prog w = .ok (.tuple #[OpV 0 0 0, .bool false]) w := fun _ => by kernel_rfl
  have t9 : ∀ w : World, (Instr.typeAssert (.iface 100 (OpV 10 (0) (v))) 53 99 true).run Tryz.prog w = .ok (.tuple #[OpV 0 0 0, .bool false]) w := fun _ => by kernel_rfl
  have t10 : ∀ w : World, (Instr.typeAssert (.iface 100 (OpV 10 (0) (v))) 53 100 true).run Tryz.prog w = .ok (.tuple #[OpV 10 (0) (v), .bool true]) w := fun _ => by kernel_rfl
  go_enter Tryz.func36, Tryz.ntmps36
  go_wp2_with fail
  rw [← hW0]
  clear hW0
  have hb9 : Below (w.heap.size + 1 + 1) W0 W0 := Below.refl _ _
  go_region_held3 (fun w' => w'.cell? ⟨w.heap.size, 0, none⟩ = some (.slice (some ⟨p, o, none⟩) 4 4) ∧ w'.cell? ⟨w.heap.size, 1, none⟩ = some (.int .i64 st) ∧ w'.cell? ⟨w.heap.size + 1, 1, none⟩ = some (.int .i64 0) ∧ w'.cell? ⟨w.heap.size + 1, 2, none⟩ = some (.int .i64 v) ∧ w'.cell? ⟨p, o + j, none⟩ = some (I x))
      (first | (exact (HBX.out _ hb9).1) | (exact (HBX.out _ hb9.drew).1) | (exact (HBX.out _ (hb9.alloc (by omega) _)).1) | (exact (HBX.out _ (hb9.alloc (by omega) _).drew).1) | (exact (HBX.out _ ((hb9.alloc (by omega) _).alloc (by simp; omega) _)).1) | (exact (HBX.out _ ((hb9.alloc (by omega) _).alloc (by simp; omega) _).drew).1) | go_keep)
      (first
      | (go_at_call 11
         refine (implKeyOf_four _ st v xs _ (HA.out.below (HBX.out _ (by first | exact hb9 | exact hb9.drew | exact hb9.alloc (by omega) _ | exact (hb9.alloc (by omega) _).drew | exact (hb9.alloc (by omega) _).alloc (by simp; omega) _ | exact ((hb9.alloc (by omega) _).alloc (by simp; omega) _).drew)).2 (Nat.le_refl _)) HI.out hv).mono ?_
         rintro e w1 ⟨rfl, hb1⟩
         rw [HQ.out]
         have hb9 : Below (w.heap.size + 1 + 1) W0 w1 := (show Below (w.heap.size + 1 + 1) W0 _ from (by first | exact hb9 | exact hb9.drew | exact hb9.alloc (by omega) _ | exact (hb9.alloc (by omega) _).drew | exact (hb9.alloc (by omega) _).alloc (by simp; omega) _ | exact ((hb9.alloc (by omega) _).alloc (by simp; omega) _).drew)).trans (hb1.mono (by simp [hs0]))
         have hs1 : w.heap.size + 1 + 1 ≤ w1.heap.size := by have h := hb9.size; omega))
  go_wp2_with fail
  try rw [HD1.out]
  try rw [HD2.out]
  refine (or_no _ _ _ _ _ _).mono ?_
  rintro e w8 ⟨rfl, rfl⟩
  go_wp2_with fail
  try rw [HD1.out]
  try rw [HD2.out]
  refine (or_on (w.heap.size + 1 + 1) W0 _ _ _ _ _ _ _ (by first | exact hc9 | exact hc9.alloc _ | exact com_empty_at rfl (by omega) | exact (com_empty_at rfl (by omega)).alloc _ | exact com_empty_drew rfl (by omega) | exact (com_empty_drew rfl (by omega)).alloc _ | exact com_empty_drew (by simp [hs0]) (by omega) | exact com_empty_at (by simp [hs0]) (by omega) | exact (com_empty_drew (by simp [hs0]) (by omega)).alloc _ | exact (com_empty_at (by simp [hs0]) (by omega)).alloc _) (by simp) (by first | exact hb9 | exact hb9.drew | exact hb9.alloc (by omega) _ | exact (hb9.alloc (by omega) _).drew | exact (hb9.alloc (by omega) _).alloc (by simp; omega) _ | exact ((hb9.alloc (by omega) _).alloc (by simp; omega) _).drew) (by omega)).mono ?_
  rintro e w9 ⟨v9, rfl, hc9, hg9, hb9⟩
  have hs9 : w.heap.size + 1 + 1 ≤ w9.heap.size := by have h := hb9.size; omega
  go_wp2_with fail
  try rw [HD1.out]
  try rw [HD2.out]
  refine (or_no _ _ _ _ _ _).mono ?_
  rintro e w8 ⟨rfl, rfl⟩
  go_wp2
  go_ret
  first | exact ⟨com_done (by omega) hc9 (tells_1 _ _), (HBX.out _ hb9).2⟩ | exact ⟨com_done (by omega) (hc9.alloc _) (tells_1 _ _), (HBX.out _ (hb9.alloc (by omega) _)).2⟩

set_option maxHeartbeats 4000000 in
set_option maxRecDepth 100000 in
theorem com_10_1 (p o j : Nat) (st x : Int) (xs : List Int) (w : World) (hA : IntAt w (some ⟨p, o, none⟩) 4 xs) (hi : ∀ x ∈ xs, (Lit.int .i64 x).wf = true) (hj : j < 4) (hx : xs.getD j 0 = x) (v q : Int) (hv : 1 ≤ v ∧ v ≤ 6) (hq : keyN xs v = q) (h5 : st = 5) (hq0 : 0 ≤ q) :
    Calls Tryz.prog 36 #[.agg #[.slice (some ⟨p, o, none⟩) 4 4, .int .i64 st], .iface 100 (OpV 10 (0) (v))] w fun e w' => ComSays e w w' [(0, [q])] ∧ Below w.heap.size w w' := by
  have hc : w.cell? ⟨p, o + j, none⟩ = some (I x) := by have h := hA.cells j hj; rwa [hx] at h
  have hp : p < w.heap.size := World.block_lt_of_cell? w _ hc
  have hj0 : (0 : Int) ≤ (j : Int) := by omega
  have hj1 : (j : Int) < 4 := by omega
  have HA : Hid (IntAt w (some ⟨p, o, none⟩) 4 xs) := hA
  have HI : Hid (∀ x ∈ xs, (Lit.int .i64 x).wf = true) := hi
  clear hA hi hx
  have HQ : Hid (keyN xs v = q) := hq
  clear hq
  have h5' : (st != 5) = false := by simpa using h5
  have h5'' : (st == 5) = true := by simpa using h5
  clear h5
  have hq1 : ¬ q < 0 := by omega
  have HD1 : Hid (decide (0 ≤ q) = true) := decide_eq_true hq0
  have HD2 : Hid (decide (q < 0) = false) := decide_eq_false hq1
  obtain ⟨W0, hW0⟩ : ∃ W0, W0 = (w.alloc (.cells #[.slice (some ⟨p, o, none⟩) 4 4, .int .i64 st] 26)).alloc (.cells #[.int .i64 10, .int .i64 0, .int .i64 v] 100) := ⟨_, rfl⟩
  have hs0 : W0.heap.size = w.heap.size + 1 + 1 := by rw [hW0]; simp
  have HBX : Hid (∀ w', Below (w.heap.size + 1 + 1) W0 w' → (w'.cell? ⟨w.heap.size, 0, none⟩ = some (.slice (some ⟨p, o, none⟩) 4 4) ∧ w'.cell? ⟨w.heap.size, 1, none⟩ = some (.int .i64 st) ∧ w'.cell? ⟨w.heap.size + 1, 1, none⟩ = some (.int .i64 0) ∧ w'.cell? ⟨w.heap.size + 1, 2, none⟩ = some (.int .i64 v) ∧ w'.cell? ⟨p, o + j, none⟩ = some (I x)) ∧ Below w.heap.size w w') := fun w' hb => com_boxes hc hW0 hb
  have t1 : ∀ w : World, (Instr.typeAssert (.iface 100 (OpV 10 (0) (v))) 53 91 true).run Tryz.prog w = .ok (.tuple #[OpV 0 0 0, .bool false]) w := fun _ => by kernel_rfl
  have t2 : ∀ w : World, (Instr.typeAssert (.iface 100 (OpV 10 (0) (v))) 53 92 true).run Tryz.prog w = .ok (.tuple #[OpV 0 0 0, .bool false]) w := fun _ => by kernel_rfl
  have t3 : ∀ w : World, (Instr.typeAssert (.iface 100 (OpV 10 (0) (v))) 53 93 true).run Tryz.prog w = .ok (.tuple #[OpV 0 0 0, .bool false]) w := fun _ => by kernel_rfl
  have t4 : ∀ w : World, (Instr.typeAssert (.iface 100 (OpV 10 (0) (v))) 53 94 true).run Tryz.prog w = .ok (.tuple #[OpV 0 0 0, .bool false]) w := fun _ => by kernel_rfl
  have t5 : ∀ w : World, (Instr.typeAssert (.iface 100 (OpV 10 (0) (v))) 53 95 true).run Tryz.prog w = .ok (.tuple #[OpV 0 0 0, .bool false]) w := fun _ => by kernel_rfl
  have t6 : ∀ w : World, (Instr.typeAssert (.iface 100 (OpV 10 (0) (v))) 53 96 true).run Tryz.prog w = .ok (.tuple #[OpV 0 0 0, .bool false]) w := fun _ => by kernel_rfl
  have t7 : ∀ w : World, (Instr.typeAssert (.iface 100 (OpV 10 (0) (v))) 53 97 true).run Tryz.prog w = .ok (.tuple #[OpV 0 0 0, .bool false]) w := fun _ => by kernel_rfl
  have t8 : ∀ w : World, (Instr.typeAssert (.iface 100 (OpV 10 (0) (v))) 53 98 true).run Tryz.prog w = .ok (.tuple #[OpV 0 0 0, .bool false]) w := fun _ => by kernel_rfl
  have t9 : ∀ w : World, (Instr.typeAssert (.iface 100 (OpV 10 (0) (v))) 53 99 true).run Tryz.prog w = .ok (.tuple #[OpV 0 0 0, .bool false]) w := fun _ => by kernel_rfl
  have t10 : ∀ w : World, (Instr.typeAssert (.iface 100 (OpV 10 (0) (v))) 53 100 true).run Tryz.prog w = .ok (.tuple #[OpV 10 (0) (v), .bool true]) w := fun _ => by kernel_rfl
  go_enter Tryz.func36, Tryz.ntmps36
  go_wp2_with fail
  rw [← hW0]
  clear hW0
  have hb9 : Below (w.heap.size + 1 + 1) W0 W0 := Below.refl _ _
  go_region_held3 (fun w' => w'.cell? ⟨w.heap.size, 0, none⟩ = some (.slice (some ⟨p, o, none⟩) 4 4) ∧ w'.cell? ⟨w.heap.size, 1, none⟩ = some (.int .i64 st) ∧ w'.cell? ⟨w.heap.size + 1, 1, none⟩ = some (.int .i64 0) ∧ w'.cell? ⟨w.heap.size + 1, 2, none⟩ = some (.int .i64 v) ∧ w'.cell? ⟨p, o + j, none⟩ = some (I x))
      (first | (exact (HBX.out _ hb9).1) | (exact (HBX.out _ hb9.drew).1) | (exact (HBX.out _ (hb9.alloc (by omega) _)).1) | (exact (HBX.out _ (hb9.alloc (by omega) _).drew).1) | (exact (HBX.out _ ((hb9.alloc (by omega) _).alloc (by simp; omega) _)).1) | (exact (HBX.out _ ((hb9.alloc (by omega) _).alloc (by simp; omega) _).drew).1) | go_keep)
      (first
      | (go_at_call 11
         refine (implKeyOf_four _ st v xs _ (HA.out.below (HBX.out _ (by first | exact hb9 | exact hb9.drew | exact hb9.alloc (by omega) _ | exact (hb9.alloc (by omega) _).drew | exact (hb9.alloc (by omega) _).alloc (by simp; omega) _ | exact ((hb9.alloc (by omega) _).alloc (by simp; omega) _).drew)).2 (Nat.le_refl _)) HI.out hv).mono ?_
         rintro e w1 ⟨rfl, hb1⟩
         rw [HQ.out]
         have hb9 : Below (w.heap.size + 1 + 1) W0 w1 := (show Below (w.heap.size + 1 + 1) W0 _ from (by first | exact hb9 | exact hb9.drew | exact hb9.alloc (by omega) _ | exact (hb9.alloc (by omega) _).drew | exact (hb9.alloc (by omega) _).alloc (by simp; omega) _ | exact ((hb9.alloc (by omega) _).alloc (by simp; omega) _).drew)).trans (hb1.mono (by simp [hs0]))
         have hs1 : w.heap.size + 1 + 1 ≤ w1.heap.size := by have h := hb9.size; omega))
  go_wp2_with fail
  try rw [HD1.out]
  try rw [HD2.out]
  refine (or_no _ _ _ _ _ _).mono ?_
  rintro e w8 ⟨rfl, rfl⟩
  go_wp2_with fail
  try rw [HD1.out]
  try rw [HD2.out]
  refine (or_no _ _ _ _ _ _).mono ?_
  rintro e w8 ⟨rfl, rfl⟩
  go_wp2_with fail
  try rw [HD1.out]
  try rw [HD2.out]
  refine (or_on (w.heap.size + 1 + 1) W0 _ _ _ _ _ _ _ (by first | exact hc9 | exact hc9.alloc _ | exact com_empty_at rfl (by omega) | exact (com_empty_at rfl (by omega)).alloc _ | exact com_empty_drew rfl (by omega) | exact (com_empty_drew rfl (by omega)).alloc _ | exact com_empty_drew (by simp [hs0]) (by omega) | exact com_empty_at (by simp [hs0]) (by omega) | exact (com_empty_drew (by simp [hs0]) (by omega)).alloc _ | exact (com_empty_at (by simp [hs0]) (by omega)).alloc _) (by simp) (by first | exact hb9 | exact hb9.drew | exact hb9.alloc (by omega) _ | exact (hb9.alloc (by omega) _).drew | exact (hb9.alloc (by omega) _).alloc (by simp; omega) _ | exact ((hb9.alloc (by omega) _).alloc (by simp; omega) _).drew) (by omega)).mono ?_
  rintro e w9 ⟨v9, rfl, hc9, hg9, hb9⟩
  have hs9 : w.heap.size + 1 + 1 ≤ w9.heap.size := by have h := hb9.size; omega
  go_wp2
  go_ret
  first | exact ⟨com_done (by omega) hc9 (tells_l (one_at (hg9.cell (by first | exact told_first rfl | exact told_second rfl) (by simp [Value.ownBlock]))) _), (HBX.out _ hb9).2⟩ | exact ⟨com_done (by omega) hc9 (tells_l (one_at (hg9.cell (by first | exact told_first_drew rfl | exact told_second_drew rfl) (by simp [Value.ownBlock]))) _), (HBX.out _ hb9).2⟩
end Go.Proofs.YtenlapppaimkkaeGreatDoor

/- impl.comingsOf, walked: a row found, all rows read. -/
namespace Go.Proofs.YtenlapppaimkkaeGreatDoor
open Go.ChangeShapes Go.WideShapes Go.ChangeAt Go.RowKit Go.Maps

set_option maxHeartbeats 4000000 in
set_option maxRecDepth 100000 in
theorem com_5_0 (p o j : Nat) (st x : Int) (xs : List Int) (w : World) (hA : IntAt w (some ⟨p, o, none⟩) 4 xs) (hi : ∀ x ∈ xs, (Lit.int .i64 x).wf = true) (hj : j < 4) (hx : xs.getD j 0 = x) (v q : Int) (hv : 1 ≤ v ∧ v ≤ 6) (hq : keyN xs v = q) (hq0 : q < 0) :
    Calls Tryz.prog 36 #[.agg #[.slice (some ⟨p, o, none⟩) 4 4, .int .i64 st], .iface 95 (OpV 5 (0) (v))] w fun e w' => ComSays e w w' [(3, [])] ∧ Below w.heap.size w w' := by
  have hc : w.cell? ⟨p, o + j, none⟩ = some (I x) := by have h := hA.cells j hj; rwa [hx] at h
  have hp : p < w.heap.size := World.block_lt_of_cell? w _ hc
  have hj0 : (0 : Int) ≤ (j : Int) := by omega
  have hj1 : (j : Int) < 4 := by omega
  have HA : Hid (IntAt w (some ⟨p, o, none⟩) 4 xs) := hA
  have HI : Hid (∀ x ∈ xs, (Lit.int .i64 x).wf = true) := hi
  clear hA hi hx
  have HQ : Hid (keyN xs v = q) := hq
  clear hq
  have hq1 : ¬ 0 ≤ q := by omega
  have HD1 : Hid (decide (0 ≤ q) = false) := decide_eq_false hq1
  have HD2 : Hid (decide (q < 0) = true) := decide_eq_true hq0
  obtain ⟨W0, hW0⟩ : ∃ W0, W0 = (w.alloc (.cells #[.slice (some ⟨p, o, none⟩) 4 4, .int .i64 st] 26)).alloc (.cells #[.int .i64 5, .int .i64 0, .int .i64 v] 95) := ⟨_, rfl⟩
  have hs0 : W0.heap.size = w.heap.size + 1 + 1 := by rw [hW0]; simp
  have HBX : Hid (∀ w', Below (w.heap.size + 1 + 1) W0 w' → (w'.cell? ⟨w.heap.size, 0, none⟩ = some (.slice (some ⟨p, o, none⟩) 4 4) ∧ w'.cell? ⟨w.heap.size, 1, none⟩ = some (.int .i64 st) ∧ w'.cell? ⟨w.heap.size + 1, 1, none⟩ = some (.int .i64 0) ∧ w'.cell? ⟨w.heap.size + 1, 2, none⟩ = some (.int .i64 v) ∧ w'.cell? ⟨p, o + j, none⟩ = some (I x)) ∧ Below w.heap.size w w') := fun w' hb => com_boxes hc hW0 hb
  have t1 : ∀ w : World, (Instr.typeAssert (.iface 95 (OpV 5 (0) (v))) 53 91 true).run Tryz.prog w = .ok (.tuple #[OpV 0 0 0, .bool false]) w := fun _ => by kernel_rfl
  have t2 : ∀ w : World, (Instr.typeAssert (.iface 95 (OpV 5 (0) (v))) 53 92 true).run Tryz.prog w = .ok (.tuple #[OpV 0 0 0, .bool false]) w := fun _ => by kernel_rfl
  have t3 : ∀ w : World, (Instr.typeAssert (.iface 95 (OpV 5 (0) (v))) 53 93 true).run Tryz.prog w = .ok (.tuple #[OpV 0 0 0, .bool false]) w := fun _ => by kernel_rfl
  have t4 : ∀ w : World, (Instr.typeAssert (.iface 95 (OpV 5 (0) (v))) 53 94 true).run Tryz.prog w = .ok (.tuple #[OpV 0 0 0, .bool false]) w := fun _ => by kernel_rfl
  have t5 : ∀ w : World, (Instr.typeAssert (.iface 95 (OpV 5 (0) (v))) 53 95 true).run Tryz.prog w = .ok (.tuple #[OpV 5 (0) (v), .bool true]) w := fun _ => by kernel_rfl
  go_enter Tryz.func36, Tryz.ntmps36
  go_wp2_with fail
  rw [← hW0]
  clear hW0
  have hb9 : Below (w.heap.size + 1 + 1) W0 W0 := Below.refl _ _
  refine (implKeyOf_four _ st v xs _ (HA.out.below (HBX.out _ (by first | exact hb9 | exact hb9.drew | exact hb9.alloc (by omega) _ | exact (hb9.alloc (by omega) _).drew | exact (hb9.alloc (by omega) _).alloc (by simp; omega) _ | exact ((hb9.alloc (by omega) _).alloc (by simp; omega) _).drew)).2 (Nat.le_refl _)) HI.out hv).mono ?_
  rintro e w1 ⟨rfl, hb1⟩
  rw [HQ.out]
  have hb9 : Below (w.heap.size + 1 + 1) W0 w1 := hb9.trans (hb1.mono (by omega))
  have hs1 : w.heap.size + 1 + 1 ≤ w1.heap.size := by have h := hb9.size; omega
  go_wp2_with fail
  try rw [HD1.out]
  try rw [HD2.out]
  refine (or_on (w.heap.size + 1 + 1) W0 _ _ _ _ _ _ _ (by first | exact hc9 | exact hc9.alloc _ | exact com_empty_at rfl (by omega) | exact (com_empty_at rfl (by omega)).alloc _ | exact com_empty_drew rfl (by omega) | exact (com_empty_drew rfl (by omega)).alloc _ | exact com_empty_drew (by simp [hs0]) (by omega) | exact com_empty_at (by simp [hs0]) (by omega) | exact (com_empty_drew (by simp [hs0]) (by omega)).alloc _ | exact (com_empty_at (by simp [hs0]) (by omega)).alloc _) (by simp) (by first | exact hb9 | exact hb9.drew | exact hb9.alloc (by omega) _ | exact (hb9.alloc (by omega) _).drew | exact (hb9.alloc (by omega) _).alloc (by simp; omega) _ | exact ((hb9.alloc (by omega) _).alloc (by simp; omega) _).drew) (by omega)).mono ?_
  rintro e w9 ⟨v9, rfl, hc9, hg9, hb9⟩
  have hs9 : w.heap.size + 1 + 1 ≤ w9.heap.size := by have h := hb9.size; omega
  go_wp2_with fail
  try rw [HD1.out]
  try rw [HD2.out]
  refine (or_no _ _ _ _ _ _).mono ?_
  rintro e w8 ⟨rfl, rfl⟩
  go_wp2
  go_ret
  first | exact ⟨com_done (by omega) hc9 (tells_1 _ _), (HBX.out _ hb9).2⟩ | exact ⟨com_done (by omega) (hc9.alloc _) (tells_1 _ _), (HBX.out _ (hb9.alloc (by omega) _)).2⟩

set_option maxHeartbeats 4000000 in
set_option maxRecDepth 100000 in
theorem com_5_1 (p o j : Nat) (st x : Int) (xs : List Int) (w : World) (hA : IntAt w (some ⟨p, o, none⟩) 4 xs) (hi : ∀ x ∈ xs, (Lit.int .i64 x).wf = true) (hj : j < 4) (hx : xs.getD j 0 = x) (v q : Int) (hv : 1 ≤ v ∧ v ≤ 6) (hq : keyN xs v = q) (hq0 : 0 ≤ q) :
    Calls Tryz.prog 36 #[.agg #[.slice (some ⟨p, o, none⟩) 4 4, .int .i64 st], .iface 95 (OpV 5 (0) (v))] w fun e w' => ComSays e w w' [(0, [q])] ∧ Below w.heap.size w w' := by
  have hc : w.cell? ⟨p, o + j, none⟩ = some (I x) := by have h := hA.cells j hj; rwa [hx] at h
  have hp : p < w.heap.size := World.block_lt_of_cell? w _ hc
  have hj0 : (0 : Int) ≤ (j : Int) := by omega
  have hj1 : (j : Int) < 4 := by omega
  have HA : Hid (IntAt w (some ⟨p, o, none⟩) 4 xs) := hA
  have HI : Hid (∀ x ∈ xs, (Lit.int .i64 x).wf = true) := hi
  clear hA hi hx
  have HQ : Hid (keyN xs v = q) := hq
  clear hq
  have hq1 : ¬ q < 0 := by omega
  have HD1 : Hid (decide (0 ≤ q) = true) := decide_eq_true hq0
  have HD2 : Hid (decide (q < 0) = false) := decide_eq_false hq1
  obtain ⟨W0, hW0⟩ : ∃ W0, W0 = (w.alloc (.cells #[.slice (some ⟨p, o, none⟩) 4 4, .int .i64 st] 26)).alloc (.cells #[.int .i64 5, .int .i64 0, .int .i64 v] 95) := ⟨_, rfl⟩
  have hs0 : W0.heap.size = w.heap.size + 1 + 1 := by rw [hW0]; simp
  have HBX : Hid (∀ w', Below (w.heap.size + 1 + 1) W0 w' → (w'.cell? ⟨w.heap.size, 0, none⟩ = some (.slice (some ⟨p, o, none⟩) 4 4) ∧ w'.cell? ⟨w.heap.size, 1, none⟩ = some (.int .i64 st) ∧ w'.cell? ⟨w.heap.size + 1, 1, none⟩ = some (.int .i64 0) ∧ w'.cell? ⟨w.heap.size + 1, 2, none⟩ = some (.int .i64 v) ∧ w'.cell? ⟨p, o + j, none⟩ = some (I x)) ∧ Below w.heap.size w w') := fun w' hb => com_boxes hc hW0 hb
  have t1 : ∀ w : World, (Instr.typeAssert (.iface 95 (OpV 5 (0) (v))) 53 91 true).run Tryz.prog w = .ok (.tuple #[OpV 0 0 0, .bool false]) w := fun _ => by kernel_rfl
  have t2 : ∀ w : World, (Instr.typeAssert (.iface 95 (OpV 5 (0) (v))) 53 92 true).run Tryz.prog w = .ok (.tuple #[OpV 0 0 0, .bool false]) w := fun _ => by kernel_rfl
  have t3 : ∀ w : World, (Instr.typeAssert (.iface 95 (OpV 5 (0) (v))) 53 93 true).run Tryz.prog w = .ok (.tuple #[OpV 0 0 0, .bool false]) w := fun _ => by kernel_rfl
  have t4 : ∀ w : World, (Instr.typeAssert (.iface 95 (OpV 5 (0) (v))) 53 94 true).run Tryz.prog w = .ok (.tuple #[OpV 0 0 0, .bool false]) w := fun _ => by kernel_rfl
  have t5 : ∀ w : World, (Instr.typeAssert (.iface 95 (OpV 5 (0) (v))) 53 95 true).run Tryz.prog w = .ok (.tuple #[OpV 5 (0) (v), .bool true]) w := fun _ => by kernel_rfl
  go_enter Tryz.func36, Tryz.ntmps36
  go_wp2_with fail
  rw [← hW0]
  clear hW0
  have hb9 : Below (w.heap.size + 1 + 1) W0 W0 := Below.refl _ _
  refine (implKeyOf_four _ st v xs _ (HA.out.below (HBX.out _ (by first | exact hb9 | exact hb9.drew | exact hb9.alloc (by omega) _ | exact (hb9.alloc (by omega) _).drew | exact (hb9.alloc (by omega) _).alloc (by simp; omega) _ | exact ((hb9.alloc (by omega) _).alloc (by simp; omega) _).drew)).2 (Nat.le_refl _)) HI.out hv).mono ?_
  rintro e w1 ⟨rfl, hb1⟩
  rw [HQ.out]
  have hb9 : Below (w.heap.size + 1 + 1) W0 w1 := hb9.trans (hb1.mono (by omega))
  have hs1 : w.heap.size + 1 + 1 ≤ w1.heap.size := by have h := hb9.size; omega
  go_wp2_with fail
  try rw [HD1.out]
  try rw [HD2.out]
  refine (or_no _ _ _ _ _ _).mono ?_
  rintro e w8 ⟨rfl, rfl⟩
  go_wp2_with fail
  try rw [HD1.out]
  try rw [HD2.out]
  refine (or_on (w.heap.size + 1 + 1) W0 _ _ _ _ _ _ _ (by first | exact hc9 | exact hc9.alloc _ | exact com_empty_at rfl (by omega) | exact (com_empty_at rfl (by omega)).alloc _ | exact com_empty_drew rfl (by omega) | exact (com_empty_drew rfl (by omega)).alloc _ | exact com_empty_drew (by simp [hs0]) (by omega) | exact com_empty_at (by simp [hs0]) (by omega) | exact (com_empty_drew (by simp [hs0]) (by omega)).alloc _ | exact (com_empty_at (by simp [hs0]) (by omega)).alloc _) (by simp) (by first | exact hb9 | exact hb9.drew | exact hb9.alloc (by omega) _ | exact (hb9.alloc (by omega) _).drew | exact (hb9.alloc (by omega) _).alloc (by simp; omega) _ | exact ((hb9.alloc (by omega) _).alloc (by simp; omega) _).drew) (by omega)).mono ?_
  rintro e w9 ⟨v9, rfl, hc9, hg9, hb9⟩
  have hs9 : w.heap.size + 1 + 1 ≤ w9.heap.size := by have h := hb9.size; omega
  go_wp2
  go_ret
  first | exact ⟨com_done (by omega) hc9 (tells_l (one_at (hg9.cell (by first | exact told_first rfl | exact told_second rfl) (by simp [Value.ownBlock]))) _), (HBX.out _ hb9).2⟩ | exact ⟨com_done (by omega) hc9 (tells_l (one_at (hg9.cell (by first | exact told_first_drew rfl | exact told_second_drew rfl) (by simp [Value.ownBlock]))) _), (HBX.out _ hb9).2⟩

set_option maxHeartbeats 4000000 in
set_option maxRecDepth 100000 in
theorem com_7 (p o j : Nat) (st x : Int) (xs : List Int) (w : World) (hA : IntAt w (some ⟨p, o, none⟩) 4 xs) (hi : ∀ x ∈ xs, (Lit.int .i64 x).wf = true) (hj : j < 4) (hx : xs.getD j 0 = x) :
    Calls Tryz.prog 36 #[.agg #[.slice (some ⟨p, o, none⟩) 4 4, .int .i64 st], .iface 97 (OpV 7 (0) (0))] w fun e w' => ComSays e w w' [(0, xs)] ∧ Below w.heap.size w w' := by
  have hc : w.cell? ⟨p, o + j, none⟩ = some (I x) := by have h := hA.cells j hj; rwa [hx] at h
  have hp : p < w.heap.size := World.block_lt_of_cell? w _ hc
  have hj0 : (0 : Int) ≤ (j : Int) := by omega
  have hj1 : (j : Int) < 4 := by omega
  have HA : Hid (IntAt w (some ⟨p, o, none⟩) 4 xs) := hA
  have HI : Hid (∀ x ∈ xs, (Lit.int .i64 x).wf = true) := hi
  clear hA hi hx
  obtain ⟨W0, hW0⟩ : ∃ W0, W0 = (w.alloc (.cells #[.slice (some ⟨p, o, none⟩) 4 4, .int .i64 st] 26)).alloc (.cells #[.int .i64 7, .int .i64 0, .int .i64 0] 97) := ⟨_, rfl⟩
  have hs0 : W0.heap.size = w.heap.size + 1 + 1 := by rw [hW0]; simp
  have HBX : Hid (∀ w', Below (w.heap.size + 1 + 1) W0 w' → (w'.cell? ⟨w.heap.size, 0, none⟩ = some (.slice (some ⟨p, o, none⟩) 4 4) ∧ w'.cell? ⟨w.heap.size, 1, none⟩ = some (.int .i64 st) ∧ w'.cell? ⟨w.heap.size + 1, 1, none⟩ = some (.int .i64 0) ∧ w'.cell? ⟨w.heap.size + 1, 2, none⟩ = some (.int .i64 0) ∧ w'.cell? ⟨p, o + j, none⟩ = some (I x)) ∧ Below w.heap.size w w') := fun w' hb => com_boxes hc hW0 hb
  have t1 : ∀ w : World, (Instr.typeAssert (.iface 97 (OpV 7 (0) (0))) 53 91 true).run Tryz.prog w = .ok (.tuple #[OpV 0 0 0, .bool false]) w := fun _ => by kernel_rfl
  have t2 : ∀ w : World, (Instr.typeAssert (.iface 97 (OpV 7 (0) (0))) 53 92 true).run Tryz.prog w = .ok (.tuple #[OpV 0 0 0, .bool false]) w := fun _ => by kernel_rfl
  have t3 : ∀ w : World, (Instr.typeAssert (.iface 97 (OpV 7 (0) (0))) 53 93 true).run Tryz.prog w = .ok (.tuple #[OpV 0 0 0, .bool false]) w := fun _ => by kernel_rfl
  have t4 : ∀ w : World, (Instr.typeAssert (.iface 97 (OpV 7 (0) (0))) 53 94 true).run Tryz.prog w = .ok (.tuple #[OpV 0 0 0, .bool false]) w := fun _ => by kernel_rfl
  have t5 : ∀ w : World, (Instr.typeAssert (.iface 97 (OpV 7 (0) (0))) 53 95 true).run Tryz.prog w = .ok (.tuple #[OpV 0 0 0, .bool false]) w := fun _ => by kernel_rfl
  have t6 : ∀ w : World, (Instr.typeAssert (.iface 97 (OpV 7 (0) (0))) 53 96 true).run Tryz.prog w = .ok (.tuple #[OpV 0 0 0, .bool false]) w := fun _ => by kernel_rfl
  have t7 : ∀ w : World, (Instr.typeAssert (.iface 97 (OpV 7 (0) (0))) 53 97 true).run Tryz.prog w = .ok (.tuple #[OpV 7 (0) (0), .bool true]) w := fun _ => by kernel_rfl
  go_enter Tryz.func36, Tryz.ntmps36
  go_wp2_with fail
  rw [← hW0]
  clear hW0
  have hb9 : Below (w.heap.size + 1 + 1) W0 W0 := Below.refl _ _
  refine (or_on (w.heap.size + 1 + 1) W0 _ _ _ _ _ _ _ (by first | exact hc9 | exact hc9.alloc _ | exact com_empty_at rfl (by omega) | exact (com_empty_at rfl (by omega)).alloc _ | exact com_empty_drew rfl (by omega) | exact (com_empty_drew rfl (by omega)).alloc _ | exact com_empty_drew (by simp [hs0]) (by omega) | exact com_empty_at (by simp [hs0]) (by omega) | exact (com_empty_drew (by simp [hs0]) (by omega)).alloc _ | exact (com_empty_at (by simp [hs0]) (by omega)).alloc _) (by simp) (by first | exact hb9 | exact hb9.drew | exact hb9.alloc (by omega) _ | exact (hb9.alloc (by omega) _).drew | exact (hb9.alloc (by omega) _).alloc (by simp; omega) _ | exact ((hb9.alloc (by omega) _).alloc (by simp; omega) _).drew) (by omega)).mono ?_
  rintro e w9 ⟨v9, rfl, hc9, hg9, hb9⟩
  have hs9 : w.heap.size + 1 + 1 ≤ w9.heap.size := by have h := hb9.size; omega
  go_wp2
  go_ret
  exact ⟨com_done (by omega) hc9 (tells_l (HA.out.below (HBX.out _ hb9).2 (Nat.le_refl _)) _), (HBX.out _ hb9).2⟩
end Go.Proofs.YtenlapppaimkkaeGreatDoor

/- impl.comingsOf, walked: rows counted. -/
namespace Go.Proofs.YtenlapppaimkkaeGreatDoor
open Go.ChangeShapes Go.WideShapes Go.ChangeAt Go.RowKit Go.Maps

set_option maxHeartbeats 4000000 in
set_option maxRecDepth 100000 in
theorem com_6 (p o j : Nat) (st x : Int) (xs : List Int) (w : World) (hA : IntAt w (some ⟨p, o, none⟩) 4 xs) (hi : ∀ x ∈ xs, (Lit.int .i64 x).wf = true) (hj : j < 4) (hx : xs.getD j 0 = x) (c : Int) :
    Calls Tryz.prog 36 #[.agg #[.slice (some ⟨p, o, none⟩) 4 4, .int .i64 st], .iface 96 (OpV 6 (c) (0))] w fun e w' => ComSays e w w' [(0, [cntK xs c 4])] ∧ Below w.heap.size w w' := by
  have hc : w.cell? ⟨p, o + j, none⟩ = some (I x) := by have h := hA.cells j hj; rwa [hx] at h
  have hp : p < w.heap.size := World.block_lt_of_cell? w _ hc
  have hj0 : (0 : Int) ≤ (j : Int) := by omega
  have hj1 : (j : Int) < 4 := by omega
  have HA : Hid (IntAt w (some ⟨p, o, none⟩) 4 xs) := hA
  have HI : Hid (∀ x ∈ xs, (Lit.int .i64 x).wf = true) := hi
  clear hA hi hx
  obtain ⟨W0, hW0⟩ : ∃ W0, W0 = (w.alloc (.cells #[.slice (some ⟨p, o, none⟩) 4 4, .int .i64 st] 26)).alloc (.cells #[.int .i64 6, .int .i64 c, .int .i64 0] 96) := ⟨_, rfl⟩
  have hs0 : W0.heap.size = w.heap.size + 1 + 1 := by rw [hW0]; simp
  have HBX : Hid (∀ w', Below (w.heap.size + 1 + 1) W0 w' → (w'.cell? ⟨w.heap.size, 0, none⟩ = some (.slice (some ⟨p, o, none⟩) 4 4) ∧ w'.cell? ⟨w.heap.size, 1, none⟩ = some (.int .i64 st) ∧ w'.cell? ⟨w.heap.size + 1, 1, none⟩ = some (.int .i64 c) ∧ w'.cell? ⟨w.heap.size + 1, 2, none⟩ = some (.int .i64 0) ∧ w'.cell? ⟨p, o + j, none⟩ = some (I x)) ∧ Below w.heap.size w w') := fun w' hb => com_boxes hc hW0 hb
  have t1 : ∀ w : World, (Instr.typeAssert (.iface 96 (OpV 6 (c) (0))) 53 91 true).run Tryz.prog w = .ok (.tuple #[OpV 0 0 0, .bool false]) w := fun _ => by kernel_rfl
  have t2 : ∀ w : World, (Instr.typeAssert (.iface 96 (OpV 6 (c) (0))) 53 92 true).run Tryz.prog w = .ok (.tuple #[OpV 0 0 0, .bool false]) w := fun _ => by kernel_rfl
  have t3 : ∀ w : World, (Instr.typeAssert (.iface 96 (OpV 6 (c) (0))) 53 93 true).run Tryz.prog w = .ok (.tuple #[OpV 0 0 0, .bool false]) w := fun _ => by kernel_rfl
  have t4 : ∀ w : World, (Instr.typeAssert (.iface 96 (OpV 6 (c) (0))) 53 94 true).run Tryz.prog w = .ok (.tuple #[OpV 0 0 0, .bool false]) w := fun _ => by kernel_rfl
  have t5 : ∀ w : World, (Instr.typeAssert (.iface 96 (OpV 6 (c) (0))) 53 95 true).run Tryz.prog w = .ok (.tuple #[OpV 0 0 0, .bool false]) w := fun _ => by kernel_rfl
  have t6 : ∀ w : World, (Instr.typeAssert (.iface 96 (OpV 6 (c) (0))) 53 96 true).run Tryz.prog w = .ok (.tuple #[OpV 6 (c) (0), .bool true]) w := fun _ => by kernel_rfl
  go_enter Tryz.func36, Tryz.ntmps36
  go_wp2_with fail
  rw [← hW0]
  clear hW0
  have hb9 : Below (w.heap.size + 1 + 1) W0 W0 := Below.refl _ _
  refine (implHowMany_four _ st c xs _ (HA.out.below (HBX.out _ (hb9.alloc (by omega) _)).2 (Nat.le_refl _)) HI.out).mono ?_
  rintro e w1 ⟨rfl, hb1⟩
  have hc9 : ComAt w1 (w.heap.size + 1 + 1) (.slice (some ⟨w.heap.size + 1 + 1, 0, none⟩) 0 0) [] := owns_below (com_empty_at hs0 (by omega)) hb1 (Nat.le_refl _)
  have hb9 : Below (w.heap.size + 1 + 1) W0 w1 := (hb9.alloc (by omega) _).trans (hb1.mono (by simp [hs0]))
  have hs1 : w.heap.size + 1 + 1 + 1 ≤ w1.heap.size := by have h := hb1.size; simp [hs0] at h; omega
  go_wp2_with fail
  refine (or_on (w.heap.size + 1 + 1) W0 _ _ _ _ _ _ _ (by first | exact hc9 | exact hc9.alloc _ | exact com_empty_at rfl (by omega) | exact (com_empty_at rfl (by omega)).alloc _ | exact com_empty_drew rfl (by omega) | exact (com_empty_drew rfl (by omega)).alloc _ | exact com_empty_drew (by simp [hs0]) (by omega) | exact com_empty_at (by simp [hs0]) (by omega) | exact (com_empty_drew (by simp [hs0]) (by omega)).alloc _ | exact (com_empty_at (by simp [hs0]) (by omega)).alloc _) (by simp) (by first | exact hb9 | exact hb9.drew | exact hb9.alloc (by omega) _ | exact (hb9.alloc (by omega) _).drew | exact (hb9.alloc (by omega) _).alloc (by simp; omega) _ | exact ((hb9.alloc (by omega) _).alloc (by simp; omega) _).drew) (by omega)).mono ?_
  rintro e w9 ⟨v9, rfl, hc9, hg9, hb9⟩
  have hs9 : w.heap.size + 1 + 1 ≤ w9.heap.size := by have h := hb9.size; omega
  go_wp2
  go_ret
  exact ⟨com_done (by omega) hc9 (tells_l (one_at (hg9.cell (by simp) (by simp [Value.ownBlock]; omega))) _), (HBX.out _ hb9).2⟩
end Go.Proofs.YtenlapppaimkkaeGreatDoor

/- What may come as a list (no program). -/
namespace Go.Proofs.YtenlapppaimkkaeGreatDoor

/-- All that may come of an op. -/
def comLL (xs : List Int) (st kind k v : Int) : List (Int × List Int) :=
  if kind = 1 then (if atK xs k = 0 then (if keyN xs v < 0 then [(0, [])] else [(2, [])]) else (if keyN xs v < 0 then [(1, [])] else [(1, []), (2, [])]))
  else if kind = 2 then (if atK xs k = 0 then (if keyN xs v < 0 then [(3, [])] else [(3, []), (2, [])]) else (if keyN xs v < 0 then [(0, [])] else if keyN xs v = k then [(2, []), (0, [])] else [(2, [])]))
  else if kind = 3 then (if atK xs k = 0 then [(3, [])] else [(0, [])])
  else if kind = 4 then (if atK xs k = 0 then [(3, [])] else [(0, [atK xs k])])
  else if kind = 5 then (if keyN xs v < 0 then [(3, [])] else [(0, [keyN xs v])])
  else if kind = 6 then [(0, [cntK xs k 4])]
  else if kind = 7 then [(0, xs)]
  else if kind = 8 then (if st = 0 then [(0, [])] else [(4, [])])
  else if kind = 9 then (if st = 0 then [(4, [])] else if st = 5 then [(4, [])] else [(0, [])])
  else (if st = 5 then (if keyN xs v < 0 then [(3, [])] else [(0, [keyN xs v])]) else [(4, [])])
theorem ite_len {α : Type} {p : Prop} [Decidable p] {a b : List α} (ha : a.length ≤ 4) (hb : b.length ≤ 4) : (if p then a else b).length ≤ 4 := by split <;> assumption
theorem comLL_len (xs : List Int) (st kind k v : Int) : (comLL xs st kind k v).length ≤ 4 := by
  unfold comLL
  repeat' apply ite_len
  all_goals (try simp)
theorem codesC (code : Int) : code = 0 ∨ code = 1 ∨ code = 2 ∨ code = 3 ∨ code = 4 ∨ (code ≠ 0 ∧ code ≠ 1 ∧ code ≠ 2 ∧ code ≠ 3 ∧ code ≠ 4) := by omega
theorem com_mem_1 (xs : List Int) (st k v code : Int) (ys : List Int) (hst : 0 ≤ st ∧ st ≤ 5) :
    (code, ys) ∈ comLL xs st 1 k v ↔ ((code ≠ 0 ∧ ys = [] ∧ FailsM xs st 1 k v code) ∨ (code = 0 ∧ DoneM xs st 1 k v ∧ listM xs 1 k v = ys)) := by
  have _h := hst
  have hk := keyN_le xs v
  obtain ⟨q, hq⟩ : ∃ q, keyN xs v = q := ⟨_, rfl⟩
  obtain ⟨x, hx⟩ : ∃ x, atK xs k = x := ⟨_, rfl⟩
  rw [hq] at hk
  unfold comLL FailsM DoneM listM
  rw [hq, hx]
  clear hq hx
  rcases codesC code with rfl | rfl | rfl | rfl | rfl | ⟨c0, c1, c2, c3, c4⟩ <;> by_cases h1 : x = 0 <;> (rcases (show (q < 0 ∧ ¬ 0 ≤ q) ∨ (0 ≤ q ∧ ¬ q < 0) by omega) with ⟨h2, h2'⟩ | ⟨h2, h2'⟩)
  all_goals simp [*]
  all_goals first | done | omega | (intros; omega) | exact eq_comm | (constructor <;> intro h <;> simp_all <;> omega)
theorem com_mem_2 (xs : List Int) (st k v code : Int) (ys : List Int) (hst : 0 ≤ st ∧ st ≤ 5) :
    (code, ys) ∈ comLL xs st 2 k v ↔ ((code ≠ 0 ∧ ys = [] ∧ FailsM xs st 2 k v code) ∨ (code = 0 ∧ DoneM xs st 2 k v ∧ listM xs 2 k v = ys)) := by
  have _h := hst
  have hk := keyN_le xs v
  obtain ⟨q, hq⟩ : ∃ q, keyN xs v = q := ⟨_, rfl⟩
  obtain ⟨x, hx⟩ : ∃ x, atK xs k = x := ⟨_, rfl⟩
  rw [hq] at hk
  unfold comLL FailsM DoneM listM
  rw [hq, hx]
  clear hq hx
  rcases codesC code with rfl | rfl | rfl | rfl | rfl | ⟨c0, c1, c2, c3, c4⟩ <;> by_cases h1 : x = 0 <;> (rcases (show (q < 0 ∧ ¬ 0 ≤ q) ∨ (0 ≤ q ∧ ¬ q < 0) by omega) with ⟨h2, h2'⟩ | ⟨h2, h2'⟩) <;> (rcases Decidable.em (q = k) with rfl | h3)
  all_goals simp [*]
  all_goals first | done | omega | (intros; omega) | exact eq_comm | (constructor <;> intro h <;> simp_all <;> omega)
theorem com_mem_3 (xs : List Int) (st k v code : Int) (ys : List Int) (hst : 0 ≤ st ∧ st ≤ 5) :
    (code, ys) ∈ comLL xs st 3 k v ↔ ((code ≠ 0 ∧ ys = [] ∧ FailsM xs st 3 k v code) ∨ (code = 0 ∧ DoneM xs st 3 k v ∧ listM xs 3 k v = ys)) := by
  have _h := hst
  have hk := keyN_le xs v
  obtain ⟨q, hq⟩ : ∃ q, keyN xs v = q := ⟨_, rfl⟩
  obtain ⟨x, hx⟩ : ∃ x, atK xs k = x := ⟨_, rfl⟩
  rw [hq] at hk
  unfold comLL FailsM DoneM listM
  rw [hq, hx]
  clear hq hx
  rcases codesC code with rfl | rfl | rfl | rfl | rfl | ⟨c0, c1, c2, c3, c4⟩ <;> by_cases h1 : x = 0
  all_goals simp [*]
  all_goals first | done | omega | (intros; omega) | exact eq_comm | (constructor <;> intro h <;> simp_all <;> omega)
theorem com_mem_4 (xs : List Int) (st k v code : Int) (ys : List Int) (hst : 0 ≤ st ∧ st ≤ 5) :
    (code, ys) ∈ comLL xs st 4 k v ↔ ((code ≠ 0 ∧ ys = [] ∧ FailsM xs st 4 k v code) ∨ (code = 0 ∧ DoneM xs st 4 k v ∧ listM xs 4 k v = ys)) := by
  have _h := hst
  have hk := keyN_le xs v
  obtain ⟨q, hq⟩ : ∃ q, keyN xs v = q := ⟨_, rfl⟩
  obtain ⟨x, hx⟩ : ∃ x, atK xs k = x := ⟨_, rfl⟩
  rw [hq] at hk
  unfold comLL FailsM DoneM listM
  rw [hq, hx]
  clear hq hx
  rcases codesC code with rfl | rfl | rfl | rfl | rfl | ⟨c0, c1, c2, c3, c4⟩ <;> by_cases h1 : x = 0
  all_goals simp [*]
  all_goals first | done | omega | (intros; omega) | exact eq_comm | (constructor <;> intro h <;> simp_all <;> omega)
theorem com_mem_5 (xs : List Int) (st k v code : Int) (ys : List Int) (hst : 0 ≤ st ∧ st ≤ 5) :
    (code, ys) ∈ comLL xs st 5 k v ↔ ((code ≠ 0 ∧ ys = [] ∧ FailsM xs st 5 k v code) ∨ (code = 0 ∧ DoneM xs st 5 k v ∧ listM xs 5 k v = ys)) := by
  have _h := hst
  have hk := keyN_le xs v
  obtain ⟨q, hq⟩ : ∃ q, keyN xs v = q := ⟨_, rfl⟩
  obtain ⟨x, hx⟩ : ∃ x, atK xs k = x := ⟨_, rfl⟩
  rw [hq] at hk
  unfold comLL FailsM DoneM listM
  rw [hq, hx]
  clear hq hx
  rcases codesC code with rfl | rfl | rfl | rfl | rfl | ⟨c0, c1, c2, c3, c4⟩ <;> (rcases (show (q < 0 ∧ ¬ 0 ≤ q) ∨ (0 ≤ q ∧ ¬ q < 0) by omega) with ⟨h2, h2'⟩ | ⟨h2, h2'⟩)
  all_goals simp [*]
  all_goals first | done | omega | (intros; omega) | exact eq_comm | (constructor <;> intro h <;> simp_all <;> omega)
theorem com_mem_6 (xs : List Int) (st k v code : Int) (ys : List Int) (hst : 0 ≤ st ∧ st ≤ 5) :
    (code, ys) ∈ comLL xs st 6 k v ↔ ((code ≠ 0 ∧ ys = [] ∧ FailsM xs st 6 k v code) ∨ (code = 0 ∧ DoneM xs st 6 k v ∧ listM xs 6 k v = ys)) := by
  have _h := hst
  have hk := keyN_le xs v
  obtain ⟨q, hq⟩ : ∃ q, keyN xs v = q := ⟨_, rfl⟩
  obtain ⟨x, hx⟩ : ∃ x, atK xs k = x := ⟨_, rfl⟩
  rw [hq] at hk
  unfold comLL FailsM DoneM listM
  rw [hq, hx]
  clear hq hx
  rcases codesC code with rfl | rfl | rfl | rfl | rfl | ⟨c0, c1, c2, c3, c4⟩
  all_goals simp [*]
  all_goals first | done | omega | (intros; omega) | exact eq_comm | (constructor <;> intro h <;> simp_all <;> omega)
theorem com_mem_7 (xs : List Int) (st k v code : Int) (ys : List Int) (hst : 0 ≤ st ∧ st ≤ 5) :
    (code, ys) ∈ comLL xs st 7 k v ↔ ((code ≠ 0 ∧ ys = [] ∧ FailsM xs st 7 k v code) ∨ (code = 0 ∧ DoneM xs st 7 k v ∧ listM xs 7 k v = ys)) := by
  have _h := hst
  have hk := keyN_le xs v
  obtain ⟨q, hq⟩ : ∃ q, keyN xs v = q := ⟨_, rfl⟩
  obtain ⟨x, hx⟩ : ∃ x, atK xs k = x := ⟨_, rfl⟩
  rw [hq] at hk
  unfold comLL FailsM DoneM listM
  rw [hq, hx]
  clear hq hx
  rcases codesC code with rfl | rfl | rfl | rfl | rfl | ⟨c0, c1, c2, c3, c4⟩
  all_goals simp [*]
  all_goals first | done | omega | (intros; omega) | exact eq_comm | (constructor <;> intro h <;> simp_all <;> omega)
theorem com_mem_8 (xs : List Int) (st k v code : Int) (ys : List Int) (hst : 0 ≤ st ∧ st ≤ 5) :
    (code, ys) ∈ comLL xs st 8 k v ↔ ((code ≠ 0 ∧ ys = [] ∧ FailsM xs st 8 k v code) ∨ (code = 0 ∧ DoneM xs st 8 k v ∧ listM xs 8 k v = ys)) := by
  have _h := hst
  have hk := keyN_le xs v
  obtain ⟨q, hq⟩ : ∃ q, keyN xs v = q := ⟨_, rfl⟩
  obtain ⟨x, hx⟩ : ∃ x, atK xs k = x := ⟨_, rfl⟩
  rw [hq] at hk
  unfold comLL FailsM DoneM listM
  rw [hq, hx]
  clear hq hx
  rcases codesC code with rfl | rfl | rfl | rfl | rfl | ⟨c0, c1, c2, c3, c4⟩ <;> by_cases h4 : st = 0
  all_goals simp [*]
  all_goals first | done | omega | (intros; omega) | exact eq_comm | (constructor <;> intro h <;> simp_all <;> omega)
theorem com_mem_9 (xs : List Int) (st k v code : Int) (ys : List Int) (hst : 0 ≤ st ∧ st ≤ 5) :
    (code, ys) ∈ comLL xs st 9 k v ↔ ((code ≠ 0 ∧ ys = [] ∧ FailsM xs st 9 k v code) ∨ (code = 0 ∧ DoneM xs st 9 k v ∧ listM xs 9 k v = ys)) := by
  have _h := hst
  have hk := keyN_le xs v
  obtain ⟨q, hq⟩ : ∃ q, keyN xs v = q := ⟨_, rfl⟩
  obtain ⟨x, hx⟩ : ∃ x, atK xs k = x := ⟨_, rfl⟩
  rw [hq] at hk
  unfold comLL FailsM DoneM listM
  rw [hq, hx]
  clear hq hx
  rcases codesC code with rfl | rfl | rfl | rfl | rfl | ⟨c0, c1, c2, c3, c4⟩ <;> by_cases h4 : st = 0 <;> by_cases h5 : st = 5
  all_goals simp [*]
  all_goals first | done | omega | (intros; omega) | exact eq_comm | (constructor <;> intro h <;> simp_all <;> omega)
theorem com_mem_10 (xs : List Int) (st k v code : Int) (ys : List Int) (hst : 0 ≤ st ∧ st ≤ 5) :
    (code, ys) ∈ comLL xs st 10 k v ↔ ((code ≠ 0 ∧ ys = [] ∧ FailsM xs st 10 k v code) ∨ (code = 0 ∧ DoneM xs st 10 k v ∧ listM xs 10 k v = ys)) := by
  have _h := hst
  have hk := keyN_le xs v
  obtain ⟨q, hq⟩ : ∃ q, keyN xs v = q := ⟨_, rfl⟩
  obtain ⟨x, hx⟩ : ∃ x, atK xs k = x := ⟨_, rfl⟩
  rw [hq] at hk
  unfold comLL FailsM DoneM listM
  rw [hq, hx]
  clear hq hx
  rcases codesC code with rfl | rfl | rfl | rfl | rfl | ⟨c0, c1, c2, c3, c4⟩ <;> by_cases h5 : st = 5 <;> (rcases (show (q < 0 ∧ ¬ 0 ≤ q) ∨ (0 ≤ q ∧ ¬ q < 0) by omega) with ⟨h2, h2'⟩ | ⟨h2, h2'⟩)
  all_goals simp [*]
  all_goals first | done | omega | (intros; omega) | exact eq_comm | (constructor <;> intro h <;> simp_all <;> omega)
end Go.Proofs.YtenlapppaimkkaeGreatDoor
