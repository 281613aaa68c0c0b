/- Texts joined: ComR5, ComR6, ComR7. -/
import Derived.Test.YtbfolanfbagofaaGreatDoorQA23
import Derived.Test.YtbfolanfbagofaaGreatDoorQA21
import Derived.Test.YtbfolanfbagofaaGreatDoorQA27
import Derived.Test.YtbfolanfbagofaaGreatDoorQA05
import Derived.Deep.RegionHeld3
set_option maxHeartbeats 4000000
set_option maxRecDepth 100000
namespace Go.Proofs.YtbfolanfbagofaaGreatDoor
section
open Go.ChangeShapes Go.WideShapes Go.ChangeAt Go.RowKit Go.Maps
theorem comR_10_n (p o cp : Nat) (hcp : 4 ≤ cp) (j : Nat) (st x : Int) (xs : List Int) (w : World) (hA : IntAt w (some ⟨p, o, none⟩) 4 xs) (hi : ∀ x ∈ xs, (Lit.int .i64 x).wf = true) (hj : j < 4) (hx : xs.getD j 0 = x) (v q : Int) (hv : 1 ≤ v ∧ v ≤ 6) (hq : keyN xs v = q) (h5 : st ≠ 5) (hq0 : q < 0) :
   Calls Tryz.prog 133 #[.agg #[.slice (some ⟨p, o, none⟩) 4 cp, .int .i64 st], .iface 231 (OpV 10 (0) (v))] w fun e w' => ComSays e w w' [(4, [])] ∧ Below w.heap.size w w' := by
 have hc : w.cell? ⟨p, o + j, none⟩ = some (I x) := by have h := hA.cells j hj; rwa [hx] at h
 have hp : p < w.heap.size := World.block_lt_of_cell? w _ hc
 have hj0 : (0 : Int) ≤ (j : Int) := by omega
 have hj1 : (j : Int) < 4 := by omega
 have HA : Hid (IntAt w (some ⟨p, o, none⟩) 4 xs) := hA
 have HI : Hid (∀ x ∈ xs, (Lit.int .i64 x).wf = true) := hi
 have HCP : Hid (4 ≤ cp) := hcp
 clear hA hi hx hcp
 have HQ : Hid (keyN xs v = q) := hq
 clear hq
 have h5' : (st != 5) = true := by simpa using h5
 have h5'' : (st == 5) = false := by simpa using h5
 clear h5
 have hq1 : ¬ 0 ≤ q := by omega
 have HD1 : Hid (decide (0 ≤ q) = false) := decide_eq_false hq1
 have HD2 : Hid (decide (q < 0) = true) := decide_eq_true hq0
 obtain ⟨W0, hW0⟩ : ∃ W0, W0 = (w.alloc (.cells #[.slice (some ⟨p, o, none⟩) 4 cp, .int .i64 st] 41)).alloc (.cells #[.int .i64 10, .int .i64 0, .int .i64 v] 231) := ⟨_, rfl⟩
 have hs0 : W0.heap.size = w.heap.size + 1 + 1 := by rw [hW0]; simp
 have HBX : Hid (∀ w', Below (w.heap.size + 1 + 1) W0 w' → (w'.cell? ⟨w.heap.size, 0, none⟩ = some (.slice (some ⟨p, o, none⟩) 4 cp) ∧ w'.cell? ⟨w.heap.size, 1, none⟩ = some (.int .i64 st) ∧ w'.cell? ⟨w.heap.size + 1, 1, none⟩ = some (.int .i64 0) ∧ w'.cell? ⟨w.heap.size + 1, 2, none⟩ = some (.int .i64 v) ∧ w'.cell? ⟨p, o + j, none⟩ = some (I x)) ∧ Below w.heap.size w w') := fun w' hb => com_boxesR hc hW0 hb
 have t1 : ∀ w : World, (Instr.typeAssert (.iface 231 (OpV 10 (0) (v))) 182 221 true).run Tryz.prog w = .ok (.tuple #[OpV 0 0 0, .bool false]) w := fun _ => by kernel_rfl
 have t2 : ∀ w : World, (Instr.typeAssert (.iface 231 (OpV 10 (0) (v))) 182 223 true).run Tryz.prog w = .ok (.tuple #[OpV 0 0 0, .bool false]) w := fun _ => by kernel_rfl
 have t3 : ∀ w : World, (Instr.typeAssert (.iface 231 (OpV 10 (0) (v))) 182 224 true).run Tryz.prog w = .ok (.tuple #[OpV 0 0 0, .bool false]) w := fun _ => by kernel_rfl
 have t4 : ∀ w : World, (Instr.typeAssert (.iface 231 (OpV 10 (0) (v))) 182 225 true).run Tryz.prog w = .ok (.tuple #[OpV 0 0 0, .bool false]) w := fun _ => by kernel_rfl
 have t5 : ∀ w : World, (Instr.typeAssert (.iface 231 (OpV 10 (0) (v))) 182 226 true).run Tryz.prog w = .ok (.tuple #[OpV 0 0 0, .bool false]) w := fun _ => by kernel_rfl
 have t6 : ∀ w : World, (Instr.typeAssert (.iface 231 (OpV 10 (0) (v))) 182 227 true).run Tryz.prog w = .ok (.tuple #[OpV 0 0 0, .bool false]) w := fun _ => by kernel_rfl
 have t7 : ∀ w : World, (Instr.typeAssert (.iface 231 (OpV 10 (0) (v))) 182 228 true).run Tryz.prog w = .ok (.tuple #[OpV 0 0 0, .bool false]) w := fun _ => by kernel_rfl
 have t8 : ∀ w : World, (Instr.typeAssert (.iface 231 (OpV 10 (0) (v))) 182 229 true).run Tryz.prog w = .ok (.tuple #[OpV 0 0 0, .bool false]) w := fun _ => by kernel_rfl
 have t9 : ∀ w : World, (Instr.typeAssert (.iface 231 (OpV 10 (0) (v))) 182 230 true).run Tryz.prog w = .ok (.tuple #[OpV 0 0 0, .bool false]) w := fun _ => by kernel_rfl
 have t10 : ∀ w : World, (Instr.typeAssert (.iface 231 (OpV 10 (0) (v))) 182 231 true).run Tryz.prog w = .ok (.tuple #[OpV 10 (0) (v), .bool true]) w := fun _ => by kernel_rfl
 go_enter Tryz.func133, Tryz.ntmps133
 go_wp2_with fail
 rw [← hW0]
 clear hW0
 have hb9 : Below (w.heap.size + 1 + 1) W0 W0 := Below.refl _ _
 go_region_held3 (fun w' => w'.cell? ⟨w.heap.size, 0, none⟩ = some (.slice (some ⟨p, o, none⟩) 4 cp) ∧ w'.cell? ⟨w.heap.size, 1, none⟩ = some (.int .i64 st) ∧ w'.cell? ⟨w.heap.size + 1, 1, none⟩ = some (.int .i64 0) ∧ w'.cell? ⟨w.heap.size + 1, 2, none⟩ = some (.int .i64 v) ∧ w'.cell? ⟨p, o + j, none⟩ = some (I x))
     (first | (exact (HBX.out _ (by repeat first | exact hb9 | apply Below.drew | apply Below.alloc | omega | (simp; omega) | simp)).1) | go_keep)
     (first
     | (go_at_call 163
        refine (implKeyOf_room _ cp HCP.out st v xs _ (HA.out.below (HBX.out _ (by repeat first | exact hb9 | apply Below.drew | apply Below.alloc | omega | (simp; omega) | simp)).2 (Nat.le_refl _)) HI.out hv).mono ?_
        rintro e w1 ⟨rfl, hb1⟩
        rw [HQ.out]
        have hb9 : Below (w.heap.size + 1 + 1) W0 w1 := (show Below (w.heap.size + 1 + 1) W0 _ from (by repeat first | exact hb9 | apply Below.drew | apply Below.alloc | omega | (simp; omega) | simp)).trans (hb1.mono (by simp [hs0]))
        have hs1 : w.heap.size + 1 + 1 ≤ w1.heap.size := by have h := hb9.size; omega))
 go_wp2_with fail
 try rw [HD1.out]
 try rw [HD2.out]
 refine (or_on (w.heap.size + 1 + 1) W0 _ _ _ _ _ _ _ (by repeat first | exact hc9 | exact com_empty_at rfl (by omega) | exact com_empty_drew rfl (by omega) | exact com_empty_drew (by simp [hs0]) (by omega) | exact com_empty_at (by simp [hs0]) (by omega) | apply World.ownsRow.alloc) (by simp) (by repeat first | exact hb9 | apply Below.drew | apply Below.alloc | omega | (simp; omega) | simp) (by omega)).mono ?_
 rintro e w9 ⟨v9, rfl, hc9, hg9, hb9⟩
 have hs9 : w.heap.size + 1 + 1 ≤ w9.heap.size := by have h := hb9.size; omega
 go_wp2_with fail
 try rw [HD1.out]
 try rw [HD2.out]
 refine (or_no _ _ _ _ _ _).mono ?_
 rintro e w8 ⟨rfl, rfl⟩
 go_wp2_with fail
 try rw [HD1.out]
 try rw [HD2.out]
 refine (or_no _ _ _ _ _ _).mono ?_
 rintro e w8 ⟨rfl, rfl⟩
 go_wp2
 go_ret
 first | exact ⟨com_done (by omega) hc9 (tells_1 _ _), (HBX.out _ hb9).2⟩ | exact ⟨com_done (by omega) (hc9.alloc _) (tells_1 _ _), (HBX.out _ (hb9.alloc (by omega) _)).2⟩
theorem comR_10_m (p o cp : Nat) (hcp : 4 ≤ cp) (j : Nat) (st x : Int) (xs : List Int) (w : World) (hA : IntAt w (some ⟨p, o, none⟩) 4 xs) (hi : ∀ x ∈ xs, (Lit.int .i64 x).wf = true) (hj : j < 4) (hx : xs.getD j 0 = x) (v q : Int) (hv : 1 ≤ v ∧ v ≤ 6) (hq : keyN xs v = q) (h5 : st ≠ 5) (hq0 : 0 ≤ q) :
   Calls Tryz.prog 133 #[.agg #[.slice (some ⟨p, o, none⟩) 4 cp, .int .i64 st], .iface 231 (OpV 10 (0) (v))] w fun e w' => ComSays e w w' [(4, [])] ∧ Below w.heap.size w w' := by
 have hc : w.cell? ⟨p, o + j, none⟩ = some (I x) := by have h := hA.cells j hj; rwa [hx] at h
 have hp : p < w.heap.size := World.block_lt_of_cell? w _ hc
 have hj0 : (0 : Int) ≤ (j : Int) := by omega
 have hj1 : (j : Int) < 4 := by omega
 have HA : Hid (IntAt w (some ⟨p, o, none⟩) 4 xs) := hA
 have HI : Hid (∀ x ∈ xs, (Lit.int .i64 x).wf = true) := hi
 have HCP : Hid (4 ≤ cp) := hcp
 clear hA hi hx hcp
 have HQ : Hid (keyN xs v = q) := hq
 clear hq
 have h5' : (st != 5) = true := by simpa using h5
 have h5'' : (st == 5) = false := by simpa using h5
 clear h5
 have hq1 : ¬ q < 0 := by omega
 have HD1 : Hid (decide (0 ≤ q) = true) := decide_eq_true hq0
 have HD2 : Hid (decide (q < 0) = false) := decide_eq_false hq1
 obtain ⟨W0, hW0⟩ : ∃ W0, W0 = (w.alloc (.cells #[.slice (some ⟨p, o, none⟩) 4 cp, .int .i64 st] 41)).alloc (.cells #[.int .i64 10, .int .i64 0, .int .i64 v] 231) := ⟨_, rfl⟩
 have hs0 : W0.heap.size = w.heap.size + 1 + 1 := by rw [hW0]; simp
 have HBX : Hid (∀ w', Below (w.heap.size + 1 + 1) W0 w' → (w'.cell? ⟨w.heap.size, 0, none⟩ = some (.slice (some ⟨p, o, none⟩) 4 cp) ∧ w'.cell? ⟨w.heap.size, 1, none⟩ = some (.int .i64 st) ∧ w'.cell? ⟨w.heap.size + 1, 1, none⟩ = some (.int .i64 0) ∧ w'.cell? ⟨w.heap.size + 1, 2, none⟩ = some (.int .i64 v) ∧ w'.cell? ⟨p, o + j, none⟩ = some (I x)) ∧ Below w.heap.size w w') := fun w' hb => com_boxesR hc hW0 hb
 have t1 : ∀ w : World, (Instr.typeAssert (.iface 231 (OpV 10 (0) (v))) 182 221 true).run Tryz.prog w = .ok (.tuple #[OpV 0 0 0, .bool false]) w := fun _ => by kernel_rfl
 have t2 : ∀ w : World, (Instr.typeAssert (.iface 231 (OpV 10 (0) (v))) 182 223 true).run Tryz.prog w = .ok (.tuple #[OpV 0 0 0, .bool false]) w := fun _ => by kernel_rfl
 have t3 : ∀ w : World, (Instr.typeAssert (.iface 231 (OpV 10 (0) (v))) 182 224 true).run Tryz.prog w = .ok (.tuple #[OpV 0 0 0, .bool false]) w := fun _ => by kernel_rfl
 have t4 : ∀ w : World, (Instr.typeAssert (.iface 231 (OpV 10 (0) (v))) 182 225 true).run Tryz.prog w = .ok (.tuple #[OpV 0 0 0, .bool false]) w := fun _ => by kernel_rfl
 have t5 : ∀ w : World, (Instr.typeAssert (.iface 231 (OpV 10 (0) (v))) 182 226 true).run Tryz.prog w = .ok (.tuple #[OpV 0 0 0, .bool false]) w := fun _ => by kernel_rfl
 have t6 : ∀ w : World, (Instr.typeAssert (.iface 231 (OpV 10 (0) (v))) 182 227 true).run Tryz.prog w = .ok (.tuple #[OpV 0 0 0, .bool false]) w := fun _ => by kernel_rfl
 have t7 : ∀ w : World, (Instr.typeAssert (.iface 231 (OpV 10 (0) (v))) 182 228 true).run Tryz.prog w = .ok (.tuple #[OpV 0 0 0, .bool false]) w := fun _ => by kernel_rfl
 have t8 : ∀ w : World, (Instr.typeAssert (.iface 231 (OpV 10 (0) (v))) 182 229 true).run Tryz.prog w = .ok (.tuple #[OpV 0 0 0, .bool false]) w := fun _ => by kernel_rfl
 have t9 : ∀ w : World, (Instr.typeAssert (.iface 231 (OpV 10 (0) (v))) 182 230 true).run Tryz.prog w = .ok (.tuple #[OpV 0 0 0, .bool false]) w := fun _ => by kernel_rfl
 have t10 : ∀ w : World, (Instr.typeAssert (.iface 231 (OpV 10 (0) (v))) 182 231 true).run Tryz.prog w = .ok (.tuple #[OpV 10 (0) (v), .bool true]) w := fun _ => by kernel_rfl
 go_enter Tryz.func133, Tryz.ntmps133
 go_wp2_with fail
 rw [← hW0]
 clear hW0
 have hb9 : Below (w.heap.size + 1 + 1) W0 W0 := Below.refl _ _
 go_region_held3 (fun w' => w'.cell? ⟨w.heap.size, 0, none⟩ = some (.slice (some ⟨p, o, none⟩) 4 cp) ∧ w'.cell? ⟨w.heap.size, 1, none⟩ = some (.int .i64 st) ∧ w'.cell? ⟨w.heap.size + 1, 1, none⟩ = some (.int .i64 0) ∧ w'.cell? ⟨w.heap.size + 1, 2, none⟩ = some (.int .i64 v) ∧ w'.cell? ⟨p, o + j, none⟩ = some (I x))
     (first | (exact (HBX.out _ (by repeat first | exact hb9 | apply Below.drew | apply Below.alloc | omega | (simp; omega) | simp)).1) | go_keep)
     (first
     | (go_at_call 163
        refine (implKeyOf_room _ cp HCP.out st v xs _ (HA.out.below (HBX.out _ (by repeat first | exact hb9 | apply Below.drew | apply Below.alloc | omega | (simp; omega) | simp)).2 (Nat.le_refl _)) HI.out hv).mono ?_
        rintro e w1 ⟨rfl, hb1⟩
        rw [HQ.out]
        have hb9 : Below (w.heap.size + 1 + 1) W0 w1 := (show Below (w.heap.size + 1 + 1) W0 _ from (by repeat first | exact hb9 | apply Below.drew | apply Below.alloc | omega | (simp; omega) | simp)).trans (hb1.mono (by simp [hs0]))
        have hs1 : w.heap.size + 1 + 1 ≤ w1.heap.size := by have h := hb9.size; omega))
 go_wp2_with fail
 try rw [HD1.out]
 try rw [HD2.out]
 refine (or_on (w.heap.size + 1 + 1) W0 _ _ _ _ _ _ _ (by repeat first | exact hc9 | exact com_empty_at rfl (by omega) | exact com_empty_drew rfl (by omega) | exact com_empty_drew (by simp [hs0]) (by omega) | exact com_empty_at (by simp [hs0]) (by omega) | apply World.ownsRow.alloc) (by simp) (by repeat first | exact hb9 | apply Below.drew | apply Below.alloc | omega | (simp; omega) | simp) (by omega)).mono ?_
 rintro e w9 ⟨v9, rfl, hc9, hg9, hb9⟩
 have hs9 : w.heap.size + 1 + 1 ≤ w9.heap.size := by have h := hb9.size; omega
 go_wp2_with fail
 try rw [HD1.out]
 try rw [HD2.out]
 refine (or_no _ _ _ _ _ _).mono ?_
 rintro e w8 ⟨rfl, rfl⟩
 go_wp2_with fail
 try rw [HD1.out]
 try rw [HD2.out]
 refine (or_no _ _ _ _ _ _).mono ?_
 rintro e w8 ⟨rfl, rfl⟩
 go_wp2
 go_ret
 first | exact ⟨com_done (by omega) hc9 (tells_1 _ _), (HBX.out _ hb9).2⟩ | exact ⟨com_done (by omega) (hc9.alloc _) (tells_1 _ _), (HBX.out _ (hb9.alloc (by omega) _)).2⟩
theorem comR_10_0 (p o cp : Nat) (hcp : 4 ≤ cp) (j : Nat) (st x : Int) (xs : List Int) (w : World) (hA : IntAt w (some ⟨p, o, none⟩) 4 xs) (hi : ∀ x ∈ xs, (Lit.int .i64 x).wf = true) (hj : j < 4) (hx : xs.getD j 0 = x) (v q : Int) (hv : 1 ≤ v ∧ v ≤ 6) (hq : keyN xs v = q) (h5 : st = 5) (hq0 : q < 0) :
   Calls Tryz.prog 133 #[.agg #[.slice (some ⟨p, o, none⟩) 4 cp, .int .i64 st], .iface 231 (OpV 10 (0) (v))] w fun e w' => ComSays e w w' [(3, [])] ∧ Below w.heap.size w w' := by
 have hc : w.cell? ⟨p, o + j, none⟩ = some (I x) := by have h := hA.cells j hj; rwa [hx] at h
 have hp : p < w.heap.size := World.block_lt_of_cell? w _ hc
 have hj0 : (0 : Int) ≤ (j : Int) := by omega
 have hj1 : (j : Int) < 4 := by omega
 have HA : Hid (IntAt w (some ⟨p, o, none⟩) 4 xs) := hA
 have HI : Hid (∀ x ∈ xs, (Lit.int .i64 x).wf = true) := hi
 have HCP : Hid (4 ≤ cp) := hcp
 clear hA hi hx hcp
 have HQ : Hid (keyN xs v = q) := hq
 clear hq
 have h5' : (st != 5) = false := by simpa using h5
 have h5'' : (st == 5) = true := by simpa using h5
 clear h5
 have hq1 : ¬ 0 ≤ q := by omega
 have HD1 : Hid (decide (0 ≤ q) = false) := decide_eq_false hq1
 have HD2 : Hid (decide (q < 0) = true) := decide_eq_true hq0
 obtain ⟨W0, hW0⟩ : ∃ W0, W0 = (w.alloc (.cells #[.slice (some ⟨p, o, none⟩) 4 cp, .int .i64 st] 41)).alloc (.cells #[.int .i64 10, .int .i64 0, .int .i64 v] 231) := ⟨_, rfl⟩
 have hs0 : W0.heap.size = w.heap.size + 1 + 1 := by rw [hW0]; simp
 have HBX : Hid (∀ w', Below (w.heap.size + 1 + 1) W0 w' → (w'.cell? ⟨w.heap.size, 0, none⟩ = some (.slice (some ⟨p, o, none⟩) 4 cp) ∧ w'.cell? ⟨w.heap.size, 1, none⟩ = some (.int .i64 st) ∧ w'.cell? ⟨w.heap.size + 1, 1, none⟩ = some (.int .i64 0) ∧ w'.cell? ⟨w.heap.size + 1, 2, none⟩ = some (.int .i64 v) ∧ w'.cell? ⟨p, o + j, none⟩ = some (I x)) ∧ Below w.heap.size w w') := fun w' hb => com_boxesR hc hW0 hb
 have t1 : ∀ w : World, (Instr.typeAssert (.iface 231 (OpV 10 (0) (v))) 182 221 true).run Tryz.prog w = .ok (.tuple #[OpV 0 0 0, .bool false]) w := fun _ => by kernel_rfl
 have t2 : ∀ w : World, (Instr.typeAssert (.iface 231 (OpV 10 (0) (v))) 182 223 true).run Tryz.prog w = .ok (.tuple #[OpV 0 0 0, .bool false]) w := fun _ => by kernel_rfl
 have t3 : ∀ w : World, (Instr.typeAssert (.iface 231 (OpV 10 (0) (v))) 182 224 true).run Tryz.prog w = .ok (.tuple #[OpV 0 0 0, .bool false]) w := fun _ => by kernel_rfl
 have t4 : ∀ w : World, (Instr.typeAssert (.iface 231 (OpV 10 (0) (v))) 182 225 true).run Tryz.prog w = .ok (.tuple #[OpV 0 0 0, .bool false]) w := fun _ => by kernel_rfl
 have t5 : ∀ w : World, (Instr.typeAssert (.iface 231 (OpV 10 (0) (v))) 182 226 true).run Tryz.prog w = .ok (.tuple #[OpV 0 0 0, .bool false]) w := fun _ => by kernel_rfl
 have t6 : ∀ w : World, (Instr.typeAssert (.iface 231 (OpV 10 (0) (v))) 182 227 true).run Tryz.prog w = .ok (.tuple #[OpV 0 0 0, .bool false]) w := fun _ => by kernel_rfl
 have t7 : ∀ w : World, (Instr.typeAssert (.iface 231 (OpV 10 (0) (v))) 182 228 true).run Tryz.prog w = .ok (.tuple #[OpV 0 0 0, .bool false]) w := fun _ => by kernel_rfl
 have t8 : ∀ w : World, (Instr.typeAssert (.iface 231 (OpV 10 (0) (v))) 182 229 true).run Tryz.prog w = .ok (.tuple #[OpV 0 0 0, .bool false]) w := fun _ => by kernel_rfl
 have t9 : ∀ w : World, (Instr.typeAssert (.iface 231 (OpV 10 (0) (v))) 182 230 true).run Tryz.prog w = .ok (.tuple #[OpV 0 0 0, .bool false]) w := fun _ => by kernel_rfl
 have t10 : ∀ w : World, (Instr.typeAssert (.iface 231 (OpV 10 (0) (v))) 182 231 true).run Tryz.prog w = .ok (.tuple #[OpV 10 (0) (v), .bool true]) w := fun _ => by kernel_rfl
 go_enter Tryz.func133, Tryz.ntmps133
 go_wp2_with fail
 rw [← hW0]
 clear hW0
 have hb9 : Below (w.heap.size + 1 + 1) W0 W0 := Below.refl _ _
 go_region_held3 (fun w' => w'.cell? ⟨w.heap.size, 0, none⟩ = some (.slice (some ⟨p, o, none⟩) 4 cp) ∧ w'.cell? ⟨w.heap.size, 1, none⟩ = some (.int .i64 st) ∧ w'.cell? ⟨w.heap.size + 1, 1, none⟩ = some (.int .i64 0) ∧ w'.cell? ⟨w.heap.size + 1, 2, none⟩ = some (.int .i64 v) ∧ w'.cell? ⟨p, o + j, none⟩ = some (I x))
     (first | (exact (HBX.out _ (by repeat first | exact hb9 | apply Below.drew | apply Below.alloc | omega | (simp; omega) | simp)).1) | go_keep)
     (first
     | (go_at_call 163
        refine (implKeyOf_room _ cp HCP.out st v xs _ (HA.out.below (HBX.out _ (by repeat first | exact hb9 | apply Below.drew | apply Below.alloc | omega | (simp; omega) | simp)).2 (Nat.le_refl _)) HI.out hv).mono ?_
        rintro e w1 ⟨rfl, hb1⟩
        rw [HQ.out]
        have hb9 : Below (w.heap.size + 1 + 1) W0 w1 := (show Below (w.heap.size + 1 + 1) W0 _ from (by repeat first | exact hb9 | apply Below.drew | apply Below.alloc | omega | (simp; omega) | simp)).trans (hb1.mono (by simp [hs0]))
        have hs1 : w.heap.size + 1 + 1 ≤ w1.heap.size := by have h := hb9.size; omega))
 go_wp2_with fail
 try rw [HD1.out]
 try rw [HD2.out]
 refine (or_no _ _ _ _ _ _).mono ?_
 rintro e w8 ⟨rfl, rfl⟩
 go_wp2_with fail
 try rw [HD1.out]
 try rw [HD2.out]
 refine (or_on (w.heap.size + 1 + 1) W0 _ _ _ _ _ _ _ (by repeat first | exact hc9 | exact com_empty_at rfl (by omega) | exact com_empty_drew rfl (by omega) | exact com_empty_drew (by simp [hs0]) (by omega) | exact com_empty_at (by simp [hs0]) (by omega) | apply World.ownsRow.alloc) (by simp) (by repeat first | exact hb9 | apply Below.drew | apply Below.alloc | omega | (simp; omega) | simp) (by omega)).mono ?_
 rintro e w9 ⟨v9, rfl, hc9, hg9, hb9⟩
 have hs9 : w.heap.size + 1 + 1 ≤ w9.heap.size := by have h := hb9.size; omega
 go_wp2_with fail
 try rw [HD1.out]
 try rw [HD2.out]
 refine (or_no _ _ _ _ _ _).mono ?_
 rintro e w8 ⟨rfl, rfl⟩
 go_wp2
 go_ret
 first | exact ⟨com_done (by omega) hc9 (tells_1 _ _), (HBX.out _ hb9).2⟩ | exact ⟨com_done (by omega) (hc9.alloc _) (tells_1 _ _), (HBX.out _ (hb9.alloc (by omega) _)).2⟩
theorem comR_10_1 (p o cp : Nat) (hcp : 4 ≤ cp) (j : Nat) (st x : Int) (xs : List Int) (w : World) (hA : IntAt w (some ⟨p, o, none⟩) 4 xs) (hi : ∀ x ∈ xs, (Lit.int .i64 x).wf = true) (hj : j < 4) (hx : xs.getD j 0 = x) (v q : Int) (hv : 1 ≤ v ∧ v ≤ 6) (hq : keyN xs v = q) (h5 : st = 5) (hq0 : 0 ≤ q) :
   Calls Tryz.prog 133 #[.agg #[.slice (some ⟨p, o, none⟩) 4 cp, .int .i64 st], .iface 231 (OpV 10 (0) (v))] w fun e w' => ComSays e w w' [(0, [q])] ∧ Below w.heap.size w w' := by
 have hc : w.cell? ⟨p, o + j, none⟩ = some (I x) := by have h := hA.cells j hj; rwa [hx] at h
 have hp : p < w.heap.size := World.block_lt_of_cell? w _ hc
 have hj0 : (0 : Int) ≤ (j : Int) := by omega
 have hj1 : (j : Int) < 4 := by omega
 have HA : Hid (IntAt w (some ⟨p, o, none⟩) 4 xs) := hA
 have HI : Hid (∀ x ∈ xs, (Lit.int .i64 x).wf = true) := hi
 have HCP : Hid (4 ≤ cp) := hcp
 clear hA hi hx hcp
 have HQ : Hid (keyN xs v = q) := hq
 clear hq
 have h5' : (st != 5) = false := by simpa using h5
 have h5'' : (st == 5) = true := by simpa using h5
 clear h5
 have hq1 : ¬ q < 0 := by omega
 have HD1 : Hid (decide (0 ≤ q) = true) := decide_eq_true hq0
 have HD2 : Hid (decide (q < 0) = false) := decide_eq_false hq1
 obtain ⟨W0, hW0⟩ : ∃ W0, W0 = (w.alloc (.cells #[.slice (some ⟨p, o, none⟩) 4 cp, .int .i64 st] 41)).alloc (.cells #[.int .i64 10, .int .i64 0, .int .i64 v] 231) := ⟨_, rfl⟩
 have hs0 : W0.heap.size = w.heap.size + 1 + 1 := by rw [hW0]; simp
 have HBX : Hid (∀ w', Below (w.heap.size + 1 + 1) W0 w' → (w'.cell? ⟨w.heap.size, 0, none⟩ = some (.slice (some ⟨p, o, none⟩) 4 cp) ∧ w'.cell? ⟨w.heap.size, 1, none⟩ = some (.int .i64 st) ∧ w'.cell? ⟨w.heap.size + 1, 1, none⟩ = some (.int .i64 0) ∧ w'.cell? ⟨w.heap.size + 1, 2, none⟩ = some (.int .i64 v) ∧ w'.cell? ⟨p, o + j, none⟩ = some (I x)) ∧ Below w.heap.size w w') := fun w' hb => com_boxesR hc hW0 hb
 have t1 : ∀ w : World, (Instr.typeAssert (.iface 231 (OpV 10 (0) (v))) 182 221 true).run Tryz.prog w = .ok (.tuple #[OpV 0 0 0, .bool false]) w := fun _ => by kernel_rfl
 have t2 : ∀ w : World, (Instr.typeAssert (.iface 231 (OpV 10 (0) (v))) 182 223 true).run Tryz.prog w = .ok (.tuple #[OpV 0 0 0, .bool false]) w := fun _ => by kernel_rfl
 have t3 : ∀ w : World, (Instr.typeAssert (.iface 231 (OpV 10 (0) (v))) 182 224 true).run Tryz.prog w = .ok (.tuple #[OpV 0 0 0, .bool false]) w := fun _ => by kernel_rfl
 have t4 : ∀ w : World, (Instr.typeAssert (.iface 231 (OpV 10 (0) (v))) 182 225 true).run Tryz.prog w = .ok (.tuple #[OpV 0 0 0, .bool false]) w := fun _ => by kernel_rfl
 have t5 : ∀ w : World, (Instr.typeAssert (.iface 231 (OpV 10 (0) (v))) 182 226 true).run Tryz.prog w = .ok (.tuple #[OpV 0 0 0, .bool false]) w := fun _ => by kernel_rfl
 have t6 : ∀ w : World, (Instr.typeAssert (.iface 231 (OpV 10 (0) (v))) 182 227 true).run Tryz.prog w = .ok (.tuple #[OpV 0 0 0, .bool false]) w := fun _ => by kernel_rfl
 have t7 : ∀ w : World, (Instr.typeAssert (.iface 231 (OpV 10 (0) (v))) 182 228 true).run Tryz.prog w = .ok (.tuple #[OpV 0 0 0, .bool false]) w := fun _ => by kernel_rfl
 have t8 : ∀ w : World, (Instr.typeAssert (.iface 231 (OpV 10 (0) (v))) 182 229 true).run Tryz.prog w = .ok (.tuple #[OpV 0 0 0, .bool false]) w := fun _ => by kernel_rfl
 have t9 : ∀ w : World, (Instr.typeAssert (.iface 231 (OpV 10 (0) (v))) 182 230 true).run Tryz.prog w = .ok (.tuple #[OpV 0 0 0, .bool false]) w := fun _ => by kernel_rfl
 have t10 : ∀ w : World, (Instr.typeAssert (.iface 231 (OpV 10 (0) (v))) 182 231 true).run Tryz.prog w = .ok (.tuple #[OpV 10 (0) (v), .bool true]) w := fun _ => by kernel_rfl
 go_enter Tryz.func133, Tryz.ntmps133
 go_wp2_with fail
 rw [← hW0]
 clear hW0
 have hb9 : Below (w.heap.size + 1 + 1) W0 W0 := Below.refl _ _
 go_region_held3 (fun w' => w'.cell? ⟨w.heap.size, 0, none⟩ = some (.slice (some ⟨p, o, none⟩) 4 cp) ∧ w'.cell? ⟨w.heap.size, 1, none⟩ = some (.int .i64 st) ∧ w'.cell? ⟨w.heap.size + 1, 1, none⟩ = some (.int .i64 0) ∧ w'.cell? ⟨w.heap.size + 1, 2, none⟩ = some (.int .i64 v) ∧ w'.cell? ⟨p, o + j, none⟩ = some (I x))
     (first | (exact (HBX.out _ (by repeat first | exact hb9 | apply Below.drew | apply Below.alloc | omega | (simp; omega) | simp)).1) | go_keep)
     (first
     | (go_at_call 163
        refine (implKeyOf_room _ cp HCP.out st v xs _ (HA.out.below (HBX.out _ (by repeat first | exact hb9 | apply Below.drew | apply Below.alloc | omega | (simp; omega) | simp)).2 (Nat.le_refl _)) HI.out hv).mono ?_
        rintro e w1 ⟨rfl, hb1⟩
        rw [HQ.out]
        have hb9 : Below (w.heap.size + 1 + 1) W0 w1 := (show Below (w.heap.size + 1 + 1) W0 _ from (by repeat first | exact hb9 | apply Below.drew | apply Below.alloc | omega | (simp; omega) | simp)).trans (hb1.mono (by simp [hs0]))
        have hs1 : w.heap.size + 1 + 1 ≤ w1.heap.size := by have h := hb9.size; omega))
 go_wp2_with fail
 try rw [HD1.out]
 try rw [HD2.out]
 refine (or_no _ _ _ _ _ _).mono ?_
 rintro e w8 ⟨rfl, rfl⟩
 go_wp2_with fail
 try rw [HD1.out]
 try rw [HD2.out]
 refine (or_no _ _ _ _ _ _).mono ?_
 rintro e w8 ⟨rfl, rfl⟩
 go_wp2_with fail
 try rw [HD1.out]
 try rw [HD2.out]
 refine (or_on (w.heap.size + 1 + 1) W0 _ _ _ _ _ _ _ (by repeat first | exact hc9 | exact com_empty_at rfl (by omega) | exact com_empty_drew rfl (by omega) | exact com_empty_drew (by simp [hs0]) (by omega) | exact com_empty_at (by simp [hs0]) (by omega) | apply World.ownsRow.alloc) (by simp) (by repeat first | exact hb9 | apply Below.drew | apply Below.alloc | omega | (simp; omega) | simp) (by omega)).mono ?_
 rintro e w9 ⟨v9, rfl, hc9, hg9, hb9⟩
 have hs9 : w.heap.size + 1 + 1 ≤ w9.heap.size := by have h := hb9.size; omega
 go_wp2
 go_ret
 first | exact ⟨com_done (by omega) hc9 (tells_l (one_at (hg9.cell (by first | exact told_first rfl | exact told_second rfl) (by simp [Value.ownBlock]))) _), (HBX.out _ hb9).2⟩ | exact ⟨com_done (by omega) hc9 (tells_l (one_at (hg9.cell (by first | exact told_first_drew rfl | exact told_second_drew rfl) (by simp [Value.ownBlock]))) _), (HBX.out _ hb9).2⟩
theorem comR_5_0 (p o cp : Nat) (hcp : 4 ≤ cp) (j : Nat) (st x : Int) (xs : List Int) (w : World) (hA : IntAt w (some ⟨p, o, none⟩) 4 xs) (hi : ∀ x ∈ xs, (Lit.int .i64 x).wf = true) (hj : j < 4) (hx : xs.getD j 0 = x) (v q : Int) (hv : 1 ≤ v ∧ v ≤ 6) (hq : keyN xs v = q) (hq0 : q < 0) :
   Calls Tryz.prog 133 #[.agg #[.slice (some ⟨p, o, none⟩) 4 cp, .int .i64 st], .iface 226 (OpV 5 (0) (v))] w fun e w' => ComSays e w w' [(3, [])] ∧ Below w.heap.size w w' := by
 have hc : w.cell? ⟨p, o + j, none⟩ = some (I x) := by have h := hA.cells j hj; rwa [hx] at h
 have hp : p < w.heap.size := World.block_lt_of_cell? w _ hc
 have hj0 : (0 : Int) ≤ (j : Int) := by omega
 have hj1 : (j : Int) < 4 := by omega
 have HA : Hid (IntAt w (some ⟨p, o, none⟩) 4 xs) := hA
 have HI : Hid (∀ x ∈ xs, (Lit.int .i64 x).wf = true) := hi
 have HCP : Hid (4 ≤ cp) := hcp
 clear hA hi hx hcp
 have HQ : Hid (keyN xs v = q) := hq
 clear hq
 have hq1 : ¬ 0 ≤ q := by omega
 have HD1 : Hid (decide (0 ≤ q) = false) := decide_eq_false hq1
 have HD2 : Hid (decide (q < 0) = true) := decide_eq_true hq0
 obtain ⟨W0, hW0⟩ : ∃ W0, W0 = (w.alloc (.cells #[.slice (some ⟨p, o, none⟩) 4 cp, .int .i64 st] 41)).alloc (.cells #[.int .i64 5, .int .i64 0, .int .i64 v] 226) := ⟨_, rfl⟩
 have hs0 : W0.heap.size = w.heap.size + 1 + 1 := by rw [hW0]; simp
 have HBX : Hid (∀ w', Below (w.heap.size + 1 + 1) W0 w' → (w'.cell? ⟨w.heap.size, 0, none⟩ = some (.slice (some ⟨p, o, none⟩) 4 cp) ∧ w'.cell? ⟨w.heap.size, 1, none⟩ = some (.int .i64 st) ∧ w'.cell? ⟨w.heap.size + 1, 1, none⟩ = some (.int .i64 0) ∧ w'.cell? ⟨w.heap.size + 1, 2, none⟩ = some (.int .i64 v) ∧ w'.cell? ⟨p, o + j, none⟩ = some (I x)) ∧ Below w.heap.size w w') := fun w' hb => com_boxesR hc hW0 hb
 have t1 : ∀ w : World, (Instr.typeAssert (.iface 226 (OpV 5 (0) (v))) 182 221 true).run Tryz.prog w = .ok (.tuple #[OpV 0 0 0, .bool false]) w := fun _ => by kernel_rfl
 have t2 : ∀ w : World, (Instr.typeAssert (.iface 226 (OpV 5 (0) (v))) 182 223 true).run Tryz.prog w = .ok (.tuple #[OpV 0 0 0, .bool false]) w := fun _ => by kernel_rfl
 have t3 : ∀ w : World, (Instr.typeAssert (.iface 226 (OpV 5 (0) (v))) 182 224 true).run Tryz.prog w = .ok (.tuple #[OpV 0 0 0, .bool false]) w := fun _ => by kernel_rfl
 have t4 : ∀ w : World, (Instr.typeAssert (.iface 226 (OpV 5 (0) (v))) 182 225 true).run Tryz.prog w = .ok (.tuple #[OpV 0 0 0, .bool false]) w := fun _ => by kernel_rfl
 have t5 : ∀ w : World, (Instr.typeAssert (.iface 226 (OpV 5 (0) (v))) 182 226 true).run Tryz.prog w = .ok (.tuple #[OpV 5 (0) (v), .bool true]) w := fun _ => by kernel_rfl
 go_enter Tryz.func133, Tryz.ntmps133
 go_wp2_with fail
 rw [← hW0]
 clear hW0
 have hb9 : Below (w.heap.size + 1 + 1) W0 W0 := Below.refl _ _
 refine (implKeyOf_room _ cp HCP.out st v xs _ (HA.out.below (HBX.out _ (by repeat first | exact hb9 | apply Below.drew | apply Below.alloc | omega | (simp; omega) | simp)).2 (Nat.le_refl _)) HI.out hv).mono ?_
 rintro e w1 ⟨rfl, hb1⟩
 rw [HQ.out]
 have hb9 : Below (w.heap.size + 1 + 1) W0 w1 := hb9.trans (hb1.mono (by omega))
 have hs1 : w.heap.size + 1 + 1 ≤ w1.heap.size := by have h := hb9.size; omega
 go_wp2_with fail
 try rw [HD1.out]
 try rw [HD2.out]
 refine (or_on (w.heap.size + 1 + 1) W0 _ _ _ _ _ _ _ (by repeat first | exact hc9 | exact com_empty_at rfl (by omega) | exact com_empty_drew rfl (by omega) | exact com_empty_drew (by simp [hs0]) (by omega) | exact com_empty_at (by simp [hs0]) (by omega) | apply World.ownsRow.alloc) (by simp) (by repeat first | exact hb9 | apply Below.drew | apply Below.alloc | omega | (simp; omega) | simp) (by omega)).mono ?_
 rintro e w9 ⟨v9, rfl, hc9, hg9, hb9⟩
 have hs9 : w.heap.size + 1 + 1 ≤ w9.heap.size := by have h := hb9.size; omega
 go_wp2_with fail
 try rw [HD1.out]
 try rw [HD2.out]
 refine (or_no _ _ _ _ _ _).mono ?_
 rintro e w8 ⟨rfl, rfl⟩
 go_wp2
 go_ret
 first | exact ⟨com_done (by omega) hc9 (tells_1 _ _), (HBX.out _ hb9).2⟩ | exact ⟨com_done (by omega) (hc9.alloc _) (tells_1 _ _), (HBX.out _ (hb9.alloc (by omega) _)).2⟩
theorem comR_5_1 (p o cp : Nat) (hcp : 4 ≤ cp) (j : Nat) (st x : Int) (xs : List Int) (w : World) (hA : IntAt w (some ⟨p, o, none⟩) 4 xs) (hi : ∀ x ∈ xs, (Lit.int .i64 x).wf = true) (hj : j < 4) (hx : xs.getD j 0 = x) (v q : Int) (hv : 1 ≤ v ∧ v ≤ 6) (hq : keyN xs v = q) (hq0 : 0 ≤ q) :
   Calls Tryz.prog 133 #[.agg #[.slice (some ⟨p, o, none⟩) 4 cp, .int .i64 st], .iface 226 (OpV 5 (0) (v))] w fun e w' => ComSays e w w' [(0, [q])] ∧ Below w.heap.size w w' := by
 have hc : w.cell? ⟨p, o + j, none⟩ = some (I x) := by have h := hA.cells j hj; rwa [hx] at h
 have hp : p < w.heap.size := World.block_lt_of_cell? w _ hc
 have hj0 : (0 : Int) ≤ (j : Int) := by omega
 have hj1 : (j : Int) < 4 := by omega
 have HA : Hid (IntAt w (some ⟨p, o, none⟩) 4 xs) := hA
 have HI : Hid (∀ x ∈ xs, (Lit.int .i64 x).wf = true) := hi
 have HCP : Hid (4 ≤ cp) := hcp
 clear hA hi hx hcp
 have HQ : Hid (keyN xs v = q) := hq
 clear hq
 have hq1 : ¬ q < 0 := by omega
 have HD1 : Hid (decide (0 ≤ q) = true) := decide_eq_true hq0
 have HD2 : Hid (decide (q < 0) = false) := decide_eq_false hq1
 obtain ⟨W0, hW0⟩ : ∃ W0, W0 = (w.alloc (.cells #[.slice (some ⟨p, o, none⟩) 4 cp, .int .i64 st] 41)).alloc (.cells #[.int .i64 5, .int .i64 0, .int .i64 v] 226) := ⟨_, rfl⟩
 have hs0 : W0.heap.size = w.heap.size + 1 + 1 := by rw [hW0]; simp
 have HBX : Hid (∀ w', Below (w.heap.size + 1 + 1) W0 w' → (w'.cell? ⟨w.heap.size, 0, none⟩ = some (.slice (some ⟨p, o, none⟩) 4 cp) ∧ w'.cell? ⟨w.heap.size, 1, none⟩ = some (.int .i64 st) ∧ w'.cell? ⟨w.heap.size + 1, 1, none⟩ = some (.int .i64 0) ∧ w'.cell? ⟨w.heap.size + 1, 2, none⟩ = some (.int .i64 v) ∧ w'.cell? ⟨p, o + j, none⟩ = some (I x)) ∧ Below w.heap.size w w') := fun w' hb => com_boxesR hc hW0 hb
 have t1 : ∀ w : World, (Instr.typeAssert (.iface 226 (OpV 5 (0) (v))) 182 221 true).run Tryz.prog w = .ok (.tuple #[OpV 0 0 0, .bool false]) w := fun _ => by kernel_rfl
 have t2 : ∀ w : World, (Instr.typeAssert (.iface 226 (OpV 5 (0) (v))) 182 223 true).run Tryz.prog w = .ok (.tuple #[OpV 0 0 0, .bool false]) w := fun _ => by kernel_rfl
 have t3 : ∀ w : World, (Instr.typeAssert (.iface 226 (OpV 5 (0) (v))) 182 224 true).run Tryz.prog w = .ok (.tuple #[OpV 0 0 0, .bool false]) w := fun _ => by kernel_rfl
 have t4 : ∀ w : World, (Instr.typeAssert (.iface 226 (OpV 5 (0) (v))) 182 225 true).run Tryz.prog w = .ok (.tuple #[OpV 0 0 0, .bool false]) w := fun _ => by kernel_rfl
 have t5 : ∀ w : World, (Instr.typeAssert (.iface 226 (OpV 5 (0) (v))) 182 226 true).run Tryz.prog w = .ok (.tuple #[OpV 5 (0) (v), .bool true]) w := fun _ => by kernel_rfl
 go_enter Tryz.func133, Tryz.ntmps133
 go_wp2_with fail
 rw [← hW0]
 clear hW0
 have hb9 : Below (w.heap.size + 1 + 1) W0 W0 := Below.refl _ _
 refine (implKeyOf_room _ cp HCP.out st v xs _ (HA.out.below (HBX.out _ (by repeat first | exact hb9 | apply Below.drew | apply Below.alloc | omega | (simp; omega) | simp)).2 (Nat.le_refl _)) HI.out hv).mono ?_
 rintro e w1 ⟨rfl, hb1⟩
 rw [HQ.out]
 have hb9 : Below (w.heap.size + 1 + 1) W0 w1 := hb9.trans (hb1.mono (by omega))
 have hs1 : w.heap.size + 1 + 1 ≤ w1.heap.size := by have h := hb9.size; omega
 go_wp2_with fail
 try rw [HD1.out]
 try rw [HD2.out]
 refine (or_no _ _ _ _ _ _).mono ?_
 rintro e w8 ⟨rfl, rfl⟩
 go_wp2_with fail
 try rw [HD1.out]
 try rw [HD2.out]
 refine (or_on (w.heap.size + 1 + 1) W0 _ _ _ _ _ _ _ (by repeat first | exact hc9 | exact com_empty_at rfl (by omega) | exact com_empty_drew rfl (by omega) | exact com_empty_drew (by simp [hs0]) (by omega) | exact com_empty_at (by simp [hs0]) (by omega) | apply World.ownsRow.alloc) (by simp) (by repeat first | exact hb9 | apply Below.drew | apply Below.alloc | omega | (simp; omega) | simp) (by omega)).mono ?_
 rintro e w9 ⟨v9, rfl, hc9, hg9, hb9⟩
 have hs9 : w.heap.size + 1 + 1 ≤ w9.heap.size := by have h := hb9.size; omega
 go_wp2
 go_ret
 first | exact ⟨com_done (by omega) hc9 (tells_l (one_at (hg9.cell (by first | exact told_first rfl | exact told_second rfl) (by simp [Value.ownBlock]))) _), (HBX.out _ hb9).2⟩ | exact ⟨com_done (by omega) hc9 (tells_l (one_at (hg9.cell (by first | exact told_first_drew rfl | exact told_second_drew rfl) (by simp [Value.ownBlock]))) _), (HBX.out _ hb9).2⟩
theorem comR_7 (p o cp : Nat) (hcp : 4 ≤ cp) (j : Nat) (st x : Int) (xs : List Int) (w : World) (hA : IntAt w (some ⟨p, o, none⟩) 4 xs) (hi : ∀ x ∈ xs, (Lit.int .i64 x).wf = true) (hj : j < 4) (hx : xs.getD j 0 = x) :
   Calls Tryz.prog 133 #[.agg #[.slice (some ⟨p, o, none⟩) 4 cp, .int .i64 st], .iface 228 (OpV 7 (0) (0))] w fun e w' => ComSays e w w' [(0, xs)] ∧ Below w.heap.size w w' := by
 have hc : w.cell? ⟨p, o + j, none⟩ = some (I x) := by have h := hA.cells j hj; rwa [hx] at h
 have hp : p < w.heap.size := World.block_lt_of_cell? w _ hc
 have hj0 : (0 : Int) ≤ (j : Int) := by omega
 have hj1 : (j : Int) < 4 := by omega
 have HA : Hid (IntAt w (some ⟨p, o, none⟩) 4 xs) := hA
 have HI : Hid (∀ x ∈ xs, (Lit.int .i64 x).wf = true) := hi
 have HCP : Hid (4 ≤ cp) := hcp
 clear hA hi hx hcp
 obtain ⟨W0, hW0⟩ : ∃ W0, W0 = (w.alloc (.cells #[.slice (some ⟨p, o, none⟩) 4 cp, .int .i64 st] 41)).alloc (.cells #[.int .i64 7, .int .i64 0, .int .i64 0] 228) := ⟨_, rfl⟩
 have hs0 : W0.heap.size = w.heap.size + 1 + 1 := by rw [hW0]; simp
 have HBX : Hid (∀ w', Below (w.heap.size + 1 + 1) W0 w' → (w'.cell? ⟨w.heap.size, 0, none⟩ = some (.slice (some ⟨p, o, none⟩) 4 cp) ∧ w'.cell? ⟨w.heap.size, 1, none⟩ = some (.int .i64 st) ∧ w'.cell? ⟨w.heap.size + 1, 1, none⟩ = some (.int .i64 0) ∧ w'.cell? ⟨w.heap.size + 1, 2, none⟩ = some (.int .i64 0) ∧ w'.cell? ⟨p, o + j, none⟩ = some (I x)) ∧ Below w.heap.size w w') := fun w' hb => com_boxesR hc hW0 hb
 have t1 : ∀ w : World, (Instr.typeAssert (.iface 228 (OpV 7 (0) (0))) 182 221 true).run Tryz.prog w = .ok (.tuple #[OpV 0 0 0, .bool false]) w := fun _ => by kernel_rfl
 have t2 : ∀ w : World, (Instr.typeAssert (.iface 228 (OpV 7 (0) (0))) 182 223 true).run Tryz.prog w = .ok (.tuple #[OpV 0 0 0, .bool false]) w := fun _ => by kernel_rfl
 have t3 : ∀ w : World, (Instr.typeAssert (.iface 228 (OpV 7 (0) (0))) 182 224 true).run Tryz.prog w = .ok (.tuple #[OpV 0 0 0, .bool false]) w := fun _ => by kernel_rfl
 have t4 : ∀ w : World, (Instr.typeAssert (.iface 228 (OpV 7 (0) (0))) 182 225 true).run Tryz.prog w = .ok (.tuple #[OpV 0 0 0, .bool false]) w := fun _ => by kernel_rfl
 have t5 : ∀ w : World, (Instr.typeAssert (.iface 228 (OpV 7 (0) (0))) 182 226 true).run Tryz.prog w = .ok (.tuple #[OpV 0 0 0, .bool false]) w := fun _ => by kernel_rfl
 have t6 : ∀ w : World, (Instr.typeAssert (.iface 228 (OpV 7 (0) (0))) 182 227 true).run Tryz.prog w = .ok (.tuple #[OpV 0 0 0, .bool false]) w := fun _ => by kernel_rfl
 have t7 : ∀ w : World, (Instr.typeAssert (.iface 228 (OpV 7 (0) (0))) 182 228 true).run Tryz.prog w = .ok (.tuple #[OpV 7 (0) (0), .bool true]) w := fun _ => by kernel_rfl
 go_enter Tryz.func133, Tryz.ntmps133
 go_wp2_with fail
 rw [← hW0]
 clear hW0
 have hb9 : Below (w.heap.size + 1 + 1) W0 W0 := Below.refl _ _
 refine (or_on (w.heap.size + 1 + 1) W0 _ _ _ _ _ _ _ (by repeat first | exact hc9 | exact com_empty_at rfl (by omega) | exact com_empty_drew rfl (by omega) | exact com_empty_drew (by simp [hs0]) (by omega) | exact com_empty_at (by simp [hs0]) (by omega) | apply World.ownsRow.alloc) (by simp) (by repeat first | exact hb9 | apply Below.drew | apply Below.alloc | omega | (simp; omega) | simp) (by omega)).mono ?_
 rintro e w9 ⟨v9, rfl, hc9, hg9, hb9⟩
 have hs9 : w.heap.size + 1 + 1 ≤ w9.heap.size := by have h := hb9.size; omega
 go_wp2
 go_ret
 exact ⟨com_done (by omega) hc9 (tells_l (HA.out.below (HBX.out _ hb9).2 (Nat.le_refl _)) _), (HBX.out _ hb9).2⟩
theorem comR_6 (p o cp : Nat) (hcp : 4 ≤ cp) (j : Nat) (st x : Int) (xs : List Int) (w : World) (hA : IntAt w (some ⟨p, o, none⟩) 4 xs) (hi : ∀ x ∈ xs, (Lit.int .i64 x).wf = true) (hj : j < 4) (hx : xs.getD j 0 = x) (c : Int) :
   Calls Tryz.prog 133 #[.agg #[.slice (some ⟨p, o, none⟩) 4 cp, .int .i64 st], .iface 227 (OpV 6 (c) (0))] w fun e w' => ComSays e w w' [(0, [cntK xs c 4])] ∧ Below w.heap.size w w' := by
 have hc : w.cell? ⟨p, o + j, none⟩ = some (I x) := by have h := hA.cells j hj; rwa [hx] at h
 have hp : p < w.heap.size := World.block_lt_of_cell? w _ hc
 have hj0 : (0 : Int) ≤ (j : Int) := by omega
 have hj1 : (j : Int) < 4 := by omega
 have HA : Hid (IntAt w (some ⟨p, o, none⟩) 4 xs) := hA
 have HI : Hid (∀ x ∈ xs, (Lit.int .i64 x).wf = true) := hi
 have HCP : Hid (4 ≤ cp) := hcp
 clear hA hi hx hcp
 obtain ⟨W0, hW0⟩ : ∃ W0, W0 = (w.alloc (.cells #[.slice (some ⟨p, o, none⟩) 4 cp, .int .i64 st] 41)).alloc (.cells #[.int .i64 6, .int .i64 c, .int .i64 0] 227) := ⟨_, rfl⟩
 have hs0 : W0.heap.size = w.heap.size + 1 + 1 := by rw [hW0]; simp
 have HBX : Hid (∀ w', Below (w.heap.size + 1 + 1) W0 w' → (w'.cell? ⟨w.heap.size, 0, none⟩ = some (.slice (some ⟨p, o, none⟩) 4 cp) ∧ w'.cell? ⟨w.heap.size, 1, none⟩ = some (.int .i64 st) ∧ w'.cell? ⟨w.heap.size + 1, 1, none⟩ = some (.int .i64 c) ∧ w'.cell? ⟨w.heap.size + 1, 2, none⟩ = some (.int .i64 0) ∧ w'.cell? ⟨p, o + j, none⟩ = some (I x)) ∧ Below w.heap.size w w') := fun w' hb => com_boxesR hc hW0 hb
 have t1 : ∀ w : World, (Instr.typeAssert (.iface 227 (OpV 6 (c) (0))) 182 221 true).run Tryz.prog w = .ok (.tuple #[OpV 0 0 0, .bool false]) w := fun _ => by kernel_rfl
 have t2 : ∀ w : World, (Instr.typeAssert (.iface 227 (OpV 6 (c) (0))) 182 223 true).run Tryz.prog w = .ok (.tuple #[OpV 0 0 0, .bool false]) w := fun _ => by kernel_rfl
 have t3 : ∀ w : World, (Instr.typeAssert (.iface 227 (OpV 6 (c) (0))) 182 224 true).run Tryz.prog w = .ok (.tuple #[OpV 0 0 0, .bool false]) w := fun _ => by kernel_rfl
 have t4 : ∀ w : World, (Instr.typeAssert (.iface 227 (OpV 6 (c) (0))) 182 225 true).run Tryz.prog w = .ok (.tuple #[OpV 0 0 0, .bool false]) w := fun _ => by kernel_rfl
 have t5 : ∀ w : World, (Instr.typeAssert (.iface 227 (OpV 6 (c) (0))) 182 226 true).run Tryz.prog w = .ok (.tuple #[OpV 0 0 0, .bool false]) w := fun _ => by kernel_rfl
 have t6 : ∀ w : World, (Instr.typeAssert (.iface 227 (OpV 6 (c) (0))) 182 227 true).run Tryz.prog w = .ok (.tuple #[OpV 6 (c) (0), .bool true]) w := fun _ => by kernel_rfl
 go_enter Tryz.func133, Tryz.ntmps133
 go_wp2_with fail
 rw [← hW0]
 clear hW0
 have hb9 : Below (w.heap.size + 1 + 1) W0 W0 := Below.refl _ _
 refine (implHowMany_room _ cp HCP.out st c xs _ (HA.out.below (HBX.out _ (hb9.alloc (by omega) _)).2 (Nat.le_refl _)) HI.out).mono ?_
 rintro e w1 ⟨rfl, hb1⟩
 have hc9 : ComAt w1 (w.heap.size + 1 + 1) (.slice (some ⟨w.heap.size + 1 + 1, 0, none⟩) 0 0) [] := owns_below (com_empty_at hs0 (by omega)) hb1 (Nat.le_refl _)
 have hb9 : Below (w.heap.size + 1 + 1) W0 w1 := (hb9.alloc (by omega) _).trans (hb1.mono (by simp [hs0]))
 have hs1 : w.heap.size + 1 + 1 + 1 ≤ w1.heap.size := by have h := hb1.size; simp [hs0] at h; omega
 go_wp2_with fail
 refine (or_on (w.heap.size + 1 + 1) W0 _ _ _ _ _ _ _ (by repeat first | exact hc9 | exact com_empty_at rfl (by omega) | exact com_empty_drew rfl (by omega) | exact com_empty_drew (by simp [hs0]) (by omega) | exact com_empty_at (by simp [hs0]) (by omega) | apply World.ownsRow.alloc) (by simp) (by repeat first | exact hb9 | apply Below.drew | apply Below.alloc | omega | (simp; omega) | simp) (by omega)).mono ?_
 rintro e w9 ⟨v9, rfl, hc9, hg9, hb9⟩
 have hs9 : w.heap.size + 1 + 1 ≤ w9.heap.size := by have h := hb9.size; omega
 go_wp2
 go_ret
 exact ⟨com_done (by omega) hc9 (tells_l (one_at (hg9.cell (by simp) (by simp [Value.ownBlock]; omega))) _), (HBX.out _ hb9).2⟩
end
end Go.Proofs.YtbfolanfbagofaaGreatDoor
