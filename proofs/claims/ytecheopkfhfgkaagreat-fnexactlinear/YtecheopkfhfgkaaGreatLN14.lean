/- Texts joined: ComR5, ComR6, ComR7, ComR. -/
import Derived.Test.YtecheopkfhfgkaaGreatLN10
import Derived.Test.YtecheopkfhfgkaaGreatLN04
import Derived.Test.YtecheopkfhfgkaaGreatLN12
import Derived.Test.YtecheopkfhfgkaaGreatLN11
import Derived.Deep.RegionHeld3
import Derived.Test.YtecheopkfhfgkaaGreatLN13
set_option maxHeartbeats 4000000
set_option maxRecDepth 100000
namespace Go.Proofs.YtecheopkfhfgkaaGreat
section
open Go.ChangeShapes Go.WideShapes Go.ChangeAt Go.RowKit Go.Maps
theorem comR_10_n (p o cp : Nat) (hcp : 4 ≤ cp) (j : Nat) (st x : Int) (xs : List Int) (w : World) (hA : IntAt w (some ⟨p, o, none⟩) 4 xs) (hi : ∀ x ∈ xs, (Lit.int .i64 x).wf = true) (hj : j < 4) (hx : xs.getD j 0 = x) (v q : Int) (hv : 1 ≤ v ∧ v ≤ 6) (hq : keyN xs v = q) (h5 : st ≠ 5) (hq0 : q < 0) :
    Calls Tryz.prog 50 #[.agg #[.slice (some ⟨p, o, none⟩) 4 cp, .int .i64 st], .iface 114 (OpV 10 (0) (v))] w fun e w' => ComSays e w w' [(4, [])] ∧ Below w.heap.size w w' := by
  have hc : w.cell? ⟨p, o + j, none⟩ = some (I x) := by have h := hA.cells j hj; rwa [hx] at h
  have hp : p < w.heap.size := World.block_lt_of_cell? w _ hc
  have hj0 : (0 : Int) ≤ (j : Int) := by omega
  have hj1 : (j : Int) < 4 := by omega
  have HA : Hid (IntAt w (some ⟨p, o, none⟩) 4 xs) := hA
  have HI : Hid (∀ x ∈ xs, (Lit.int .i64 x).wf = true) := hi
  have HCP : Hid (4 ≤ cp) := hcp
  clear hA hi hx hcp
  have HQ : Hid (keyN xs v = q) := hq
  clear hq
  have h5' : (st != 5) = true := by simpa using h5
  have h5'' : (st == 5) = false := by simpa using h5
  clear h5
  have hq1 : ¬ 0 ≤ q := by omega
  have HD1 : Hid (decide (0 ≤ q) = false) := decide_eq_false hq1
  have HD2 : Hid (decide (q < 0) = true) := decide_eq_true hq0
  obtain ⟨W0, hW0⟩ : ∃ W0, W0 = (w.alloc (.cells #[.slice (some ⟨p, o, none⟩) 4 cp, .int .i64 st] 29)).alloc (.cells #[.int .i64 10, .int .i64 0, .int .i64 v] 114) := ⟨_, rfl⟩
  have hs0 : W0.heap.size = w.heap.size + 1 + 1 := by rw [hW0]; simp
  have HBX : Hid (∀ w', Below (w.heap.size + 1 + 1) W0 w' → (w'.cell? ⟨w.heap.size, 0, none⟩ = some (.slice (some ⟨p, o, none⟩) 4 cp) ∧ w'.cell? ⟨w.heap.size, 1, none⟩ = some (.int .i64 st) ∧ w'.cell? ⟨w.heap.size + 1, 1, none⟩ = some (.int .i64 0) ∧ w'.cell? ⟨w.heap.size + 1, 2, none⟩ = some (.int .i64 v) ∧ w'.cell? ⟨p, o + j, none⟩ = some (I x)) ∧ Below w.heap.size w w') := fun w' hb => com_boxesR hc hW0 hb
  have t1 : ∀ w : World, (Instr.typeAssert (.iface 114 (OpV 10 (0) (v))) 92 104 true).run Tryz.prog w = .ok (.tuple #[OpV 0 0 0, .bool false]) w := fun _ => by kernel_rfl
  have t2 : ∀ w : World, (Instr.typeAssert (.iface 114 (OpV 10 (0) (v))) 92 106 true).run Tryz.prog w = .ok (.tuple #[OpV 0 0 0, .bool false]) w := fun _ => by kernel_rfl
  have t3 : ∀ w : World, (Instr.typeAssert (.iface 114 (OpV 10 (0) (v))) 92 107 true).run Tryz.prog w = .ok (.tuple #[OpV 0 0 0, .bool false]) w := fun _ => by kernel_rfl
  have t4 : ∀ w : World, (Instr.typeAssert (.iface 114 (OpV 10 (0) (v))) 92 108 true).run Tryz.prog w = .ok (.tuple #[OpV 0 0 0, .bool false]) w := fun _ => by kernel_rfl
  have t5 : ∀ w : World, (Instr.typeAssert (.iface 114 (OpV 10 (0) (v))) 92 109 true).run Tryz.prog w = .ok (.tuple #[OpV 0 0 0, .bool false]) w := fun _ => by kernel_rfl
  have t6 : ∀ w : World, (Instr.typeAssert (.iface 114 (OpV 10 (0) (v))) 92 110 true).run Tryz.prog w = .ok (.tuple #[OpV 0 0 0, .bool false]) w := fun _ => by kernel_rfl
  have t7 : ∀ w : World, (Instr.typeAssert (.iface 114 (OpV 10 (0) (v))) 92 111 true).run Tryz.prog w = .ok (.tuple #[OpV 0 0 0, .bool false]) w := fun _ => by kernel_rfl
  have t8 : ∀ w : World, (Instr.typeAssert (.iface 114 (OpV 10 (0) (v))) 92 112 true).run Tryz.prog w = .ok (.tuple #[OpV 0 0 0, .bool false]) w := fun _ => by kernel_rfl
  have t9 : ∀ w : World, (Instr.typeAssert (.iface 114 (OpV 10 (0) (v))) 92 113 true).run Tryz.prog w = .ok (.tuple #[OpV 0 0 0, .bool false]) w := fun _ => by kernel_rfl
  have t10 : ∀ w : World, (Instr.typeAssert (.iface 114 (OpV 10 (0) (v))) 92 114 true).run Tryz.prog w = .ok (.tuple #[OpV 10 (0) (v), .bool true]) w := fun _ => by kernel_rfl
  go_enter Tryz.func50, Tryz.ntmps50
  go_wp2_with fail
  rw [← hW0]
  clear hW0
  have hb9 : Below (w.heap.size + 1 + 1) W0 W0 := Below.refl _ _
  go_region_held3 (fun w' => w'.cell? ⟨w.heap.size, 0, none⟩ = some (.slice (some ⟨p, o, none⟩) 4 cp) ∧ w'.cell? ⟨w.heap.size, 1, none⟩ = some (.int .i64 st) ∧ w'.cell? ⟨w.heap.size + 1, 1, none⟩ = some (.int .i64 0) ∧ w'.cell? ⟨w.heap.size + 1, 2, none⟩ = some (.int .i64 v) ∧ w'.cell? ⟨p, o + j, none⟩ = some (I x))
      (first | (exact (HBX.out _ (by repeat first | exact hb9 | apply Below.drew | apply Below.alloc | omega | (simp; omega) | simp)).1) | go_keep)
      (first
      | (go_at_call 71
         refine (implKeyOf_room _ cp HCP.out st v xs _ (HA.out.below (HBX.out _ (by repeat first | exact hb9 | apply Below.drew | apply Below.alloc | omega | (simp; omega) | simp)).2 (Nat.le_refl _)) HI.out hv).mono ?_
         rintro e w1 ⟨rfl, hb1⟩
         rw [HQ.out]
         have hb9 : Below (w.heap.size + 1 + 1) W0 w1 := (show Below (w.heap.size + 1 + 1) W0 _ from (by repeat first | exact hb9 | apply Below.drew | apply Below.alloc | omega | (simp; omega) | simp)).trans (hb1.mono (by simp [hs0]))
         have hs1 : w.heap.size + 1 + 1 ≤ w1.heap.size := by have h := hb9.size; omega))
  go_wp2_with fail
  try rw [HD1.out]
  try rw [HD2.out]
  refine (or_on (w.heap.size + 1 + 1) W0 _ _ _ _ _ _ _ (by repeat first | exact hc9 | exact com_empty_at rfl (by omega) | exact com_empty_drew rfl (by omega) | exact com_empty_drew (by simp [hs0]) (by omega) | exact com_empty_at (by simp [hs0]) (by omega) | apply World.ownsRow.alloc) (by simp) (by repeat first | exact hb9 | apply Below.drew | apply Below.alloc | omega | (simp; omega) | simp) (by omega)).mono ?_
  rintro e w9 ⟨v9, rfl, hc9, hg9, hb9⟩
  have hs9 : w.heap.size + 1 + 1 ≤ w9.heap.size := by have h := hb9.size; omega
  go_wp2_with fail
  try rw [HD1.out]
  try rw [HD2.out]
  refine (or_no _ _ _ _ _ _).mono ?_
  rintro e w8 ⟨rfl, rfl⟩
  go_wp2_with fail
  try rw [HD1.out]
  try rw [HD2.out]
  refine (or_no _ _ _ _ _ _).mono ?_
  rintro e w8 ⟨rfl, rfl⟩
  go_wp2
  go_ret
  first | exact ⟨com_done (by omega) hc9 (tells_1 _ _), (HBX.out _ hb9).2⟩ | exact ⟨com_done (by omega) (hc9.alloc _) (tells_1 _ _), (HBX.out _ (hb9.alloc (by omega) _)).2⟩

theorem comR_10_m (p o cp : Nat) (hcp : 4 ≤ cp) (j : Nat) (st x : Int) (xs : List Int) (w : World) (hA : IntAt w (some ⟨p, o, none⟩) 4 xs) (hi : ∀ x ∈ xs, (Lit.int .i64 x).wf = true) (hj : j < 4) (hx : xs.getD j 0 = x) (v q : Int) (hv : 1 ≤ v ∧ v ≤ 6) (hq : keyN xs v = q) (h5 : st ≠ 5) (hq0 : 0 ≤ q) :
    Calls Tryz.prog 50 #[.agg #[.slice (some ⟨p, o, none⟩) 4 cp, .int .i64 st], .iface 114 (OpV 10 (0) (v))] w fun e w' => ComSays e w w' [(4, [])] ∧ Below w.heap.size w w' := by
  have hc : w.cell? ⟨p, o + j, none⟩ = some (I x) := by have h := hA.cells j hj; rwa [hx] at h
  have hp : p < w.heap.size := World.block_lt_of_cell? w _ hc
  have hj0 : (0 : Int) ≤ (j : Int) := by omega
  have hj1 : (j : Int) < 4 := by omega
  have HA : Hid (IntAt w (some ⟨p, o, none⟩) 4 xs) := hA
  have HI : Hid (∀ x ∈ xs, (Lit.int .i64 x).wf = true) := hi
  have HCP : Hid (4 ≤ cp) := hcp
  clear hA hi hx hcp
  have HQ : Hid (keyN xs v = q) := hq
  clear hq
  have h5' : (st != 5) = true := by simpa using h5
  have h5'' : (st == 5) = false := by simpa using h5
  clear h5
  have hq1 : ¬ q < 0 := by omega
  have HD1 : Hid (decide (0 ≤ q) = true) := decide_eq_true hq0
  have HD2 : Hid (decide (q < 0) = false) := decide_eq_false hq1
  obtain ⟨W0, hW0⟩ : ∃ W0, W0 = (w.alloc (.cells #[.slice (some ⟨p, o, none⟩) 4 cp, .int .i64 st] 29)).alloc (.cells #[.int .i64 10, .int .i64 0, .int .i64 v] 114) := ⟨_, rfl⟩
  have hs0 : W0.heap.size = w.heap.size + 1 + 1 := by rw [hW0]; simp
  have HBX : Hid (∀ w', Below (w.heap.size + 1 + 1) W0 w' → (w'.cell? ⟨w.heap.size, 0, none⟩ = some (.slice (some ⟨p, o, none⟩) 4 cp) ∧ w'.cell? ⟨w.heap.size, 1, none⟩ = some (.int .i64 st) ∧ w'.cell? ⟨w.heap.size + 1, 1, none⟩ = some (.int .i64 0) ∧ w'.cell? ⟨w.heap.size + 1, 2, none⟩ = some (.int .i64 v) ∧ w'.cell? ⟨p, o + j, none⟩ = some (I x)) ∧ Below w.heap.size w w') := fun w' hb => com_boxesR hc hW0 hb
  have t1 : ∀ w : World, (Instr.typeAssert (.iface 114 (OpV 10 (0) (v))) 92 104 true).run Tryz.prog w = .ok (.tuple #[OpV 0 0 0, .bool false]) w := fun _ => by kernel_rfl
  have t2 : ∀ w : World, (Instr.typeAssert (.iface 114 (OpV 10 (0) (v))) 92 106 true).run Tryz.prog w = .ok (.tuple #[OpV 0 0 0, .bool false]) w := fun _ => by kernel_rfl
  have t3 : ∀ w : World, (Instr.typeAssert (.iface 114 (OpV 10 (0) (v))) 92 107 true).run Tryz.prog w = .ok (.tuple #[OpV 0 0 0, .bool false]) w := fun _ => by kernel_rfl
  have t4 : ∀ w : World, (Instr.typeAssert (.iface 114 (OpV 10 (0) (v))) 92 108 true).run Tryz.prog w = .ok (.tuple #[OpV 0 0 0, .bool false]) w := fun _ => by kernel_rfl
  have t5 : ∀ w : World, (Instr.typeAssert (.iface 114 (OpV 10 (0) (v))) 92 109 true).run Tryz.prog w = .ok (.tuple #[OpV 0 0 0, .bool false]) w := fun _ => by kernel_rfl
  have t6 : ∀ w : World, (Instr.typeAssert (.iface 114 (OpV 10 (0) (v))) 92 110 true).run Tryz.prog w = .ok (.tuple #[OpV 0 0 0, .bool false]) w := fun _ => by kernel_rfl
  have t7 : ∀ w : World, (Instr.typeAssert (.iface 114 (OpV 10 (0) (v))) 92 111 true).run Tryz.prog w = .ok (.tuple #[OpV 0 0 0, .bool false]) w := fun _ => by kernel_rfl
  have t8 : ∀ w : World, (Instr.typeAssert (.iface 114 (OpV 10 (0) (v))) 92 112 true).run Tryz.prog w = .ok (.tuple #[OpV 0 0 0, .bool false]) w := fun _ => by kernel_rfl
  have t9 : ∀ w : World, (Instr.typeAssert (.iface 114 (OpV 10 (0) (v))) 92 113 true).run Tryz.prog w = .ok (.tuple #[OpV 0 0 0, .bool false]) w := fun _ => by kernel_rfl
  have t10 : ∀ w : World, (Instr.typeAssert (.iface 114 (OpV 10 (0) (v))) 92 114 true).run Tryz.prog w = .ok (.tuple #[OpV 10 (0) (v), .bool true]) w := fun _ => by kernel_rfl
  go_enter Tryz.func50, Tryz.ntmps50
  go_wp2_with fail
  rw [← hW0]
  clear hW0
  have hb9 : Below (w.heap.size + 1 + 1) W0 W0 := Below.refl _ _
  go_region_held3 (fun w' => w'.cell? ⟨w.heap.size, 0, none⟩ = some (.slice (some ⟨p, o, none⟩) 4 cp) ∧ w'.cell? ⟨w.heap.size, 1, none⟩ = some (.int .i64 st) ∧ w'.cell? ⟨w.heap.size + 1, 1, none⟩ = some (.int .i64 0) ∧ w'.cell? ⟨w.heap.size + 1, 2, none⟩ = some (.int .i64 v) ∧ w'.cell? ⟨p, o + j, none⟩ = some (I x))
      (first | (exact (HBX.out _ (by repeat first | exact hb9 | apply Below.drew | apply Below.alloc | omega | (simp; omega) | simp)).1) | go_keep)
      (first
      | (go_at_call 71
         refine (implKeyOf_room _ cp HCP.out st v xs _ (HA.out.below (HBX.out _ (by repeat first | exact hb9 | apply Below.drew | apply Below.alloc | omega | (simp; omega) | simp)).2 (Nat.le_refl _)) HI.out hv).mono ?_
         rintro e w1 ⟨rfl, hb1⟩
         rw [HQ.out]
         have hb9 : Below (w.heap.size + 1 + 1) W0 w1 := (show Below (w.heap.size + 1 + 1) W0 _ from (by repeat first | exact hb9 | apply Below.drew | apply Below.alloc | omega | (simp; omega) | simp)).trans (hb1.mono (by simp [hs0]))
         have hs1 : w.heap.size + 1 + 1 ≤ w1.heap.size := by have h := hb9.size; omega))
  go_wp2_with fail
  try rw [HD1.out]
  try rw [HD2.out]
  refine (or_on (w.heap.size + 1 + 1) W0 _ _ _ _ _ _ _ (by repeat first | exact hc9 | exact com_empty_at rfl (by omega) | exact com_empty_drew rfl (by omega) | exact com_empty_drew (by simp [hs0]) (by omega) | exact com_empty_at (by simp [hs0]) (by omega) | apply World.ownsRow.alloc) (by simp) (by repeat first | exact hb9 | apply Below.drew | apply Below.alloc | omega | (simp; omega) | simp) (by omega)).mono ?_
  rintro e w9 ⟨v9, rfl, hc9, hg9, hb9⟩
  have hs9 : w.heap.size + 1 + 1 ≤ w9.heap.size := by have h := hb9.size; omega
  go_wp2_with fail
  try rw [HD1.out]
  try rw [HD2.out]
  refine (or_no _ _ _ _ _ _).mono ?_
  rintro e w8 ⟨rfl, rfl⟩
  go_wp2_with fail
  try rw [HD1.out]
  try rw [HD2.out]
  refine (or_no _ _ _ _ _ _).mono ?_
  rintro e w8 ⟨rfl, rfl⟩
  go_wp2
  go_ret
  first | exact ⟨com_done (by omega) hc9 (tells_1 _ _), (HBX.out _ hb9).2⟩ | exact ⟨com_done (by omega) (hc9.alloc _) (tells_1 _ _), (HBX.out _ (hb9.alloc (by omega) _)).2⟩

theorem comR_10_0 (p o cp : Nat) (hcp : 4 ≤ cp) (j : Nat) (st x : Int) (xs : List Int) (w : World) (hA : IntAt w (some ⟨p, o, none⟩) 4 xs) (hi : ∀ x ∈ xs, (Lit.int .i64 x).wf = true) (hj : j < 4) (hx : xs.getD j 0 = x) (v q : Int) (hv : 1 ≤ v ∧ v ≤ 6) (hq : keyN xs v = q) (h5 : st = 5) (hq0 : q < 0) :
    Calls Tryz.prog 50 #[.agg #[.slice (some ⟨p, o, none⟩) 4 cp, .int .i64 st], .iface 114 (OpV 10 (0) (v))] w fun e w' => ComSays e w w' [(3, [])] ∧ Below w.heap.size w w' := by
  have hc : w.cell? ⟨p, o + j, none⟩ = some (I x) := by have h := hA.cells j hj; rwa [hx] at h
  have hp : p < w.heap.size := World.block_lt_of_cell? w _ hc
  have hj0 : (0 : Int) ≤ (j : Int) := by omega
  have hj1 : (j : Int) < 4 := by omega
  have HA : Hid (IntAt w (some ⟨p, o, none⟩) 4 xs) := hA
  have HI : Hid (∀ x ∈ xs, (Lit.int .i64 x).wf = true) := hi
  have HCP : Hid (4 ≤ cp) := hcp
  clear hA hi hx hcp
  have HQ : Hid (keyN xs v = q) := hq
  clear hq
  have h5' : (st != 5) = false := by simpa using h5
  have h5'' : (st == 5) = true := by simpa using h5
  clear h5
  have hq1 : ¬ 0 ≤ q := by omega
  have HD1 : Hid (decide (0 ≤ q) = false) := decide_eq_false hq1
  have HD2 : Hid (decide (q < 0) = true) := decide_eq_true hq0
  obtain ⟨W0, hW0⟩ : ∃ W0, W0 = (w.alloc (.cells #[.slice (some ⟨p, o, none⟩) 4 cp, .int .i64 st] 29)).alloc (.cells #[.int .i64 10, .int .i64 0, .int .i64 v] 114) := ⟨_, rfl⟩
  have hs0 : W0.heap.size = w.heap.size + 1 + 1 := by rw [hW0]; simp
  have HBX : Hid (∀ w', Below (w.heap.size + 1 + 1) W0 w' → (w'.cell? ⟨w.heap.size, 0, none⟩ = some (.slice (some ⟨p, o, none⟩) 4 cp) ∧ w'.cell? ⟨w.heap.size, 1, none⟩ = some (.int .i64 st) ∧ w'.cell? ⟨w.heap.size + 1, 1, none⟩ = some (.int .i64 0) ∧ w'.cell? ⟨w.heap.size + 1, 2, none⟩ = some (.int .i64 v) ∧ w'.cell? ⟨p, o + j, none⟩ = some (I x)) ∧ Below w.heap.size w w') := fun w' hb => com_boxesR hc hW0 hb
  have t1 : ∀ w : World, (Instr.typeAssert (.iface 114 (OpV 10 (0) (v))) 92 104 true).run Tryz.prog w = .ok (.tuple #[OpV 0 0 0, .bool false]) w := fun _ => by kernel_rfl
  have t2 : ∀ w : World, (Instr.typeAssert (.iface 114 (OpV 10 (0) (v))) 92 106 true).run Tryz.prog w = .ok (.tuple #[OpV 0 0 0, .bool false]) w := fun _ => by kernel_rfl
  have t3 : ∀ w : World, (Instr.typeAssert (.iface 114 (OpV 10 (0) (v))) 92 107 true).run Tryz.prog w = .ok (.tuple #[OpV 0 0 0, .bool false]) w := fun _ => by kernel_rfl
  have t4 : ∀ w : World, (Instr.typeAssert (.iface 114 (OpV 10 (0) (v))) 92 108 true).run Tryz.prog w = .ok (.tuple #[OpV 0 0 0, .bool false]) w := fun _ => by kernel_rfl
  have t5 : ∀ w : World, (Instr.typeAssert (.iface 114 (OpV 10 (0) (v))) 92 109 true).run Tryz.prog w = .ok (.tuple #[OpV 0 0 0, .bool false]) w := fun _ => by kernel_rfl
  have t6 : ∀ w : World, (Instr.typeAssert (.iface 114 (OpV 10 (0) (v))) 92 110 true).run Tryz.prog w = .ok (.tuple #[OpV 0 0 0, .bool false]) w := fun _ => by kernel_rfl
  have t7 : ∀ w : World, (Instr.typeAssert (.iface 114 (OpV 10 (0) (v))) 92 111 true).run Tryz.prog w = .ok (.tuple #[OpV 0 0 0, .bool false]) w := fun _ => by kernel_rfl
  have t8 : ∀ w : World, (Instr.typeAssert (.iface 114 (OpV 10 (0) (v))) 92 112 true).run Tryz.prog w = .ok (.tuple #[OpV 0 0 0, .bool false]) w := fun _ => by kernel_rfl
  have t9 : ∀ w : World, (Instr.typeAssert (.iface 114 (OpV 10 (0) (v))) 92 113 true).run Tryz.prog w = .ok (.tuple #[OpV 0 0 0, .bool false]) w := fun _ => by kernel_rfl
  have t10 : ∀ w : World, (Instr.typeAssert (.iface 114 (OpV 10 (0) (v))) 92 114 true).run Tryz.prog w = .ok (.tuple #[OpV 10 (0) (v), .bool true]) w := fun _ => by kernel_rfl
  go_enter Tryz.func50, Tryz.ntmps50
  go_wp2_with fail
  rw [← hW0]
  clear hW0
  have hb9 : Below (w.heap.size + 1 + 1) W0 W0 := Below.refl _ _
  go_region_held3 (fun w' => w'.cell? ⟨w.heap.size, 0, none⟩ = some (.slice (some ⟨p, o, none⟩) 4 cp) ∧ w'.cell? ⟨w.heap.size, 1, none⟩ = some (.int .i64 st) ∧ w'.cell? ⟨w.heap.size + 1, 1, none⟩ = some (.int .i64 0) ∧ w'.cell? ⟨w.heap.size + 1, 2, none⟩ = some (.int .i64 v) ∧ w'.cell? ⟨p, o + j, none⟩ = some (I x))
      (first | (exact (HBX.out _ (by repeat first | exact hb9 | apply Below.drew | apply Below.alloc | omega | (simp; omega) | simp)).1) | go_keep)
      (first
      | (go_at_call 71
         refine (implKeyOf_room _ cp HCP.out st v xs _ (HA.out.below (HBX.out _ (by repeat first | exact hb9 | apply Below.drew | apply Below.alloc | omega | (simp; omega) | simp)).2 (Nat.le_refl _)) HI.out hv).mono ?_
         rintro e w1 ⟨rfl, hb1⟩
         rw [HQ.out]
         have hb9 : Below (w.heap.size + 1 + 1) W0 w1 := (show Below (w.heap.size + 1 + 1) W0 _ from (by repeat first | exact hb9 | apply Below.drew | apply Below.alloc | omega | (simp; omega) | simp)).trans (hb1.mono (by simp [hs0]))
         have hs1 : w.heap.size + 1 + 1 ≤ w1.heap.size := by have h := hb9.size; omega))
  go_wp2_with fail
  try rw [HD1.out]
  try rw [HD2.out]
  refine (or_no _ _ _ _ _ _).mono ?_
  rintro e w8 ⟨rfl, rfl⟩
  go_wp2_with fail
  try rw [HD1.out]
  try rw [HD2.out]
  refine (or_on (w.heap.size + 1 + 1) W0 _ _ _ _ _ _ _ (by repeat first | exact hc9 | exact com_empty_at rfl (by omega) | exact com_empty_drew rfl (by omega) | exact com_empty_drew (by simp [hs0]) (by omega) | exact com_empty_at (by simp [hs0]) (by omega) | apply World.ownsRow.alloc) (by simp) (by repeat first | exact hb9 | apply Below.drew | apply Below.alloc | omega | (simp; omega) | simp) (by omega)).mono ?_
  rintro e w9 ⟨v9, rfl, hc9, hg9, hb9⟩
  have hs9 : w.heap.size + 1 + 1 ≤ w9.heap.size := by have h := hb9.size; omega
  go_wp2_with fail
  try rw [HD1.out]
  try rw [HD2.out]
  refine (or_no _ _ _ _ _ _).mono ?_
  rintro e w8 ⟨rfl, rfl⟩
  go_wp2
  go_ret
  first | exact ⟨com_done (by omega) hc9 (tells_1 _ _), (HBX.out _ hb9).2⟩ | exact ⟨com_done (by omega) (hc9.alloc _) (tells_1 _ _), (HBX.out _ (hb9.alloc (by omega) _)).2⟩

theorem comR_10_1 (p o cp : Nat) (hcp : 4 ≤ cp) (j : Nat) (st x : Int) (xs : List Int) (w : World) (hA : IntAt w (some ⟨p, o, none⟩) 4 xs) (hi : ∀ x ∈ xs, (Lit.int .i64 x).wf = true) (hj : j < 4) (hx : xs.getD j 0 = x) (v q : Int) (hv : 1 ≤ v ∧ v ≤ 6) (hq : keyN xs v = q) (h5 : st = 5) (hq0 : 0 ≤ q) :
    Calls Tryz.prog 50 #[.agg #[.slice (some ⟨p, o, none⟩) 4 cp, .int .i64 st], .iface 114 (OpV 10 (0) (v))] w fun e w' => ComSays e w w' [(0, [q])] ∧ Below w.heap.size w w' := by
  have hc : w.cell? ⟨p, o + j, none⟩ = some (I x) := by have h := hA.cells j hj; rwa [hx] at h
  have hp : p < w.heap.size := World.block_lt_of_cell? w _ hc
  have hj0 : (0 : Int) ≤ (j : Int) := by omega
  have hj1 : (j : Int) < 4 := by omega
  have HA : Hid (IntAt w (some ⟨p, o, none⟩) 4 xs) := hA
  have HI : Hid (∀ x ∈ xs, (Lit.int .i64 x).wf = true) := hi
  have HCP : Hid (4 ≤ cp) := hcp
  clear hA hi hx hcp
  have HQ : Hid (keyN xs v = q) := hq
  clear hq
  have h5' : (st != 5) = false := by simpa using h5
  have h5'' : (st == 5) = true := by simpa using h5
  clear h5
  have hq1 : ¬ q < 0 := by omega
  have HD1 : Hid (decide (0 ≤ q) = true) := decide_eq_true hq0
  have HD2 : Hid (decide (q < 0) = false) := decide_eq_false hq1
  obtain ⟨W0, hW0⟩ : ∃ W0, W0 = (w.alloc (.cells #[.slice (some ⟨p, o, none⟩) 4 cp, .int .i64 st] 29)).alloc (.cells #[.int .i64 10, .int .i64 0, .int .i64 v] 114) := ⟨_, rfl⟩
  have hs0 : W0.heap.size = w.heap.size + 1 + 1 := by rw [hW0]; simp
  have HBX : Hid (∀ w', Below (w.heap.size + 1 + 1) W0 w' → (w'.cell? ⟨w.heap.size, 0, none⟩ = some (.slice (some ⟨p, o, none⟩) 4 cp) ∧ w'.cell? ⟨w.heap.size, 1, none⟩ = some (.int .i64 st) ∧ w'.cell? ⟨w.heap.size + 1, 1, none⟩ = some (.int .i64 0) ∧ w'.cell? ⟨w.heap.size + 1, 2, none⟩ = some (.int .i64 v) ∧ w'.cell? ⟨p, o + j, none⟩ = some (I x)) ∧ Below w.heap.size w w') := fun w' hb => com_boxesR hc hW0 hb
  have t1 : ∀ w : World, (Instr.typeAssert (.iface 114 (OpV 10 (0) (v))) 92 104 true).run Tryz.prog w = .ok (.tuple #[OpV 0 0 0, .bool false]) w := fun _ => by kernel_rfl
  have t2 : ∀ w : World, (Instr.typeAssert (.iface 114 (OpV 10 (0) (v))) 92 106 true).run Tryz.prog w = .ok (.tuple #[OpV 0 0 0, .bool false]) w := fun _ => by kernel_rfl
  have t3 : ∀ w : World, (Instr.typeAssert (.iface 114 (OpV 10 (0) (v))) 92 107 true).run Tryz.prog w = .ok (.tuple #[OpV 0 0 0, .bool false]) w := fun _ => by kernel_rfl
  have t4 : ∀ w : World, (Instr.typeAssert (.iface 114 (OpV 10 (0) (v))) 92 108 true).run Tryz.prog w = .ok (.tuple #[OpV 0 0 0, .bool false]) w := fun _ => by kernel_rfl
  have t5 : ∀ w : World, (Instr.typeAssert (.iface 114 (OpV 10 (0) (v))) 92 109 true).run Tryz.prog w = .ok (.tuple #[OpV 0 0 0, .bool false]) w := fun _ => by kernel_rfl
  have t6 : ∀ w : World, (Instr.typeAssert (.iface 114 (OpV 10 (0) (v))) 92 110 true).run Tryz.prog w = .ok (.tuple #[OpV 0 0 0, .bool false]) w := fun _ => by kernel_rfl
  have t7 : ∀ w : World, (Instr.typeAssert (.iface 114 (OpV 10 (0) (v))) 92 111 true).run Tryz.prog w = .ok (.tuple #[OpV 0 0 0, .bool false]) w := fun _ => by kernel_rfl
  have t8 : ∀ w : World, (Instr.typeAssert (.iface 114 (OpV 10 (0) (v))) 92 112 true).run Tryz.prog w = .ok (.tuple #[OpV 0 0 0, .bool false]) w := fun _ => by kernel_rfl
  have t9 : ∀ w : World, (Instr.typeAssert (.iface 114 (OpV 10 (0) (v))) 92 113 true).run Tryz.prog w = .ok (.tuple #[OpV 0 0 0, .bool false]) w := fun _ => by kernel_rfl
  have t10 : ∀ w : World, (Instr.typeAssert (.iface 114 (OpV 10 (0) (v))) 92 114 true).run Tryz.prog w = .ok (.tuple #[OpV 10 (0) (v), .bool true]) w := fun _ => by kernel_rfl
  go_enter Tryz.func50, Tryz.ntmps50
  go_wp2_with fail
  rw [← hW0]
  clear hW0
  have hb9 : Below (w.heap.size + 1 + 1) W0 W0 := Below.refl _ _
  go_region_held3 (fun w' => w'.cell? ⟨w.heap.size, 0, none⟩ = some (.slice (some ⟨p, o, none⟩) 4 cp) ∧ w'.cell? ⟨w.heap.size, 1, none⟩ = some (.int .i64 st) ∧ w'.cell? ⟨w.heap.size + 1, 1, none⟩ = some (.int .i64 0) ∧ w'.cell? ⟨w.heap.size + 1, 2, none⟩ = some (.int .i64 v) ∧ w'.cell? ⟨p, o + j, none⟩ = some (I x))
      (first | (exact (HBX.out _ (by repeat first | exact hb9 | apply Below.drew | apply Below.alloc | omega | (simp; omega) | simp)).1) | go_keep)
      (first
      | (go_at_call 71
         refine (implKeyOf_room _ cp HCP.out st v xs _ (HA.out.below (HBX.out _ (by repeat first | exact hb9 | apply Below.drew | apply Below.alloc | omega | (simp; omega) | simp)).2 (Nat.le_refl _)) HI.out hv).mono ?_
         rintro e w1 ⟨rfl, hb1⟩
         rw [HQ.out]
         have hb9 : Below (w.heap.size + 1 + 1) W0 w1 := (show Below (w.heap.size + 1 + 1) W0 _ from (by repeat first | exact hb9 | apply Below.drew | apply Below.alloc | omega | (simp; omega) | simp)).trans (hb1.mono (by simp [hs0]))
         have hs1 : w.heap.size + 1 + 1 ≤ w1.heap.size := by have h := hb9.size; omega))
  go_wp2_with fail
  try rw [HD1.out]
  try rw [HD2.out]
  refine (or_no _ _ _ _ _ _).mono ?_
  rintro e w8 ⟨rfl, rfl⟩
  go_wp2_with fail
  try rw [HD1.out]
  try rw [HD2.out]
  refine (or_no _ _ _ _ _ _).mono ?_
  rintro e w8 ⟨rfl, rfl⟩
  go_wp2_with fail
  try rw [HD1.out]
  try rw [HD2.out]
  refine (or_on (w.heap.size + 1 + 1) W0 _ _ _ _ _ _ _ (by repeat first | exact hc9 | exact com_empty_at rfl (by omega) | exact com_empty_drew rfl (by omega) | exact com_empty_drew (by simp [hs0]) (by omega) | exact com_empty_at (by simp [hs0]) (by omega) | apply World.ownsRow.alloc) (by simp) (by repeat first | exact hb9 | apply Below.drew | apply Below.alloc | omega | (simp; omega) | simp) (by omega)).mono ?_
  rintro e w9 ⟨v9, rfl, hc9, hg9, hb9⟩
  have hs9 : w.heap.size + 1 + 1 ≤ w9.heap.size := by have h := hb9.size; omega
  go_wp2
  go_ret
  first | exact ⟨com_done (by omega) hc9 (tells_l (one_at (hg9.cell (by first | exact told_first rfl | exact told_second rfl) (by simp [Value.ownBlock]))) _), (HBX.out _ hb9).2⟩ | exact ⟨com_done (by omega) hc9 (tells_l (one_at (hg9.cell (by first | exact told_first_drew rfl | exact told_second_drew rfl) (by simp [Value.ownBlock]))) _), (HBX.out _ hb9).2⟩
theorem comR_5_0 (p o cp : Nat) (hcp : 4 ≤ cp) (j : Nat) (st x : Int) (xs : List Int) (w : World) (hA : IntAt w (some ⟨p, o, none⟩) 4 xs) (hi : ∀ x ∈ xs, (Lit.int .i64 x).wf = true) (hj : j < 4) (hx : xs.getD j 0 = x) (v q : Int) (hv : 1 ≤ v ∧ v ≤ 6) (hq : keyN xs v = q) (hq0 : q < 0) :
    Calls Tryz.prog 50 #[.agg #[.slice (some ⟨p, o, none⟩) 4 cp, .int .i64 st], .iface 109 (OpV 5 (0) (v))] w fun e w' => ComSays e w w' [(3, [])] ∧ Below w.heap.size w w' := by
  have hc : w.cell? ⟨p, o + j, none⟩ = some (I x) := by have h := hA.cells j hj; rwa [hx] at h
  have hp : p < w.heap.size := World.block_lt_of_cell? w _ hc
  have hj0 : (0 : Int) ≤ (j : Int) := by omega
  have hj1 : (j : Int) < 4 := by omega
  have HA : Hid (IntAt w (some ⟨p, o, none⟩) 4 xs) := hA
  have HI : Hid (∀ x ∈ xs, (Lit.int .i64 x).wf = true) := hi
  have HCP : Hid (4 ≤ cp) := hcp
  clear hA hi hx hcp
  have HQ : Hid (keyN xs v = q) := hq
  clear hq
  have hq1 : ¬ 0 ≤ q := by omega
  have HD1 : Hid (decide (0 ≤ q) = false) := decide_eq_false hq1
  have HD2 : Hid (decide (q < 0) = true) := decide_eq_true hq0
  obtain ⟨W0, hW0⟩ : ∃ W0, W0 = (w.alloc (.cells #[.slice (some ⟨p, o, none⟩) 4 cp, .int .i64 st] 29)).alloc (.cells #[.int .i64 5, .int .i64 0, .int .i64 v] 109) := ⟨_, rfl⟩
  have hs0 : W0.heap.size = w.heap.size + 1 + 1 := by rw [hW0]; simp
  have HBX : Hid (∀ w', Below (w.heap.size + 1 + 1) W0 w' → (w'.cell? ⟨w.heap.size, 0, none⟩ = some (.slice (some ⟨p, o, none⟩) 4 cp) ∧ w'.cell? ⟨w.heap.size, 1, none⟩ = some (.int .i64 st) ∧ w'.cell? ⟨w.heap.size + 1, 1, none⟩ = some (.int .i64 0) ∧ w'.cell? ⟨w.heap.size + 1, 2, none⟩ = some (.int .i64 v) ∧ w'.cell? ⟨p, o + j, none⟩ = some (I x)) ∧ Below w.heap.size w w') := fun w' hb => com_boxesR hc hW0 hb
  have t1 : ∀ w : World, (Instr.typeAssert (.iface 109 (OpV 5 (0) (v))) 92 104 true).run Tryz.prog w = .ok (.tuple #[OpV 0 0 0, .bool false]) w := fun _ => by kernel_rfl
  have t2 : ∀ w : World, (Instr.typeAssert (.iface 109 (OpV 5 (0) (v))) 92 106 true).run Tryz.prog w = .ok (.tuple #[OpV 0 0 0, .bool false]) w := fun _ => by kernel_rfl
  have t3 : ∀ w : World, (Instr.typeAssert (.iface 109 (OpV 5 (0) (v))) 92 107 true).run Tryz.prog w = .ok (.tuple #[OpV 0 0 0, .bool false]) w := fun _ => by kernel_rfl
  have t4 : ∀ w : World, (Instr.typeAssert (.iface 109 (OpV 5 (0) (v))) 92 108 true).run Tryz.prog w = .ok (.tuple #[OpV 0 0 0, .bool false]) w := fun _ => by kernel_rfl
  have t5 : ∀ w : World, (Instr.typeAssert (.iface 109 (OpV 5 (0) (v))) 92 109 true).run Tryz.prog w = .ok (.tuple #[OpV 5 (0) (v), .bool true]) w := fun _ => by kernel_rfl
  go_enter Tryz.func50, Tryz.ntmps50
  go_wp2_with fail
  rw [← hW0]
  clear hW0
  have hb9 : Below (w.heap.size + 1 + 1) W0 W0 := Below.refl _ _
  refine (implKeyOf_room _ cp HCP.out st v xs _ (HA.out.below (HBX.out _ (by repeat first | exact hb9 | apply Below.drew | apply Below.alloc | omega | (simp; omega) | simp)).2 (Nat.le_refl _)) HI.out hv).mono ?_
  rintro e w1 ⟨rfl, hb1⟩
  rw [HQ.out]
  have hb9 : Below (w.heap.size + 1 + 1) W0 w1 := hb9.trans (hb1.mono (by omega))
  have hs1 : w.heap.size + 1 + 1 ≤ w1.heap.size := by have h := hb9.size; omega
  go_wp2_with fail
  try rw [HD1.out]
  try rw [HD2.out]
  refine (or_on (w.heap.size + 1 + 1) W0 _ _ _ _ _ _ _ (by repeat first | exact hc9 | exact com_empty_at rfl (by omega) | exact com_empty_drew rfl (by omega) | exact com_empty_drew (by simp [hs0]) (by omega) | exact com_empty_at (by simp [hs0]) (by omega) | apply World.ownsRow.alloc) (by simp) (by repeat first | exact hb9 | apply Below.drew | apply Below.alloc | omega | (simp; omega) | simp) (by omega)).mono ?_
  rintro e w9 ⟨v9, rfl, hc9, hg9, hb9⟩
  have hs9 : w.heap.size + 1 + 1 ≤ w9.heap.size := by have h := hb9.size; omega
  go_wp2_with fail
  try rw [HD1.out]
  try rw [HD2.out]
  refine (or_no _ _ _ _ _ _).mono ?_
  rintro e w8 ⟨rfl, rfl⟩
  go_wp2
  go_ret
  first | exact ⟨com_done (by omega) hc9 (tells_1 _ _), (HBX.out _ hb9).2⟩ | exact ⟨com_done (by omega) (hc9.alloc _) (tells_1 _ _), (HBX.out _ (hb9.alloc (by omega) _)).2⟩

theorem comR_5_1 (p o cp : Nat) (hcp : 4 ≤ cp) (j : Nat) (st x : Int) (xs : List Int) (w : World) (hA : IntAt w (some ⟨p, o, none⟩) 4 xs) (hi : ∀ x ∈ xs, (Lit.int .i64 x).wf = true) (hj : j < 4) (hx : xs.getD j 0 = x) (v q : Int) (hv : 1 ≤ v ∧ v ≤ 6) (hq : keyN xs v = q) (hq0 : 0 ≤ q) :
    Calls Tryz.prog 50 #[.agg #[.slice (some ⟨p, o, none⟩) 4 cp, .int .i64 st], .iface 109 (OpV 5 (0) (v))] w fun e w' => ComSays e w w' [(0, [q])] ∧ Below w.heap.size w w' := by
  have hc : w.cell? ⟨p, o + j, none⟩ = some (I x) := by have h := hA.cells j hj; rwa [hx] at h
  have hp : p < w.heap.size := World.block_lt_of_cell? w _ hc
  have hj0 : (0 : Int) ≤ (j : Int) := by omega
  have hj1 : (j : Int) < 4 := by omega
  have HA : Hid (IntAt w (some ⟨p, o, none⟩) 4 xs) := hA
  have HI : Hid (∀ x ∈ xs, (Lit.int .i64 x).wf = true) := hi
  have HCP : Hid (4 ≤ cp) := hcp
  clear hA hi hx hcp
  have HQ : Hid (keyN xs v = q) := hq
  clear hq
  have hq1 : ¬ q < 0 := by omega
  have HD1 : Hid (decide (0 ≤ q) = true) := decide_eq_true hq0
  have HD2 : Hid (decide (q < 0) = false) := decide_eq_false hq1
  obtain ⟨W0, hW0⟩ : ∃ W0, W0 = (w.alloc (.cells #[.slice (some ⟨p, o, none⟩) 4 cp, .int .i64 st] 29)).alloc (.cells #[.int .i64 5, .int .i64 0, .int .i64 v] 109) := ⟨_, rfl⟩
  have hs0 : W0.heap.size = w.heap.size + 1 + 1 := by rw [hW0]; simp
  have HBX : Hid (∀ w', Below (w.heap.size + 1 + 1) W0 w' → (w'.cell? ⟨w.heap.size, 0, none⟩ = some (.slice (some ⟨p, o, none⟩) 4 cp) ∧ w'.cell? ⟨w.heap.size, 1, none⟩ = some (.int .i64 st) ∧ w'.cell? ⟨w.heap.size + 1, 1, none⟩ = some (.int .i64 0) ∧ w'.cell? ⟨w.heap.size + 1, 2, none⟩ = some (.int .i64 v) ∧ w'.cell? ⟨p, o + j, none⟩ = some (I x)) ∧ Below w.heap.size w w') := fun w' hb => com_boxesR hc hW0 hb
  have t1 : ∀ w : World, (Instr.typeAssert (.iface 109 (OpV 5 (0) (v))) 92 104 true).run Tryz.prog w = .ok (.tuple #[OpV 0 0 0, .bool false]) w := fun _ => by kernel_rfl
  have t2 : ∀ w : World, (Instr.typeAssert (.iface 109 (OpV 5 (0) (v))) 92 106 true).run Tryz.prog w = .ok (.tuple #[OpV 0 0 0, .bool false]) w := fun _ => by kernel_rfl
  have t3 : ∀ w : World, (Instr.typeAssert (.iface 109 (OpV 5 (0) (v))) 92 107 true).run Tryz.prog w = .ok (.tuple #[OpV 0 0 0, .bool false]) w := fun _ => by kernel_rfl
  have t4 : ∀ w : World, (Instr.typeAssert (.iface 109 (OpV 5 (0) (v))) 92 108 true).run Tryz.prog w = .ok (.tuple #[OpV 0 0 0, .bool false]) w := fun _ => by kernel_rfl
  have t5 : ∀ w : World, (Instr.typeAssert (.iface 109 (OpV 5 (0) (v))) 92 109 true).run Tryz.prog w = .ok (.tuple #[OpV 5 (0) (v), .bool true]) w := fun _ => by kernel_rfl
  go_enter Tryz.func50, Tryz.ntmps50
  go_wp2_with fail
  rw [← hW0]
  clear hW0
  have hb9 : Below (w.heap.size + 1 + 1) W0 W0 := Below.refl _ _
  refine (implKeyOf_room _ cp HCP.out st v xs _ (HA.out.below (HBX.out _ (by repeat first | exact hb9 | apply Below.drew | apply Below.alloc | omega | (simp; omega) | simp)).2 (Nat.le_refl _)) HI.out hv).mono ?_
  rintro e w1 ⟨rfl, hb1⟩
  rw [HQ.out]
  have hb9 : Below (w.heap.size + 1 + 1) W0 w1 := hb9.trans (hb1.mono (by omega))
  have hs1 : w.heap.size + 1 + 1 ≤ w1.heap.size := by have h := hb9.size; omega
  go_wp2_with fail
  try rw [HD1.out]
  try rw [HD2.out]
  refine (or_no _ _ _ _ _ _).mono ?_
  rintro e w8 ⟨rfl, rfl⟩
  go_wp2_with fail
  try rw [HD1.out]
  try rw [HD2.out]
  refine (or_on (w.heap.size + 1 + 1) W0 _ _ _ _ _ _ _ (by repeat first | exact hc9 | exact com_empty_at rfl (by omega) | exact com_empty_drew rfl (by omega) | exact com_empty_drew (by simp [hs0]) (by omega) | exact com_empty_at (by simp [hs0]) (by omega) | apply World.ownsRow.alloc) (by simp) (by repeat first | exact hb9 | apply Below.drew | apply Below.alloc | omega | (simp; omega) | simp) (by omega)).mono ?_
  rintro e w9 ⟨v9, rfl, hc9, hg9, hb9⟩
  have hs9 : w.heap.size + 1 + 1 ≤ w9.heap.size := by have h := hb9.size; omega
  go_wp2
  go_ret
  first | exact ⟨com_done (by omega) hc9 (tells_l (one_at (hg9.cell (by first | exact told_first rfl | exact told_second rfl) (by simp [Value.ownBlock]))) _), (HBX.out _ hb9).2⟩ | exact ⟨com_done (by omega) hc9 (tells_l (one_at (hg9.cell (by first | exact told_first_drew rfl | exact told_second_drew rfl) (by simp [Value.ownBlock]))) _), (HBX.out _ hb9).2⟩

theorem comR_7 (p o cp : Nat) (hcp : 4 ≤ cp) (j : Nat) (st x : Int) (xs : List Int) (w : World) (hA : IntAt w (some ⟨p, o, none⟩) 4 xs) (hi : ∀ x ∈ xs, (Lit.int .i64 x).wf = true) (hj : j < 4) (hx : xs.getD j 0 = x) :
    Calls Tryz.prog 50 #[.agg #[.slice (some ⟨p, o, none⟩) 4 cp, .int .i64 st], .iface 111 (OpV 7 (0) (0))] w fun e w' => ComSays e w w' [(0, xs)] ∧ Below w.heap.size w w' := by
  have hc : w.cell? ⟨p, o + j, none⟩ = some (I x) := by have h := hA.cells j hj; rwa [hx] at h
  have hp : p < w.heap.size := World.block_lt_of_cell? w _ hc
  have hj0 : (0 : Int) ≤ (j : Int) := by omega
  have hj1 : (j : Int) < 4 := by omega
  have HA : Hid (IntAt w (some ⟨p, o, none⟩) 4 xs) := hA
  have HI : Hid (∀ x ∈ xs, (Lit.int .i64 x).wf = true) := hi
  have HCP : Hid (4 ≤ cp) := hcp
  clear hA hi hx hcp
  obtain ⟨W0, hW0⟩ : ∃ W0, W0 = (w.alloc (.cells #[.slice (some ⟨p, o, none⟩) 4 cp, .int .i64 st] 29)).alloc (.cells #[.int .i64 7, .int .i64 0, .int .i64 0] 111) := ⟨_, rfl⟩
  have hs0 : W0.heap.size = w.heap.size + 1 + 1 := by rw [hW0]; simp
  have HBX : Hid (∀ w', Below (w.heap.size + 1 + 1) W0 w' → (w'.cell? ⟨w.heap.size, 0, none⟩ = some (.slice (some ⟨p, o, none⟩) 4 cp) ∧ w'.cell? ⟨w.heap.size, 1, none⟩ = some (.int .i64 st) ∧ w'.cell? ⟨w.heap.size + 1, 1, none⟩ = some (.int .i64 0) ∧ w'.cell? ⟨w.heap.size + 1, 2, none⟩ = some (.int .i64 0) ∧ w'.cell? ⟨p, o + j, none⟩ = some (I x)) ∧ Below w.heap.size w w') := fun w' hb => com_boxesR hc hW0 hb
  have t1 : ∀ w : World, (Instr.typeAssert (.iface 111 (OpV 7 (0) (0))) 92 104 true).run Tryz.prog w = .ok (.tuple #[OpV 0 0 0, .bool false]) w := fun _ => by kernel_rfl
  have t2 : ∀ w : World, (Instr.typeAssert (.iface 111 (OpV 7 (0) (0))) 92 106 true).run Tryz.prog w = .ok (.tuple #[OpV 0 0 0, .bool false]) w := fun _ => by kernel_rfl
  have t3 : ∀ w : World, (Instr.typeAssert (.iface 111 (OpV 7 (0) (0))) 92 107 true).run Tryz.prog w = .ok (.tuple #[OpV 0 0 0, .bool false]) w := fun _ => by kernel_rfl
  have t4 : ∀ w : World, (Instr.typeAssert (.iface 111 (OpV 7 (0) (0))) 92 108 true).run Tryz.prog w = .ok (.tuple #[OpV 0 0 0, .bool false]) w := fun _ => by kernel_rfl
  have t5 : ∀ w : World, (Instr.typeAssert (.iface 111 (OpV 7 (0) (0))) 92 109 true).run Tryz.prog w = .ok (.tuple #[OpV 0 0 0, .bool false]) w := fun _ => by kernel_rfl
  have t6 : ∀ w : World, (Instr.typeAssert (.iface 111 (OpV 7 (0) (0))) 92 110 true).run Tryz.prog w = .ok (.tuple #[OpV 0 0 0, .bool false]) w := fun _ => by kernel_rfl
  have t7 : ∀ w : World, (Instr.typeAssert (.iface 111 (OpV 7 (0) (0))) 92 111 true).run Tryz.prog w = .ok (.tuple #[OpV 7 (0) (0), .bool true]) w := fun _ => by kernel_rfl
  go_enter Tryz.func50, Tryz.ntmps50
  go_wp2_with fail
  rw [← hW0]
  clear hW0
  have hb9 : Below (w.heap.size + 1 + 1) W0 W0 := Below.refl _ _
  refine (or_on (w.heap.size + 1 + 1) W0 _ _ _ _ _ _ _ (by repeat first | exact hc9 | exact com_empty_at rfl (by omega) | exact com_empty_drew rfl (by omega) | exact com_empty_drew (by simp [hs0]) (by omega) | exact com_empty_at (by simp [hs0]) (by omega) | apply World.ownsRow.alloc) (by simp) (by repeat first | exact hb9 | apply Below.drew | apply Below.alloc | omega | (simp; omega) | simp) (by omega)).mono ?_
  rintro e w9 ⟨v9, rfl, hc9, hg9, hb9⟩
  have hs9 : w.heap.size + 1 + 1 ≤ w9.heap.size := by have h := hb9.size; omega
  go_wp2
  go_ret
  exact ⟨com_done (by omega) hc9 (tells_l (HA.out.below (HBX.out _ hb9).2 (Nat.le_refl _)) _), (HBX.out _ hb9).2⟩
theorem comR_6 (p o cp : Nat) (hcp : 4 ≤ cp) (j : Nat) (st x : Int) (xs : List Int) (w : World) (hA : IntAt w (some ⟨p, o, none⟩) 4 xs) (hi : ∀ x ∈ xs, (Lit.int .i64 x).wf = true) (hj : j < 4) (hx : xs.getD j 0 = x) (c : Int) :
    Calls Tryz.prog 50 #[.agg #[.slice (some ⟨p, o, none⟩) 4 cp, .int .i64 st], .iface 110 (OpV 6 (c) (0))] w fun e w' => ComSays e w w' [(0, [cntK xs c 4])] ∧ Below w.heap.size w w' := by
  have hc : w.cell? ⟨p, o + j, none⟩ = some (I x) := by have h := hA.cells j hj; rwa [hx] at h
  have hp : p < w.heap.size := World.block_lt_of_cell? w _ hc
  have hj0 : (0 : Int) ≤ (j : Int) := by omega
  have hj1 : (j : Int) < 4 := by omega
  have HA : Hid (IntAt w (some ⟨p, o, none⟩) 4 xs) := hA
  have HI : Hid (∀ x ∈ xs, (Lit.int .i64 x).wf = true) := hi
  have HCP : Hid (4 ≤ cp) := hcp
  clear hA hi hx hcp
  obtain ⟨W0, hW0⟩ : ∃ W0, W0 = (w.alloc (.cells #[.slice (some ⟨p, o, none⟩) 4 cp, .int .i64 st] 29)).alloc (.cells #[.int .i64 6, .int .i64 c, .int .i64 0] 110) := ⟨_, rfl⟩
  have hs0 : W0.heap.size = w.heap.size + 1 + 1 := by rw [hW0]; simp
  have HBX : Hid (∀ w', Below (w.heap.size + 1 + 1) W0 w' → (w'.cell? ⟨w.heap.size, 0, none⟩ = some (.slice (some ⟨p, o, none⟩) 4 cp) ∧ w'.cell? ⟨w.heap.size, 1, none⟩ = some (.int .i64 st) ∧ w'.cell? ⟨w.heap.size + 1, 1, none⟩ = some (.int .i64 c) ∧ w'.cell? ⟨w.heap.size + 1, 2, none⟩ = some (.int .i64 0) ∧ w'.cell? ⟨p, o + j, none⟩ = some (I x)) ∧ Below w.heap.size w w') := fun w' hb => com_boxesR hc hW0 hb
  have t1 : ∀ w : World, (Instr.typeAssert (.iface 110 (OpV 6 (c) (0))) 92 104 true).run Tryz.prog w = .ok (.tuple #[OpV 0 0 0, .bool false]) w := fun _ => by kernel_rfl
  have t2 : ∀ w : World, (Instr.typeAssert (.iface 110 (OpV 6 (c) (0))) 92 106 true).run Tryz.prog w = .ok (.tuple #[OpV 0 0 0, .bool false]) w := fun _ => by kernel_rfl
  have t3 : ∀ w : World, (Instr.typeAssert (.iface 110 (OpV 6 (c) (0))) 92 107 true).run Tryz.prog w = .ok (.tuple #[OpV 0 0 0, .bool false]) w := fun _ => by kernel_rfl
  have t4 : ∀ w : World, (Instr.typeAssert (.iface 110 (OpV 6 (c) (0))) 92 108 true).run Tryz.prog w = .ok (.tuple #[OpV 0 0 0, .bool false]) w := fun _ => by kernel_rfl
  have t5 : ∀ w : World, (Instr.typeAssert (.iface 110 (OpV 6 (c) (0))) 92 109 true).run Tryz.prog w = .ok (.tuple #[OpV 0 0 0, .bool false]) w := fun _ => by kernel_rfl
  have t6 : ∀ w : World, (Instr.typeAssert (.iface 110 (OpV 6 (c) (0))) 92 110 true).run Tryz.prog w = .ok (.tuple #[OpV 6 (c) (0), .bool true]) w := fun _ => by kernel_rfl
  go_enter Tryz.func50, Tryz.ntmps50
  go_wp2_with fail
  rw [← hW0]
  clear hW0
  have hb9 : Below (w.heap.size + 1 + 1) W0 W0 := Below.refl _ _
  refine (implHowMany_room _ cp HCP.out st c xs _ (HA.out.below (HBX.out _ (hb9.alloc (by omega) _)).2 (Nat.le_refl _)) HI.out).mono ?_
  rintro e w1 ⟨rfl, hb1⟩
  have hc9 : ComAt w1 (w.heap.size + 1 + 1) (.slice (some ⟨w.heap.size + 1 + 1, 0, none⟩) 0 0) [] := owns_below (com_empty_at hs0 (by omega)) hb1 (Nat.le_refl _)
  have hb9 : Below (w.heap.size + 1 + 1) W0 w1 := (hb9.alloc (by omega) _).trans (hb1.mono (by simp [hs0]))
  have hs1 : w.heap.size + 1 + 1 + 1 ≤ w1.heap.size := by have h := hb1.size; simp [hs0] at h; omega
  go_wp2_with fail
  refine (or_on (w.heap.size + 1 + 1) W0 _ _ _ _ _ _ _ (by repeat first | exact hc9 | exact com_empty_at rfl (by omega) | exact com_empty_drew rfl (by omega) | exact com_empty_drew (by simp [hs0]) (by omega) | exact com_empty_at (by simp [hs0]) (by omega) | apply World.ownsRow.alloc) (by simp) (by repeat first | exact hb9 | apply Below.drew | apply Below.alloc | omega | (simp; omega) | simp) (by omega)).mono ?_
  rintro e w9 ⟨v9, rfl, hc9, hg9, hb9⟩
  have hs9 : w.heap.size + 1 + 1 ≤ w9.heap.size := by have h := hb9.size; omega
  go_wp2
  go_ret
  exact ⟨com_done (by omega) hc9 (tells_l (one_at (hg9.cell (by simp) (by simp [Value.ownBlock]; omega))) _), (HBX.out _ hb9).2⟩
theorem comAnyR_1 (p o cp : Nat) (hcp : 4 ≤ cp) (st : Int) (xs : List Int) (w : World) (hA : IntAt w (some ⟨p, o, none⟩) 4 xs) (hi : ∀ x ∈ xs, (Lit.int .i64 x).wf = true) (k : Int) (hk : 0 ≤ k ∧ k ≤ 3) (v : Int) (hv : 1 ≤ v ∧ v ≤ 6) :
    Calls Tryz.prog 50 #[.agg #[.slice (some ⟨p, o, none⟩) 4 cp, .int .i64 st], DeedV 1 k v] w fun e w' => ComSays e w w' (comLL xs st 1 k v) ∧ Below w.heap.size w w' := by
  obtain ⟨j, rfl⟩ : ∃ j : Nat, k = j := ⟨k.toNat, by omega⟩
  have hj : j < 4 := by omega
  rw [show DeedV 1 (j : Int) v = .iface 104 (OpV 1 (j : Int) v) from rfl]
  by_cases h0 : xs.getD j 0 = 0
  · rcases (show keyN xs v < 0 ∨ 0 ≤ keyN xs v by omega) with hq | hq
    · rw [show comLL xs st 1 (j : Int) v = [(0, [])] by rw [comLL, if_pos rfl, atK_nat, if_pos h0, if_pos hq]]
      exact comR_1_00 p o cp hcp j st _ xs w hA hi hj rfl v _ hv rfl h0 hq
    · rw [show comLL xs st 1 (j : Int) v = [(2, [])] by rw [comLL, if_pos rfl, atK_nat, if_pos h0, if_neg (by omega)]]
      exact comR_1_01 p o cp hcp j st _ xs w hA hi hj rfl v _ hv rfl h0 hq
  · rcases (show keyN xs v < 0 ∨ 0 ≤ keyN xs v by omega) with hq | hq
    · rw [show comLL xs st 1 (j : Int) v = [(1, [])] by rw [comLL, if_pos rfl, atK_nat, if_neg h0, if_pos hq]]
      exact comR_1_10 p o cp hcp j st _ xs w hA hi hj rfl v _ hv rfl h0 hq
    · rw [show comLL xs st 1 (j : Int) v = [(1, []), (2, [])] by rw [comLL, if_pos rfl, atK_nat, if_neg h0, if_neg (by omega)]]
      exact comR_1_11 p o cp hcp j st _ xs w hA hi hj rfl v _ hv rfl h0 hq
theorem comAnyR_2 (p o cp : Nat) (hcp : 4 ≤ cp) (st : Int) (xs : List Int) (w : World) (hA : IntAt w (some ⟨p, o, none⟩) 4 xs) (hi : ∀ x ∈ xs, (Lit.int .i64 x).wf = true) (k : Int) (hk : 0 ≤ k ∧ k ≤ 3) (v : Int) (hv : 1 ≤ v ∧ v ≤ 6) :
    Calls Tryz.prog 50 #[.agg #[.slice (some ⟨p, o, none⟩) 4 cp, .int .i64 st], DeedV 2 k v] w fun e w' => ComSays e w w' (comLL xs st 2 k v) ∧ Below w.heap.size w w' := by
  obtain ⟨j, rfl⟩ : ∃ j : Nat, k = j := ⟨k.toNat, by omega⟩
  have hj : j < 4 := by omega
  rw [show DeedV 2 (j : Int) v = .iface 106 (OpV 2 (j : Int) v) from rfl]
  by_cases h0 : xs.getD j 0 = 0
  · rcases (show keyN xs v < 0 ∨ 0 ≤ keyN xs v by omega) with hq | hq
    · rw [show comLL xs st 2 (j : Int) v = [(3, [])] by rw [comLL, if_neg (by omega), if_pos rfl, atK_nat, if_pos h0, if_pos hq]]
      exact comR_2_00 p o cp hcp j st _ xs w hA hi hj rfl v _ hv rfl h0 hq
    · rw [show comLL xs st 2 (j : Int) v = [(3, []), (2, [])] by rw [comLL, if_neg (by omega), if_pos rfl, atK_nat, if_pos h0, if_neg (by omega)]]
      exact comR_2_01 p o cp hcp j st _ xs w hA hi hj rfl v _ hv rfl h0 hq
  · rcases (show keyN xs v < 0 ∨ 0 ≤ keyN xs v by omega) with hq | hq
    · rw [show comLL xs st 2 (j : Int) v = [(0, [])] by rw [comLL, if_neg (by omega), if_pos rfl, atK_nat, if_neg h0, if_pos hq]]
      exact comR_2_10 p o cp hcp j st _ xs w hA hi hj rfl v _ hv rfl h0 hq
    · by_cases he : keyN xs v = (j : Int)
      · rw [show comLL xs st 2 (j : Int) v = [(2, []), (0, [])] by rw [comLL, if_neg (by omega), if_pos rfl, atK_nat, if_neg h0, if_neg (by omega), if_pos he]]
        exact comR_2_11 p o cp hcp j st _ xs w hA hi hj rfl v _ hv rfl h0 hq he
      · rw [show comLL xs st 2 (j : Int) v = [(2, [])] by rw [comLL, if_neg (by omega), if_pos rfl, atK_nat, if_neg h0, if_neg (by omega), if_neg he]]
        exact comR_2_12 p o cp hcp j st _ xs w hA hi hj rfl v _ hv rfl h0 hq he
theorem comAnyR_3 (p o cp : Nat) (hcp : 4 ≤ cp) (st : Int) (xs : List Int) (w : World) (hA : IntAt w (some ⟨p, o, none⟩) 4 xs) (hi : ∀ x ∈ xs, (Lit.int .i64 x).wf = true) (k : Int) (hk : 0 ≤ k ∧ k ≤ 3) :
    Calls Tryz.prog 50 #[.agg #[.slice (some ⟨p, o, none⟩) 4 cp, .int .i64 st], DeedV 3 k 0] w fun e w' => ComSays e w w' (comLL xs st 3 k 0) ∧ Below w.heap.size w w' := by
  obtain ⟨j, rfl⟩ : ∃ j : Nat, k = j := ⟨k.toNat, by omega⟩
  have hj : j < 4 := by omega
  rw [show DeedV 3 (j : Int) 0 = .iface 107 (OpV 3 (j : Int) 0) from rfl]
  by_cases h0 : xs.getD j 0 = 0
  · rw [show comLL xs st 3 (j : Int) 0 = [(3, [])] by rw [comLL, if_neg (by omega), if_neg (by omega), if_pos rfl, atK_nat, if_pos h0]]
    exact comR_3_0 p o cp hcp j st _ xs w hA hi hj rfl h0
  · rw [show comLL xs st 3 (j : Int) 0 = [(0, [])] by rw [comLL, if_neg (by omega), if_neg (by omega), if_pos rfl, atK_nat, if_neg h0]]
    exact comR_3_1 p o cp hcp j st _ xs w hA hi hj rfl h0
theorem comAnyR_4 (p o cp : Nat) (hcp : 4 ≤ cp) (st : Int) (xs : List Int) (w : World) (hA : IntAt w (some ⟨p, o, none⟩) 4 xs) (hi : ∀ x ∈ xs, (Lit.int .i64 x).wf = true) (k : Int) (hk : 0 ≤ k ∧ k ≤ 3) :
    Calls Tryz.prog 50 #[.agg #[.slice (some ⟨p, o, none⟩) 4 cp, .int .i64 st], DeedV 4 k 0] w fun e w' => ComSays e w w' (comLL xs st 4 k 0) ∧ Below w.heap.size w w' := by
  obtain ⟨j, rfl⟩ : ∃ j : Nat, k = j := ⟨k.toNat, by omega⟩
  have hj : j < 4 := by omega
  rw [show DeedV 4 (j : Int) 0 = .iface 108 (OpV 4 (j : Int) 0) from rfl]
  by_cases h0 : xs.getD j 0 = 0
  · rw [show comLL xs st 4 (j : Int) 0 = [(3, [])] by rw [comLL, if_neg (by omega), if_neg (by omega), if_neg (by omega), if_pos rfl, atK_nat, if_pos h0]]
    exact comR_4_0 p o cp hcp j st _ xs w hA hi hj rfl h0
  · rw [show comLL xs st 4 (j : Int) 0 = [(0, [xs.getD j 0])] by rw [comLL, if_neg (by omega), if_neg (by omega), if_neg (by omega), if_pos rfl, atK_nat, if_neg h0]]
    exact comR_4_1 p o cp hcp j st _ xs w hA hi hj rfl h0
theorem comAnyR_5 (p o cp : Nat) (hcp : 4 ≤ cp) (st : Int) (xs : List Int) (w : World) (hA : IntAt w (some ⟨p, o, none⟩) 4 xs) (hi : ∀ x ∈ xs, (Lit.int .i64 x).wf = true) (v : Int) (hv : 1 ≤ v ∧ v ≤ 6) :
    Calls Tryz.prog 50 #[.agg #[.slice (some ⟨p, o, none⟩) 4 cp, .int .i64 st], DeedV 5 0 v] w fun e w' => ComSays e w w' (comLL xs st 5 0 v) ∧ Below w.heap.size w w' := by
  have hj : (0 : Nat) < 4 := by omega
  rw [show DeedV 5 0 v = .iface 109 (OpV 5 0 v) from rfl]
  rcases (show keyN xs v < 0 ∨ 0 ≤ keyN xs v by omega) with hq | hq
  · rw [show comLL xs st 5 0 v = [(3, [])] by rw [comLL, if_neg (by omega), if_neg (by omega), if_neg (by omega), if_neg (by omega), if_pos rfl, if_pos hq]]
    exact comR_5_0 p o cp hcp 0 st _ xs w hA hi hj rfl v _ hv rfl hq
  · rw [show comLL xs st 5 0 v = [(0, [keyN xs v])] by rw [comLL, if_neg (by omega), if_neg (by omega), if_neg (by omega), if_neg (by omega), if_pos rfl, if_neg (by omega)]]
    exact comR_5_1 p o cp hcp 0 st _ xs w hA hi hj rfl v _ hv rfl hq
theorem comAnyR_6 (p o cp : Nat) (hcp : 4 ≤ cp) (st : Int) (xs : List Int) (w : World) (hA : IntAt w (some ⟨p, o, none⟩) 4 xs) (hi : ∀ x ∈ xs, (Lit.int .i64 x).wf = true) (c : Int) :
    Calls Tryz.prog 50 #[.agg #[.slice (some ⟨p, o, none⟩) 4 cp, .int .i64 st], DeedV 6 c 0] w fun e w' => ComSays e w w' (comLL xs st 6 c 0) ∧ Below w.heap.size w w' := by
  have hj : (0 : Nat) < 4 := by omega
  rw [show DeedV 6 c 0 = .iface 110 (OpV 6 c 0) from rfl]
  rw [show comLL xs st 6 c 0 = [(0, [cntK xs c 4])] by rw [comLL, if_neg (by omega), if_neg (by omega), if_neg (by omega), if_neg (by omega), if_neg (by omega), if_pos rfl]]
  exact comR_6 p o cp hcp 0 st _ xs w hA hi hj rfl c
theorem comAnyR_7 (p o cp : Nat) (hcp : 4 ≤ cp) (st : Int) (xs : List Int) (w : World) (hA : IntAt w (some ⟨p, o, none⟩) 4 xs) (hi : ∀ x ∈ xs, (Lit.int .i64 x).wf = true) :
    Calls Tryz.prog 50 #[.agg #[.slice (some ⟨p, o, none⟩) 4 cp, .int .i64 st], DeedV 7 0 0] w fun e w' => ComSays e w w' (comLL xs st 7 0 0) ∧ Below w.heap.size w w' := by
  have hj : (0 : Nat) < 4 := by omega
  rw [show DeedV 7 0 0 = .iface 111 (OpV 7 0 0) from rfl]
  rw [show comLL xs st 7 0 0 = [(0, xs)] by rw [comLL, if_neg (by omega), if_neg (by omega), if_neg (by omega), if_neg (by omega), if_neg (by omega), if_neg (by omega), if_pos rfl]]
  exact comR_7 p o cp hcp 0 st _ xs w hA hi hj rfl
theorem comAnyR_8 (p o cp : Nat) (hcp : 4 ≤ cp) (st : Int) (xs : List Int) (w : World) (hA : IntAt w (some ⟨p, o, none⟩) 4 xs) (hi : ∀ x ∈ xs, (Lit.int .i64 x).wf = true) :
    Calls Tryz.prog 50 #[.agg #[.slice (some ⟨p, o, none⟩) 4 cp, .int .i64 st], DeedV 8 0 0] w fun e w' => ComSays e w w' (comLL xs st 8 0 0) ∧ Below w.heap.size w w' := by
  have hj : (0 : Nat) < 4 := by omega
  rw [show DeedV 8 0 0 = .iface 112 (OpV 8 0 0) from rfl]
  by_cases h0 : st = 0
  · rw [show comLL xs st 8 0 0 = [(0, [])] by rw [comLL, if_neg (by omega), if_neg (by omega), if_neg (by omega), if_neg (by omega), if_neg (by omega), if_neg (by omega), if_neg (by omega), if_pos rfl, if_pos h0]]
    exact comR_8_0 p o cp hcp 0 st _ xs w hA hi hj rfl h0
  · rw [show comLL xs st 8 0 0 = [(4, [])] by rw [comLL, if_neg (by omega), if_neg (by omega), if_neg (by omega), if_neg (by omega), if_neg (by omega), if_neg (by omega), if_neg (by omega), if_pos rfl, if_neg h0]]
    exact comR_8_1 p o cp hcp 0 st _ xs w hA hi hj rfl h0
theorem comAnyR_9 (p o cp : Nat) (hcp : 4 ≤ cp) (st : Int) (xs : List Int) (w : World) (hA : IntAt w (some ⟨p, o, none⟩) 4 xs) (hi : ∀ x ∈ xs, (Lit.int .i64 x).wf = true) :
    Calls Tryz.prog 50 #[.agg #[.slice (some ⟨p, o, none⟩) 4 cp, .int .i64 st], DeedV 9 0 0] w fun e w' => ComSays e w w' (comLL xs st 9 0 0) ∧ Below w.heap.size w w' := by
  have hj : (0 : Nat) < 4 := by omega
  rw [show DeedV 9 0 0 = .iface 113 (OpV 9 0 0) from rfl]
  by_cases h0 : st = 0
  · rw [show comLL xs st 9 0 0 = [(4, [])] by rw [comLL, if_neg (by omega), if_neg (by omega), if_neg (by omega), if_neg (by omega), if_neg (by omega), if_neg (by omega), if_neg (by omega), if_neg (by omega), if_pos rfl, if_pos h0]]
    exact comR_9_0 p o cp hcp 0 st _ xs w hA hi hj rfl h0
  · by_cases h5 : st = 5
    · rw [show comLL xs st 9 0 0 = [(4, [])] by rw [comLL, if_neg (by omega), if_neg (by omega), if_neg (by omega), if_neg (by omega), if_neg (by omega), if_neg (by omega), if_neg (by omega), if_neg (by omega), if_pos rfl, if_neg h0, if_pos h5]]
      exact comR_9_5 p o cp hcp 0 st _ xs w hA hi hj rfl h0 h5
    · rw [show comLL xs st 9 0 0 = [(0, [])] by rw [comLL, if_neg (by omega), if_neg (by omega), if_neg (by omega), if_neg (by omega), if_neg (by omega), if_neg (by omega), if_neg (by omega), if_neg (by omega), if_pos rfl, if_neg h0, if_neg h5]]
      exact comR_9_1 p o cp hcp 0 st _ xs w hA hi hj rfl h0 h5
theorem comAnyR_10 (p o cp : Nat) (hcp : 4 ≤ cp) (st : Int) (xs : List Int) (w : World) (hA : IntAt w (some ⟨p, o, none⟩) 4 xs) (hi : ∀ x ∈ xs, (Lit.int .i64 x).wf = true) (v : Int) (hv : 1 ≤ v ∧ v ≤ 6) :
    Calls Tryz.prog 50 #[.agg #[.slice (some ⟨p, o, none⟩) 4 cp, .int .i64 st], DeedV 10 0 v] w fun e w' => ComSays e w w' (comLL xs st 10 0 v) ∧ Below w.heap.size w w' := by
  have hj : (0 : Nat) < 4 := by omega
  rw [show DeedV 10 0 v = .iface 114 (OpV 10 0 v) from rfl]
  by_cases h5 : st = 5
  · rcases (show keyN xs v < 0 ∨ 0 ≤ keyN xs v by omega) with hq | hq
    · rw [show comLL xs st 10 0 v = [(3, [])] by rw [comLL, if_neg (by omega), if_neg (by omega), if_neg (by omega), if_neg (by omega), if_neg (by omega), if_neg (by omega), if_neg (by omega), if_neg (by omega), if_neg (by omega), if_pos h5, if_pos hq]]
      exact comR_10_0 p o cp hcp 0 st _ xs w hA hi hj rfl v _ hv rfl h5 hq
    · rw [show comLL xs st 10 0 v = [(0, [keyN xs v])] by rw [comLL, if_neg (by omega), if_neg (by omega), if_neg (by omega), if_neg (by omega), if_neg (by omega), if_neg (by omega), if_neg (by omega), if_neg (by omega), if_neg (by omega), if_pos h5, if_neg (by omega)]]
      exact comR_10_1 p o cp hcp 0 st _ xs w hA hi hj rfl v _ hv rfl h5 hq
  · rw [show comLL xs st 10 0 v = [(4, [])] by rw [comLL, if_neg (by omega), if_neg (by omega), if_neg (by omega), if_neg (by omega), if_neg (by omega), if_neg (by omega), if_neg (by omega), if_neg (by omega), if_neg (by omega), if_neg h5]]
    rcases (show keyN xs v < 0 ∨ 0 ≤ keyN xs v by omega) with hq | hq
    · exact comR_10_n p o cp hcp 0 st _ xs w hA hi hj rfl v _ hv rfl h5 hq
    · exact comR_10_m p o cp hcp 0 st _ xs w hA hi hj rfl v _ hv rfl h5 hq

theorem comAnyR (p o cp : Nat) (hcp : 4 ≤ cp) (st kind k v : Int) (xs : List Int) (w : World) (hA : IntAt w (some ⟨p, o, none⟩) 4 xs) (hi : ∀ x ∈ xs, (Lit.int .i64 x).wf = true) (hop : OpGood kind k v) :
    Calls Tryz.prog 50 #[.agg #[.slice (some ⟨p, o, none⟩) 4 cp, .int .i64 st], DeedV kind k v] w fun e w' => ComSays e w w' (comLL xs st kind k v) ∧ Below w.heap.size w w' := by
  obtain ⟨hk, hkey, hval⟩ := hop
  unfold KeyGood at hkey
  unfold ValGood at hval
  rcases kinds hk with rfl | rfl | rfl | rfl | rfl | rfl | rfl | rfl | rfl | rfl
  · exact comAnyR_1 p o cp hcp st xs w hA hi k (by omega) v (by omega)
  · exact comAnyR_2 p o cp hcp st xs w hA hi k (by omega) v (by omega)
  · obtain rfl : v = 0 := by omega
    exact comAnyR_3 p o cp hcp st xs w hA hi k (by omega)
  · obtain rfl : v = 0 := by omega
    exact comAnyR_4 p o cp hcp st xs w hA hi k (by omega)
  · obtain rfl : k = 0 := by omega
    exact comAnyR_5 p o cp hcp st xs w hA hi v (by omega)
  · obtain rfl : v = 0 := by omega
    exact comAnyR_6 p o cp hcp st xs w hA hi k
  · obtain rfl : v = 0 := by omega
    obtain rfl : k = 0 := by omega
    exact comAnyR_7 p o cp hcp st xs w hA hi
  · obtain rfl : v = 0 := by omega
    obtain rfl : k = 0 := by omega
    exact comAnyR_8 p o cp hcp st xs w hA hi
  · obtain rfl : v = 0 := by omega
    obtain rfl : k = 0 := by omega
    exact comAnyR_9 p o cp hcp st xs w hA hi
  · obtain rfl : k = 0 := by omega
    exact comAnyR_10 p o cp hcp st xs w hA hi v (by omega)
end
end Go.Proofs.YtecheopkfhfgkaaGreat
