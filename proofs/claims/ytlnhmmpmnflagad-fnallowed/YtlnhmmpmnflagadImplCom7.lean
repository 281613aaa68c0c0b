/- impl.comingsOf, walked: rows counted. -/
import Derived.Test.YtlnhmmpmnflagadComings
import Derived.Test.YtlnhmmpmnflagadImplHow
import Derived.Test.YtlnhmmpmnflagadImplOp
import Derived.Deep.RegionHeld3
namespace Go.Proofs.Ytlnhmmpmnflagad
open Go.ChangeShapes Go.WideShapes Go.ChangeAt Go.RowKit Go.Maps

set_option maxHeartbeats 4000000 in
set_option maxRecDepth 100000 in
theorem com_6 (p o j : Nat) (st x : Int) (xs : List Int) (w : World) (hA : IntAt w (some ⟨p, o, none⟩) 4 xs) (hi : ∀ x ∈ xs, (Lit.int .i64 x).wf = true) (hj : j < 4) (hx : xs.getD j 0 = x) (c : Int) :
    Calls Try.prog 23 #[.agg #[.slice (some ⟨p, o, none⟩) 4 4, .int .i64 st], .iface 78 (OpV 6 (c) (0))] w fun e w' => ComSays e w w' [(0, [cntK xs c 4])] ∧ Below w.heap.size w w' := by
  have hc : w.cell? ⟨p, o + j, none⟩ = some (I x) := by have h := hA.cells j hj; rwa [hx] at h
  have hp : p < w.heap.size := World.block_lt_of_cell? w _ hc
  have hj0 : (0 : Int) ≤ (j : Int) := by omega
  have hj1 : (j : Int) < 4 := by omega
  have HA : Hid (IntAt w (some ⟨p, o, none⟩) 4 xs) := hA
  have HI : Hid (∀ x ∈ xs, (Lit.int .i64 x).wf = true) := hi
  clear hA hi hx
  obtain ⟨W0, hW0⟩ : ∃ W0, W0 = (w.alloc (.cells #[.slice (some ⟨p, o, none⟩) 4 4, .int .i64 st] 26)).alloc (.cells #[.int .i64 6, .int .i64 c, .int .i64 0] 78) := ⟨_, rfl⟩
  have hs0 : W0.heap.size = w.heap.size + 1 + 1 := by rw [hW0]; simp
  have HBX : Hid (∀ w', Below (w.heap.size + 1 + 1) W0 w' → (w'.cell? ⟨w.heap.size, 0, none⟩ = some (.slice (some ⟨p, o, none⟩) 4 4) ∧ w'.cell? ⟨w.heap.size, 1, none⟩ = some (.int .i64 st) ∧ w'.cell? ⟨w.heap.size + 1, 1, none⟩ = some (.int .i64 c) ∧ w'.cell? ⟨w.heap.size + 1, 2, none⟩ = some (.int .i64 0) ∧ w'.cell? ⟨p, o + j, none⟩ = some (I x)) ∧ Below w.heap.size w w') := fun w' hb => com_boxes hc hW0 hb
  have t1 : ∀ w : World, (Instr.typeAssert (.iface 78 (OpV 6 (c) (0))) 52 71 true).run Try.prog w = .ok (.tuple #[OpV 0 0 0, .bool false]) w := fun _ => by kernel_rfl
  have t2 : ∀ w : World, (Instr.typeAssert (.iface 78 (OpV 6 (c) (0))) 52 74 true).run Try.prog w = .ok (.tuple #[OpV 0 0 0, .bool false]) w := fun _ => by kernel_rfl
  have t3 : ∀ w : World, (Instr.typeAssert (.iface 78 (OpV 6 (c) (0))) 52 75 true).run Try.prog w = .ok (.tuple #[OpV 0 0 0, .bool false]) w := fun _ => by kernel_rfl
  have t4 : ∀ w : World, (Instr.typeAssert (.iface 78 (OpV 6 (c) (0))) 52 76 true).run Try.prog w = .ok (.tuple #[OpV 0 0 0, .bool false]) w := fun _ => by kernel_rfl
  have t5 : ∀ w : World, (Instr.typeAssert (.iface 78 (OpV 6 (c) (0))) 52 77 true).run Try.prog w = .ok (.tuple #[OpV 0 0 0, .bool false]) w := fun _ => by kernel_rfl
  have t6 : ∀ w : World, (Instr.typeAssert (.iface 78 (OpV 6 (c) (0))) 52 78 true).run Try.prog w = .ok (.tuple #[OpV 6 (c) (0), .bool true]) w := fun _ => by kernel_rfl
  go_enter Try.func23, Try.ntmps23
  go_wp2_with fail
  rw [← hW0]
  clear hW0
  have hb9 : Below (w.heap.size + 1 + 1) W0 W0 := Below.refl _ _
  refine (implHowMany_four _ st c xs _ (HA.out.below (HBX.out _ (hb9.alloc (by omega) _)).2 (Nat.le_refl _)) HI.out).mono ?_
  rintro e w1 ⟨rfl, hb1⟩
  have hc9 : ComAt w1 (w.heap.size + 1 + 1) (.slice (some ⟨w.heap.size + 1 + 1, 0, none⟩) 0 0) [] := owns_below (com_empty_at hs0 (by omega)) hb1 (Nat.le_refl _)
  have hb9 : Below (w.heap.size + 1 + 1) W0 w1 := (hb9.alloc (by omega) _).trans (hb1.mono (by simp [hs0]))
  have hs1 : w.heap.size + 1 + 1 + 1 ≤ w1.heap.size := by have h := hb1.size; simp [hs0] at h; omega
  go_wp2_with fail
  refine (or_on (w.heap.size + 1 + 1) W0 _ _ _ _ _ _ _ (by first | exact hc9 | exact hc9.alloc _ | exact com_empty_at rfl (by omega) | exact (com_empty_at rfl (by omega)).alloc _ | exact com_empty_drew rfl (by omega) | exact (com_empty_drew rfl (by omega)).alloc _ | exact com_empty_drew (by simp [hs0]) (by omega) | exact com_empty_at (by simp [hs0]) (by omega) | exact (com_empty_drew (by simp [hs0]) (by omega)).alloc _ | exact (com_empty_at (by simp [hs0]) (by omega)).alloc _) (by simp) (by first | exact hb9 | exact hb9.drew | exact hb9.alloc (by omega) _ | exact (hb9.alloc (by omega) _).drew | exact (hb9.alloc (by omega) _).alloc (by simp; omega) _ | exact ((hb9.alloc (by omega) _).alloc (by simp; omega) _).drew) (by omega)).mono ?_
  rintro e w9 ⟨v9, rfl, hc9, hg9, hb9⟩
  have hs9 : w.heap.size + 1 + 1 ≤ w9.heap.size := by have h := hb9.size; omega
  go_wp2
  go_ret
  exact ⟨com_done (by omega) hc9 (tells_l (one_at (hg9.cell (by simp) (by simp [Value.ownBlock]; omega))) _), (HBX.out _ hb9).2⟩
end Go.Proofs.Ytlnhmmpmnflagad
