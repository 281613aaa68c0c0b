/- Texts joined: ImplOp, ImplTx, ImplNums, Within, ImplRt, EndedO, EightB, ImplCt, SpecCt, Dat. -/
import Derived.Test.YtkbodiggdajbeaaDoorCT01
import Derived.Test.YtkbodiggdajbeaaDoorCT02
import Derived.Test.YtkbodiggdajbeaaDoorRows
import Derived.Deep.RegionHeld3
import Derived.Deep.Cut
/- impl.deedOf and impl.OpOk, walked. -/
namespace Go.Proofs.YtkbodiggdajbeaaDoor
open Go.ChangeShapes Go.WideShapes Go.ChangeAt Go.RowKit

/-- The type of an op of that kind. -/
def deedT (kind : Int) : TypeId :=
  if kind = 1 then 95 else if kind = 2 then 96 else if kind = 3 then 97
  else if kind = 4 then 98 else if kind = 5 then 99 else if kind = 6 then 100
  else if kind = 7 then 101 else if kind = 8 then 102 else if kind = 9 then 103
  else if kind = 10 then 104 else 105
/-- An op of its own kind as a value. -/
abbrev DeedV (kind k v : Int) : Value := .iface (deedT kind) (OpV kind k v)

set_option maxHeartbeats 2000000 in
theorem implDeedOf_any (kind k v : Int) (w : World) :
    Calls Tryd.prog 48 #[OpV kind k v] w fun e w' => e = .returned (DeedV kind k v) ∧ Below w.heap.size w w' := by
  by_cases h : 1 ≤ kind ∧ kind ≤ 10
  · rcases kinds h with rfl | rfl | rfl | rfl | rfl | rfl | rfl | rfl | rfl | rfl
    all_goals
      go_enter Tryd.func48, Tryd.ntmps48
      go_wp2
      go_ret
      exact ⟨rfl, (Below.refl _ _).alloc (Nat.le_refl _) _⟩
  · have hT : deedT kind = 105 := by
      unfold deedT
      rw [if_neg (by omega), if_neg (by omega), if_neg (by omega), if_neg (by omega), if_neg (by omega), if_neg (by omega), if_neg (by omega), if_neg (by omega), if_neg (by omega), if_neg (by omega)]
    have h1 : (kind == 1) = false := by simp; omega
    have h2 : (kind == 2) = false := by simp; omega
    have h3 : (kind == 3) = false := by simp; omega
    have h4 : (kind == 4) = false := by simp; omega
    have h5 : (kind == 5) = false := by simp; omega
    have h6 : (kind == 6) = false := by simp; omega
    have h7 : (kind == 7) = false := by simp; omega
    have h8 : (kind == 8) = false := by simp; omega
    have h9 : (kind == 9) = false := by simp; omega
    have h10 : (kind == 10) = false := by simp; omega
    rw [show DeedV kind k v = .iface 105 (OpV kind k v) by rw [DeedV, hT]]
    clear hT h
    go_enter Tryd.func48, Tryd.ntmps48
    go_wp2
    go_ret
    exact ⟨rfl, (Below.refl _ _).alloc (Nat.le_refl _) _⟩

set_option maxHeartbeats 2000000 in
theorem fits_1 (k v : Int) (w : World) :
    Calls Tryd.prog 87 #[OpV 1 k v] w fun e w' => e = .returned (.bool (decide ((0 ≤ k ∧ k ≤ 3) ∧ (1 ≤ v ∧ v ≤ 6)))) ∧ Below w.heap.size w w' := by
  obtain ⟨B, hB⟩ : ∃ B, decide ((0 ≤ k ∧ k ≤ 3) ∧ (1 ≤ v ∧ v ≤ 6)) = B := ⟨_, rfl⟩
  rw [hB]
  have HB : Hid (decide ((0 ≤ k ∧ k ≤ 3) ∧ (1 ≤ v ∧ v ≤ 6)) = B) := hB
  clear hB
  rcases tri 0 3 k (by decide) with ⟨h0, h1⟩ | ⟨h0, h1⟩ | ⟨h0, h1⟩ <;> rcases tri 1 6 v (by decide) with ⟨g0, g1⟩ | ⟨g0, g1⟩ | ⟨g0, g1⟩
  all_goals
    go_enter Tryd.func87, Tryd.ntmps87
    go_wp2
    go_ret
    refine ⟨?_, (Below.refl _ _).alloc (Nat.le_refl _) _⟩
    rw [← HB.out]
    first
      | exact says_true (by omega)
      | exact says_false (by omega)
set_option maxHeartbeats 2000000 in
set_option maxRecDepth 100000 in
theorem implOpOk_1 (k v : Int) (w : World) :
    Calls Tryd.prog 39 #[OpV 1 k v] w fun e w' => e = .returned (.bool (decide ((0 ≤ k ∧ k ≤ 3) ∧ (1 ≤ v ∧ v ≤ 6)))) ∧ Below w.heap.size w w' := by
  have hm : ∀ w : World, (method 237 95 (OpV 1 k v) "loop.example/g00468/impl.fits").run Tryd.prog w = .ok (87, OpV 1 k v) w := fun _ => by kernel_rfl
  obtain ⟨B, hB⟩ : ∃ B, decide ((0 ≤ k ∧ k ≤ 3) ∧ (1 ≤ v ∧ v ≤ 6)) = B := ⟨_, rfl⟩
  rw [hB]
  have HB : Hid (decide ((0 ≤ k ∧ k ≤ 3) ∧ (1 ≤ v ∧ v ≤ 6)) = B) := hB
  clear hB
  go_enter Tryd.func39, Tryd.ntmps39
  go_wp2_with fail
  refine (implDeedOf_any 1 k v _).mono ?_
  rintro e w1 ⟨rfl, hb1⟩
  rw [show DeedV 1 k v = .iface 95 (OpV 1 k v) from rfl]
  go_wp2_with fail
  refine (fits_1 k v _).mono ?_
  rintro e w2 ⟨rfl, hb2⟩
  rw [HB.out]
  have hs : w.heap.size + 1 ≤ w1.heap.size := by simpa using hb1.size
  have hall : Below w.heap.size w w2 := (((Below.refl _ w).alloc (Nat.le_refl _) _).trans (hb1.mono (by simp))).trans (hb2.mono (by omega))
  clear hb1 hb2 hm
  go_wp2
  go_ret
  exact ⟨rfl, hall⟩

set_option maxHeartbeats 2000000 in
theorem fits_2 (k v : Int) (w : World) :
    Calls Tryd.prog 90 #[OpV 2 k v] w fun e w' => e = .returned (.bool (decide ((0 ≤ k ∧ k ≤ 3) ∧ (1 ≤ v ∧ v ≤ 6)))) ∧ Below w.heap.size w w' := by
  obtain ⟨B, hB⟩ : ∃ B, decide ((0 ≤ k ∧ k ≤ 3) ∧ (1 ≤ v ∧ v ≤ 6)) = B := ⟨_, rfl⟩
  rw [hB]
  have HB : Hid (decide ((0 ≤ k ∧ k ≤ 3) ∧ (1 ≤ v ∧ v ≤ 6)) = B) := hB
  clear hB
  rcases tri 0 3 k (by decide) with ⟨h0, h1⟩ | ⟨h0, h1⟩ | ⟨h0, h1⟩ <;> rcases tri 1 6 v (by decide) with ⟨g0, g1⟩ | ⟨g0, g1⟩ | ⟨g0, g1⟩
  all_goals
    go_enter Tryd.func90, Tryd.ntmps90
    go_wp2
    go_ret
    refine ⟨?_, (Below.refl _ _).alloc (Nat.le_refl _) _⟩
    rw [← HB.out]
    first
      | exact says_true (by omega)
      | exact says_false (by omega)
set_option maxHeartbeats 2000000 in
set_option maxRecDepth 100000 in
theorem implOpOk_2 (k v : Int) (w : World) :
    Calls Tryd.prog 39 #[OpV 2 k v] w fun e w' => e = .returned (.bool (decide ((0 ≤ k ∧ k ≤ 3) ∧ (1 ≤ v ∧ v ≤ 6)))) ∧ Below w.heap.size w w' := by
  have hm : ∀ w : World, (method 237 96 (OpV 2 k v) "loop.example/g00468/impl.fits").run Tryd.prog w = .ok (90, OpV 2 k v) w := fun _ => by kernel_rfl
  obtain ⟨B, hB⟩ : ∃ B, decide ((0 ≤ k ∧ k ≤ 3) ∧ (1 ≤ v ∧ v ≤ 6)) = B := ⟨_, rfl⟩
  rw [hB]
  have HB : Hid (decide ((0 ≤ k ∧ k ≤ 3) ∧ (1 ≤ v ∧ v ≤ 6)) = B) := hB
  clear hB
  go_enter Tryd.func39, Tryd.ntmps39
  go_wp2_with fail
  refine (implDeedOf_any 2 k v _).mono ?_
  rintro e w1 ⟨rfl, hb1⟩
  rw [show DeedV 2 k v = .iface 96 (OpV 2 k v) from rfl]
  go_wp2_with fail
  refine (fits_2 k v _).mono ?_
  rintro e w2 ⟨rfl, hb2⟩
  rw [HB.out]
  have hs : w.heap.size + 1 ≤ w1.heap.size := by simpa using hb1.size
  have hall : Below w.heap.size w w2 := (((Below.refl _ w).alloc (Nat.le_refl _) _).trans (hb1.mono (by simp))).trans (hb2.mono (by omega))
  clear hb1 hb2 hm
  go_wp2
  go_ret
  exact ⟨rfl, hall⟩

set_option maxHeartbeats 2000000 in
theorem fits_3 (k v : Int) (w : World) :
    Calls Tryd.prog 91 #[OpV 3 k v] w fun e w' => e = .returned (.bool (decide ((0 ≤ k ∧ k ≤ 3) ∧ v = 0))) ∧ Below w.heap.size w w' := by
  obtain ⟨B, hB⟩ : ∃ B, decide ((0 ≤ k ∧ k ≤ 3) ∧ v = 0) = B := ⟨_, rfl⟩
  rw [hB]
  have HB : Hid (decide ((0 ≤ k ∧ k ≤ 3) ∧ v = 0) = B) := hB
  clear hB
  rcases tri 0 3 k (by decide) with ⟨h0, h1⟩ | ⟨h0, h1⟩ | ⟨h0, h1⟩ <;> rcases eqb v 0 with ⟨g0, g1⟩ | ⟨g0, g1⟩
  all_goals
    go_enter Tryd.func91, Tryd.ntmps91
    go_wp2
    go_ret
    refine ⟨?_, (Below.refl _ _).alloc (Nat.le_refl _) _⟩
    rw [← HB.out]
    first
      | exact says_true (by omega)
      | exact says_false (by omega)
set_option maxHeartbeats 2000000 in
set_option maxRecDepth 100000 in
theorem implOpOk_3 (k v : Int) (w : World) :
    Calls Tryd.prog 39 #[OpV 3 k v] w fun e w' => e = .returned (.bool (decide ((0 ≤ k ∧ k ≤ 3) ∧ v = 0))) ∧ Below w.heap.size w w' := by
  have hm : ∀ w : World, (method 237 97 (OpV 3 k v) "loop.example/g00468/impl.fits").run Tryd.prog w = .ok (91, OpV 3 k v) w := fun _ => by kernel_rfl
  obtain ⟨B, hB⟩ : ∃ B, decide ((0 ≤ k ∧ k ≤ 3) ∧ v = 0) = B := ⟨_, rfl⟩
  rw [hB]
  have HB : Hid (decide ((0 ≤ k ∧ k ≤ 3) ∧ v = 0) = B) := hB
  clear hB
  go_enter Tryd.func39, Tryd.ntmps39
  go_wp2_with fail
  refine (implDeedOf_any 3 k v _).mono ?_
  rintro e w1 ⟨rfl, hb1⟩
  rw [show DeedV 3 k v = .iface 97 (OpV 3 k v) from rfl]
  go_wp2_with fail
  refine (fits_3 k v _).mono ?_
  rintro e w2 ⟨rfl, hb2⟩
  rw [HB.out]
  have hs : w.heap.size + 1 ≤ w1.heap.size := by simpa using hb1.size
  have hall : Below w.heap.size w w2 := (((Below.refl _ w).alloc (Nat.le_refl _) _).trans (hb1.mono (by simp))).trans (hb2.mono (by omega))
  clear hb1 hb2 hm
  go_wp2
  go_ret
  exact ⟨rfl, hall⟩

set_option maxHeartbeats 2000000 in
theorem fits_4 (k v : Int) (w : World) :
    Calls Tryd.prog 92 #[OpV 4 k v] w fun e w' => e = .returned (.bool (decide ((0 ≤ k ∧ k ≤ 3) ∧ v = 0))) ∧ Below w.heap.size w w' := by
  obtain ⟨B, hB⟩ : ∃ B, decide ((0 ≤ k ∧ k ≤ 3) ∧ v = 0) = B := ⟨_, rfl⟩
  rw [hB]
  have HB : Hid (decide ((0 ≤ k ∧ k ≤ 3) ∧ v = 0) = B) := hB
  clear hB
  rcases tri 0 3 k (by decide) with ⟨h0, h1⟩ | ⟨h0, h1⟩ | ⟨h0, h1⟩ <;> rcases eqb v 0 with ⟨g0, g1⟩ | ⟨g0, g1⟩
  all_goals
    go_enter Tryd.func92, Tryd.ntmps92
    go_wp2
    go_ret
    refine ⟨?_, (Below.refl _ _).alloc (Nat.le_refl _) _⟩
    rw [← HB.out]
    first
      | exact says_true (by omega)
      | exact says_false (by omega)
set_option maxHeartbeats 2000000 in
set_option maxRecDepth 100000 in
theorem implOpOk_4 (k v : Int) (w : World) :
    Calls Tryd.prog 39 #[OpV 4 k v] w fun e w' => e = .returned (.bool (decide ((0 ≤ k ∧ k ≤ 3) ∧ v = 0))) ∧ Below w.heap.size w w' := by
  have hm : ∀ w : World, (method 237 98 (OpV 4 k v) "loop.example/g00468/impl.fits").run Tryd.prog w = .ok (92, OpV 4 k v) w := fun _ => by kernel_rfl
  obtain ⟨B, hB⟩ : ∃ B, decide ((0 ≤ k ∧ k ≤ 3) ∧ v = 0) = B := ⟨_, rfl⟩
  rw [hB]
  have HB : Hid (decide ((0 ≤ k ∧ k ≤ 3) ∧ v = 0) = B) := hB
  clear hB
  go_enter Tryd.func39, Tryd.ntmps39
  go_wp2_with fail
  refine (implDeedOf_any 4 k v _).mono ?_
  rintro e w1 ⟨rfl, hb1⟩
  rw [show DeedV 4 k v = .iface 98 (OpV 4 k v) from rfl]
  go_wp2_with fail
  refine (fits_4 k v _).mono ?_
  rintro e w2 ⟨rfl, hb2⟩
  rw [HB.out]
  have hs : w.heap.size + 1 ≤ w1.heap.size := by simpa using hb1.size
  have hall : Below w.heap.size w w2 := (((Below.refl _ w).alloc (Nat.le_refl _) _).trans (hb1.mono (by simp))).trans (hb2.mono (by omega))
  clear hb1 hb2 hm
  go_wp2
  go_ret
  exact ⟨rfl, hall⟩

set_option maxHeartbeats 2000000 in
theorem fits_5 (k v : Int) (w : World) :
    Calls Tryd.prog 93 #[OpV 5 k v] w fun e w' => e = .returned (.bool (decide (k = 0 ∧ (1 ≤ v ∧ v ≤ 6)))) ∧ Below w.heap.size w w' := by
  obtain ⟨B, hB⟩ : ∃ B, decide (k = 0 ∧ (1 ≤ v ∧ v ≤ 6)) = B := ⟨_, rfl⟩
  rw [hB]
  have HB : Hid (decide (k = 0 ∧ (1 ≤ v ∧ v ≤ 6)) = B) := hB
  clear hB
  rcases eqb k 0 with ⟨h0, h1⟩ | ⟨h0, h1⟩ <;> rcases tri 1 6 v (by decide) with ⟨g0, g1⟩ | ⟨g0, g1⟩ | ⟨g0, g1⟩
  all_goals
    go_enter Tryd.func93, Tryd.ntmps93
    go_wp2
    go_ret
    refine ⟨?_, (Below.refl _ _).alloc (Nat.le_refl _) _⟩
    rw [← HB.out]
    first
      | exact says_true (by omega)
      | exact says_false (by omega)
set_option maxHeartbeats 2000000 in
set_option maxRecDepth 100000 in
theorem implOpOk_5 (k v : Int) (w : World) :
    Calls Tryd.prog 39 #[OpV 5 k v] w fun e w' => e = .returned (.bool (decide (k = 0 ∧ (1 ≤ v ∧ v ≤ 6)))) ∧ Below w.heap.size w w' := by
  have hm : ∀ w : World, (method 237 99 (OpV 5 k v) "loop.example/g00468/impl.fits").run Tryd.prog w = .ok (93, OpV 5 k v) w := fun _ => by kernel_rfl
  obtain ⟨B, hB⟩ : ∃ B, decide (k = 0 ∧ (1 ≤ v ∧ v ≤ 6)) = B := ⟨_, rfl⟩
  rw [hB]
  have HB : Hid (decide (k = 0 ∧ (1 ≤ v ∧ v ≤ 6)) = B) := hB
  clear hB
  go_enter Tryd.func39, Tryd.ntmps39
  go_wp2_with fail
  refine (implDeedOf_any 5 k v _).mono ?_
  rintro e w1 ⟨rfl, hb1⟩
  rw [show DeedV 5 k v = .iface 99 (OpV 5 k v) from rfl]
  go_wp2_with fail
  refine (fits_5 k v _).mono ?_
  rintro e w2 ⟨rfl, hb2⟩
  rw [HB.out]
  have hs : w.heap.size + 1 ≤ w1.heap.size := by simpa using hb1.size
  have hall : Below w.heap.size w w2 := (((Below.refl _ w).alloc (Nat.le_refl _) _).trans (hb1.mono (by simp))).trans (hb2.mono (by omega))
  clear hb1 hb2 hm
  go_wp2
  go_ret
  exact ⟨rfl, hall⟩

set_option maxHeartbeats 2000000 in
theorem fits_6 (k v : Int) (w : World) :
    Calls Tryd.prog 94 #[OpV 6 k v] w fun e w' => e = .returned (.bool (decide ((0 ≤ k ∧ k ≤ 2) ∧ v = 0))) ∧ Below w.heap.size w w' := by
  obtain ⟨B, hB⟩ : ∃ B, decide ((0 ≤ k ∧ k ≤ 2) ∧ v = 0) = B := ⟨_, rfl⟩
  rw [hB]
  have HB : Hid (decide ((0 ≤ k ∧ k ≤ 2) ∧ v = 0) = B) := hB
  clear hB
  rcases tri 0 2 k (by decide) with ⟨h0, h1⟩ | ⟨h0, h1⟩ | ⟨h0, h1⟩ <;> rcases eqb v 0 with ⟨g0, g1⟩ | ⟨g0, g1⟩
  all_goals
    go_enter Tryd.func94, Tryd.ntmps94
    go_wp2
    go_ret
    refine ⟨?_, (Below.refl _ _).alloc (Nat.le_refl _) _⟩
    rw [← HB.out]
    first
      | exact says_true (by omega)
      | exact says_false (by omega)
set_option maxHeartbeats 2000000 in
set_option maxRecDepth 100000 in
theorem implOpOk_6 (k v : Int) (w : World) :
    Calls Tryd.prog 39 #[OpV 6 k v] w fun e w' => e = .returned (.bool (decide ((0 ≤ k ∧ k ≤ 2) ∧ v = 0))) ∧ Below w.heap.size w w' := by
  have hm : ∀ w : World, (method 237 100 (OpV 6 k v) "loop.example/g00468/impl.fits").run Tryd.prog w = .ok (94, OpV 6 k v) w := fun _ => by kernel_rfl
  obtain ⟨B, hB⟩ : ∃ B, decide ((0 ≤ k ∧ k ≤ 2) ∧ v = 0) = B := ⟨_, rfl⟩
  rw [hB]
  have HB : Hid (decide ((0 ≤ k ∧ k ≤ 2) ∧ v = 0) = B) := hB
  clear hB
  go_enter Tryd.func39, Tryd.ntmps39
  go_wp2_with fail
  refine (implDeedOf_any 6 k v _).mono ?_
  rintro e w1 ⟨rfl, hb1⟩
  rw [show DeedV 6 k v = .iface 100 (OpV 6 k v) from rfl]
  go_wp2_with fail
  refine (fits_6 k v _).mono ?_
  rintro e w2 ⟨rfl, hb2⟩
  rw [HB.out]
  have hs : w.heap.size + 1 ≤ w1.heap.size := by simpa using hb1.size
  have hall : Below w.heap.size w w2 := (((Below.refl _ w).alloc (Nat.le_refl _) _).trans (hb1.mono (by simp))).trans (hb2.mono (by omega))
  clear hb1 hb2 hm
  go_wp2
  go_ret
  exact ⟨rfl, hall⟩

set_option maxHeartbeats 2000000 in
theorem fits_7 (k v : Int) (w : World) :
    Calls Tryd.prog 95 #[OpV 7 k v] w fun e w' => e = .returned (.bool (decide (k = 0 ∧ v = 0))) ∧ Below w.heap.size w w' := by
  obtain ⟨B, hB⟩ : ∃ B, decide (k = 0 ∧ v = 0) = B := ⟨_, rfl⟩
  rw [hB]
  have HB : Hid (decide (k = 0 ∧ v = 0) = B) := hB
  clear hB
  rcases eqb k 0 with ⟨h0, h1⟩ | ⟨h0, h1⟩ <;> rcases eqb v 0 with ⟨g0, g1⟩ | ⟨g0, g1⟩
  all_goals
    go_enter Tryd.func95, Tryd.ntmps95
    go_wp2
    go_ret
    refine ⟨?_, (Below.refl _ _).alloc (Nat.le_refl _) _⟩
    rw [← HB.out]
    first
      | exact says_true (by omega)
      | exact says_false (by omega)
set_option maxHeartbeats 2000000 in
set_option maxRecDepth 100000 in
theorem implOpOk_7 (k v : Int) (w : World) :
    Calls Tryd.prog 39 #[OpV 7 k v] w fun e w' => e = .returned (.bool (decide (k = 0 ∧ v = 0))) ∧ Below w.heap.size w w' := by
  have hm : ∀ w : World, (method 237 101 (OpV 7 k v) "loop.example/g00468/impl.fits").run Tryd.prog w = .ok (95, OpV 7 k v) w := fun _ => by kernel_rfl
  obtain ⟨B, hB⟩ : ∃ B, decide (k = 0 ∧ v = 0) = B := ⟨_, rfl⟩
  rw [hB]
  have HB : Hid (decide (k = 0 ∧ v = 0) = B) := hB
  clear hB
  go_enter Tryd.func39, Tryd.ntmps39
  go_wp2_with fail
  refine (implDeedOf_any 7 k v _).mono ?_
  rintro e w1 ⟨rfl, hb1⟩
  rw [show DeedV 7 k v = .iface 101 (OpV 7 k v) from rfl]
  go_wp2_with fail
  refine (fits_7 k v _).mono ?_
  rintro e w2 ⟨rfl, hb2⟩
  rw [HB.out]
  have hs : w.heap.size + 1 ≤ w1.heap.size := by simpa using hb1.size
  have hall : Below w.heap.size w w2 := (((Below.refl _ w).alloc (Nat.le_refl _) _).trans (hb1.mono (by simp))).trans (hb2.mono (by omega))
  clear hb1 hb2 hm
  go_wp2
  go_ret
  exact ⟨rfl, hall⟩

set_option maxHeartbeats 2000000 in
theorem fits_8 (k v : Int) (w : World) :
    Calls Tryd.prog 96 #[OpV 8 k v] w fun e w' => e = .returned (.bool (decide (k = 0 ∧ v = 0))) ∧ Below w.heap.size w w' := by
  obtain ⟨B, hB⟩ : ∃ B, decide (k = 0 ∧ v = 0) = B := ⟨_, rfl⟩
  rw [hB]
  have HB : Hid (decide (k = 0 ∧ v = 0) = B) := hB
  clear hB
  rcases eqb k 0 with ⟨h0, h1⟩ | ⟨h0, h1⟩ <;> rcases eqb v 0 with ⟨g0, g1⟩ | ⟨g0, g1⟩
  all_goals
    go_enter Tryd.func96, Tryd.ntmps96
    go_wp2
    go_ret
    refine ⟨?_, (Below.refl _ _).alloc (Nat.le_refl _) _⟩
    rw [← HB.out]
    first
      | exact says_true (by omega)
      | exact says_false (by omega)
set_option maxHeartbeats 2000000 in
set_option maxRecDepth 100000 in
theorem implOpOk_8 (k v : Int) (w : World) :
    Calls Tryd.prog 39 #[OpV 8 k v] w fun e w' => e = .returned (.bool (decide (k = 0 ∧ v = 0))) ∧ Below w.heap.size w w' := by
  have hm : ∀ w : World, (method 237 102 (OpV 8 k v) "loop.example/g00468/impl.fits").run Tryd.prog w = .ok (96, OpV 8 k v) w := fun _ => by kernel_rfl
  obtain ⟨B, hB⟩ : ∃ B, decide (k = 0 ∧ v = 0) = B := ⟨_, rfl⟩
  rw [hB]
  have HB : Hid (decide (k = 0 ∧ v = 0) = B) := hB
  clear hB
  go_enter Tryd.func39, Tryd.ntmps39
  go_wp2_with fail
  refine (implDeedOf_any 8 k v _).mono ?_
  rintro e w1 ⟨rfl, hb1⟩
  rw [show DeedV 8 k v = .iface 102 (OpV 8 k v) from rfl]
  go_wp2_with fail
  refine (fits_8 k v _).mono ?_
  rintro e w2 ⟨rfl, hb2⟩
  rw [HB.out]
  have hs : w.heap.size + 1 ≤ w1.heap.size := by simpa using hb1.size
  have hall : Below w.heap.size w w2 := (((Below.refl _ w).alloc (Nat.le_refl _) _).trans (hb1.mono (by simp))).trans (hb2.mono (by omega))
  clear hb1 hb2 hm
  go_wp2
  go_ret
  exact ⟨rfl, hall⟩

set_option maxHeartbeats 2000000 in
theorem fits_9 (k v : Int) (w : World) :
    Calls Tryd.prog 97 #[OpV 9 k v] w fun e w' => e = .returned (.bool (decide (k = 0 ∧ v = 0))) ∧ Below w.heap.size w w' := by
  obtain ⟨B, hB⟩ : ∃ B, decide (k = 0 ∧ v = 0) = B := ⟨_, rfl⟩
  rw [hB]
  have HB : Hid (decide (k = 0 ∧ v = 0) = B) := hB
  clear hB
  rcases eqb k 0 with ⟨h0, h1⟩ | ⟨h0, h1⟩ <;> rcases eqb v 0 with ⟨g0, g1⟩ | ⟨g0, g1⟩
  all_goals
    go_enter Tryd.func97, Tryd.ntmps97
    go_wp2
    go_ret
    refine ⟨?_, (Below.refl _ _).alloc (Nat.le_refl _) _⟩
    rw [← HB.out]
    first
      | exact says_true (by omega)
      | exact says_false (by omega)
set_option maxHeartbeats 2000000 in
set_option maxRecDepth 100000 in
theorem implOpOk_9 (k v : Int) (w : World) :
    Calls Tryd.prog 39 #[OpV 9 k v] w fun e w' => e = .returned (.bool (decide (k = 0 ∧ v = 0))) ∧ Below w.heap.size w w' := by
  have hm : ∀ w : World, (method 237 103 (OpV 9 k v) "loop.example/g00468/impl.fits").run Tryd.prog w = .ok (97, OpV 9 k v) w := fun _ => by kernel_rfl
  obtain ⟨B, hB⟩ : ∃ B, decide (k = 0 ∧ v = 0) = B := ⟨_, rfl⟩
  rw [hB]
  have HB : Hid (decide (k = 0 ∧ v = 0) = B) := hB
  clear hB
  go_enter Tryd.func39, Tryd.ntmps39
  go_wp2_with fail
  refine (implDeedOf_any 9 k v _).mono ?_
  rintro e w1 ⟨rfl, hb1⟩
  rw [show DeedV 9 k v = .iface 103 (OpV 9 k v) from rfl]
  go_wp2_with fail
  refine (fits_9 k v _).mono ?_
  rintro e w2 ⟨rfl, hb2⟩
  rw [HB.out]
  have hs : w.heap.size + 1 ≤ w1.heap.size := by simpa using hb1.size
  have hall : Below w.heap.size w w2 := (((Below.refl _ w).alloc (Nat.le_refl _) _).trans (hb1.mono (by simp))).trans (hb2.mono (by omega))
  clear hb1 hb2 hm
  go_wp2
  go_ret
  exact ⟨rfl, hall⟩

set_option maxHeartbeats 2000000 in
theorem fits_10 (k v : Int) (w : World) :
    Calls Tryd.prog 98 #[OpV 10 k v] w fun e w' => e = .returned (.bool (decide (k = 0 ∧ (1 ≤ v ∧ v ≤ 6)))) ∧ Below w.heap.size w w' := by
  obtain ⟨B, hB⟩ : ∃ B, decide (k = 0 ∧ (1 ≤ v ∧ v ≤ 6)) = B := ⟨_, rfl⟩
  rw [hB]
  have HB : Hid (decide (k = 0 ∧ (1 ≤ v ∧ v ≤ 6)) = B) := hB
  clear hB
  rcases eqb k 0 with ⟨h0, h1⟩ | ⟨h0, h1⟩ <;> rcases tri 1 6 v (by decide) with ⟨g0, g1⟩ | ⟨g0, g1⟩ | ⟨g0, g1⟩
  all_goals
    go_enter Tryd.func98, Tryd.ntmps98
    go_wp2
    go_ret
    refine ⟨?_, (Below.refl _ _).alloc (Nat.le_refl _) _⟩
    rw [← HB.out]
    first
      | exact says_true (by omega)
      | exact says_false (by omega)
set_option maxHeartbeats 2000000 in
set_option maxRecDepth 100000 in
theorem implOpOk_10 (k v : Int) (w : World) :
    Calls Tryd.prog 39 #[OpV 10 k v] w fun e w' => e = .returned (.bool (decide (k = 0 ∧ (1 ≤ v ∧ v ≤ 6)))) ∧ Below w.heap.size w w' := by
  have hm : ∀ w : World, (method 237 104 (OpV 10 k v) "loop.example/g00468/impl.fits").run Tryd.prog w = .ok (98, OpV 10 k v) w := fun _ => by kernel_rfl
  obtain ⟨B, hB⟩ : ∃ B, decide (k = 0 ∧ (1 ≤ v ∧ v ≤ 6)) = B := ⟨_, rfl⟩
  rw [hB]
  have HB : Hid (decide (k = 0 ∧ (1 ≤ v ∧ v ≤ 6)) = B) := hB
  clear hB
  go_enter Tryd.func39, Tryd.ntmps39
  go_wp2_with fail
  refine (implDeedOf_any 10 k v _).mono ?_
  rintro e w1 ⟨rfl, hb1⟩
  rw [show DeedV 10 k v = .iface 104 (OpV 10 k v) from rfl]
  go_wp2_with fail
  refine (fits_10 k v _).mono ?_
  rintro e w2 ⟨rfl, hb2⟩
  rw [HB.out]
  have hs : w.heap.size + 1 ≤ w1.heap.size := by simpa using hb1.size
  have hall : Below w.heap.size w w2 := (((Below.refl _ w).alloc (Nat.le_refl _) _).trans (hb1.mono (by simp))).trans (hb2.mono (by omega))
  clear hb1 hb2 hm
  go_wp2
  go_ret
  exact ⟨rfl, hall⟩

set_option maxHeartbeats 2000000 in
set_option maxRecDepth 100000 in
theorem implOpOk_none (kind k v : Int) (w : World) (h : ¬ (1 ≤ kind ∧ kind ≤ 10)) :
    Calls Tryd.prog 39 #[OpV kind k v] w fun e w' => e = .returned (.bool false) ∧ Below w.heap.size w w' := by
  have hm : ∀ w : World, (method 237 105 (OpV kind k v) "loop.example/g00468/impl.fits").run Tryd.prog w = .ok (99, OpV kind k v) w := fun _ => by kernel_rfl
  have hT : deedT kind = 105 := by
    unfold deedT
    rw [if_neg (by omega), if_neg (by omega), if_neg (by omega), if_neg (by omega), if_neg (by omega), if_neg (by omega), if_neg (by omega), if_neg (by omega), if_neg (by omega), if_neg (by omega)]
  go_enter Tryd.func39, Tryd.ntmps39
  go_wp2_with fail
  refine (implDeedOf_any kind k v _).mono ?_
  rintro e w1 ⟨rfl, hb1⟩
  rw [show DeedV kind k v = .iface 105 (OpV kind k v) by rw [DeedV, hT]]
  clear hT
  have hs : w.heap.size + 1 ≤ w1.heap.size := by simpa using hb1.size
  have hall : Below w.heap.size w w1 := (((Below.refl _ w).alloc (Nat.le_refl _) _).trans (hb1.mono (by simp)))
  clear hb1 h
  go_wp2
  go_ret
  first
    | exact ⟨rfl, hall⟩
    | exact ⟨rfl, hall.alloc (by omega) _⟩

theorem implOpOk_any (kind k v : Int) (w : World) :
    Calls Tryd.prog 39 #[OpV kind k v] w fun e w' => e = .returned (.bool (decide (OpGood kind k v))) ∧ Below w.heap.size w w' := by
  by_cases h : 1 ≤ kind ∧ kind ≤ 10
  · have key : ∀ (P : Prop) [Decidable P], (OpGood kind k v ↔ P) → decide P = decide (OpGood kind k v) := fun P _ hP => decide_eq_decide.2 hP.symm
    rcases kinds h with rfl | rfl | rfl | rfl | rfl | rfl | rfl | rfl | rfl | rfl
    · refine (implOpOk_1 k v w).mono ?_
      rintro e w' ⟨rfl, hb⟩
      exact ⟨by rw [key _ (by unfold OpGood KeyGood ValGood; omega)], hb⟩
    · refine (implOpOk_2 k v w).mono ?_
      rintro e w' ⟨rfl, hb⟩
      exact ⟨by rw [key _ (by unfold OpGood KeyGood ValGood; omega)], hb⟩
    · refine (implOpOk_3 k v w).mono ?_
      rintro e w' ⟨rfl, hb⟩
      exact ⟨by rw [key _ (by unfold OpGood KeyGood ValGood; omega)], hb⟩
    · refine (implOpOk_4 k v w).mono ?_
      rintro e w' ⟨rfl, hb⟩
      exact ⟨by rw [key _ (by unfold OpGood KeyGood ValGood; omega)], hb⟩
    · refine (implOpOk_5 k v w).mono ?_
      rintro e w' ⟨rfl, hb⟩
      exact ⟨by rw [key _ (by unfold OpGood KeyGood ValGood; omega)], hb⟩
    · refine (implOpOk_6 k v w).mono ?_
      rintro e w' ⟨rfl, hb⟩
      exact ⟨by rw [key _ (by unfold OpGood KeyGood ValGood; omega)], hb⟩
    · refine (implOpOk_7 k v w).mono ?_
      rintro e w' ⟨rfl, hb⟩
      exact ⟨by rw [key _ (by unfold OpGood KeyGood ValGood; omega)], hb⟩
    · refine (implOpOk_8 k v w).mono ?_
      rintro e w' ⟨rfl, hb⟩
      exact ⟨by rw [key _ (by unfold OpGood KeyGood ValGood; omega)], hb⟩
    · refine (implOpOk_9 k v w).mono ?_
      rintro e w' ⟨rfl, hb⟩
      exact ⟨by rw [key _ (by unfold OpGood KeyGood ValGood; omega)], hb⟩
    · refine (implOpOk_10 k v w).mono ?_
      rintro e w' ⟨rfl, hb⟩
      exact ⟨by rw [key _ (by unfold OpGood KeyGood ValGood; omega)], hb⟩
  · refine (implOpOk_none kind k v w h).mono ?_
    rintro e w' ⟨rfl, hb⟩
    exact ⟨by rw [decide_eq_false (fun g => h g.1)], hb⟩
end Go.Proofs.YtkbodiggdajbeaaDoor

/- The program's numsOf and OpText, walked. -/
namespace Go.Proofs.YtkbodiggdajbeaaDoor
open Go.ChangeShapes Go.WideShapes Go.ChangeAt Go.RowKit 
open Go.Lib hiding intOf

/-- The numbers behind the word of a kind. -/
def numsL (kind k v : Int) : List Int := (if HasK kind then [k] else []) ++ (if HasV kind then [v] else [])
/-- What these are as text. -/
def tailsL (xs : List Int) : List UInt8 := xs.flatMap fun n => 32 :: itoa n
theorem tails_nums (kind k v : Int) : tailsL (numsL kind k v) = tailB kind k v := by
  unfold tailsL numsL tailB
  by_cases h1 : HasK kind <;> by_cases h2 : HasV kind <;> simp [h1, h2]
theorem nums_two (kind k v : Int) : (numsL kind k v).length ≤ 2 := by
  unfold numsL
  split <;> split <;> simp
theorem nums_small {kind k v : Int} (h : OpGood kind k v) : ∀ x ∈ numsL kind k v, 0 ≤ x ∧ x ≤ 6 := by
  obtain ⟨_, hk, hv, _, _⟩ := good_small h
  intro x hx
  unfold numsL at hx
  rcases List.mem_append.1 hx with h | h <;> split at h <;> simp at h <;> subst h <;> assumption
theorem tails_len (xs : List Int) (h : ∀ x ∈ xs, 0 ≤ x ∧ x ≤ 6) : (tailsL xs).length = 2 * xs.length := by
  induction xs with
  | nil => rfl
  | cons x xs ih =>
    obtain ⟨h0, h1⟩ := h x (by simp)
    have h2 := ih fun y hy => h y (by simp [hy])
    unfold tailsL at h2 ⊢
    rw [List.flatMap_cons, List.length_append, h2, itoa_small h0 h1]
    simp
    omega
theorem tails_succ {xs : List Int} {j : Nat} (h : j < xs.length) : tailsL (xs.take (j + 1)) = tailsL (xs.take j) ++ 32 :: itoa (xs.getD j 0) := by
  unfold tailsL
  rw [take_snocI h, List.flatMap_append]
  simp
set_option maxHeartbeats 2000000 in
set_option maxRecDepth 100000 in
theorem numsOf_any (kind k v : Int) (h : 1 ≤ kind ∧ kind ≤ 10) (w : World) :
    Calls Tryd.prog 40 #[OpV kind k v] w fun e w' => (∃ a, e = .returned (.slice a (numsL kind k v).length (numsL kind k v).length) ∧ IntAt w' a (numsL kind k v).length (numsL kind k v)) ∧ Below w.heap.size w w' := by
  have hb1 : ∀ o, Below w.heap.size w (w.alloc o) := fun o => (Below.refl _ w).alloc (Nat.le_refl _) _
  have hb2 : ∀ o o', Below w.heap.size w ((w.alloc o).alloc o') := fun o o' => ((Below.refl _ w).alloc (Nat.le_refl _) _).alloc (by simp) _
  have HB1 : Hid (∀ o, Below w.heap.size w (w.alloc o)) := hb1
  have HB2 : Hid (∀ o o', Below w.heap.size w ((w.alloc o).alloc o')) := hb2
  clear hb1 hb2
  have two : ∀ kd, kd = 1 ∨ kd = 2 → numsL kd k v = [k, v] := fun kd h => by unfold numsL HasK HasV; rcases h with rfl | rfl <;> simp
  have one : ∀ kd, kd = 3 ∨ kd = 4 ∨ kd = 6 → numsL kd k v = [k] := fun kd h => by unfold numsL HasK HasV; rcases h with rfl | rfl | rfl <;> simp
  have val : ∀ kd, kd = 5 ∨ kd = 10 → numsL kd k v = [v] := fun kd h => by unfold numsL HasK HasV; rcases h with rfl | rfl <;> simp
  have non : ∀ kd, kd = 7 ∨ kd = 8 ∨ kd = 9 → numsL kd k v = [] := fun kd h => by unfold numsL HasK HasV; rcases h with rfl | rfl | rfl <;> simp
  have ends2 : ∀ (o o' : Obj) (x y : Int), o' = .cells #[.int .i64 x, .int .i64 y] 3 → IntAt ((w.alloc o).alloc o') (some ⟨w.heap.size + 1, 0, none⟩) 2 [x, y] := by
    rintro o o' x y rfl
    refine ⟨rfl, by omega, .inr ⟨_, _, rfl, fun i hi => ?_⟩⟩
    have h : i = 0 ∨ i = 1 := by omega
    rw [Nat.zero_add, World.cell?_alloc_at _ _ _ _ (by simp)]
    rcases h with rfl | rfl <;> rfl
  have ends1 : ∀ (o o' : Obj) (x : Int), o' = .cells #[.int .i64 x] 3 → IntAt ((w.alloc o).alloc o') (some ⟨w.heap.size + 1, 0, none⟩) 1 [x] := by
    rintro o o' x rfl
    refine ⟨rfl, by omega, .inr ⟨_, _, rfl, fun i hi => ?_⟩⟩
    have h : i = 0 := by omega
    rw [Nat.zero_add, World.cell?_alloc_at _ _ _ _ (by simp)]
    subst h
    rfl
  have E2 : Hid (∀ (o o' : Obj) (x y : Int), o' = .cells #[.int .i64 x, .int .i64 y] 3 → IntAt ((w.alloc o).alloc o') (some ⟨w.heap.size + 1, 0, none⟩) 2 [x, y]) := ends2
  have E1 : Hid (∀ (o o' : Obj) (x : Int), o' = .cells #[.int .i64 x] 3 → IntAt ((w.alloc o).alloc o') (some ⟨w.heap.size + 1, 0, none⟩) 1 [x]) := ends1
  clear ends1 ends2
  rcases kinds h with rfl | rfl | rfl | rfl | rfl | rfl | rfl | rfl | rfl | rfl
  all_goals first
    | rw [two _ (by decide)]
    | rw [one _ (by decide)]
    | rw [val _ (by decide)]
    | rw [non _ (by decide)]
  all_goals
    clear two one val non h
    go_enter Tryd.func40, Tryd.ntmps40
    go_wp2
    go_ret
  all_goals first
    | exact ⟨⟨_, rfl, E2.out _ _ _ _ rfl⟩, HB2.out _ _⟩
    | exact ⟨⟨_, rfl, E1.out _ _ _ rfl⟩, HB2.out _ _⟩
    | exact ⟨⟨_, rfl, ⟨rfl, by simp, .inl rfl⟩⟩, HB1.out _⟩
set_option maxHeartbeats 4000000 in
set_option maxRecDepth 100000 in
theorem implOpText_any (kind k v : Int) (w : World) (hN : OpNamesIs w) (htab : Lib.TabIs Tryd.prog w "internal/strconv.uint64pow10" .u64 Lib.pow10Tab) :
    Calls Tryd.prog 22 #[OpV kind k v] w fun e w' => TextSays e (opB kind k v) ∧ Below w.heap.size w w' := by
  obtain ⟨W, hW⟩ : ∃ W, w.alloc (.cells #[.int .i64 kind, .int .i64 k, .int .i64 v] 31) = W := ⟨_, rfl⟩
  have HB0 : Hid (Below w.heap.size w W) := by rw [← hW]; exact (Below.refl _ w).alloc (Nat.le_refl _) _
  have X0 : Hid (Box W w.heap.size #[.int .i64 kind, .int .i64 k, .int .i64 v] 31) := by rw [← hW]; exact box_of w _ _
  have HW : Hid (w.alloc (.cells #[.int .i64 kind, .int .i64 k, .int .i64 v] 31) = W) := hW
  have HN : Hid (OpNamesIs w) := hN
  have HTAB : Hid (Lib.TabIs Tryd.prog w "internal/strconv.uint64pow10" .u64 Lib.pow10Tab) := htab
  clear hW hN htab
  by_cases hg : OpGood kind k v
  case neg =>
    have HT : Hid (opB kind k v = noneB) := if_neg hg
    have HD : Hid (decide (OpGood kind k v) = false) := decide_eq_false hg
    clear hg
    go_enter Tryd.func22, Tryd.ntmps22
    go_upto_region 1 with (fail)
    rw [HW.out]
    obtain ⟨c0, c1, c2⟩ := X0.out.threeT
    go_wp2_with fail
    refine (implOpOk_any kind k v _).mono ?_
    rintro e w1 ⟨rfl, hb1⟩
    rw [HD.out]
    have HB1 : Hid (Below w.heap.size w w1) := HB0.out.trans (hb1.mono HB0.out.size)
    clear hb1 c0 c1 c2
    go_wp2
    go_ret
    exact ⟨⟨_, rfl, HT.out.symm⟩, HB1.out⟩
  have HT : Hid (opB kind k v = nameB kind ++ tailsL (numsL kind k v)) := by rw [tails_nums]; exact if_pos hg
  have HD : Hid (decide (OpGood kind k v) = true) := decide_eq_true hg
  have HS : Hid (∀ x ∈ numsL kind k v, 0 ≤ x ∧ x ≤ 6) := nums_small hg
  obtain ⟨⟨hk1, hk10⟩, ⟨k0, k6⟩, ⟨v0, v6⟩, _, _⟩ := good_small hg
  obtain ⟨kn, rfl⟩ : ∃ kn : Nat, kind = (kn : Int) := ⟨kind.toNat, by omega⟩
  have hn1 : 1 ≤ kn := by omega
  have hn10 : kn ≤ 10 := by omega
  have hn11 : kn < 11 := by omega
  have HK : Hid (1 ≤ (kn : Int) ∧ (kn : Int) ≤ 10) := ⟨hk1, hk10⟩
  clear hg hk1 hk10
  go_enter Tryd.func22, Tryd.ntmps22
  go_upto_region 1 with (fail)
  rw [HW.out]
  obtain ⟨c0, c1, c2⟩ := X0.out.threeT
  go_wp2_with fail
  refine (implOpOk_any (kn : Int) k v _).mono ?_
  rintro e w1 ⟨rfl, hb1⟩
  rw [HD.out]
  have HB1 : Hid (Below w.heap.size w w1) := HB0.out.trans (hb1.mono HB0.out.size)
  have X1 : Hid (Box w1 w.heap.size #[.int .i64 (kn : Int), .int .i64 k, .int .i64 v] 31) := X0.out.below hb1 X0.out.lt
  clear hb1 c0 c1 c2 HB0 X0 HW
  obtain ⟨c0, c1, c2⟩ := X1.out.threeT
  obtain ⟨nb, hnb⟩ : ∃ nb : ByteArray, nb = ⟨(nameB (kn : Int)).toArray⟩ := ⟨_, rfl⟩
  have HNL : Hid (nb.data.toList = nameB (kn : Int)) := by show _ = _; rw [hnb]
  have hnsz : nb.size ≤ 5 := by
    have h1 := name_len (kn : Int)
    rw [← HNL.out] at h1
    simpa using h1
  have hcn : w1.cell? ⟨0, kn, none⟩ = some (.string nb) := by
    have h1 := (HN.out.below HB1.out (Nat.le_refl _)).cell gOpNames kn (by exact hn11)
    rw [namesT_at hn1 hn10] at h1
    rw [hnb]
    exact h1
  clear hnb
  go_wp2_with fail
  refine (numsOf_any (kn : Int) k v HK.out _).mono ?_
  obtain ⟨xs, hxs⟩ : ∃ xs, numsL (kn : Int) k v = xs := ⟨_, rfl⟩
  obtain ⟨m, hm⟩ : ∃ m, xs.length = m := ⟨_, rfl⟩
  have hm2 : m ≤ 2 := by rw [← hm, ← hxs]; exact nums_two _ _ _
  rw [hxs] at HS HT ⊢
  rw [hm]
  rintro e w2 ⟨⟨a2, rfl, hi2⟩, hb2⟩
  have HB2 : Hid (Below w.heap.size w w2) := HB1.out.trans (hb2.mono HB1.out.size)
  have HI2 : Hid (IntAt w2 a2 m xs) := hi2
  have HM : Hid (xs.length = m) := hm
  clear hb2 c0 c1 c2 hcn hxs hm hi2
  go_wp2
  go_loopw [3, 16] (fun out i wr => ∃ (j : Nat) (s : ByteArray), j ≤ m ∧ i = .int .i64 (j : Int) ∧ out = .string s ∧ s.data.toList = nameB (kn : Int) ++ tailsL (xs.take j) ∧ Below w2.heap.size w2 wr) (fun _ i _ => m - (intOf i).toNat)
  case atStart => exact ⟨0, nb, Nat.zero_le _, rfl, rfl, by rw [HNL.out]; simp [tailsL], Below.refl _ _⟩
  case round =>
    obtain ⟨j, s, hj, rfl, rfl, hs, hb⟩ := hrel
    have hsz : s.size ≤ 9 := by
      have h1 := name_len (kn : Int)
      have h2 := tails_len (xs.take j) fun x hx => HS.out x (List.mem_of_mem_take hx)
      have h3 : s.size = (nameB (kn : Int) ++ tailsL (xs.take j)).length := by rw [← hs]; simp
      rw [h3, List.length_append, h2, List.length_take]
      omega
    have HSS : Hid (s.data.toList = nameB (kn : Int) ++ tailsL (xs.take j)) := hs
    have HB : Hid (Below w2.heap.size w2 wr) := hb
    by_cases hlt : j < m
    · rcases (HI2.out.below hb (Nat.le_refl _)).2.2 with h0 | ⟨p1, o1, rfl, g1⟩
      · omega
      have e1 := g1 j hlt
      obtain ⟨x, hx⟩ : ∃ x, xs.getD j 0 = x := ⟨_, rfl⟩
      have hxm : 0 ≤ x ∧ x ≤ 6 := by
        have hjl : j < xs.length := by rw [HM.out]; exact hlt
        refine HS.out x ?_
        rw [← hx]
        simp [List.getD, hjl]
      have HT1 : Hid (tailsL (xs.take (j + 1)) = tailsL (xs.take j) ++ 32 :: itoa x) := by show _ = _; rw [← hx]; exact tails_succ (by rw [HM.out]; exact hlt)
      have HTB : Hid (Lib.TabIs Tryd.prog wr "internal/strconv.uint64pow10" .u64 Lib.pow10Tab) := Joins.tab_stays gTab HTAB.out (HB2.out.trans (hb.mono HB2.out.size)) (Nat.le_refl _)
      rw [hx] at e1
      obtain ⟨x0, x6⟩ := hxm
      clear g1 hs hb hx
      go_wp2_with fail
      refine (implDigits_any x (by omega) (by omega) _ HTB.out).mono ?_
      obtain ⟨sx, hsx⟩ : ∃ sx : ByteArray, sx = ⟨(itoa x).toArray⟩ := ⟨_, rfl⟩
      have HSX : Hid (sx.data.toList = itoa x) := by show _ = _; rw [hsx]
      have hz3 : sx.size ≤ 1 := by
        have h1 := itoa_one x0 x6
        rw [← HSX.out] at h1
        simpa using h1
      rw [← hsx]
      rintro e w3 ⟨rfl, hb3⟩
      have HB3 : Hid (Below w2.heap.size w2 w3) := HB.out.trans (hb3.mono HB.out.size)
      clear hb3 hsx e1
      go_wp2
      refine ⟨⟨j + 1, _, by omega, by go_num, rfl, ?_, HB3.out⟩, by simp [intOf]; omega⟩
      rw [HT1.out]
      simp [HSS.out, HSX.out]
    · obtain rfl : j = m := by omega
      have HEND : Hid (xs.take j = xs) := by show _ = _; rw [List.take_of_length_le (by rw [HM.out]; exact Nat.le_refl _)]
      clear hs hb
      go_wp2
      go_ret
      refine ⟨⟨s, rfl, ?_⟩, HB2.out.trans (HB.out.mono HB2.out.size)⟩
      rw [HSS.out, HEND.out, HT.out]
end Go.Proofs.YtkbodiggdajbeaaDoor

/- The program's NumsText, walked by the library's contracts of strconv.Itoa and strings.Join: the numerals with commas between. -/
namespace Go.Proofs.YtkbodiggdajbeaaDoor
open Go.ChangeShapes Go.WideShapes Go.ChangeAt Go.RowKit
open Go.Lib hiding intOf

/-- What has been written of the texts so far: the numerals of the first k, empty texts behind them. -/
def uptoS (xs : List Int) (k n : Nat) : List (List UInt8) := (xs.take k).map itoa ++ List.replicate (n - k) []
theorem uptoS_step {xs : List Int} {k n : Nat} (hx : xs.length = n) (h : k < n) : (((uptoS xs k n).map S).set k (S (itoa (xs.getD k 0)))) = (uptoS xs (k + 1) n).map S := by
  rw [← List.map_set]
  congr 1
  unfold uptoS
  have hl : ((xs.take k).map itoa).length = k := by rw [List.length_map, List.length_take]; omega
  rw [List.set_append_right _ _ (by omega), hl, Nat.sub_self, show n - k = (n - (k + 1)) + 1 by omega, List.replicate_succ, List.set_cons_zero,
    take_snocI (show k < xs.length by omega), List.map_append, List.append_assoc]
  rfl
theorem uptoS_end {xs : List Int} {n : Nat} (hx : xs.length = n) : uptoS xs n n = xs.map itoa := by
  unfold uptoS
  rw [List.take_of_length_le (by omega)]; simp

/-- The texts as the library's contract speaks of them. -/
def texts (xs : List Int) : List ByteArray := xs.map fun x => ⟨(itoa x).toArray⟩
theorem texts_list (xs : List Int) : (texts xs).map (·.data.toList) = xs.map itoa := by simp [texts, Function.comp_def]

theorem join_cells {w : World} {base g n : Nat} {xs : List Int} (h : w.ownsRow base 9 1 (.slice (some ⟨g, 0, none⟩) n n) n ((xs.map itoa).map S)) (hx : xs.length = n) :
    ∀ (j : Nat) x, (texts xs)[j]? = some x → w.cell? ⟨g, 0 + j, none⟩ = some (.string x) := by
  intro j x hj
  have hjl : j < xs.length := by have := (List.getElem?_eq_some_iff.1 hj).1; simpa [texts] using this
  rw [Nat.zero_add, h.cellAt j (by omega)]
  simp [texts, hjl] at hj
  subst hj
  simp [hjl]

set_option maxHeartbeats 1000000 in
theorem implNums_any (a : Option Addr) (n c : Nat) (xs : List Int) (w : World) (h : IntAt w a n xs) (hn : n ≤ 1048576) (hi : In64s xs) (htab : Lib.TabIs Tryd.prog w "internal/strconv.uint64pow10" .u64 Lib.pow10Tab) :
    Calls Tryd.prog 29 #[.slice a n c] w fun e w' => e = .returned (.string ⟨(numsB xs).toArray⟩) ∧ Below w.heap.size w w' := by
  have HH : Hid (IntAt w a n xs) := h
  have L1 : Hid (xs.length = n) := h.1
  have HI : Hid (In64s xs) := hi
  have HTAB : Hid (Lib.TabIs Tryd.prog w "internal/strconv.uint64pow10" .u64 Lib.pow10Tab) := htab
  have HLEN : Hid ((join ((texts xs).map (·.data.toList)) [44]).length ≤ 140737488355328) := by
    have h1 := numsB_len n xs h.1 hi
    rw [texts_list]
    show (numsB xs).length ≤ _
    omega
  clear h hi htab
  obtain ⟨i0, hi, hz0, hz1, hz2⟩ := info_parts infoStr
  go_enter Tryd.func29, Tryd.ntmps29
  go_wp2_with (at_make; refine wpList_make_full _ rfl _ _ 64 rfl w.heap.size 9 i0 (.string ⟨#[]⟩) 1 Tryd.underlying64 hi hz0 hz1 .i64 .i64 _ _ n rfl rfl rfl rfl (by rw [hz2]; omega) (by unfold maxLen; omega) (Nat.le_refl _) ?_; intro w1 own1 grow1)
  have own0 : w1.ownsRow w.heap.size 9 1 (.slice (some ⟨w.heap.size, 0, none⟩) n n) n ((uptoS xs 0 n).map S) := by
    have e : (madeCells (Value.string ⟨#[]⟩).cells (n * 1)).toList = (uptoS xs 0 n).map S := by
      rw [Nat.mul_one]
      exact (toList_madeCells_one _ _).trans (by simp [uptoS])
    rwa [e] at own1
  have hb1 : Below w.heap.size w w1 := (Below.refl _ _).grown grow1 (Nat.le_refl _) (fun k e => by cases e)
  clear own1 grow1
  go_loopw [11] (fun i wr => ∃ k : Nat, k ≤ n ∧ i = .int .i64 (k : Int) ∧ wr.ownsRow w.heap.size 9 1 (.slice (some ⟨w.heap.size, 0, none⟩) n n) n ((uptoS xs k n).map S) ∧ Below w.heap.size w wr) (fun i _ => n - (intOf i).toNat)
  case atStart => exact ⟨0, Nat.zero_le _, rfl, own0, hb1⟩
  case round =>
    obtain ⟨k, hk, rfl, ho, hb⟩ := hrel
    clear own0 hb1
    by_cases hlt : k < n
    · rcases (HH.out.below hb (Nat.le_refl _)).2.2 with h0 | ⟨p1, o1, rfl, g1⟩
      · omega
      have e1 := g1 k hlt
      obtain ⟨h0, h1⟩ := in64_at HI.out k (by have := L1.out; omega)
      obtain ⟨x, hx⟩ : ∃ x, xs.getD k 0 = x := ⟨_, rfl⟩
      have HU : Hid (((uptoS xs k n).map S).set k (S (itoa x)) = (uptoS xs (k + 1) n).map S) := by rw [← hx]; exact uptoS_step L1.out hlt
      rw [hx] at e1 h0 h1
      have ht1 := Joins.tab_stays gTab HTAB.out hb (Nat.le_refl _)
      have HT1 : Hid (Lib.TabIs Tryd.prog wr "internal/strconv.uint64pow10" .u64 Lib.pow10Tab) := ht1
      clear g1 hx ht1
      go_wp2_with (go_at_call 41; refine (implDigits_any x h0 h1 _ HT1.out).mono ?_; rintro e w2 ⟨rfl, hb2⟩; have ho2 := owns_below ho hb2 (Nat.le_refl _); have hf2 := ho2.frozenAt k; obtain ⟨u, hc2⟩ := own_cell ho2 hlt)
      have hst := (ho2.stored k (S (itoa x))).1
      rw [HU.out] at hst
      go_roundw
      case rel => exact ⟨k + 1, by omega, by go_num, hst, (hb.trans (hb2.mono hb.size)).setCell (Nat.le_refl _) _⟩
      case measure => simp [intOf]; omega
    · obtain rfl : k = n := by omega
      rw [uptoS_end L1.out] at ho
      have hcells := join_cells ho L1.out
      have HC : Hid (∀ (j : Nat) x, (texts xs)[j]? = some x → wr.cell? ⟨w.heap.size, 0 + j, none⟩ = some (.string x)) := hcells
      have hlt2 := (own_base ho).2
      clear hcells ho
      have htl : Hid ((texts xs).length = k) := by have := L1.out; show (texts xs).length = k; simp [texts, this]
      go_wp2_with fail
      have J := Tryd.strings_Join w.heap.size 0 k (texts xs) ⟨#[44]⟩ wr HC.out hlt2 (by have := htl.out; omega) (by have := htl.out; omega) HLEN.out
      rw [htl.out] at J
      refine J.mono ?_
      rintro e w3 ⟨rfl, hb3⟩
      go_wp2
      go_ret
      exact ⟨ret_str (by rw [texts_list]; rfl), hb.trans (hb3.mono hb.size)⟩
end Go.Proofs.YtkbodiggdajbeaaDoor

/- impl.within at whatever numbers, walked. -/
namespace Go.Proofs.YtkbodiggdajbeaaDoor
open Go.ChangeShapes Go.WideShapes Go.ChangeAt Go.RowKit

theorem within_g (x lo hi : Int) (w : World) : Calls Tryd.prog 50 #[.int .i64 x, .int .i64 lo, .int .i64 hi] w fun e w' => e = .returned (.bool (inB x lo hi)) ∧ w' = w := by
  by_cases h0 : lo ≤ x
  · by_cases h1 : x ≤ hi
    · rw [inB_yes ⟨h0, h1⟩]
      go_enter Tryd.func50, Tryd.ntmps50
      go_wp2
      go_ret
      exact ⟨rfl, rfl⟩
    · rw [inB_no (fun h => h1 h.2)]
      go_enter Tryd.func50, Tryd.ntmps50
      go_wp2
      go_ret
      exact ⟨rfl, rfl⟩
  · rw [inB_no (fun h => h0 h.1)]
    go_enter Tryd.func50, Tryd.ntmps50
    go_wp2
    go_ret
    exact ⟨rfl, rfl⟩
end Go.Proofs.YtkbodiggdajbeaaDoor

/- The program's ResText, walked. -/
namespace Go.Proofs.YtkbodiggdajbeaaDoor
open Go.ChangeShapes Go.WideShapes Go.ChangeAt Go.RowKit 
open Go.Lib hiding intOf

theorem codesR_at {k : Nat} (h : k < 5) : codesR.getD k [] = codeB (k : Int) := by
  have h : k = 0 ∨ k = 1 ∨ k = 2 ∨ k = 3 ∨ k = 4 := by omega
  rcases h with rfl | rfl | rfl | rfl | rfl <;> rfl
theorem codeB_what {code : Int} (h : ¬ (0 ≤ code ∧ code ≤ 4)) : codeB code = [119, 104, 97, 116] := by
  unfold codeB
  repeat' split
  all_goals first | rfl | omega
set_option maxHeartbeats 4000000 in
set_option maxRecDepth 100000 in
theorem implResText_any (code : Int) (a : Option Addr) (n c : Nat) (xs : List Int) (w : World) (hA : IntAt w a n xs) (hn : n ≤ 1048576) (hx : In64s xs) (hN : ResNamesIs w) (htab : Lib.TabIs Tryd.prog w "internal/strconv.uint64pow10" .u64 Lib.pow10Tab) :
    Calls Tryd.prog 43 #[ResV code a n c] w fun e w' => TextSays e (resB code xs) ∧ Below w.heap.size w w' := by
  obtain ⟨W, hW⟩ : ∃ W, w.alloc (.cells #[.int .i64 code, .slice a n c] 32) = W := ⟨_, rfl⟩
  have HB0 : Hid (Below w.heap.size w W) := by rw [← hW]; exact (Below.refl _ w).alloc (Nat.le_refl _) _
  have X0 : Hid (Box W w.heap.size #[.int .i64 code, .slice a n c] 32) := by rw [← hW]; exact box_of w _ _
  have HW : Hid (w.alloc (.cells #[.int .i64 code, .slice a n c] 32) = W) := hW
  have HA : Hid (IntAt W a n xs) := hA.below HB0.out (Nat.le_refl _)
  have HN : Hid (ResNamesIs W) := hN.below HB0.out (Nat.le_refl _)
  have HTAB : Hid (Lib.TabIs Tryd.prog W "internal/strconv.uint64pow10" .u64 Lib.pow10Tab) := Joins.tab_stays gTab htab HB0.out (Nat.le_refl _)
  have HI : Hid (In64s xs) := hx
  have HXL : Hid (xs.length = n) := hA.1
  clear hW hA hx hN htab
  obtain ⟨nb, hnb⟩ : ∃ nb : ByteArray, nb = ⟨(codeB code).toArray⟩ := ⟨_, rfl⟩
  have HNL : Hid (nb.data.toList = codeB code) := by show _ = _; rw [hnb]
  have hnsz : nb.size ≤ 5 := by
    have h1 := codeB_len code
    rw [← HNL.out] at h1
    simpa using h1
  have HTN : Hid (n = 0 → resB code xs = codeB code) := fun h => by
    have : xs = [] := List.length_eq_zero_iff.1 (by rw [HXL.out]; exact h)
    rw [resB, if_pos this]
  have HTY : Hid (¬ n = 0 → resB code xs = codeB code ++ 32 :: numsB xs) := fun h => by
    have : ¬ xs = [] := fun e => h (by rw [← HXL.out, e]; rfl)
    rw [resB, if_neg this]
  obtain ⟨c0, c1, _, _⟩ := X0.out.two
  have tail : ∀ {Q : Prop}, Q → Q := fun h => h
  by_cases hc : 0 ≤ code ∧ code ≤ 4
  · have hin : inB code 0 4 = true := inB_yes hc
    obtain ⟨kk, rfl⟩ : ∃ kk : Nat, code = (kk : Int) := ⟨code.toNat, by omega⟩
    have hk5 : kk < 5 := by omega
    have hk0 : (0 : Int) ≤ (kk : Int) := by omega
    have hk5' : (kk : Int) < 5 := by omega
    have hcn : W.cell? ⟨1, kk, none⟩ = some (.string nb) := by
      have h1 := HN.out.cell gResNames kk (by exact hk5)
      rw [codesR_at hk5] at h1
      rw [hnb]
      exact h1
    clear hnb hc
    go_enter Tryd.func43, Tryd.ntmps43
    go_upto_region 2 with (fail)
    rw [HW.out]
    go_wp2_with fail
    refine (within_g (kk : Int) 0 4 _).mono ?_
    rintro e w1 ⟨rfl, hw1⟩
    rw [hw1, hin]
    clear hw1 hin
    by_cases hz : n = 0
    · have hz1 : ¬ (0 : Int) < (n : Int) := by omega
      go_wp2
      go_ret
      exact ⟨⟨nb, rfl, HNL.out.trans (HTN.out hz).symm⟩, HB0.out⟩
    · have hz1 : (0 : Int) < (n : Int) := by omega
      have HZ : Hid (¬ n = 0) := hz
      clear hz
      go_wp2_with fail
      refine (implNums_any a n c xs _ HA.out hn HI.out HTAB.out).mono ?_
      obtain ⟨sx, hsx⟩ : ∃ sx : ByteArray, sx = ⟨(numsB xs).toArray⟩ := ⟨_, rfl⟩
      have HSX : Hid (sx.data.toList = numsB xs) := by show _ = _; rw [hsx]
      have hz2 : sx.size ≤ 22 * n := by
        have h1 := numsB_len n xs HXL.out HI.out
        rw [← HSX.out] at h1
        simpa using h1
      rw [← hsx]
      rintro e w2 ⟨rfl, hb2⟩
      have HB2 : Hid (Below w.heap.size w w2) := HB0.out.trans (hb2.mono HB0.out.size)
      clear hb2 hsx
      go_wp2
      go_ret
      refine ⟨⟨_, rfl, ?_⟩, HB2.out⟩
      rw [HTY.out HZ.out]
      simp [HNL.out, HSX.out]
  · have hin : inB code 0 4 = false := inB_no hc
    have hwh : nb = ⟨#[119, 104, 97, 116]⟩ := by rw [hnb, codeB_what hc]
    clear hnb hc
    go_enter Tryd.func43, Tryd.ntmps43
    go_upto_region 2 with (fail)
    rw [HW.out, ← hwh]
    go_wp2_with fail
    refine (within_g code 0 4 _).mono ?_
    rintro e w1 ⟨rfl, hw1⟩
    rw [hw1, hin]
    clear hw1 hin hwh
    by_cases hz : n = 0
    · have hz1 : ¬ (0 : Int) < (n : Int) := by omega
      go_wp2
      go_ret
      exact ⟨⟨nb, rfl, HNL.out.trans (HTN.out hz).symm⟩, HB0.out⟩
    · have hz1 : (0 : Int) < (n : Int) := by omega
      have HZ : Hid (¬ n = 0) := hz
      clear hz
      go_wp2_with fail
      refine (implNums_any a n c xs _ HA.out hn HI.out HTAB.out).mono ?_
      obtain ⟨sx, hsx⟩ : ∃ sx : ByteArray, sx = ⟨(numsB xs).toArray⟩ := ⟨_, rfl⟩
      have HSX : Hid (sx.data.toList = numsB xs) := by show _ = _; rw [hsx]
      have hz2 : sx.size ≤ 22 * n := by
        have h1 := numsB_len n xs HXL.out HI.out
        rw [← HSX.out] at h1
        simpa using h1
      rw [← hsx]
      rintro e w2 ⟨rfl, hb2⟩
      have HB2 : Hid (Below w.heap.size w w2) := HB0.out.trans (hb2.mono HB0.out.size)
      clear hb2 hsx
      go_wp2
      go_ret
      refine ⟨⟨_, rfl, ?_⟩, HB2.out⟩
      rw [HTY.out HZ.out]
      simp [HNL.out, HSX.out]
end Go.Proofs.YtkbodiggdajbeaaDoor

/- impl.ended, walked. -/
namespace Go.Proofs.YtkbodiggdajbeaaDoor
open Go.ChangeShapes Go.WideShapes Go.ChangeAt Go.RowKit

set_option maxHeartbeats 1000000 in
theorem impl_ended (c : CaD) (v : Value) (w : World) : Calls Tryd.prog 42 #[CaV c v] w fun e w' => e = .returned (.bool (decide (0 ≤ c.en))) ∧ Below w.heap.size w w' := by
  obtain ⟨t, kd, k, vv, st, ln, en, cd⟩ := c
  have HB : Hid (Below w.heap.size w (w.alloc (.cells #[.int .i64 t, .int .i64 kd, .int .i64 k, .int .i64 vv, .int .i64 st, .int .i64 ln, .int .i64 en, .int .i64 cd, v] 34))) := (Below.refl _ w).alloc (Nat.le_refl _) _
  by_cases h : 0 ≤ en
  · have h' : decide (0 ≤ en) = true := decide_eq_true h
    show Calls Tryd.prog 42 #[.agg #[.int .i64 t, .int .i64 kd, .int .i64 k, .int .i64 vv, .int .i64 st, .int .i64 ln, .int .i64 en, .int .i64 cd, v]] w fun e w' => e = .returned (.bool (decide (0 ≤ en))) ∧ Below w.heap.size w w'
    rw [h']
    go_enter Tryd.func42, Tryd.ntmps42
    go_wp2
    go_ret
    exact ⟨rfl, HB.out⟩
  · have h' : decide (0 ≤ en) = false := decide_eq_false h
    show Calls Tryd.prog 42 #[.agg #[.int .i64 t, .int .i64 kd, .int .i64 k, .int .i64 vv, .int .i64 st, .int .i64 ln, .int .i64 en, .int .i64 cd, v]] w fun e w' => e = .returned (.bool (decide (0 ≤ en))) ∧ Below w.heap.size w w'
    rw [h']
    go_enter Tryd.func42, Tryd.ntmps42
    go_wp2
    go_ret
    exact ⟨rfl, HB.out⟩
end Go.Proofs.YtkbodiggdajbeaaDoor

/- A box of eight cells, of nine. No program. -/
namespace Go.Proofs.YtkbodiggdajbeaaDoor
open Go.RowKit

theorem eight_of {w : World} {b : Nat} {x0 x1 x2 x3 x4 x5 x6 x7 : Value} {T : TypeId} (h : Box w b #[x0, x1, x2, x3, x4, x5, x6, x7] T) :
    w.cell? ⟨b, 0, none⟩ = some x0 ∧ w.cell? ⟨b, 1, none⟩ = some x1 ∧ w.cell? ⟨b, 2, none⟩ = some x2 ∧ w.cell? ⟨b, 3, none⟩ = some x3 ∧ w.cell? ⟨b, 4, none⟩ = some x4 ∧ w.cell? ⟨b, 5, none⟩ = some x5 ∧ w.cell? ⟨b, 6, none⟩ = some x6 ∧ w.cell? ⟨b, 7, none⟩ = some x7 :=
  ⟨h.cell 0, h.cell 1, h.cell 2, h.cell 3, h.cell 4, h.cell 5, h.cell 6, h.cell 7⟩
theorem nine_of {w : World} {b : Nat} {x0 x1 x2 x3 x4 x5 x6 x7 x8 : Value} {T : TypeId} (h : Box w b #[x0, x1, x2, x3, x4, x5, x6, x7, x8] T) :
    w.cell? ⟨b, 0, none⟩ = some x0 ∧ w.cell? ⟨b, 1, none⟩ = some x1 ∧ w.cell? ⟨b, 2, none⟩ = some x2 ∧ w.cell? ⟨b, 3, none⟩ = some x3 ∧ w.cell? ⟨b, 4, none⟩ = some x4 ∧ w.cell? ⟨b, 5, none⟩ = some x5 ∧ w.cell? ⟨b, 6, none⟩ = some x6 ∧ w.cell? ⟨b, 7, none⟩ = some x7 ∧ w.cell? ⟨b, 8, none⟩ = some x8 :=
  ⟨h.cell 0, h.cell 1, h.cell 2, h.cell 3, h.cell 4, h.cell 5, h.cell 6, h.cell 7, h.cell 8⟩
end Go.Proofs.YtkbodiggdajbeaaDoor

/- The program's outcome and CallText, walked. -/
namespace Go.Proofs.YtkbodiggdajbeaaDoor
open Go.ChangeShapes Go.WideShapes Go.ChangeAt Go.RowKit
open Go.Lib (itoa itoa_length_le)

/-- The tables that calls are written by. -/
def Tabs15 (w : World) : Prop := OpNamesIs w ∧ ResNamesIs w ∧ Lib.TabIs Tryd.prog w "internal/strconv.uint64pow10" .u64 Lib.pow10Tab
theorem Tabs15.below {w w' : World} {B : Nat} (h : Tabs15 w) (hb : Below B w w') (hB : w.heap.size ≤ B) : Tabs15 w' := ⟨h.1.below hb hB, h.2.1.below hb hB, Joins.tab_stays gTab h.2.2 hb hB⟩
theorem parts_call {s1 s2 : ByteArray} {t kd k v sT ln en cd : Int} {rl : List Int} (h1 : s1.data.toList = opB kd k v) (h2 : s2.data.toList = outB en cd rl) : shownB [.num t, .pc ⟨#[32]⟩, .pc s1, .pc ⟨#[58, 32]⟩, .pc s2] = callB ⟨t, kd, k, v, sT, ln, en, cd⟩ rl := by
  show itoa t ++ ([32] ++ (s1.data.toList ++ ([58, 32] ++ (s2.data.toList ++ [])))) = itoa t ++ 32 :: (opB kd k v ++ 58 :: 32 :: outB en cd rl)
  rw [h1, h2]
  simp
set_option maxHeartbeats 4000000 in
set_option maxRecDepth 100000 in
theorem implOutcome_any (t kd k vv sT ln en cd : Int) (ra : Option Addr) (rn rc : Nat) (rl : List Int) (w : World) (hA : IntAt w ra rn rl) (hx : In64s rl) (hn : rn ≤ 1048576) (hT : Tabs15 w) :
    Calls Tryd.prog 23 #[.agg #[.int .i64 t, .int .i64 kd, .int .i64 k, .int .i64 vv, .int .i64 sT, .int .i64 ln, .int .i64 en, .int .i64 cd, .slice ra rn rc]] w fun e w' => TextSays e (outB en cd rl) ∧ Below w.heap.size w w' := by
  obtain ⟨W, hW⟩ : ∃ W, w.alloc (.cells #[.int .i64 t, .int .i64 kd, .int .i64 k, .int .i64 vv, .int .i64 sT, .int .i64 ln, .int .i64 en, .int .i64 cd, .slice ra rn rc] 34) = W := ⟨_, rfl⟩
  have HB0 : Hid (Below w.heap.size w W) := by rw [← hW]; exact (Below.refl _ w).alloc (Nat.le_refl _) _
  have X0 : Hid (Box W w.heap.size #[.int .i64 t, .int .i64 kd, .int .i64 k, .int .i64 vv, .int .i64 sT, .int .i64 ln, .int .i64 en, .int .i64 cd, .slice ra rn rc] 34) := by rw [← hW]; exact box_of w _ _
  have HW : Hid (w.alloc (.cells #[.int .i64 t, .int .i64 kd, .int .i64 k, .int .i64 vv, .int .i64 sT, .int .i64 ln, .int .i64 en, .int .i64 cd, .slice ra rn rc] 34) = W) := hW
  have HA : Hid (IntAt w ra rn rl) := hA
  have HI : Hid (In64s rl) := hx
  have HXL : Hid (rl.length = rn) := hA.1
  have HT : Hid (∀ y, Below W.heap.size W y → Tabs15 y) := fun y hb => hT.below (HB0.out.trans (hb.mono HB0.out.size)) (Nat.le_refl _)
  have BX : Hid (∀ y, Below W.heap.size W y → y.cell? ⟨w.heap.size, 0, none⟩ = some (.int .i64 t) ∧ y.cell? ⟨w.heap.size, 1, none⟩ = some (.int .i64 kd) ∧ y.cell? ⟨w.heap.size, 2, none⟩ = some (.int .i64 k) ∧ y.cell? ⟨w.heap.size, 3, none⟩ = some (.int .i64 vv) ∧ y.cell? ⟨w.heap.size, 4, none⟩ = some (.int .i64 sT) ∧ y.cell? ⟨w.heap.size, 5, none⟩ = some (.int .i64 ln) ∧ y.cell? ⟨w.heap.size, 6, none⟩ = some (.int .i64 en) ∧ y.cell? ⟨w.heap.size, 7, none⟩ = some (.int .i64 cd) ∧ y.cell? ⟨w.heap.size, 8, none⟩ = some (.slice ra rn rc)) := fun y hb => nine_of (X0.out.below hb X0.out.lt)
  obtain ⟨c0, c1, c2, c3, c4, c5, c6, c7, c8⟩ := BX.out _ (Below.refl _ _)
  clear hW hA hx hT
  go_enter Tryd.func23, Tryd.ntmps23
  go_upto_region 1 with (fail)
  rw [HW.out]
  go_wp2_with fail
  refine (impl_ended ⟨t, kd, k, vv, sT, ln, en, cd⟩ (.slice ra rn rc) _).mono ?_
  rintro e w1 ⟨rfl, hb1⟩
  have HB1 : Hid (Below W.heap.size W w1) := hb1
  clear hb1 c0 c1 c2 c3 c4 c5 c6 c7 c8
  obtain ⟨c0, c1, c2, c3, c4, c5, c6, c7, c8⟩ := BX.out _ HB1.out
  by_cases he : en < 0
  · have hd : decide (0 ≤ en) = false := decide_eq_false (by omega)
    have HO : Hid (outB en cd rl = [111, 112, 101, 110]) := if_pos he
    dsimp only
    rw [hd]
    go_wp2
    go_ret
    exact ⟨⟨_, rfl, HO.out.symm⟩, HB0.out.trans (HB1.out.mono HB0.out.size)⟩
  · have hd : decide (0 ≤ en) = true := decide_eq_true (by omega)
    have HO : Hid (outB en cd rl = resB cd rl) := if_neg he
    dsimp only
    rw [hd]
    have HB01 : Hid (Below w.heap.size w w1) := HB0.out.trans (HB1.out.mono HB0.out.size)
    go_wp2_with fail
    refine (implResText_any cd ra rn rc rl _ (HA.out.below HB01.out (Nat.le_refl _)) hn HI.out (HT.out _ HB1.out).2.1 (HT.out _ HB1.out).2.2).mono ?_
    rintro e w2 ⟨⟨s2, rfl, hs2⟩, hb2⟩
    have HS2 : Hid (s2.data.toList = resB cd rl) := hs2
    have HB2 : Hid (Below w.heap.size w w2) := HB01.out.trans (hb2.mono HB01.out.size)
    clear hs2 hb2
    go_wp2
    go_ret
    exact ⟨⟨s2, rfl, HS2.out.trans HO.out.symm⟩, HB2.out⟩
set_option maxHeartbeats 4000000 in
set_option maxRecDepth 100000 in
theorem implCallText_any (C : CaD) (ra : Option Addr) (rn rc : Nat) (rl : List Int) (w : World) (hA : IntAt w ra rn rl) (hx : In64s rl) (ht : I64 C.t) (hn : rn ≤ 1048576) (hT : Tabs15 w) :
    Calls Tryd.prog 8 #[CaV C (.slice ra rn rc)] w fun e w' => TextSays e (callB C rl) ∧ Below w.heap.size w w' := by
  obtain ⟨t, kd, k, vv, sT, ln, en, cd⟩ := C
  dsimp only at ht
  show Calls Tryd.prog 8 #[.agg #[.int .i64 t, .int .i64 kd, .int .i64 k, .int .i64 vv, .int .i64 sT, .int .i64 ln, .int .i64 en, .int .i64 cd, .slice ra rn rc]] w fun e w' => TextSays e (callB ⟨t, kd, k, vv, sT, ln, en, cd⟩ rl) ∧ Below w.heap.size w w'
  obtain ⟨W, hW⟩ : ∃ W, w.alloc (.cells #[.int .i64 t, .int .i64 kd, .int .i64 k, .int .i64 vv, .int .i64 sT, .int .i64 ln, .int .i64 en, .int .i64 cd, .slice ra rn rc] 34) = W := ⟨_, rfl⟩
  have HB0 : Hid (Below w.heap.size w W) := by rw [← hW]; exact (Below.refl _ w).alloc (Nat.le_refl _) _
  have X0 : Hid (Box W w.heap.size #[.int .i64 t, .int .i64 kd, .int .i64 k, .int .i64 vv, .int .i64 sT, .int .i64 ln, .int .i64 en, .int .i64 cd, .slice ra rn rc] 34) := by rw [← hW]; exact box_of w _ _
  have HW : Hid (w.alloc (.cells #[.int .i64 t, .int .i64 kd, .int .i64 k, .int .i64 vv, .int .i64 sT, .int .i64 ln, .int .i64 en, .int .i64 cd, .slice ra rn rc] 34) = W) := hW
  have HA : Hid (IntAt w ra rn rl) := hA
  have HI : Hid (In64s rl) := hx
  have HXL : Hid (rl.length = rn) := hA.1
  have HT : Hid (∀ y, Below W.heap.size W y → Tabs15 y) := fun y hb => hT.below (HB0.out.trans (hb.mono HB0.out.size)) (Nat.le_refl _)
  have BX : Hid (∀ y, Below W.heap.size W y → y.cell? ⟨w.heap.size, 0, none⟩ = some (.int .i64 t) ∧ y.cell? ⟨w.heap.size, 1, none⟩ = some (.int .i64 kd) ∧ y.cell? ⟨w.heap.size, 2, none⟩ = some (.int .i64 k) ∧ y.cell? ⟨w.heap.size, 3, none⟩ = some (.int .i64 vv) ∧ y.cell? ⟨w.heap.size, 4, none⟩ = some (.int .i64 sT) ∧ y.cell? ⟨w.heap.size, 5, none⟩ = some (.int .i64 ln) ∧ y.cell? ⟨w.heap.size, 6, none⟩ = some (.int .i64 en) ∧ y.cell? ⟨w.heap.size, 7, none⟩ = some (.int .i64 cd) ∧ y.cell? ⟨w.heap.size, 8, none⟩ = some (.slice ra rn rc)) := fun y hb => nine_of (X0.out.below hb X0.out.lt)
  have HOK : Hid (∀ s1 s2, ∀ x ∈ [Pt.num t, .pc ⟨#[32]⟩, .pc s1, .pc ⟨#[58, 32]⟩, .pc s2], PtOk x) := fun s1 s2 x hx => by
    simp only [List.mem_cons, List.not_mem_nil, or_false] at hx
    rcases hx with rfl | rfl | rfl | rfl | rfl
    · exact ht
    · trivial
    · trivial
    · trivial
    · trivial
  have HLEN : Hid ((callB ⟨t, kd, k, vv, sT, ln, en, cd⟩ rl).length ≤ 70368744177664) := by
    have h1 := callB_le (c := ⟨t, kd, k, vv, sT, ln, en, cd⟩) ht hx (by have := hA.1; omega)
    show _ ≤ _
    omega
  have HBD : Hid (Below W.heap.size W W.drew) := (Below.refl _ _).drew
  have K0 : Hid (W.drew.cell? ⟨w.heap.size, 0, none⟩ = some (.int .i64 t) ∧ W.drew.cell? ⟨w.heap.size, 1, none⟩ = some (.int .i64 kd) ∧ W.drew.cell? ⟨w.heap.size, 2, none⟩ = some (.int .i64 k) ∧ W.drew.cell? ⟨w.heap.size, 3, none⟩ = some (.int .i64 vv) ∧ W.drew.cell? ⟨w.heap.size, 4, none⟩ = some (.int .i64 sT) ∧ W.drew.cell? ⟨w.heap.size, 5, none⟩ = some (.int .i64 ln) ∧ W.drew.cell? ⟨w.heap.size, 6, none⟩ = some (.int .i64 en) ∧ W.drew.cell? ⟨w.heap.size, 7, none⟩ = some (.int .i64 cd) ∧ W.drew.cell? ⟨w.heap.size, 8, none⟩ = some (.slice ra rn rc)) := BX.out _ HBD.out
  clear hW hA hx ht hT
  go_enter Tryd.func8, Tryd.ntmps8
  go_upto_region 1 with (fail)
  rw [HW.out]
  go_region_held3 (fun w' => w'.cell? ⟨w.heap.size, 0, none⟩ = some (.int .i64 t) ∧ w'.cell? ⟨w.heap.size, 1, none⟩ = some (.int .i64 kd) ∧ w'.cell? ⟨w.heap.size, 2, none⟩ = some (.int .i64 k) ∧ w'.cell? ⟨w.heap.size, 3, none⟩ = some (.int .i64 vv) ∧ w'.cell? ⟨w.heap.size, 4, none⟩ = some (.int .i64 sT) ∧ w'.cell? ⟨w.heap.size, 5, none⟩ = some (.int .i64 ln) ∧ w'.cell? ⟨w.heap.size, 6, none⟩ = some (.int .i64 en) ∧ w'.cell? ⟨w.heap.size, 7, none⟩ = some (.int .i64 cd) ∧ w'.cell? ⟨w.heap.size, 8, none⟩ = some (.slice ra rn rc))
    (first | (with_reducible exact K9.out) | (with_reducible exact K2.out) | (with_reducible exact K1.out) | (with_reducible exact K0.out) | (exact BX.out _ (HB2.out.alloc HB2.out.size _)) | go_keep)
    (first
    | (go_at_call 22
       refine (implOpText_any kd k vv _ (HT.out _ HBD.out).1 (HT.out _ HBD.out).2.2).mono ?_
       rintro e w1 ⟨⟨s1, rfl, hs1⟩, hb1⟩
       have HS1 : Hid (s1.data.toList = opB kd k vv) := hs1
       have hb1' : Below W.heap.size W w1 := HBD.out.trans hb1
       have HB1 : Hid (Below W.heap.size W w1) := hb1'
       have K1 : Hid (w1.cell? ⟨w.heap.size, 0, none⟩ = some (.int .i64 t) ∧ w1.cell? ⟨w.heap.size, 1, none⟩ = some (.int .i64 kd) ∧ w1.cell? ⟨w.heap.size, 2, none⟩ = some (.int .i64 k) ∧ w1.cell? ⟨w.heap.size, 3, none⟩ = some (.int .i64 vv) ∧ w1.cell? ⟨w.heap.size, 4, none⟩ = some (.int .i64 sT) ∧ w1.cell? ⟨w.heap.size, 5, none⟩ = some (.int .i64 ln) ∧ w1.cell? ⟨w.heap.size, 6, none⟩ = some (.int .i64 en) ∧ w1.cell? ⟨w.heap.size, 7, none⟩ = some (.int .i64 cd) ∧ w1.cell? ⟨w.heap.size, 8, none⟩ = some (.slice ra rn rc)) := BX.out _ hb1'
       clear hs1 hb1 hb1')
    | (go_at_call 23
       refine (implOutcome_any t kd k vv sT ln en cd ra rn rc rl _ (HA.out.below (HB0.out.trans (HB1.out.mono HB0.out.size)) (Nat.le_refl _)) HI.out hn (HT.out _ HB1.out)).mono ?_
       rintro e w2 ⟨⟨s2, rfl, hs2⟩, hb2⟩
       have HS2 : Hid (s2.data.toList = outB en cd rl) := hs2
       have hb2' : Below W.heap.size W w2 := HB1.out.trans (hb2.mono HB1.out.size)
       have HB2 : Hid (Below W.heap.size W w2) := hb2'
       have K2 : Hid (w2.cell? ⟨w.heap.size, 0, none⟩ = some (.int .i64 t) ∧ w2.cell? ⟨w.heap.size, 1, none⟩ = some (.int .i64 kd) ∧ w2.cell? ⟨w.heap.size, 2, none⟩ = some (.int .i64 k) ∧ w2.cell? ⟨w.heap.size, 3, none⟩ = some (.int .i64 vv) ∧ w2.cell? ⟨w.heap.size, 4, none⟩ = some (.int .i64 sT) ∧ w2.cell? ⟨w.heap.size, 5, none⟩ = some (.int .i64 ln) ∧ w2.cell? ⟨w.heap.size, 6, none⟩ = some (.int .i64 en) ∧ w2.cell? ⟨w.heap.size, 7, none⟩ = some (.int .i64 cd) ∧ w2.cell? ⟨w.heap.size, 8, none⟩ = some (.slice ra rn rc)) := BX.out _ hb2'
       clear hs2 hb2 hb2')
    | (go_at_call 21
       refine (implShown_any (some ⟨w2.heap.size, 0, none⟩) 5 5 [.num t, .pc ⟨#[32]⟩, .pc s1, .pc ⟨#[58, 32]⟩, .pc s2] _ (Box.pts (ps := [.num t, .pc ⟨#[32]⟩, .pc s1, .pc ⟨#[58, 32]⟩, .pc s2]) (box_of w2 _ _)) (HOK.out s1 s2) (by omega) (by rw [parts_call (sT := sT) (ln := ln) HS1.out HS2.out]; exact HLEN.out) ((fun y hb => (HT.out y hb).2.2) _ (HB2.out.alloc HB2.out.size _))).mono ?_
       rintro e w9 ⟨⟨s9, rfl, hs9⟩, hb9⟩
       have HS9 : Hid (s9.data.toList = shownB [.num t, .pc ⟨#[32]⟩, .pc s1, .pc ⟨#[58, 32]⟩, .pc s2]) := hs9
       have hb9' : Below W.heap.size W w9 := (HB2.out.alloc HB2.out.size _).trans (hb9.mono (Nat.le_trans HB2.out.size (by simp)))
       have HB9 : Hid (Below W.heap.size W w9) := hb9'
       have K9 : Hid (w9.cell? ⟨w.heap.size, 0, none⟩ = some (.int .i64 t) ∧ w9.cell? ⟨w.heap.size, 1, none⟩ = some (.int .i64 kd) ∧ w9.cell? ⟨w.heap.size, 2, none⟩ = some (.int .i64 k) ∧ w9.cell? ⟨w.heap.size, 3, none⟩ = some (.int .i64 vv) ∧ w9.cell? ⟨w.heap.size, 4, none⟩ = some (.int .i64 sT) ∧ w9.cell? ⟨w.heap.size, 5, none⟩ = some (.int .i64 ln) ∧ w9.cell? ⟨w.heap.size, 6, none⟩ = some (.int .i64 en) ∧ w9.cell? ⟨w.heap.size, 7, none⟩ = some (.int .i64 cd) ∧ w9.cell? ⟨w.heap.size, 8, none⟩ = some (.slice ra rn rc)) := BX.out _ hb9'
       clear hs9 hb9 hb9'))
  go_wp2
  go_ret
  exact ⟨⟨s9, rfl, HS9.out.trans (parts_call HS1.out HS2.out)⟩, HB0.out.trans (HB9.out.mono HB0.out.size)⟩
end Go.Proofs.YtkbodiggdajbeaaDoor

/- spec.CallText, walked. -/
namespace Go.Proofs.YtkbodiggdajbeaaDoor
open Go.ChangeShapes Go.WideShapes Go.ChangeAt Go.RowKit Go.Lib

set_option maxHeartbeats 4000000 in
set_option maxRecDepth 100000 in
theorem specCallText_any (C : CaD) (ra : Option Addr) (rn rc : Nat) (rl : List Int) (w : World) (hA : IntAt w ra rn rl) (hx : In64s rl) (ht : I64 C.t) (hn : rn ≤ 1048576) :
    Calls Tryd.prog 6 #[CaV C (.slice ra rn rc)] w fun e w' => TextSays e (callB C rl) ∧ Below w.heap.size w w' := by
  obtain ⟨t, kd, k, vv, sT, ln, en, cd⟩ := C
  dsimp only at ht
  show Calls Tryd.prog 6 #[.agg #[.int .i64 t, .int .i64 kd, .int .i64 k, .int .i64 vv, .int .i64 sT, .int .i64 ln, .int .i64 en, .int .i64 cd, .slice ra rn rc]] w fun e w' => TextSays e (callB ⟨t, kd, k, vv, sT, ln, en, cd⟩ rl) ∧ Below w.heap.size w w'
  obtain ⟨W, hW⟩ : ∃ W, w.alloc (.cells #[.int .i64 t, .int .i64 kd, .int .i64 k, .int .i64 vv, .int .i64 sT, .int .i64 ln, .int .i64 en, .int .i64 cd, .slice ra rn rc] 34) = W := ⟨_, rfl⟩
  have HB0 : Hid (Below w.heap.size w W) := by rw [← hW]; exact (Below.refl _ w).alloc (Nat.le_refl _) _
  have X0 : Hid (Box W w.heap.size #[.int .i64 t, .int .i64 kd, .int .i64 k, .int .i64 vv, .int .i64 sT, .int .i64 ln, .int .i64 en, .int .i64 cd, .slice ra rn rc] 34) := by rw [← hW]; exact box_of w _ _
  have HW : Hid (w.alloc (.cells #[.int .i64 t, .int .i64 kd, .int .i64 k, .int .i64 vv, .int .i64 sT, .int .i64 ln, .int .i64 en, .int .i64 cd, .slice ra rn rc] 34) = W) := hW
  have HA : Hid (IntAt w ra rn rl) := hA
  have HI : Hid (In64s rl) := hx
  have HS : Hid (I64 t) := ht
  have HXL : Hid (rl.length = rn) := hA.1
  have BX : Hid (∀ y, Below W.heap.size W y → y.cell? ⟨w.heap.size, 0, none⟩ = some (.int .i64 t) ∧ y.cell? ⟨w.heap.size, 1, none⟩ = some (.int .i64 kd) ∧ y.cell? ⟨w.heap.size, 2, none⟩ = some (.int .i64 k) ∧ y.cell? ⟨w.heap.size, 3, none⟩ = some (.int .i64 vv) ∧ y.cell? ⟨w.heap.size, 4, none⟩ = some (.int .i64 sT) ∧ y.cell? ⟨w.heap.size, 5, none⟩ = some (.int .i64 ln) ∧ y.cell? ⟨w.heap.size, 6, none⟩ = some (.int .i64 en) ∧ y.cell? ⟨w.heap.size, 7, none⟩ = some (.int .i64 cd) ∧ y.cell? ⟨w.heap.size, 8, none⟩ = some (.slice ra rn rc)) := fun y hb => nine_of (X0.out.below hb X0.out.lt)
  have K0 : Hid (W.drew.cell? ⟨w.heap.size, 0, none⟩ = some (.int .i64 t) ∧ W.drew.cell? ⟨w.heap.size, 1, none⟩ = some (.int .i64 kd) ∧ W.drew.cell? ⟨w.heap.size, 2, none⟩ = some (.int .i64 k) ∧ W.drew.cell? ⟨w.heap.size, 3, none⟩ = some (.int .i64 vv) ∧ W.drew.cell? ⟨w.heap.size, 4, none⟩ = some (.int .i64 sT) ∧ W.drew.cell? ⟨w.heap.size, 5, none⟩ = some (.int .i64 ln) ∧ W.drew.cell? ⟨w.heap.size, 6, none⟩ = some (.int .i64 en) ∧ W.drew.cell? ⟨w.heap.size, 7, none⟩ = some (.int .i64 cd) ∧ W.drew.cell? ⟨w.heap.size, 8, none⟩ = some (.slice ra rn rc)) := BX.out _ (Below.refl _ _).drew
  clear hW hA hx ht
  go_enter Tryd.func6, Tryd.ntmps6
  go_upto_region 1 with (fail)
  rw [HW.out]
  go_region_held3 (fun w' => w'.cell? ⟨w.heap.size, 0, none⟩ = some (.int .i64 t) ∧ w'.cell? ⟨w.heap.size, 1, none⟩ = some (.int .i64 kd) ∧ w'.cell? ⟨w.heap.size, 2, none⟩ = some (.int .i64 k) ∧ w'.cell? ⟨w.heap.size, 3, none⟩ = some (.int .i64 vv) ∧ w'.cell? ⟨w.heap.size, 4, none⟩ = some (.int .i64 sT) ∧ w'.cell? ⟨w.heap.size, 5, none⟩ = some (.int .i64 ln) ∧ w'.cell? ⟨w.heap.size, 6, none⟩ = some (.int .i64 en) ∧ w'.cell? ⟨w.heap.size, 7, none⟩ = some (.int .i64 cd) ∧ w'.cell? ⟨w.heap.size, 8, none⟩ = some (.slice ra rn rc))
    (first | (with_reducible exact K2.out) | (with_reducible exact K1.out) | (with_reducible exact K0.out) | go_keep)
    (first
    | (go_at_call 16
       refine (digits_any t HS.out.1 HS.out.2 _).mono ?_
       rintro e w1 ⟨⟨s1, rfl, hs1⟩, hb1⟩
       have HS1 : Hid (s1.data.toList = itoa t) := hs1
       have hz1 : s1.size ≤ 21 := by rw [szS s1 hs1]; exact itoa_le HS.out
       have hb1' : Below W.heap.size W w1 := (Below.refl W.heap.size W).drew.trans hb1
       have HB1 : Hid (Below W.heap.size W w1) := hb1'
       have K1 : Hid (w1.cell? ⟨w.heap.size, 0, none⟩ = some (.int .i64 t) ∧ w1.cell? ⟨w.heap.size, 1, none⟩ = some (.int .i64 kd) ∧ w1.cell? ⟨w.heap.size, 2, none⟩ = some (.int .i64 k) ∧ w1.cell? ⟨w.heap.size, 3, none⟩ = some (.int .i64 vv) ∧ w1.cell? ⟨w.heap.size, 4, none⟩ = some (.int .i64 sT) ∧ w1.cell? ⟨w.heap.size, 5, none⟩ = some (.int .i64 ln) ∧ w1.cell? ⟨w.heap.size, 6, none⟩ = some (.int .i64 en) ∧ w1.cell? ⟨w.heap.size, 7, none⟩ = some (.int .i64 cd) ∧ w1.cell? ⟨w.heap.size, 8, none⟩ = some (.slice ra rn rc)) := BX.out _ hb1'
       have hc1 : s1.size + 1 ≤ 9223372036854775807 := by omega
       have hd1 : ¬ (9223372036854775807 < s1.size + 1) := by omega
       clear hs1 hb1 hb1')
    | (go_at_call 17
       refine (specOpText_any kd k vv _).mono ?_
       rintro e w2 ⟨⟨s2, rfl, hs2⟩, hb2⟩
       have HS2 : Hid (s2.data.toList = opB kd k vv) := hs2
       have hz2 : s2.size ≤ 9 := by rw [szS s2 hs2]; exact opB_le _ _ _
       have hb2' : Below W.heap.size W w2 := HB1.out.trans (hb2.mono HB1.out.size)
       have HB2 : Hid (Below W.heap.size W w2) := hb2'
       have K2 : Hid (w2.cell? ⟨w.heap.size, 0, none⟩ = some (.int .i64 t) ∧ w2.cell? ⟨w.heap.size, 1, none⟩ = some (.int .i64 kd) ∧ w2.cell? ⟨w.heap.size, 2, none⟩ = some (.int .i64 k) ∧ w2.cell? ⟨w.heap.size, 3, none⟩ = some (.int .i64 vv) ∧ w2.cell? ⟨w.heap.size, 4, none⟩ = some (.int .i64 sT) ∧ w2.cell? ⟨w.heap.size, 5, none⟩ = some (.int .i64 ln) ∧ w2.cell? ⟨w.heap.size, 6, none⟩ = some (.int .i64 en) ∧ w2.cell? ⟨w.heap.size, 7, none⟩ = some (.int .i64 cd) ∧ w2.cell? ⟨w.heap.size, 8, none⟩ = some (.slice ra rn rc)) := BX.out _ hb2'
       have hc2 : s1.size + 1 + s2.size ≤ 9223372036854775807 := by omega
       have hd2 : ¬ (9223372036854775807 < s1.size + 1 + s2.size) := by omega
       have hc3 : s1.size + 1 + s2.size + 2 ≤ 9223372036854775807 := by omega
       have hd3 : ¬ (9223372036854775807 < s1.size + 1 + s2.size + 2) := by omega
       clear hs2 hb2 hb2'))
  obtain ⟨d0, d1, d2, d3, d4, d5, d6, d7, d8⟩ := BX.out _ HB2.out
  by_cases he : en < 0
  · have hc4 : s1.size + 1 + s2.size + 2 + 4 ≤ 9223372036854775807 := by omega
    have hd4 : ¬ (9223372036854775807 < s1.size + 1 + s2.size + 2 + 4) := by omega
    have HT : Hid (outB en cd rl = [111, 112, 101, 110]) := if_pos he
    go_wp2
    go_ret
    refine ⟨⟨_, rfl, ?_⟩, HB0.out.trans (HB2.out.mono HB0.out.size)⟩
    show _ = itoa t ++ 32 :: (opB kd k vv ++ 58 :: 32 :: outB en cd rl)
    rw [HT.out]
    simp [HS1.out, HS2.out]
  · have HT : Hid (outB en cd rl = resB cd rl) := if_neg he
    have HB02 : Hid (Below w.heap.size w w2) := HB0.out.trans (HB2.out.mono HB0.out.size)
    have he' : 0 ≤ en := by omega
    go_wp2_with fail
    refine (specResText_any cd ra rn rc rl _ (HA.out.below HB02.out (Nat.le_refl _)) HI.out hn).mono ?_
    rintro e w3 ⟨⟨s3, rfl, hs3⟩, hb3⟩
    have HS3 : Hid (s3.data.toList = resB cd rl) := hs3
    have hz3 : s3.size ≤ 6 + 22 * rn := by rw [szS s3 hs3, ← HXL.out]; exact resB_le HI.out
    have HB3 : Hid (Below w.heap.size w w3) := HB02.out.trans (hb3.mono HB02.out.size)
    have hc4 : s1.size + 1 + s2.size + 2 + s3.size ≤ 9223372036854775807 := by omega
    have hd4 : ¬ (9223372036854775807 < s1.size + 1 + s2.size + 2 + s3.size) := by omega
    clear hs3 hb3
    go_wp2
    go_ret
    refine ⟨⟨_, rfl, ?_⟩, HB3.out⟩
    show _ = itoa t ++ 32 :: (opB kd k vv ++ 58 :: 32 :: outB en cd rl)
    rw [HT.out]
    simp [HS1.out, HS2.out, HS3.out]
end Go.Proofs.YtkbodiggdajbeaaDoor

/- Data of any shape in memory: numbers, flags, texts, lists of structs of these, one within the other. What is read (At), what a call owns (Own); what keeps them; a store into a list. No program. -/
namespace Go.Proofs.YtkbodiggdajbeaaDoor
open Go.ChangeShapes Go.WideShapes Go.ChangeAt Go.RowKit Go.Joins

/-- A cell's data: a number, a flag, a text, or a list of n structs of k cells each, cell by cell. -/
inductive Cel where
  | i (x : Int)
  | b (x : Bool)
  | s (x : ByteArray)
  | l (T : TypeId) (k n : Nat) (cs : List Cel)
/-- The value reads as the data. q: its lists have room as Go's own have. -/
inductive At (q : Bool) (w : World) : Value → Cel → Prop
  | i (x : Int) : At q w (.int .i64 x) (.i x)
  | b (x : Bool) : At q w (.bool x) (.b x)
  | s (x : ByteArray) : At q w (.string x) (.s x)
  | l (a : Option Addr) (T : TypeId) (k n c : Nat) (cs : List Cel) (vs : List Value) (h1 : vs.length = n * k) (h2 : cs.length = n * k) (hn : n ≤ 2097152) (hc : q = true → (a = none → c = 0) ∧ n ≤ c)
      (h3 : n = 0 ∨ ∃ b o, a = some ⟨b, o, none⟩ ∧ ∀ j, j < n * k → w.cell? ⟨b, o + j, none⟩ = vs[j]?) (h4 : ∀ (j : Nat) (v : Value) (c : Cel), vs[j]? = some v → cs[j]? = some c → At q w v c) : At q w (.slice a n c) (.l T k n cs)
def AtL (q : Bool) (w : World) (vs : List Value) (cs : List Cel) : Prop := vs.length = cs.length ∧ ∀ (j : Nat) (v : Value) (c : Cel), vs[j]? = some v → cs[j]? = some c → At q w v c
theorem At.on {q : Bool} {w w' : World} {v : Value} {c : Cel} (h : At q w v c) {B : Nat} (hb : Below B w w') (hB : w.heap.size ≤ B) : At q w' v c := by
  induction h with
  | i x => exact .i x
  | b x => exact .b x
  | s x => exact .s x
  | l a T k n c cs vs h1 h2 hn hc h3 h4 ih =>
    refine .l a T k n c cs vs h1 h2 hn hc ?_ ih
    rcases h3 with h3 | ⟨b, o, e, g⟩
    · exact .inl h3
    · refine .inr ⟨b, o, e, fun j hj => ?_⟩
      have h5 := g j hj
      have h6 : w.cell? ⟨b, o + j, none⟩ = some (vs[j]'(by omega)) := by rw [h5, List.getElem?_eq_getElem (by omega)]
      rw [hb.cell (show b < B from Nat.lt_of_lt_of_le (World.block_lt_of_cell? w _ h6) hB)]
      exact h5
theorem AtL.on {q : Bool} {w w' : World} {vs : List Value} {cs : List Cel} (h : AtL q w vs cs) {B : Nat} (hb : Below B w w') (hB : w.heap.size ≤ B) : AtL q w' vs cs :=
  ⟨h.1, fun j v c hv hc => (h.2 j v c hv hc).on hb hB⟩
theorem At.loose {q : Bool} {w : World} {v : Value} {c : Cel} (h : At q w v c) : At false w v c := by
  induction h with
  | i x => exact .i x
  | b x => exact .b x
  | s x => exact .s x
  | l a T k n c cs vs h1 h2 hn hc h3 h4 ih => exact .l a T k n c cs vs h1 h2 hn (fun h => by cases h) h3 ih
theorem AtL.nil {q : Bool} {w : World} : AtL q w [] [] := ⟨rfl, fun j v c hv _ => by simp at hv⟩
theorem AtL.cons {q : Bool} {w : World} {v : Value} {c : Cel} {vs : List Value} {cs : List Cel} (h : At q w v c) (hs : AtL q w vs cs) : AtL q w (v :: vs) (c :: cs) := by
  refine ⟨by simp [hs.1], fun j v' c' hv hc => ?_⟩
  cases j with
  | zero => simp at hv hc; subst hv hc; exact h
  | succ j => simp at hv hc; exact hs.2 j v' c' hv hc
theorem AtL.head {q : Bool} {w : World} {v : Value} {c : Cel} {vs : List Value} {cs : List Cel} (h : AtL q w (v :: vs) (c :: cs)) : At q w v c := h.2 0 v c rfl rfl
theorem AtL.tail {q : Bool} {w : World} {v : Value} {c : Cel} {vs : List Value} {cs : List Cel} (h : AtL q w (v :: vs) (c :: cs)) : AtL q w vs cs :=
  ⟨by have := h.1; simpa using this, fun j v' c' hv hc => h.2 (j + 1) v' c' (by simpa using hv) (by simpa using hc)⟩

/-- The value's lists are the call's own, S their blocks, no two lists in one. -/
inductive Own (w : World) (base : Nat) : Value → Cel → (Nat → Prop) → Prop
  | i (x : Int) (S : Nat → Prop) (hS : ∀ k, ¬ S k) : Own w base (.int .i64 x) (.i x) S
  | b (x : Bool) (S : Nat → Prop) (hS : ∀ k, ¬ S k) : Own w base (.bool x) (.b x) S
  | s (x : ByteArray) (S : Nat → Prop) (hS : ∀ k, ¬ S k) : Own w base (.string x) (.s x) S
  | nil (T : TypeId) (k : Nat) (S : Nat → Prop) (hS : ∀ k, ¬ S k) : Own w base (.slice none 0 0) (.l T k 0 []) S
  | l (g cap : Nat) (T : TypeId) (k n : Nat) (cs : List Cel) (vs : List Value) (S : Nat → Prop) (Ss : Nat → Nat → Prop) (h1 : w.ownsRow base T k (.slice (some ⟨g, 0, none⟩) n cap) n vs) (h2 : cs.length = n * k) (hn : n ≤ 2097152)
      (h4 : ∀ (j : Nat) (v : Value) (c : Cel), vs[j]? = some v → cs[j]? = some c → Own w base v c (Ss j)) (h5 : ∀ j, ¬ Ss j g) (h6 : ∀ i j x, i ≠ j → Ss i x → ¬ Ss j x) (h7 : ∀ x, S x ↔ x = g ∨ ∃ j, j < n * k ∧ Ss j x) :
      Own w base (.slice (some ⟨g, 0, none⟩) n cap) (.l T k n cs) S
/-- A struct's cells, likewise. -/
def OwnL (w : World) (base : Nat) (vs : List Value) (cs : List Cel) (S : Nat → Prop) : Prop :=
  vs.length = cs.length ∧ ∃ Ss : Nat → Nat → Prop, (∀ (j : Nat) (v : Value) (c : Cel), vs[j]? = some v → cs[j]? = some c → Own w base v c (Ss j)) ∧ (∀ i j x, i ≠ j → Ss i x → ¬ Ss j x) ∧ ∀ x, S x ↔ ∃ j, j < vs.length ∧ Ss j x
theorem Own.set {w : World} {base : Nat} {v : Value} {c : Cel} {S S' : Nat → Prop} (h : Own w base v c S) (hS : ∀ x, S x ↔ S' x) : Own w base v c S' := by
  cases h with
  | i x S h => exact .i x S' fun k hk => h k ((hS k).2 hk)
  | b x S h => exact .b x S' fun k hk => h k ((hS k).2 hk)
  | s x S h => exact .s x S' fun k hk => h k ((hS k).2 hk)
  | nil T k S h => exact .nil T k S' fun k hk => h k ((hS k).2 hk)
  | l g cap T k n cs vs S Ss h1 h2 hn h4 h5 h6 h7 => exact .l g cap T k n cs vs S' Ss h1 h2 hn h4 h5 h6 fun x => (hS x).symm.trans (h7 x)
theorem Own.lt {w : World} {base : Nat} {v : Value} {c : Cel} {S : Nat → Prop} (h : Own w base v c S) : ∀ x, S x → base ≤ x ∧ x < w.heap.size := by
  induction h with
  | i x S h => exact fun k hk => absurd hk (h k)
  | b x S h => exact fun k hk => absurd hk (h k)
  | s x S h => exact fun k hk => absurd hk (h k)
  | nil T k S h => exact fun k hk => absurd hk (h k)
  | l g cap T k n cs vs S Ss h1 h2 hn h4 h5 h6 h7 ih =>
    intro x hx
    rcases (h7 x).1 hx with rfl | ⟨j, hj, hxj⟩
    · exact h1.lt x rfl
    · have hl := h1.1
      exact ih j _ _ (List.getElem?_eq_getElem (by omega)) (List.getElem?_eq_getElem (by omega)) x hxj
theorem Own.heap {w w' : World} {base : Nat} {v : Value} {c : Cel} {S : Nat → Prop} (h : Own w base v c S) (he : ∀ x, S x → w'.heap[x]? = w.heap[x]?) : Own w' base v c S := by
  induction h with
  | i x S h => exact .i x S h
  | b x S h => exact .b x S h
  | s x S h => exact .s x S h
  | nil T k S h => exact .nil T k S h
  | l g cap T k n cs vs S Ss h1 h2 hn h4 h5 h6 h7 ih =>
    refine .l g cap T k n cs vs S Ss (owns_heap h1 fun k hk => ?_) h2 hn (fun j v c hv hc => ?_) h5 h6 h7
    · cases hk
      exact he g ((h7 g).2 (.inl rfl))
    · exact ih j v c hv hc fun x hx => he x ((h7 x).2 (.inr ⟨j, by
        have hl := h1.1
        have := (List.getElem?_eq_some_iff.1 hv).1
        omega, hx⟩))
theorem Own.on {w w' : World} {base : Nat} {v : Value} {c : Cel} {S : Nat → Prop} (h : Own w base v c S) {B : Nat} (hb : Below B w w') (hB : w.heap.size ≤ B) : Own w' base v c S :=
  h.heap fun x hx => hb.block x (by have := (h.lt x hx).2; omega)
theorem Own.weaken {w : World} {base base' : Nat} {v : Value} {c : Cel} {S : Nat → Prop} (h : Own w base v c S) (hb : base' ≤ base) : Own w base' v c S := by
  induction h with
  | i x S h => exact .i x S h
  | b x S h => exact .b x S h
  | s x S h => exact .s x S h
  | nil T k S h => exact .nil T k S h
  | l g cap T k n cs vs S Ss h1 h2 hn h4 h5 h6 h7 ih => exact .l g cap T k n cs vs S Ss (own_weaken h1 hb) h2 hn ih h5 h6 h7
theorem Own.at {w : World} {base : Nat} {v : Value} {c : Cel} {S : Nat → Prop} (h : Own w base v c S) : At true w v c := by
  induction h with
  | i x S h => exact .i x
  | b x S h => exact .b x
  | s x S h => exact .s x
  | nil T k S h => exact .l none T k 0 0 [] [] (by simp) (by simp) (by omega) (fun _ => ⟨fun _ => rfl, Nat.le_refl _⟩) (.inl rfl) (fun j v c hv _ => by simp at hv)
  | l g cap T k n cs vs S Ss h1 h2 hn h4 h5 h6 h7 ih =>
    obtain ⟨_, c', e, hcap⟩ := owns_slice h1
    cases e
    exact .l _ T k n cap cs vs h1.1 h2 hn (fun _ => ⟨(fun h => by cases h), hcap⟩) (.inr ⟨g, 0, rfl, fun j hj => by rw [Nat.zero_add]; exact h1.cellAt j hj⟩) ih
/-- Where a list of the call's own lies. -/
theorem Own.forms {w : World} {base : Nat} {v : Value} {T : TypeId} {k n : Nat} {cs : List Cel} {S : Nat → Prop} (h : Own w base v (.l T k n cs) S) : (v = .slice none 0 0 ∧ n = 0 ∧ cs = [] ∧ ∀ x, ¬ S x) ∨ ∃ g cap, v = .slice (some ⟨g, 0, none⟩) n cap ∧ n ≤ cap ∧ S g := by
  cases h with
  | nil T k S h => exact .inl ⟨rfl, rfl, rfl, h⟩
  | l g cap T k n cs vs S Ss h1 h2 hn h4 h5 h6 h7 =>
    obtain ⟨_, c', e, hcap⟩ := owns_slice h1
    cases e
    exact .inr ⟨g, cap, rfl, hcap, (h7 g).2 (.inl rfl)⟩
theorem Own.len {w : World} {base : Nat} {v : Value} {T : TypeId} {k n : Nat} {cs : List Cel} {S : Nat → Prop} (h : Own w base v (.l T k n cs) S) : cs.length = n * k ∧ n ≤ 2097152 := by
  cases h with
  | nil T k S h => exact ⟨by simp, by omega⟩
  | l g cap T k n cs vs S Ss h1 h2 hn h4 h5 h6 h7 => exact ⟨h2, hn⟩
theorem Own.slice {w : World} {base : Nat} {v : Value} {T : TypeId} {k n : Nat} {cs : List Cel} {S : Nat → Prop} (h : Own w base v (.l T k n cs) S) : ∃ a c, v = .slice a n c ∧ n ≤ c := by
  rcases h.forms with ⟨rfl, rfl, -, -⟩ | ⟨g, cap, rfl, hc, -⟩
  · exact ⟨none, 0, rfl, Nat.le_refl _⟩
  · exact ⟨_, cap, rfl, hc⟩
/-- A cell of a list of the call's own: what stands there, and that it may be written. -/
theorem Own.cell {w : World} {base : Nat} {g n cap : Nat} {T : TypeId} {k : Nat} {cs : List Cel} {S : Nat → Prop} (h : Own w base (.slice (some ⟨g, 0, none⟩) n cap) (.l T k n cs) S) {j : Nat} {c : Cel} (hc : cs[j]? = some c) :
    ∃ v Sj, w.cell? ⟨g, j, none⟩ = some v ∧ w.frozen? ⟨g, j, none⟩ = false ∧ Own w base v c Sj ∧ (∀ x, Sj x → S x) ∧ ¬ Sj g := by
  cases h with
  | l g cap T k n cs vs S Ss h1 h2 hn h4 h5 h6 h7 =>
    have hj : j < cs.length := (List.getElem?_eq_some_iff.1 hc).1
    have hl := h1.1
    have hv : vs[j]? = some (vs[j]'(by omega)) := List.getElem?_eq_getElem (by omega)
    exact ⟨_, Ss j, own_cellV h1 hv, h1.frozenAt j, h4 j _ _ hv hc, fun x hx => (h7 x).2 (.inr ⟨j, by omega, hx⟩), h5 j⟩
/-- A store into a list of the call's own: the new cell's lists lie elsewhere. -/
theorem Own.store {w : World} {base : Nat} {g n cap : Nat} {T : TypeId} {k : Nat} {cs : List Cel} {S S' : Nat → Prop} (h : Own w base (.slice (some ⟨g, 0, none⟩) n cap) (.l T k n cs) S) {j : Nat} (hj : j < n * k) {u : Value} {c' : Cel} (hu : Own w base u c' S') (hS : ∀ x, S' x → ¬ S x) :
    ∃ S'', Own (w.setCell ⟨g, j, none⟩ u) base (.slice (some ⟨g, 0, none⟩) n cap) (.l T k n (cs.set j c')) S'' ∧ S'' g ∧ (∀ x, S'' x → S x ∨ S' x) ∧ ∀ x, S' x → S'' x := by
  cases h with
  | l g cap T k n cs vs S Ss h1 h2 hn h4 h5 h6 h7 =>
    have hl := h1.1
    have hg : S g := (h7 g).2 (.inl rfl)
    have sub : ∀ i x, i < n * k → Ss i x → S x := fun i x hi hx => (h7 x).2 (.inr ⟨i, hi, hx⟩)
    refine ⟨fun x => x = g ∨ ∃ i, i < n * k ∧ (if i = j then S' else Ss i) x, .l g cap T k n _ (vs.set j u) _ (fun i => if i = j then S' else if i < n * k then Ss i else fun _ => False) (h1.stored j u).1 (by simpa using h2) hn ?_ ?_ ?_ ?_, .inl rfl, ?_, fun x hx => .inr ⟨j, hj, by simpa using hx⟩⟩
    · intro i v c hv hc
      by_cases hij : i = j
      · subst hij
        rw [List.getElem?_set_self (by omega)] at hv
        rw [List.getElem?_set_self (by omega)] at hc
        cases hv
        cases hc
        rw [if_pos rfl]
        exact hu.heap fun x hx => Below.heap_setCell _ _ _ _ (fun e => hS x hx (by have e : x = g := e; rw [e]; exact hg))
      · rw [List.getElem?_set_ne (Ne.symm hij)] at hv hc
        have hi : i < n * k := by have := (List.getElem?_eq_some_iff.1 hv).1; omega
        rw [if_neg hij, if_pos hi]
        exact (h4 i v c hv hc).heap fun x hx => Below.heap_setCell _ _ _ _ (fun e => h5 i (by have e : x = g := e; rw [← e]; exact hx))
    · intro i
      show ¬ (if i = j then S' else if i < n * k then Ss i else fun _ => False) g
      split
      · exact fun hx => hS g hx hg
      · split
        · exact h5 i
        · exact fun h => h
    · intro a b x hab
      show (if a = j then S' else if a < n * k then Ss a else fun _ => False) x → ¬ (if b = j then S' else if b < n * k then Ss b else fun _ => False) x
      by_cases ha : a = j
      · rw [if_pos ha, if_neg (show ¬ b = j by omega)]
        intro hx
        split
        · rename_i hb
          exact fun hb' => hS x hx (sub b x hb hb')
        · exact fun h => h
      · rw [if_neg ha]
        split
        · rename_i hal
          intro hx
          by_cases hb : b = j
          · rw [if_pos hb]; exact fun hx' => hS x hx' (sub a x hal hx)
          · rw [if_neg hb]
            split
            · exact h6 a b x hab hx
            · exact fun h => h
        · exact fun h => h.elim
    · intro x
      constructor
      · rintro (rfl | ⟨i, hi, hx⟩)
        · exact .inl rfl
        · exact .inr ⟨i, hi, by by_cases e : i = j <;> simp [e, hi] at hx ⊢ <;> exact hx⟩
      · rintro (rfl | ⟨i, hi, hx⟩)
        · exact .inl rfl
        · exact .inr ⟨i, hi, by by_cases e : i = j <;> simp [e, hi] at hx ⊢ <;> exact hx⟩
    · rintro x (rfl | ⟨i, hi, hx⟩)
      · exact .inl hg
      · by_cases e : i = j
        · rw [if_pos e] at hx; exact .inr hx
        · rw [if_neg e] at hx; exact .inl (sub i x hi hx)

theorem OwnL.nil {w : World} {base : Nat} {S : Nat → Prop} (hS : ∀ x, ¬ S x) : OwnL w base [] [] S :=
  ⟨rfl, fun _ _ => False, (fun j v c hv _ => by simp at hv), (fun _ _ _ _ h => h.elim), fun x => ⟨fun h => absurd h (hS x), fun ⟨j, hj, _⟩ => by simp at hj⟩⟩
theorem OwnL.cons {w : World} {base : Nat} {v : Value} {c : Cel} {vs : List Value} {cs : List Cel} {S0 S S' : Nat → Prop} (h : Own w base v c S0) (hs : OwnL w base vs cs S) (hd : ∀ x, S0 x → ¬ S x) (hS : ∀ x, S' x ↔ S0 x ∨ S x) : OwnL w base (v :: vs) (c :: cs) S' := by
  obtain ⟨hl, Ss, h1, h2, h3⟩ := hs
  refine ⟨by simp [hl], fun j => match j with | 0 => S0 | j + 1 => fun x => j < vs.length ∧ Ss j x, ?_, ?_, ?_⟩
  · intro j v' c' hv hc
    cases j with
    | zero => simp at hv hc; subst hv hc; exact h
    | succ j =>
      simp at hv hc
      have hj := (List.getElem?_eq_some_iff.1 hv).1
      exact (h1 j v' c' hv hc).set fun x => ⟨fun hx => ⟨hj, hx⟩, fun hx => hx.2⟩
  · intro i j x hij
    match i, j with
    | 0, 0 => exact absurd rfl hij
    | 0, j + 1 => exact fun hx hx' => hd x hx ((h3 x).2 ⟨j, hx'.1, hx'.2⟩)
    | i + 1, 0 => exact fun hx hx' => hd x hx' ((h3 x).2 ⟨i, hx.1, hx.2⟩)
    | i + 1, j + 1 => exact fun hx hx' => h2 i j x (by omega) hx.2 hx'.2
  · intro x
    rw [hS x, h3 x]
    constructor
    · rintro (hx | ⟨j, hj, hx⟩)
      · exact ⟨0, by simp, hx⟩
      · exact ⟨j + 1, by simpa using hj, hj, hx⟩
    · rintro ⟨j, hj, hx⟩
      cases j with
      | zero => exact .inl hx
      | succ j => exact .inr ⟨j, hx.1, hx.2⟩
theorem OwnL.parts {w : World} {base : Nat} {v : Value} {c : Cel} {vs : List Value} {cs : List Cel} {S : Nat → Prop} (h : OwnL w base (v :: vs) (c :: cs) S) : ∃ S0 S1, Own w base v c S0 ∧ OwnL w base vs cs S1 ∧ (∀ x, S0 x → ¬ S1 x) ∧ ∀ x, S x ↔ S0 x ∨ S1 x := by
  obtain ⟨hl, Ss, h1, h2, h3⟩ := h
  refine ⟨Ss 0, fun x => ∃ j, j < vs.length ∧ Ss (j + 1) x, h1 0 v c rfl rfl, ⟨by simpa using hl, fun j => Ss (j + 1), fun j v' c' hv hc => h1 (j + 1) v' c' (by simpa using hv) (by simpa using hc), fun i j x hij => h2 _ _ x (by omega), fun x => Iff.rfl⟩, ?_, ?_⟩
  · rintro x hx ⟨j, _, hx'⟩
    exact h2 0 (j + 1) x (by omega) hx hx'
  · intro x
    rw [h3 x]
    constructor
    · rintro ⟨j, hj, hx⟩
      cases j with
      | zero => exact .inl hx
      | succ j => exact .inr ⟨j, by simpa using hj, hx⟩
    · rintro (hx | ⟨j, hj, hx⟩)
      · exact ⟨0, by simp, hx⟩
      · exact ⟨j + 1, by simpa using hj, hx⟩
theorem OwnL.heap {w w' : World} {base : Nat} {vs : List Value} {cs : List Cel} {S : Nat → Prop} (h : OwnL w base vs cs S) (he : ∀ x, S x → w'.heap[x]? = w.heap[x]?) : OwnL w' base vs cs S := by
  obtain ⟨hl, Ss, h1, h2, h3⟩ := h
  exact ⟨hl, Ss, fun j v c hv hc => (h1 j v c hv hc).heap fun x hx => he x ((h3 x).2 ⟨j, (List.getElem?_eq_some_iff.1 hv).1, hx⟩), h2, h3⟩
theorem OwnL.lt {w : World} {base : Nat} {vs : List Value} {cs : List Cel} {S : Nat → Prop} (h : OwnL w base vs cs S) : ∀ x, S x → base ≤ x ∧ x < w.heap.size := by
  obtain ⟨hl, Ss, h1, h2, h3⟩ := h
  intro x hx
  obtain ⟨j, hj, hx⟩ := (h3 x).1 hx
  exact (h1 j _ _ (List.getElem?_eq_getElem hj) (List.getElem?_eq_getElem (by omega))).lt x hx
theorem OwnL.on {w w' : World} {base : Nat} {vs : List Value} {cs : List Cel} {S : Nat → Prop} (h : OwnL w base vs cs S) {B : Nat} (hb : Below B w w') (hB : w.heap.size ≤ B) : OwnL w' base vs cs S :=
  h.heap fun x hx => hb.block x (by have := (h.lt x hx).2; omega)
theorem OwnL.weaken {w : World} {base base' : Nat} {vs : List Value} {cs : List Cel} {S : Nat → Prop} (h : OwnL w base vs cs S) (hb : base' ≤ base) : OwnL w base' vs cs S := by
  obtain ⟨hl, Ss, h1, h2, h3⟩ := h
  exact ⟨hl, Ss, fun j v c hv hc => (h1 j v c hv hc).weaken hb, h2, h3⟩
theorem OwnL.at {w : World} {base : Nat} {vs : List Value} {cs : List Cel} {S : Nat → Prop} (h : OwnL w base vs cs S) : AtL true w vs cs := by
  obtain ⟨hl, Ss, h1, h2, h3⟩ := h
  exact ⟨hl, fun j v c hv hc => (h1 j v c hv hc).at⟩
end Go.Proofs.YtkbodiggdajbeaaDoor
