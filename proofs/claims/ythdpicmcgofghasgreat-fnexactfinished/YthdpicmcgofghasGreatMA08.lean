/- Texts joined: ImplOp. -/
import Derived.Test.YthdpicmcgofghasGreatMA01
import Derived.Test.YthdpicmcgofghasGreatMA05
/- impl.deedOf and impl.OpOk, walked. -/
namespace Go.Proofs.YthdpicmcgofghasGreat
open Go.ChangeShapes Go.WideShapes Go.ChangeAt Go.RowKit

/-- The type of an op of that kind. -/
def deedT (kind : Int) : TypeId :=
  if kind = 1 then 177 else if kind = 2 then 178 else if kind = 3 then 179
  else if kind = 4 then 180 else if kind = 5 then 181 else if kind = 6 then 182
  else if kind = 7 then 183 else if kind = 8 then 184 else if kind = 9 then 185
  else if kind = 10 then 186 else 187
/-- An op of its own kind as a value. -/
abbrev DeedV (kind k v : Int) : Value := .iface (deedT kind) (OpV kind k v)

set_option maxHeartbeats 2000000 in
theorem implDeedOf_any (kind k v : Int) (w : World) :
    Calls Tryz.prog 105 #[OpV kind k v] w fun e w' => e = .returned (DeedV kind k v) ∧ Below w.heap.size w w' := by
  by_cases h : 1 ≤ kind ∧ kind ≤ 10
  · rcases kinds h with rfl | rfl | rfl | rfl | rfl | rfl | rfl | rfl | rfl | rfl
    all_goals
      go_enter Tryz.func105, Tryz.ntmps105
      go_wp2
      go_ret
      exact ⟨rfl, (Below.refl _ _).alloc (Nat.le_refl _) _⟩
  · have hT : deedT kind = 187 := by
      unfold deedT
      rw [if_neg (by omega), if_neg (by omega), if_neg (by omega), if_neg (by omega), if_neg (by omega), if_neg (by omega), if_neg (by omega), if_neg (by omega), if_neg (by omega), if_neg (by omega)]
    have h1 : (kind == 1) = false := by simp; omega
    have h2 : (kind == 2) = false := by simp; omega
    have h3 : (kind == 3) = false := by simp; omega
    have h4 : (kind == 4) = false := by simp; omega
    have h5 : (kind == 5) = false := by simp; omega
    have h6 : (kind == 6) = false := by simp; omega
    have h7 : (kind == 7) = false := by simp; omega
    have h8 : (kind == 8) = false := by simp; omega
    have h9 : (kind == 9) = false := by simp; omega
    have h10 : (kind == 10) = false := by simp; omega
    rw [show DeedV kind k v = .iface 187 (OpV kind k v) by rw [DeedV, hT]]
    clear hT h
    go_enter Tryz.func105, Tryz.ntmps105
    go_wp2
    go_ret
    exact ⟨rfl, (Below.refl _ _).alloc (Nat.le_refl _) _⟩

set_option maxHeartbeats 2000000 in
theorem fits_1 (k v : Int) (w : World) :
    Calls Tryz.prog 158 #[OpV 1 k v] w fun e w' => e = .returned (.bool (decide ((0 ≤ k ∧ k ≤ 3) ∧ (1 ≤ v ∧ v ≤ 6)))) ∧ Below w.heap.size w w' := by
  obtain ⟨B, hB⟩ : ∃ B, decide ((0 ≤ k ∧ k ≤ 3) ∧ (1 ≤ v ∧ v ≤ 6)) = B := ⟨_, rfl⟩
  rw [hB]
  have HB : Hid (decide ((0 ≤ k ∧ k ≤ 3) ∧ (1 ≤ v ∧ v ≤ 6)) = B) := hB
  clear hB
  rcases tri 0 3 k (by decide) with ⟨h0, h1⟩ | ⟨h0, h1⟩ | ⟨h0, h1⟩ <;> rcases tri 1 6 v (by decide) with ⟨g0, g1⟩ | ⟨g0, g1⟩ | ⟨g0, g1⟩
  all_goals
    go_enter Tryz.func158, Tryz.ntmps158
    go_wp2
    go_ret
    refine ⟨?_, (Below.refl _ _).alloc (Nat.le_refl _) _⟩
    rw [← HB.out]
    first
      | exact says_true (by omega)
      | exact says_false (by omega)
set_option maxHeartbeats 2000000 in
set_option maxRecDepth 100000 in
theorem implOpOk_1 (k v : Int) (w : World) :
    Calls Tryz.prog 68 #[OpV 1 k v] w fun e w' => e = .returned (.bool (decide ((0 ≤ k ∧ k ≤ 3) ∧ (1 ≤ v ∧ v ≤ 6)))) ∧ Below w.heap.size w w' := by
  have hm : ∀ w : World, (method 316 177 (OpV 1 k v) "loop.example/g00468/impl.fits").run Tryz.prog w = .ok (158, OpV 1 k v) w := fun _ => by kernel_rfl
  obtain ⟨B, hB⟩ : ∃ B, decide ((0 ≤ k ∧ k ≤ 3) ∧ (1 ≤ v ∧ v ≤ 6)) = B := ⟨_, rfl⟩
  rw [hB]
  have HB : Hid (decide ((0 ≤ k ∧ k ≤ 3) ∧ (1 ≤ v ∧ v ≤ 6)) = B) := hB
  clear hB
  go_enter Tryz.func68, Tryz.ntmps68
  go_wp2_with fail
  refine (implDeedOf_any 1 k v _).mono ?_
  rintro e w1 ⟨rfl, hb1⟩
  rw [show DeedV 1 k v = .iface 177 (OpV 1 k v) from rfl]
  go_wp2_with fail
  refine (fits_1 k v _).mono ?_
  rintro e w2 ⟨rfl, hb2⟩
  rw [HB.out]
  have hs : w.heap.size + 1 ≤ w1.heap.size := by simpa using hb1.size
  have hall : Below w.heap.size w w2 := (((Below.refl _ w).alloc (Nat.le_refl _) _).trans (hb1.mono (by simp))).trans (hb2.mono (by omega))
  clear hb1 hb2 hm
  go_wp2
  go_ret
  exact ⟨rfl, hall⟩

set_option maxHeartbeats 2000000 in
theorem fits_2 (k v : Int) (w : World) :
    Calls Tryz.prog 160 #[OpV 2 k v] w fun e w' => e = .returned (.bool (decide ((0 ≤ k ∧ k ≤ 3) ∧ (1 ≤ v ∧ v ≤ 6)))) ∧ Below w.heap.size w w' := by
  obtain ⟨B, hB⟩ : ∃ B, decide ((0 ≤ k ∧ k ≤ 3) ∧ (1 ≤ v ∧ v ≤ 6)) = B := ⟨_, rfl⟩
  rw [hB]
  have HB : Hid (decide ((0 ≤ k ∧ k ≤ 3) ∧ (1 ≤ v ∧ v ≤ 6)) = B) := hB
  clear hB
  rcases tri 0 3 k (by decide) with ⟨h0, h1⟩ | ⟨h0, h1⟩ | ⟨h0, h1⟩ <;> rcases tri 1 6 v (by decide) with ⟨g0, g1⟩ | ⟨g0, g1⟩ | ⟨g0, g1⟩
  all_goals
    go_enter Tryz.func160, Tryz.ntmps160
    go_wp2
    go_ret
    refine ⟨?_, (Below.refl _ _).alloc (Nat.le_refl _) _⟩
    rw [← HB.out]
    first
      | exact says_true (by omega)
      | exact says_false (by omega)
set_option maxHeartbeats 2000000 in
set_option maxRecDepth 100000 in
theorem implOpOk_2 (k v : Int) (w : World) :
    Calls Tryz.prog 68 #[OpV 2 k v] w fun e w' => e = .returned (.bool (decide ((0 ≤ k ∧ k ≤ 3) ∧ (1 ≤ v ∧ v ≤ 6)))) ∧ Below w.heap.size w w' := by
  have hm : ∀ w : World, (method 316 178 (OpV 2 k v) "loop.example/g00468/impl.fits").run Tryz.prog w = .ok (160, OpV 2 k v) w := fun _ => by kernel_rfl
  obtain ⟨B, hB⟩ : ∃ B, decide ((0 ≤ k ∧ k ≤ 3) ∧ (1 ≤ v ∧ v ≤ 6)) = B := ⟨_, rfl⟩
  rw [hB]
  have HB : Hid (decide ((0 ≤ k ∧ k ≤ 3) ∧ (1 ≤ v ∧ v ≤ 6)) = B) := hB
  clear hB
  go_enter Tryz.func68, Tryz.ntmps68
  go_wp2_with fail
  refine (implDeedOf_any 2 k v _).mono ?_
  rintro e w1 ⟨rfl, hb1⟩
  rw [show DeedV 2 k v = .iface 178 (OpV 2 k v) from rfl]
  go_wp2_with fail
  refine (fits_2 k v _).mono ?_
  rintro e w2 ⟨rfl, hb2⟩
  rw [HB.out]
  have hs : w.heap.size + 1 ≤ w1.heap.size := by simpa using hb1.size
  have hall : Below w.heap.size w w2 := (((Below.refl _ w).alloc (Nat.le_refl _) _).trans (hb1.mono (by simp))).trans (hb2.mono (by omega))
  clear hb1 hb2 hm
  go_wp2
  go_ret
  exact ⟨rfl, hall⟩

set_option maxHeartbeats 2000000 in
theorem fits_3 (k v : Int) (w : World) :
    Calls Tryz.prog 161 #[OpV 3 k v] w fun e w' => e = .returned (.bool (decide ((0 ≤ k ∧ k ≤ 3) ∧ v = 0))) ∧ Below w.heap.size w w' := by
  obtain ⟨B, hB⟩ : ∃ B, decide ((0 ≤ k ∧ k ≤ 3) ∧ v = 0) = B := ⟨_, rfl⟩
  rw [hB]
  have HB : Hid (decide ((0 ≤ k ∧ k ≤ 3) ∧ v = 0) = B) := hB
  clear hB
  rcases tri 0 3 k (by decide) with ⟨h0, h1⟩ | ⟨h0, h1⟩ | ⟨h0, h1⟩ <;> rcases eqb v 0 with ⟨g0, g1⟩ | ⟨g0, g1⟩
  all_goals
    go_enter Tryz.func161, Tryz.ntmps161
    go_wp2
    go_ret
    refine ⟨?_, (Below.refl _ _).alloc (Nat.le_refl _) _⟩
    rw [← HB.out]
    first
      | exact says_true (by omega)
      | exact says_false (by omega)
set_option maxHeartbeats 2000000 in
set_option maxRecDepth 100000 in
theorem implOpOk_3 (k v : Int) (w : World) :
    Calls Tryz.prog 68 #[OpV 3 k v] w fun e w' => e = .returned (.bool (decide ((0 ≤ k ∧ k ≤ 3) ∧ v = 0))) ∧ Below w.heap.size w w' := by
  have hm : ∀ w : World, (method 316 179 (OpV 3 k v) "loop.example/g00468/impl.fits").run Tryz.prog w = .ok (161, OpV 3 k v) w := fun _ => by kernel_rfl
  obtain ⟨B, hB⟩ : ∃ B, decide ((0 ≤ k ∧ k ≤ 3) ∧ v = 0) = B := ⟨_, rfl⟩
  rw [hB]
  have HB : Hid (decide ((0 ≤ k ∧ k ≤ 3) ∧ v = 0) = B) := hB
  clear hB
  go_enter Tryz.func68, Tryz.ntmps68
  go_wp2_with fail
  refine (implDeedOf_any 3 k v _).mono ?_
  rintro e w1 ⟨rfl, hb1⟩
  rw [show DeedV 3 k v = .iface 179 (OpV 3 k v) from rfl]
  go_wp2_with fail
  refine (fits_3 k v _).mono ?_
  rintro e w2 ⟨rfl, hb2⟩
  rw [HB.out]
  have hs : w.heap.size + 1 ≤ w1.heap.size := by simpa using hb1.size
  have hall : Below w.heap.size w w2 := (((Below.refl _ w).alloc (Nat.le_refl _) _).trans (hb1.mono (by simp))).trans (hb2.mono (by omega))
  clear hb1 hb2 hm
  go_wp2
  go_ret
  exact ⟨rfl, hall⟩

set_option maxHeartbeats 2000000 in
theorem fits_4 (k v : Int) (w : World) :
    Calls Tryz.prog 162 #[OpV 4 k v] w fun e w' => e = .returned (.bool (decide ((0 ≤ k ∧ k ≤ 3) ∧ v = 0))) ∧ Below w.heap.size w w' := by
  obtain ⟨B, hB⟩ : ∃ B, decide ((0 ≤ k ∧ k ≤ 3) ∧ v = 0) = B := ⟨_, rfl⟩
  rw [hB]
  have HB : Hid (decide ((0 ≤ k ∧ k ≤ 3) ∧ v = 0) = B) := hB
  clear hB
  rcases tri 0 3 k (by decide) with ⟨h0, h1⟩ | ⟨h0, h1⟩ | ⟨h0, h1⟩ <;> rcases eqb v 0 with ⟨g0, g1⟩ | ⟨g0, g1⟩
  all_goals
    go_enter Tryz.func162, Tryz.ntmps162
    go_wp2
    go_ret
    refine ⟨?_, (Below.refl _ _).alloc (Nat.le_refl _) _⟩
    rw [← HB.out]
    first
      | exact says_true (by omega)
      | exact says_false (by omega)
set_option maxHeartbeats 2000000 in
set_option maxRecDepth 100000 in
theorem implOpOk_4 (k v : Int) (w : World) :
    Calls Tryz.prog 68 #[OpV 4 k v] w fun e w' => e = .returned (.bool (decide ((0 ≤ k ∧ k ≤ 3) ∧ v = 0))) ∧ Below w.heap.size w w' := by
  have hm : ∀ w : World, (method 316 180 (OpV 4 k v) "loop.example/g00468/impl.fits").run Tryz.prog w = .ok (162, OpV 4 k v) w := fun _ => by kernel_rfl
  obtain ⟨B, hB⟩ : ∃ B, decide ((0 ≤ k ∧ k ≤ 3) ∧ v = 0) = B := ⟨_, rfl⟩
  rw [hB]
  have HB : Hid (decide ((0 ≤ k ∧ k ≤ 3) ∧ v = 0) = B) := hB
  clear hB
  go_enter Tryz.func68, Tryz.ntmps68
  go_wp2_with fail
  refine (implDeedOf_any 4 k v _).mono ?_
  rintro e w1 ⟨rfl, hb1⟩
  rw [show DeedV 4 k v = .iface 180 (OpV 4 k v) from rfl]
  go_wp2_with fail
  refine (fits_4 k v _).mono ?_
  rintro e w2 ⟨rfl, hb2⟩
  rw [HB.out]
  have hs : w.heap.size + 1 ≤ w1.heap.size := by simpa using hb1.size
  have hall : Below w.heap.size w w2 := (((Below.refl _ w).alloc (Nat.le_refl _) _).trans (hb1.mono (by simp))).trans (hb2.mono (by omega))
  clear hb1 hb2 hm
  go_wp2
  go_ret
  exact ⟨rfl, hall⟩

set_option maxHeartbeats 2000000 in
theorem fits_5 (k v : Int) (w : World) :
    Calls Tryz.prog 163 #[OpV 5 k v] w fun e w' => e = .returned (.bool (decide (k = 0 ∧ (1 ≤ v ∧ v ≤ 6)))) ∧ Below w.heap.size w w' := by
  obtain ⟨B, hB⟩ : ∃ B, decide (k = 0 ∧ (1 ≤ v ∧ v ≤ 6)) = B := ⟨_, rfl⟩
  rw [hB]
  have HB : Hid (decide (k = 0 ∧ (1 ≤ v ∧ v ≤ 6)) = B) := hB
  clear hB
  rcases eqb k 0 with ⟨h0, h1⟩ | ⟨h0, h1⟩ <;> rcases tri 1 6 v (by decide) with ⟨g0, g1⟩ | ⟨g0, g1⟩ | ⟨g0, g1⟩
  all_goals
    go_enter Tryz.func163, Tryz.ntmps163
    go_wp2
    go_ret
    refine ⟨?_, (Below.refl _ _).alloc (Nat.le_refl _) _⟩
    rw [← HB.out]
    first
      | exact says_true (by omega)
      | exact says_false (by omega)
set_option maxHeartbeats 2000000 in
set_option maxRecDepth 100000 in
theorem implOpOk_5 (k v : Int) (w : World) :
    Calls Tryz.prog 68 #[OpV 5 k v] w fun e w' => e = .returned (.bool (decide (k = 0 ∧ (1 ≤ v ∧ v ≤ 6)))) ∧ Below w.heap.size w w' := by
  have hm : ∀ w : World, (method 316 181 (OpV 5 k v) "loop.example/g00468/impl.fits").run Tryz.prog w = .ok (163, OpV 5 k v) w := fun _ => by kernel_rfl
  obtain ⟨B, hB⟩ : ∃ B, decide (k = 0 ∧ (1 ≤ v ∧ v ≤ 6)) = B := ⟨_, rfl⟩
  rw [hB]
  have HB : Hid (decide (k = 0 ∧ (1 ≤ v ∧ v ≤ 6)) = B) := hB
  clear hB
  go_enter Tryz.func68, Tryz.ntmps68
  go_wp2_with fail
  refine (implDeedOf_any 5 k v _).mono ?_
  rintro e w1 ⟨rfl, hb1⟩
  rw [show DeedV 5 k v = .iface 181 (OpV 5 k v) from rfl]
  go_wp2_with fail
  refine (fits_5 k v _).mono ?_
  rintro e w2 ⟨rfl, hb2⟩
  rw [HB.out]
  have hs : w.heap.size + 1 ≤ w1.heap.size := by simpa using hb1.size
  have hall : Below w.heap.size w w2 := (((Below.refl _ w).alloc (Nat.le_refl _) _).trans (hb1.mono (by simp))).trans (hb2.mono (by omega))
  clear hb1 hb2 hm
  go_wp2
  go_ret
  exact ⟨rfl, hall⟩

set_option maxHeartbeats 2000000 in
theorem fits_6 (k v : Int) (w : World) :
    Calls Tryz.prog 164 #[OpV 6 k v] w fun e w' => e = .returned (.bool (decide ((0 ≤ k ∧ k ≤ 2) ∧ v = 0))) ∧ Below w.heap.size w w' := by
  obtain ⟨B, hB⟩ : ∃ B, decide ((0 ≤ k ∧ k ≤ 2) ∧ v = 0) = B := ⟨_, rfl⟩
  rw [hB]
  have HB : Hid (decide ((0 ≤ k ∧ k ≤ 2) ∧ v = 0) = B) := hB
  clear hB
  rcases tri 0 2 k (by decide) with ⟨h0, h1⟩ | ⟨h0, h1⟩ | ⟨h0, h1⟩ <;> rcases eqb v 0 with ⟨g0, g1⟩ | ⟨g0, g1⟩
  all_goals
    go_enter Tryz.func164, Tryz.ntmps164
    go_wp2
    go_ret
    refine ⟨?_, (Below.refl _ _).alloc (Nat.le_refl _) _⟩
    rw [← HB.out]
    first
      | exact says_true (by omega)
      | exact says_false (by omega)
set_option maxHeartbeats 2000000 in
set_option maxRecDepth 100000 in
theorem implOpOk_6 (k v : Int) (w : World) :
    Calls Tryz.prog 68 #[OpV 6 k v] w fun e w' => e = .returned (.bool (decide ((0 ≤ k ∧ k ≤ 2) ∧ v = 0))) ∧ Below w.heap.size w w' := by
  have hm : ∀ w : World, (method 316 182 (OpV 6 k v) "loop.example/g00468/impl.fits").run Tryz.prog w = .ok (164, OpV 6 k v) w := fun _ => by kernel_rfl
  obtain ⟨B, hB⟩ : ∃ B, decide ((0 ≤ k ∧ k ≤ 2) ∧ v = 0) = B := ⟨_, rfl⟩
  rw [hB]
  have HB : Hid (decide ((0 ≤ k ∧ k ≤ 2) ∧ v = 0) = B) := hB
  clear hB
  go_enter Tryz.func68, Tryz.ntmps68
  go_wp2_with fail
  refine (implDeedOf_any 6 k v _).mono ?_
  rintro e w1 ⟨rfl, hb1⟩
  rw [show DeedV 6 k v = .iface 182 (OpV 6 k v) from rfl]
  go_wp2_with fail
  refine (fits_6 k v _).mono ?_
  rintro e w2 ⟨rfl, hb2⟩
  rw [HB.out]
  have hs : w.heap.size + 1 ≤ w1.heap.size := by simpa using hb1.size
  have hall : Below w.heap.size w w2 := (((Below.refl _ w).alloc (Nat.le_refl _) _).trans (hb1.mono (by simp))).trans (hb2.mono (by omega))
  clear hb1 hb2 hm
  go_wp2
  go_ret
  exact ⟨rfl, hall⟩

set_option maxHeartbeats 2000000 in
theorem fits_7 (k v : Int) (w : World) :
    Calls Tryz.prog 165 #[OpV 7 k v] w fun e w' => e = .returned (.bool (decide (k = 0 ∧ v = 0))) ∧ Below w.heap.size w w' := by
  obtain ⟨B, hB⟩ : ∃ B, decide (k = 0 ∧ v = 0) = B := ⟨_, rfl⟩
  rw [hB]
  have HB : Hid (decide (k = 0 ∧ v = 0) = B) := hB
  clear hB
  rcases eqb k 0 with ⟨h0, h1⟩ | ⟨h0, h1⟩ <;> rcases eqb v 0 with ⟨g0, g1⟩ | ⟨g0, g1⟩
  all_goals
    go_enter Tryz.func165, Tryz.ntmps165
    go_wp2
    go_ret
    refine ⟨?_, (Below.refl _ _).alloc (Nat.le_refl _) _⟩
    rw [← HB.out]
    first
      | exact says_true (by omega)
      | exact says_false (by omega)
set_option maxHeartbeats 2000000 in
set_option maxRecDepth 100000 in
theorem implOpOk_7 (k v : Int) (w : World) :
    Calls Tryz.prog 68 #[OpV 7 k v] w fun e w' => e = .returned (.bool (decide (k = 0 ∧ v = 0))) ∧ Below w.heap.size w w' := by
  have hm : ∀ w : World, (method 316 183 (OpV 7 k v) "loop.example/g00468/impl.fits").run Tryz.prog w = .ok (165, OpV 7 k v) w := fun _ => by kernel_rfl
  obtain ⟨B, hB⟩ : ∃ B, decide (k = 0 ∧ v = 0) = B := ⟨_, rfl⟩
  rw [hB]
  have HB : Hid (decide (k = 0 ∧ v = 0) = B) := hB
  clear hB
  go_enter Tryz.func68, Tryz.ntmps68
  go_wp2_with fail
  refine (implDeedOf_any 7 k v _).mono ?_
  rintro e w1 ⟨rfl, hb1⟩
  rw [show DeedV 7 k v = .iface 183 (OpV 7 k v) from rfl]
  go_wp2_with fail
  refine (fits_7 k v _).mono ?_
  rintro e w2 ⟨rfl, hb2⟩
  rw [HB.out]
  have hs : w.heap.size + 1 ≤ w1.heap.size := by simpa using hb1.size
  have hall : Below w.heap.size w w2 := (((Below.refl _ w).alloc (Nat.le_refl _) _).trans (hb1.mono (by simp))).trans (hb2.mono (by omega))
  clear hb1 hb2 hm
  go_wp2
  go_ret
  exact ⟨rfl, hall⟩

set_option maxHeartbeats 2000000 in
theorem fits_8 (k v : Int) (w : World) :
    Calls Tryz.prog 166 #[OpV 8 k v] w fun e w' => e = .returned (.bool (decide (k = 0 ∧ v = 0))) ∧ Below w.heap.size w w' := by
  obtain ⟨B, hB⟩ : ∃ B, decide (k = 0 ∧ v = 0) = B := ⟨_, rfl⟩
  rw [hB]
  have HB : Hid (decide (k = 0 ∧ v = 0) = B) := hB
  clear hB
  rcases eqb k 0 with ⟨h0, h1⟩ | ⟨h0, h1⟩ <;> rcases eqb v 0 with ⟨g0, g1⟩ | ⟨g0, g1⟩
  all_goals
    go_enter Tryz.func166, Tryz.ntmps166
    go_wp2
    go_ret
    refine ⟨?_, (Below.refl _ _).alloc (Nat.le_refl _) _⟩
    rw [← HB.out]
    first
      | exact says_true (by omega)
      | exact says_false (by omega)
set_option maxHeartbeats 2000000 in
set_option maxRecDepth 100000 in
theorem implOpOk_8 (k v : Int) (w : World) :
    Calls Tryz.prog 68 #[OpV 8 k v] w fun e w' => e = .returned (.bool (decide (k = 0 ∧ v = 0))) ∧ Below w.heap.size w w' := by
  have hm : ∀ w : World, (method 316 184 (OpV 8 k v) "loop.example/g00468/impl.fits").run Tryz.prog w = .ok (166, OpV 8 k v) w := fun _ => by kernel_rfl
  obtain ⟨B, hB⟩ : ∃ B, decide (k = 0 ∧ v = 0) = B := ⟨_, rfl⟩
  rw [hB]
  have HB : Hid (decide (k = 0 ∧ v = 0) = B) := hB
  clear hB
  go_enter Tryz.func68, Tryz.ntmps68
  go_wp2_with fail
  refine (implDeedOf_any 8 k v _).mono ?_
  rintro e w1 ⟨rfl, hb1⟩
  rw [show DeedV 8 k v = .iface 184 (OpV 8 k v) from rfl]
  go_wp2_with fail
  refine (fits_8 k v _).mono ?_
  rintro e w2 ⟨rfl, hb2⟩
  rw [HB.out]
  have hs : w.heap.size + 1 ≤ w1.heap.size := by simpa using hb1.size
  have hall : Below w.heap.size w w2 := (((Below.refl _ w).alloc (Nat.le_refl _) _).trans (hb1.mono (by simp))).trans (hb2.mono (by omega))
  clear hb1 hb2 hm
  go_wp2
  go_ret
  exact ⟨rfl, hall⟩

set_option maxHeartbeats 2000000 in
theorem fits_9 (k v : Int) (w : World) :
    Calls Tryz.prog 167 #[OpV 9 k v] w fun e w' => e = .returned (.bool (decide (k = 0 ∧ v = 0))) ∧ Below w.heap.size w w' := by
  obtain ⟨B, hB⟩ : ∃ B, decide (k = 0 ∧ v = 0) = B := ⟨_, rfl⟩
  rw [hB]
  have HB : Hid (decide (k = 0 ∧ v = 0) = B) := hB
  clear hB
  rcases eqb k 0 with ⟨h0, h1⟩ | ⟨h0, h1⟩ <;> rcases eqb v 0 with ⟨g0, g1⟩ | ⟨g0, g1⟩
  all_goals
    go_enter Tryz.func167, Tryz.ntmps167
    go_wp2
    go_ret
    refine ⟨?_, (Below.refl _ _).alloc (Nat.le_refl _) _⟩
    rw [← HB.out]
    first
      | exact says_true (by omega)
      | exact says_false (by omega)
set_option maxHeartbeats 2000000 in
set_option maxRecDepth 100000 in
theorem implOpOk_9 (k v : Int) (w : World) :
    Calls Tryz.prog 68 #[OpV 9 k v] w fun e w' => e = .returned (.bool (decide (k = 0 ∧ v = 0))) ∧ Below w.heap.size w w' := by
  have hm : ∀ w : World, (method 316 185 (OpV 9 k v) "loop.example/g00468/impl.fits").run Tryz.prog w = .ok (167, OpV 9 k v) w := fun _ => by kernel_rfl
  obtain ⟨B, hB⟩ : ∃ B, decide (k = 0 ∧ v = 0) = B := ⟨_, rfl⟩
  rw [hB]
  have HB : Hid (decide (k = 0 ∧ v = 0) = B) := hB
  clear hB
  go_enter Tryz.func68, Tryz.ntmps68
  go_wp2_with fail
  refine (implDeedOf_any 9 k v _).mono ?_
  rintro e w1 ⟨rfl, hb1⟩
  rw [show DeedV 9 k v = .iface 185 (OpV 9 k v) from rfl]
  go_wp2_with fail
  refine (fits_9 k v _).mono ?_
  rintro e w2 ⟨rfl, hb2⟩
  rw [HB.out]
  have hs : w.heap.size + 1 ≤ w1.heap.size := by simpa using hb1.size
  have hall : Below w.heap.size w w2 := (((Below.refl _ w).alloc (Nat.le_refl _) _).trans (hb1.mono (by simp))).trans (hb2.mono (by omega))
  clear hb1 hb2 hm
  go_wp2
  go_ret
  exact ⟨rfl, hall⟩

set_option maxHeartbeats 2000000 in
theorem fits_10 (k v : Int) (w : World) :
    Calls Tryz.prog 168 #[OpV 10 k v] w fun e w' => e = .returned (.bool (decide (k = 0 ∧ (1 ≤ v ∧ v ≤ 6)))) ∧ Below w.heap.size w w' := by
  obtain ⟨B, hB⟩ : ∃ B, decide (k = 0 ∧ (1 ≤ v ∧ v ≤ 6)) = B := ⟨_, rfl⟩
  rw [hB]
  have HB : Hid (decide (k = 0 ∧ (1 ≤ v ∧ v ≤ 6)) = B) := hB
  clear hB
  rcases eqb k 0 with ⟨h0, h1⟩ | ⟨h0, h1⟩ <;> rcases tri 1 6 v (by decide) with ⟨g0, g1⟩ | ⟨g0, g1⟩ | ⟨g0, g1⟩
  all_goals
    go_enter Tryz.func168, Tryz.ntmps168
    go_wp2
    go_ret
    refine ⟨?_, (Below.refl _ _).alloc (Nat.le_refl _) _⟩
    rw [← HB.out]
    first
      | exact says_true (by omega)
      | exact says_false (by omega)
set_option maxHeartbeats 2000000 in
set_option maxRecDepth 100000 in
theorem implOpOk_10 (k v : Int) (w : World) :
    Calls Tryz.prog 68 #[OpV 10 k v] w fun e w' => e = .returned (.bool (decide (k = 0 ∧ (1 ≤ v ∧ v ≤ 6)))) ∧ Below w.heap.size w w' := by
  have hm : ∀ w : World, (method 316 186 (OpV 10 k v) "loop.example/g00468/impl.fits").run Tryz.prog w = .ok (168, OpV 10 k v) w := fun _ => by kernel_rfl
  obtain ⟨B, hB⟩ : ∃ B, decide (k = 0 ∧ (1 ≤ v ∧ v ≤ 6)) = B := ⟨_, rfl⟩
  rw [hB]
  have HB : Hid (decide (k = 0 ∧ (1 ≤ v ∧ v ≤ 6)) = B) := hB
  clear hB
  go_enter Tryz.func68, Tryz.ntmps68
  go_wp2_with fail
  refine (implDeedOf_any 10 k v _).mono ?_
  rintro e w1 ⟨rfl, hb1⟩
  rw [show DeedV 10 k v = .iface 186 (OpV 10 k v) from rfl]
  go_wp2_with fail
  refine (fits_10 k v _).mono ?_
  rintro e w2 ⟨rfl, hb2⟩
  rw [HB.out]
  have hs : w.heap.size + 1 ≤ w1.heap.size := by simpa using hb1.size
  have hall : Below w.heap.size w w2 := (((Below.refl _ w).alloc (Nat.le_refl _) _).trans (hb1.mono (by simp))).trans (hb2.mono (by omega))
  clear hb1 hb2 hm
  go_wp2
  go_ret
  exact ⟨rfl, hall⟩

set_option maxHeartbeats 2000000 in
set_option maxRecDepth 100000 in
theorem implOpOk_none (kind k v : Int) (w : World) (h : ¬ (1 ≤ kind ∧ kind ≤ 10)) :
    Calls Tryz.prog 68 #[OpV kind k v] w fun e w' => e = .returned (.bool false) ∧ Below w.heap.size w w' := by
  have hm : ∀ w : World, (method 316 187 (OpV kind k v) "loop.example/g00468/impl.fits").run Tryz.prog w = .ok (169, OpV kind k v) w := fun _ => by kernel_rfl
  have hT : deedT kind = 187 := by
    unfold deedT
    rw [if_neg (by omega), if_neg (by omega), if_neg (by omega), if_neg (by omega), if_neg (by omega), if_neg (by omega), if_neg (by omega), if_neg (by omega), if_neg (by omega), if_neg (by omega)]
  go_enter Tryz.func68, Tryz.ntmps68
  go_wp2_with fail
  refine (implDeedOf_any kind k v _).mono ?_
  rintro e w1 ⟨rfl, hb1⟩
  rw [show DeedV kind k v = .iface 187 (OpV kind k v) by rw [DeedV, hT]]
  clear hT
  have hs : w.heap.size + 1 ≤ w1.heap.size := by simpa using hb1.size
  have hall : Below w.heap.size w w1 := (((Below.refl _ w).alloc (Nat.le_refl _) _).trans (hb1.mono (by simp)))
  clear hb1 h
  go_wp2
  go_ret
  first
    | exact ⟨rfl, hall⟩
    | exact ⟨rfl, hall.alloc (by omega) _⟩

theorem implOpOk_any (kind k v : Int) (w : World) :
    Calls Tryz.prog 68 #[OpV kind k v] w fun e w' => e = .returned (.bool (decide (OpGood kind k v))) ∧ Below w.heap.size w w' := by
  by_cases h : 1 ≤ kind ∧ kind ≤ 10
  · have key : ∀ (P : Prop) [Decidable P], (OpGood kind k v ↔ P) → decide P = decide (OpGood kind k v) := fun P _ hP => decide_eq_decide.2 hP.symm
    rcases kinds h with rfl | rfl | rfl | rfl | rfl | rfl | rfl | rfl | rfl | rfl
    · refine (implOpOk_1 k v w).mono ?_
      rintro e w' ⟨rfl, hb⟩
      exact ⟨by rw [key _ (by unfold OpGood KeyGood ValGood; omega)], hb⟩
    · refine (implOpOk_2 k v w).mono ?_
      rintro e w' ⟨rfl, hb⟩
      exact ⟨by rw [key _ (by unfold OpGood KeyGood ValGood; omega)], hb⟩
    · refine (implOpOk_3 k v w).mono ?_
      rintro e w' ⟨rfl, hb⟩
      exact ⟨by rw [key _ (by unfold OpGood KeyGood ValGood; omega)], hb⟩
    · refine (implOpOk_4 k v w).mono ?_
      rintro e w' ⟨rfl, hb⟩
      exact ⟨by rw [key _ (by unfold OpGood KeyGood ValGood; omega)], hb⟩
    · refine (implOpOk_5 k v w).mono ?_
      rintro e w' ⟨rfl, hb⟩
      exact ⟨by rw [key _ (by unfold OpGood KeyGood ValGood; omega)], hb⟩
    · refine (implOpOk_6 k v w).mono ?_
      rintro e w' ⟨rfl, hb⟩
      exact ⟨by rw [key _ (by unfold OpGood KeyGood ValGood; omega)], hb⟩
    · refine (implOpOk_7 k v w).mono ?_
      rintro e w' ⟨rfl, hb⟩
      exact ⟨by rw [key _ (by unfold OpGood KeyGood ValGood; omega)], hb⟩
    · refine (implOpOk_8 k v w).mono ?_
      rintro e w' ⟨rfl, hb⟩
      exact ⟨by rw [key _ (by unfold OpGood KeyGood ValGood; omega)], hb⟩
    · refine (implOpOk_9 k v w).mono ?_
      rintro e w' ⟨rfl, hb⟩
      exact ⟨by rw [key _ (by unfold OpGood KeyGood ValGood; omega)], hb⟩
    · refine (implOpOk_10 k v w).mono ?_
      rintro e w' ⟨rfl, hb⟩
      exact ⟨by rw [key _ (by unfold OpGood KeyGood ValGood; omega)], hb⟩
  · refine (implOpOk_none kind k v w h).mono ?_
    rintro e w' ⟨rfl, hb⟩
    exact ⟨by rw [decide_eq_false (fun g => h g.1)], hb⟩
end Go.Proofs.YthdpicmcgofghasGreat
