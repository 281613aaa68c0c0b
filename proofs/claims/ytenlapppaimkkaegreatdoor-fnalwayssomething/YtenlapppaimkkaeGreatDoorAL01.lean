/- Texts joined: OpM, KeyOk, ValOk, ImplOp, Own, IntAt, Clone, ResV, Comings, Far, RangeGo, PairRd, Place, ClassOf, NextM. -/
import Derived.Test.YtenlapppaimkkaeGreatDoorRows
import Derived.WalkKit
import Derived.ProofKit
import Derived.WalkSmall
import Derived.OpenShut
import Derived.Laws.AppendOwn
import Derived.Deep.RegionLaw
import Derived.Handy
import Derived.Maps.AppendAt
import Derived.OwnWalk
import Derived.Below
import Derived.RangeFuncNested
import Derived.RangeFuncBox
import Derived.Deep.RegionHeld3
import Derived.Laws.StructEq
import Derived.ChangeKeysEq
/- What is asked, in plain words: which ops are right (no program). -/
namespace Go.Proofs.YtenlapppaimkkaeGreatDoor

/-- The key of an op of that kind is right. -/
def KeyGood (kind k : Int) : Prop := (kind ≤ 4 ∧ 0 ≤ k ∧ k ≤ 3) ∨ (kind = 6 ∧ 0 ≤ k ∧ k ≤ 2) ∨ (4 < kind ∧ kind ≠ 6 ∧ k = 0)
/-- What an op of that kind names is right. -/
def ValGood (kind v : Int) : Prop := ((kind = 1 ∨ kind = 2 ∨ kind = 5 ∨ kind = 10) ∧ 1 ≤ v ∧ v ≤ 6) ∨ (¬ (kind = 1 ∨ kind = 2 ∨ kind = 5 ∨ kind = 10) ∧ v = 0)
def OpGood (kind k v : Int) : Prop := (1 ≤ kind ∧ kind ≤ 10) ∧ KeyGood kind k ∧ ValGood kind v
instance (kind k : Int) : Decidable (KeyGood kind k) := by unfold KeyGood; infer_instance
instance (kind v : Int) : Decidable (ValGood kind v) := by unfold ValGood; infer_instance
instance (kind k v : Int) : Decidable (OpGood kind k v) := by unfold OpGood; infer_instance

theorem kinds {kind : Int} (h : 1 ≤ kind ∧ kind ≤ 10) : kind = 1 ∨ kind = 2 ∨ kind = 3 ∨ kind = 4 ∨ kind = 5 ∨ kind = 6 ∨ kind = 7 ∨ kind = 8 ∨ kind = 9 ∨ kind = 10 := by omega
/-- An op as a value. -/
abbrev OpV (kind k v : Int) : Value := .agg #[.int .i64 kind, .int .i64 k, .int .i64 v]

theorem says_true {P : Prop} [Decidable P] (h : P) : Ending.returned (.bool true) = .returned (.bool (decide P)) := by rw [decide_eq_true h]
theorem says_false {P : Prop} [Decidable P] (h : ¬ P) : Ending.returned (.bool false) = .returned (.bool (decide P)) := by rw [decide_eq_false h]
theorem good_of {kind k v : Int} {P Q : Prop} (h : 1 ≤ kind ∧ kind ≤ 10) (hp : KeyGood kind k ↔ P) (hq : ValGood kind v ↔ Q) : OpGood kind k v ↔ (P ∧ Q) :=
  ⟨fun g => ⟨hp.1 g.2.1, hq.1 g.2.2⟩, fun g => ⟨h, hp.2 g.1, hq.2 g.2⟩⟩
theorem eqb (a b : Int) : (a = b ∧ (a == b) = true) ∨ (¬ a = b ∧ (a == b) = false) := by
  by_cases h : a = b
  · exact .inl ⟨h, by simp [h]⟩
  · exact .inr ⟨h, by simp [h]⟩
theorem tri (a b x : Int) (h : a ≤ b) : (a ≤ x ∧ x ≤ b) ∨ (¬ a ≤ x ∧ x ≤ b) ∨ (a ≤ x ∧ ¬ x ≤ b) := by omega

end Go.Proofs.YtenlapppaimkkaeGreatDoor

/- spec.KeyOk and impl.KeyOk, walked. -/
namespace Go.Proofs.YtenlapppaimkkaeGreatDoor
open Go.ChangeShapes Go.WideShapes Go.ChangeAt Go.RowKit

theorem specKeyOk_any (k : Int) (w : World) :
    Calls Tryz.prog 69 #[.int .i64 k] w fun e w' => e = .returned (.bool (decide (0 ≤ k ∧ k ≤ 3))) ∧ w' = w := by
  by_cases h0 : 0 ≤ k
  · by_cases h1 : k ≤ 3
    · rw [show decide (0 ≤ k ∧ k ≤ 3) = true from decide_eq_true ⟨h0, h1⟩]
      go_enter Tryz.func69, Tryz.ntmps69
      go_wp2
      go_ret
      exact ⟨rfl, rfl⟩
    · rw [show decide (0 ≤ k ∧ k ≤ 3) = false from decide_eq_false (fun h => h1 h.2)]
      go_enter Tryz.func69, Tryz.ntmps69
      go_wp2
      go_ret
      exact ⟨rfl, rfl⟩
  · rw [show decide (0 ≤ k ∧ k ≤ 3) = false from decide_eq_false (fun h => h0 h.1)]
    go_enter Tryz.func69, Tryz.ntmps69
    go_wp2
    go_ret
    exact ⟨rfl, rfl⟩

theorem implKeyOk_any (k : Int) (w : World) :
    Calls Tryz.prog 143 #[.int .i64 k] w fun e w' => e = .returned (.bool (decide (0 ≤ k ∧ k ≤ 3))) ∧ w' = w := by
  by_cases h0 : 0 ≤ k
  · by_cases h1 : k ≤ 3
    · rw [show decide (0 ≤ k ∧ k ≤ 3) = true from decide_eq_true ⟨h0, h1⟩]
      have h2 : k < 4 := by omega
      go_enter Tryz.func143, Tryz.ntmps143
      go_wp2
      go_ret
      exact ⟨rfl, rfl⟩
    · rw [show decide (0 ≤ k ∧ k ≤ 3) = false from decide_eq_false (fun h => h1 h.2)]
      have h2 : ¬ k < 4 := by omega
      go_enter Tryz.func143, Tryz.ntmps143
      go_wp2
      go_ret
      exact ⟨rfl, rfl⟩
  · rw [show decide (0 ≤ k ∧ k ≤ 3) = false from decide_eq_false (fun h => h0 h.1)]
    go_enter Tryz.func143, Tryz.ntmps143
    go_wp2
    go_ret
    exact ⟨rfl, rfl⟩
end Go.Proofs.YtenlapppaimkkaeGreatDoor

/- spec.ValOk and impl.ValOk, walked. -/
namespace Go.Proofs.YtenlapppaimkkaeGreatDoor
open Go.ChangeShapes Go.WideShapes Go.ChangeAt Go.RowKit

theorem specValOk_any (k : Int) (w : World) :
    Calls Tryz.prog 70 #[.int .i64 k] w fun e w' => e = .returned (.bool (decide (1 ≤ k ∧ k ≤ 6))) ∧ w' = w := by
  by_cases h0 : 1 ≤ k
  · by_cases h1 : k ≤ 6
    · rw [show decide (1 ≤ k ∧ k ≤ 6) = true from decide_eq_true ⟨h0, h1⟩]
      go_enter Tryz.func70, Tryz.ntmps70
      go_wp2
      go_ret
      exact ⟨rfl, rfl⟩
    · rw [show decide (1 ≤ k ∧ k ≤ 6) = false from decide_eq_false (fun h => h1 h.2)]
      go_enter Tryz.func70, Tryz.ntmps70
      go_wp2
      go_ret
      exact ⟨rfl, rfl⟩
  · rw [show decide (1 ≤ k ∧ k ≤ 6) = false from decide_eq_false (fun h => h0 h.1)]
    go_enter Tryz.func70, Tryz.ntmps70
    go_wp2
    go_ret
    exact ⟨rfl, rfl⟩

theorem implValOk_any (k : Int) (w : World) :
    Calls Tryz.prog 41 #[.int .i64 k] w fun e w' => e = .returned (.bool (decide (1 ≤ k ∧ k ≤ 6))) ∧ w' = w := by
  by_cases h0 : 1 ≤ k
  · by_cases h1 : k ≤ 6
    · rw [show decide (1 ≤ k ∧ k ≤ 6) = true from decide_eq_true ⟨h0, h1⟩]
      have h2 : k < 7 := by omega
      go_enter Tryz.func41, Tryz.ntmps41
      go_wp2
      go_ret
      exact ⟨rfl, rfl⟩
    · rw [show decide (1 ≤ k ∧ k ≤ 6) = false from decide_eq_false (fun h => h1 h.2)]
      have h2 : ¬ k < 7 := by omega
      go_enter Tryz.func41, Tryz.ntmps41
      go_wp2
      go_ret
      exact ⟨rfl, rfl⟩
  · rw [show decide (1 ≤ k ∧ k ≤ 6) = false from decide_eq_false (fun h => h0 h.1)]
    go_enter Tryz.func41, Tryz.ntmps41
    go_wp2
    go_ret
    exact ⟨rfl, rfl⟩
end Go.Proofs.YtenlapppaimkkaeGreatDoor

/- impl.deedOf and impl.OpOk, walked. -/
namespace Go.Proofs.YtenlapppaimkkaeGreatDoor
open Go.ChangeShapes Go.WideShapes Go.ChangeAt Go.RowKit

/-- The type of an op of that kind. -/
def deedT (kind : Int) : TypeId :=
  if kind = 1 then 91 else if kind = 2 then 92 else if kind = 3 then 93
  else if kind = 4 then 94 else if kind = 5 then 95 else if kind = 6 then 96
  else if kind = 7 then 97 else if kind = 8 then 98 else if kind = 9 then 99
  else if kind = 10 then 100 else 101
/-- An op of its own kind as a value. -/
abbrev DeedV (kind k v : Int) : Value := .iface (deedT kind) (OpV kind k v)

set_option maxHeartbeats 2000000 in
theorem implDeedOf_any (kind k v : Int) (w : World) :
    Calls Tryz.prog 19 #[OpV kind k v] w fun e w' => e = .returned (DeedV kind k v) ∧ Below w.heap.size w w' := by
  by_cases h : 1 ≤ kind ∧ kind ≤ 10
  · rcases kinds h with rfl | rfl | rfl | rfl | rfl | rfl | rfl | rfl | rfl | rfl
    all_goals
      go_enter Tryz.func19, Tryz.ntmps19
      go_wp2
      go_ret
      exact ⟨rfl, (Below.refl _ _).alloc (Nat.le_refl _) _⟩
  · have hT : deedT kind = 101 := by
      unfold deedT
      rw [if_neg (by omega), if_neg (by omega), if_neg (by omega), if_neg (by omega), if_neg (by omega), if_neg (by omega), if_neg (by omega), if_neg (by omega), if_neg (by omega), if_neg (by omega)]
    have h1 : (kind == 1) = false := by simp; omega
    have h2 : (kind == 2) = false := by simp; omega
    have h3 : (kind == 3) = false := by simp; omega
    have h4 : (kind == 4) = false := by simp; omega
    have h5 : (kind == 5) = false := by simp; omega
    have h6 : (kind == 6) = false := by simp; omega
    have h7 : (kind == 7) = false := by simp; omega
    have h8 : (kind == 8) = false := by simp; omega
    have h9 : (kind == 9) = false := by simp; omega
    have h10 : (kind == 10) = false := by simp; omega
    rw [show DeedV kind k v = .iface 101 (OpV kind k v) by rw [DeedV, hT]]
    clear hT h
    go_enter Tryz.func19, Tryz.ntmps19
    go_wp2
    go_ret
    exact ⟨rfl, (Below.refl _ _).alloc (Nat.le_refl _) _⟩

set_option maxHeartbeats 2000000 in
theorem fits_1 (k v : Int) (w : World) :
    Calls Tryz.prog 142 #[OpV 1 k v] w fun e w' => e = .returned (.bool (decide ((0 ≤ k ∧ k ≤ 3) ∧ (1 ≤ v ∧ v ≤ 6)))) ∧ Below w.heap.size w w' := by
  obtain ⟨B, hB⟩ : ∃ B, decide ((0 ≤ k ∧ k ≤ 3) ∧ (1 ≤ v ∧ v ≤ 6)) = B := ⟨_, rfl⟩
  rw [hB]
  have HB : Hid (decide ((0 ≤ k ∧ k ≤ 3) ∧ (1 ≤ v ∧ v ≤ 6)) = B) := hB
  clear hB
  rcases tri 0 3 k (by decide) with ⟨h0, h1⟩ | ⟨h0, h1⟩ | ⟨h0, h1⟩ <;> rcases tri 1 6 v (by decide) with ⟨g0, g1⟩ | ⟨g0, g1⟩ | ⟨g0, g1⟩
  all_goals
    go_enter Tryz.func142, Tryz.ntmps142
    go_wp2
    go_ret
    refine ⟨?_, (Below.refl _ _).alloc (Nat.le_refl _) _⟩
    rw [← HB.out]
    first
      | exact says_true (by omega)
      | exact says_false (by omega)
set_option maxHeartbeats 2000000 in
set_option maxRecDepth 100000 in
theorem implOpOk_1 (k v : Int) (w : World) :
    Calls Tryz.prog 17 #[OpV 1 k v] w fun e w' => e = .returned (.bool (decide ((0 ≤ k ∧ k ≤ 3) ∧ (1 ≤ v ∧ v ≤ 6)))) ∧ Below w.heap.size w w' := by
  have hm : ∀ w : World, (method 272 91 (OpV 1 k v) "loop.example/g00468/impl.fits").run Tryz.prog w = .ok (142, OpV 1 k v) w := fun _ => by kernel_rfl
  obtain ⟨B, hB⟩ : ∃ B, decide ((0 ≤ k ∧ k ≤ 3) ∧ (1 ≤ v ∧ v ≤ 6)) = B := ⟨_, rfl⟩
  rw [hB]
  have HB : Hid (decide ((0 ≤ k ∧ k ≤ 3) ∧ (1 ≤ v ∧ v ≤ 6)) = B) := hB
  clear hB
  go_enter Tryz.func17, Tryz.ntmps17
  go_wp2_with fail
  refine (implDeedOf_any 1 k v _).mono ?_
  rintro e w1 ⟨rfl, hb1⟩
  rw [show DeedV 1 k v = .iface 91 (OpV 1 k v) from rfl]
  go_wp2_with fail
  refine (fits_1 k v _).mono ?_
  rintro e w2 ⟨rfl, hb2⟩
  rw [HB.out]
  have hs : w.heap.size + 1 ≤ w1.heap.size := by simpa using hb1.size
  have hall : Below w.heap.size w w2 := (((Below.refl _ w).alloc (Nat.le_refl _) _).trans (hb1.mono (by simp))).trans (hb2.mono (by omega))
  clear hb1 hb2 hm
  go_wp2
  go_ret
  exact ⟨rfl, hall⟩

set_option maxHeartbeats 2000000 in
theorem fits_2 (k v : Int) (w : World) :
    Calls Tryz.prog 144 #[OpV 2 k v] w fun e w' => e = .returned (.bool (decide ((0 ≤ k ∧ k ≤ 3) ∧ (1 ≤ v ∧ v ≤ 6)))) ∧ Below w.heap.size w w' := by
  obtain ⟨B, hB⟩ : ∃ B, decide ((0 ≤ k ∧ k ≤ 3) ∧ (1 ≤ v ∧ v ≤ 6)) = B := ⟨_, rfl⟩
  rw [hB]
  have HB : Hid (decide ((0 ≤ k ∧ k ≤ 3) ∧ (1 ≤ v ∧ v ≤ 6)) = B) := hB
  clear hB
  rcases tri 0 3 k (by decide) with ⟨h0, h1⟩ | ⟨h0, h1⟩ | ⟨h0, h1⟩ <;> rcases tri 1 6 v (by decide) with ⟨g0, g1⟩ | ⟨g0, g1⟩ | ⟨g0, g1⟩
  all_goals
    go_enter Tryz.func144, Tryz.ntmps144
    go_wp2
    go_ret
    refine ⟨?_, (Below.refl _ _).alloc (Nat.le_refl _) _⟩
    rw [← HB.out]
    first
      | exact says_true (by omega)
      | exact says_false (by omega)
set_option maxHeartbeats 2000000 in
set_option maxRecDepth 100000 in
theorem implOpOk_2 (k v : Int) (w : World) :
    Calls Tryz.prog 17 #[OpV 2 k v] w fun e w' => e = .returned (.bool (decide ((0 ≤ k ∧ k ≤ 3) ∧ (1 ≤ v ∧ v ≤ 6)))) ∧ Below w.heap.size w w' := by
  have hm : ∀ w : World, (method 272 92 (OpV 2 k v) "loop.example/g00468/impl.fits").run Tryz.prog w = .ok (144, OpV 2 k v) w := fun _ => by kernel_rfl
  obtain ⟨B, hB⟩ : ∃ B, decide ((0 ≤ k ∧ k ≤ 3) ∧ (1 ≤ v ∧ v ≤ 6)) = B := ⟨_, rfl⟩
  rw [hB]
  have HB : Hid (decide ((0 ≤ k ∧ k ≤ 3) ∧ (1 ≤ v ∧ v ≤ 6)) = B) := hB
  clear hB
  go_enter Tryz.func17, Tryz.ntmps17
  go_wp2_with fail
  refine (implDeedOf_any 2 k v _).mono ?_
  rintro e w1 ⟨rfl, hb1⟩
  rw [show DeedV 2 k v = .iface 92 (OpV 2 k v) from rfl]
  go_wp2_with fail
  refine (fits_2 k v _).mono ?_
  rintro e w2 ⟨rfl, hb2⟩
  rw [HB.out]
  have hs : w.heap.size + 1 ≤ w1.heap.size := by simpa using hb1.size
  have hall : Below w.heap.size w w2 := (((Below.refl _ w).alloc (Nat.le_refl _) _).trans (hb1.mono (by simp))).trans (hb2.mono (by omega))
  clear hb1 hb2 hm
  go_wp2
  go_ret
  exact ⟨rfl, hall⟩

set_option maxHeartbeats 2000000 in
theorem fits_3 (k v : Int) (w : World) :
    Calls Tryz.prog 145 #[OpV 3 k v] w fun e w' => e = .returned (.bool (decide ((0 ≤ k ∧ k ≤ 3) ∧ v = 0))) ∧ Below w.heap.size w w' := by
  obtain ⟨B, hB⟩ : ∃ B, decide ((0 ≤ k ∧ k ≤ 3) ∧ v = 0) = B := ⟨_, rfl⟩
  rw [hB]
  have HB : Hid (decide ((0 ≤ k ∧ k ≤ 3) ∧ v = 0) = B) := hB
  clear hB
  rcases tri 0 3 k (by decide) with ⟨h0, h1⟩ | ⟨h0, h1⟩ | ⟨h0, h1⟩ <;> rcases eqb v 0 with ⟨g0, g1⟩ | ⟨g0, g1⟩
  all_goals
    go_enter Tryz.func145, Tryz.ntmps145
    go_wp2
    go_ret
    refine ⟨?_, (Below.refl _ _).alloc (Nat.le_refl _) _⟩
    rw [← HB.out]
    first
      | exact says_true (by omega)
      | exact says_false (by omega)
set_option maxHeartbeats 2000000 in
set_option maxRecDepth 100000 in
theorem implOpOk_3 (k v : Int) (w : World) :
    Calls Tryz.prog 17 #[OpV 3 k v] w fun e w' => e = .returned (.bool (decide ((0 ≤ k ∧ k ≤ 3) ∧ v = 0))) ∧ Below w.heap.size w w' := by
  have hm : ∀ w : World, (method 272 93 (OpV 3 k v) "loop.example/g00468/impl.fits").run Tryz.prog w = .ok (145, OpV 3 k v) w := fun _ => by kernel_rfl
  obtain ⟨B, hB⟩ : ∃ B, decide ((0 ≤ k ∧ k ≤ 3) ∧ v = 0) = B := ⟨_, rfl⟩
  rw [hB]
  have HB : Hid (decide ((0 ≤ k ∧ k ≤ 3) ∧ v = 0) = B) := hB
  clear hB
  go_enter Tryz.func17, Tryz.ntmps17
  go_wp2_with fail
  refine (implDeedOf_any 3 k v _).mono ?_
  rintro e w1 ⟨rfl, hb1⟩
  rw [show DeedV 3 k v = .iface 93 (OpV 3 k v) from rfl]
  go_wp2_with fail
  refine (fits_3 k v _).mono ?_
  rintro e w2 ⟨rfl, hb2⟩
  rw [HB.out]
  have hs : w.heap.size + 1 ≤ w1.heap.size := by simpa using hb1.size
  have hall : Below w.heap.size w w2 := (((Below.refl _ w).alloc (Nat.le_refl _) _).trans (hb1.mono (by simp))).trans (hb2.mono (by omega))
  clear hb1 hb2 hm
  go_wp2
  go_ret
  exact ⟨rfl, hall⟩

set_option maxHeartbeats 2000000 in
theorem fits_4 (k v : Int) (w : World) :
    Calls Tryz.prog 146 #[OpV 4 k v] w fun e w' => e = .returned (.bool (decide ((0 ≤ k ∧ k ≤ 3) ∧ v = 0))) ∧ Below w.heap.size w w' := by
  obtain ⟨B, hB⟩ : ∃ B, decide ((0 ≤ k ∧ k ≤ 3) ∧ v = 0) = B := ⟨_, rfl⟩
  rw [hB]
  have HB : Hid (decide ((0 ≤ k ∧ k ≤ 3) ∧ v = 0) = B) := hB
  clear hB
  rcases tri 0 3 k (by decide) with ⟨h0, h1⟩ | ⟨h0, h1⟩ | ⟨h0, h1⟩ <;> rcases eqb v 0 with ⟨g0, g1⟩ | ⟨g0, g1⟩
  all_goals
    go_enter Tryz.func146, Tryz.ntmps146
    go_wp2
    go_ret
    refine ⟨?_, (Below.refl _ _).alloc (Nat.le_refl _) _⟩
    rw [← HB.out]
    first
      | exact says_true (by omega)
      | exact says_false (by omega)
set_option maxHeartbeats 2000000 in
set_option maxRecDepth 100000 in
theorem implOpOk_4 (k v : Int) (w : World) :
    Calls Tryz.prog 17 #[OpV 4 k v] w fun e w' => e = .returned (.bool (decide ((0 ≤ k ∧ k ≤ 3) ∧ v = 0))) ∧ Below w.heap.size w w' := by
  have hm : ∀ w : World, (method 272 94 (OpV 4 k v) "loop.example/g00468/impl.fits").run Tryz.prog w = .ok (146, OpV 4 k v) w := fun _ => by kernel_rfl
  obtain ⟨B, hB⟩ : ∃ B, decide ((0 ≤ k ∧ k ≤ 3) ∧ v = 0) = B := ⟨_, rfl⟩
  rw [hB]
  have HB : Hid (decide ((0 ≤ k ∧ k ≤ 3) ∧ v = 0) = B) := hB
  clear hB
  go_enter Tryz.func17, Tryz.ntmps17
  go_wp2_with fail
  refine (implDeedOf_any 4 k v _).mono ?_
  rintro e w1 ⟨rfl, hb1⟩
  rw [show DeedV 4 k v = .iface 94 (OpV 4 k v) from rfl]
  go_wp2_with fail
  refine (fits_4 k v _).mono ?_
  rintro e w2 ⟨rfl, hb2⟩
  rw [HB.out]
  have hs : w.heap.size + 1 ≤ w1.heap.size := by simpa using hb1.size
  have hall : Below w.heap.size w w2 := (((Below.refl _ w).alloc (Nat.le_refl _) _).trans (hb1.mono (by simp))).trans (hb2.mono (by omega))
  clear hb1 hb2 hm
  go_wp2
  go_ret
  exact ⟨rfl, hall⟩

set_option maxHeartbeats 2000000 in
theorem fits_5 (k v : Int) (w : World) :
    Calls Tryz.prog 147 #[OpV 5 k v] w fun e w' => e = .returned (.bool (decide (k = 0 ∧ (1 ≤ v ∧ v ≤ 6)))) ∧ Below w.heap.size w w' := by
  obtain ⟨B, hB⟩ : ∃ B, decide (k = 0 ∧ (1 ≤ v ∧ v ≤ 6)) = B := ⟨_, rfl⟩
  rw [hB]
  have HB : Hid (decide (k = 0 ∧ (1 ≤ v ∧ v ≤ 6)) = B) := hB
  clear hB
  rcases eqb k 0 with ⟨h0, h1⟩ | ⟨h0, h1⟩ <;> rcases tri 1 6 v (by decide) with ⟨g0, g1⟩ | ⟨g0, g1⟩ | ⟨g0, g1⟩
  all_goals
    go_enter Tryz.func147, Tryz.ntmps147
    go_wp2
    go_ret
    refine ⟨?_, (Below.refl _ _).alloc (Nat.le_refl _) _⟩
    rw [← HB.out]
    first
      | exact says_true (by omega)
      | exact says_false (by omega)
set_option maxHeartbeats 2000000 in
set_option maxRecDepth 100000 in
theorem implOpOk_5 (k v : Int) (w : World) :
    Calls Tryz.prog 17 #[OpV 5 k v] w fun e w' => e = .returned (.bool (decide (k = 0 ∧ (1 ≤ v ∧ v ≤ 6)))) ∧ Below w.heap.size w w' := by
  have hm : ∀ w : World, (method 272 95 (OpV 5 k v) "loop.example/g00468/impl.fits").run Tryz.prog w = .ok (147, OpV 5 k v) w := fun _ => by kernel_rfl
  obtain ⟨B, hB⟩ : ∃ B, decide (k = 0 ∧ (1 ≤ v ∧ v ≤ 6)) = B := ⟨_, rfl⟩
  rw [hB]
  have HB : Hid (decide (k = 0 ∧ (1 ≤ v ∧ v ≤ 6)) = B) := hB
  clear hB
  go_enter Tryz.func17, Tryz.ntmps17
  go_wp2_with fail
  refine (implDeedOf_any 5 k v _).mono ?_
  rintro e w1 ⟨rfl, hb1⟩
  rw [show DeedV 5 k v = .iface 95 (OpV 5 k v) from rfl]
  go_wp2_with fail
  refine (fits_5 k v _).mono ?_
  rintro e w2 ⟨rfl, hb2⟩
  rw [HB.out]
  have hs : w.heap.size + 1 ≤ w1.heap.size := by simpa using hb1.size
  have hall : Below w.heap.size w w2 := (((Below.refl _ w).alloc (Nat.le_refl _) _).trans (hb1.mono (by simp))).trans (hb2.mono (by omega))
  clear hb1 hb2 hm
  go_wp2
  go_ret
  exact ⟨rfl, hall⟩

set_option maxHeartbeats 2000000 in
theorem fits_6 (k v : Int) (w : World) :
    Calls Tryz.prog 148 #[OpV 6 k v] w fun e w' => e = .returned (.bool (decide ((0 ≤ k ∧ k ≤ 2) ∧ v = 0))) ∧ Below w.heap.size w w' := by
  obtain ⟨B, hB⟩ : ∃ B, decide ((0 ≤ k ∧ k ≤ 2) ∧ v = 0) = B := ⟨_, rfl⟩
  rw [hB]
  have HB : Hid (decide ((0 ≤ k ∧ k ≤ 2) ∧ v = 0) = B) := hB
  clear hB
  rcases tri 0 2 k (by decide) with ⟨h0, h1⟩ | ⟨h0, h1⟩ | ⟨h0, h1⟩ <;> rcases eqb v 0 with ⟨g0, g1⟩ | ⟨g0, g1⟩
  all_goals
    go_enter Tryz.func148, Tryz.ntmps148
    go_wp2
    go_ret
    refine ⟨?_, (Below.refl _ _).alloc (Nat.le_refl _) _⟩
    rw [← HB.out]
    first
      | exact says_true (by omega)
      | exact says_false (by omega)
set_option maxHeartbeats 2000000 in
set_option maxRecDepth 100000 in
theorem implOpOk_6 (k v : Int) (w : World) :
    Calls Tryz.prog 17 #[OpV 6 k v] w fun e w' => e = .returned (.bool (decide ((0 ≤ k ∧ k ≤ 2) ∧ v = 0))) ∧ Below w.heap.size w w' := by
  have hm : ∀ w : World, (method 272 96 (OpV 6 k v) "loop.example/g00468/impl.fits").run Tryz.prog w = .ok (148, OpV 6 k v) w := fun _ => by kernel_rfl
  obtain ⟨B, hB⟩ : ∃ B, decide ((0 ≤ k ∧ k ≤ 2) ∧ v = 0) = B := ⟨_, rfl⟩
  rw [hB]
  have HB : Hid (decide ((0 ≤ k ∧ k ≤ 2) ∧ v = 0) = B) := hB
  clear hB
  go_enter Tryz.func17, Tryz.ntmps17
  go_wp2_with fail
  refine (implDeedOf_any 6 k v _).mono ?_
  rintro e w1 ⟨rfl, hb1⟩
  rw [show DeedV 6 k v = .iface 96 (OpV 6 k v) from rfl]
  go_wp2_with fail
  refine (fits_6 k v _).mono ?_
  rintro e w2 ⟨rfl, hb2⟩
  rw [HB.out]
  have hs : w.heap.size + 1 ≤ w1.heap.size := by simpa using hb1.size
  have hall : Below w.heap.size w w2 := (((Below.refl _ w).alloc (Nat.le_refl _) _).trans (hb1.mono (by simp))).trans (hb2.mono (by omega))
  clear hb1 hb2 hm
  go_wp2
  go_ret
  exact ⟨rfl, hall⟩

set_option maxHeartbeats 2000000 in
theorem fits_7 (k v : Int) (w : World) :
    Calls Tryz.prog 149 #[OpV 7 k v] w fun e w' => e = .returned (.bool (decide (k = 0 ∧ v = 0))) ∧ Below w.heap.size w w' := by
  obtain ⟨B, hB⟩ : ∃ B, decide (k = 0 ∧ v = 0) = B := ⟨_, rfl⟩
  rw [hB]
  have HB : Hid (decide (k = 0 ∧ v = 0) = B) := hB
  clear hB
  rcases eqb k 0 with ⟨h0, h1⟩ | ⟨h0, h1⟩ <;> rcases eqb v 0 with ⟨g0, g1⟩ | ⟨g0, g1⟩
  all_goals
    go_enter Tryz.func149, Tryz.ntmps149
    go_wp2
    go_ret
    refine ⟨?_, (Below.refl _ _).alloc (Nat.le_refl _) _⟩
    rw [← HB.out]
    first
      | exact says_true (by omega)
      | exact says_false (by omega)
set_option maxHeartbeats 2000000 in
set_option maxRecDepth 100000 in
theorem implOpOk_7 (k v : Int) (w : World) :
    Calls Tryz.prog 17 #[OpV 7 k v] w fun e w' => e = .returned (.bool (decide (k = 0 ∧ v = 0))) ∧ Below w.heap.size w w' := by
  have hm : ∀ w : World, (method 272 97 (OpV 7 k v) "loop.example/g00468/impl.fits").run Tryz.prog w = .ok (149, OpV 7 k v) w := fun _ => by kernel_rfl
  obtain ⟨B, hB⟩ : ∃ B, decide (k = 0 ∧ v = 0) = B := ⟨_, rfl⟩
  rw [hB]
  have HB : Hid (decide (k = 0 ∧ v = 0) = B) := hB
  clear hB
  go_enter Tryz.func17, Tryz.ntmps17
  go_wp2_with fail
  refine (implDeedOf_any 7 k v _).mono ?_
  rintro e w1 ⟨rfl, hb1⟩
  rw [show DeedV 7 k v = .iface 97 (OpV 7 k v) from rfl]
  go_wp2_with fail
  refine (fits_7 k v _).mono ?_
  rintro e w2 ⟨rfl, hb2⟩
  rw [HB.out]
  have hs : w.heap.size + 1 ≤ w1.heap.size := by simpa using hb1.size
  have hall : Below w.heap.size w w2 := (((Below.refl _ w).alloc (Nat.le_refl _) _).trans (hb1.mono (by simp))).trans (hb2.mono (by omega))
  clear hb1 hb2 hm
  go_wp2
  go_ret
  exact ⟨rfl, hall⟩

set_option maxHeartbeats 2000000 in
theorem fits_8 (k v : Int) (w : World) :
    Calls Tryz.prog 150 #[OpV 8 k v] w fun e w' => e = .returned (.bool (decide (k = 0 ∧ v = 0))) ∧ Below w.heap.size w w' := by
  obtain ⟨B, hB⟩ : ∃ B, decide (k = 0 ∧ v = 0) = B := ⟨_, rfl⟩
  rw [hB]
  have HB : Hid (decide (k = 0 ∧ v = 0) = B) := hB
  clear hB
  rcases eqb k 0 with ⟨h0, h1⟩ | ⟨h0, h1⟩ <;> rcases eqb v 0 with ⟨g0, g1⟩ | ⟨g0, g1⟩
  all_goals
    go_enter Tryz.func150, Tryz.ntmps150
    go_wp2
    go_ret
    refine ⟨?_, (Below.refl _ _).alloc (Nat.le_refl _) _⟩
    rw [← HB.out]
    first
      | exact says_true (by omega)
      | exact says_false (by omega)
set_option maxHeartbeats 2000000 in
set_option maxRecDepth 100000 in
theorem implOpOk_8 (k v : Int) (w : World) :
    Calls Tryz.prog 17 #[OpV 8 k v] w fun e w' => e = .returned (.bool (decide (k = 0 ∧ v = 0))) ∧ Below w.heap.size w w' := by
  have hm : ∀ w : World, (method 272 98 (OpV 8 k v) "loop.example/g00468/impl.fits").run Tryz.prog w = .ok (150, OpV 8 k v) w := fun _ => by kernel_rfl
  obtain ⟨B, hB⟩ : ∃ B, decide (k = 0 ∧ v = 0) = B := ⟨_, rfl⟩
  rw [hB]
  have HB : Hid (decide (k = 0 ∧ v = 0) = B) := hB
  clear hB
  go_enter Tryz.func17, Tryz.ntmps17
  go_wp2_with fail
  refine (implDeedOf_any 8 k v _).mono ?_
  rintro e w1 ⟨rfl, hb1⟩
  rw [show DeedV 8 k v = .iface 98 (OpV 8 k v) from rfl]
  go_wp2_with fail
  refine (fits_8 k v _).mono ?_
  rintro e w2 ⟨rfl, hb2⟩
  rw [HB.out]
  have hs : w.heap.size + 1 ≤ w1.heap.size := by simpa using hb1.size
  have hall : Below w.heap.size w w2 := (((Below.refl _ w).alloc (Nat.le_refl _) _).trans (hb1.mono (by simp))).trans (hb2.mono (by omega))
  clear hb1 hb2 hm
  go_wp2
  go_ret
  exact ⟨rfl, hall⟩

set_option maxHeartbeats 2000000 in
theorem fits_9 (k v : Int) (w : World) :
    Calls Tryz.prog 151 #[OpV 9 k v] w fun e w' => e = .returned (.bool (decide (k = 0 ∧ v = 0))) ∧ Below w.heap.size w w' := by
  obtain ⟨B, hB⟩ : ∃ B, decide (k = 0 ∧ v = 0) = B := ⟨_, rfl⟩
  rw [hB]
  have HB : Hid (decide (k = 0 ∧ v = 0) = B) := hB
  clear hB
  rcases eqb k 0 with ⟨h0, h1⟩ | ⟨h0, h1⟩ <;> rcases eqb v 0 with ⟨g0, g1⟩ | ⟨g0, g1⟩
  all_goals
    go_enter Tryz.func151, Tryz.ntmps151
    go_wp2
    go_ret
    refine ⟨?_, (Below.refl _ _).alloc (Nat.le_refl _) _⟩
    rw [← HB.out]
    first
      | exact says_true (by omega)
      | exact says_false (by omega)
set_option maxHeartbeats 2000000 in
set_option maxRecDepth 100000 in
theorem implOpOk_9 (k v : Int) (w : World) :
    Calls Tryz.prog 17 #[OpV 9 k v] w fun e w' => e = .returned (.bool (decide (k = 0 ∧ v = 0))) ∧ Below w.heap.size w w' := by
  have hm : ∀ w : World, (method 272 99 (OpV 9 k v) "loop.example/g00468/impl.fits").run Tryz.prog w = .ok (151, OpV 9 k v) w := fun _ => by kernel_rfl
  obtain ⟨B, hB⟩ : ∃ B, decide (k = 0 ∧ v = 0) = B := ⟨_, rfl⟩
  rw [hB]
  have HB : Hid (decide (k = 0 ∧ v = 0) = B) := hB
  clear hB
  go_enter Tryz.func17, Tryz.ntmps17
  go_wp2_with fail
  refine (implDeedOf_any 9 k v _).mono ?_
  rintro e w1 ⟨rfl, hb1⟩
  rw [show DeedV 9 k v = .iface 99 (OpV 9 k v) from rfl]
  go_wp2_with fail
  refine (fits_9 k v _).mono ?_
  rintro e w2 ⟨rfl, hb2⟩
  rw [HB.out]
  have hs : w.heap.size + 1 ≤ w1.heap.size := by simpa using hb1.size
  have hall : Below w.heap.size w w2 := (((Below.refl _ w).alloc (Nat.le_refl _) _).trans (hb1.mono (by simp))).trans (hb2.mono (by omega))
  clear hb1 hb2 hm
  go_wp2
  go_ret
  exact ⟨rfl, hall⟩

set_option maxHeartbeats 2000000 in
theorem fits_10 (k v : Int) (w : World) :
    Calls Tryz.prog 152 #[OpV 10 k v] w fun e w' => e = .returned (.bool (decide (k = 0 ∧ (1 ≤ v ∧ v ≤ 6)))) ∧ Below w.heap.size w w' := by
  obtain ⟨B, hB⟩ : ∃ B, decide (k = 0 ∧ (1 ≤ v ∧ v ≤ 6)) = B := ⟨_, rfl⟩
  rw [hB]
  have HB : Hid (decide (k = 0 ∧ (1 ≤ v ∧ v ≤ 6)) = B) := hB
  clear hB
  rcases eqb k 0 with ⟨h0, h1⟩ | ⟨h0, h1⟩ <;> rcases tri 1 6 v (by decide) with ⟨g0, g1⟩ | ⟨g0, g1⟩ | ⟨g0, g1⟩
  all_goals
    go_enter Tryz.func152, Tryz.ntmps152
    go_wp2
    go_ret
    refine ⟨?_, (Below.refl _ _).alloc (Nat.le_refl _) _⟩
    rw [← HB.out]
    first
      | exact says_true (by omega)
      | exact says_false (by omega)
set_option maxHeartbeats 2000000 in
set_option maxRecDepth 100000 in
theorem implOpOk_10 (k v : Int) (w : World) :
    Calls Tryz.prog 17 #[OpV 10 k v] w fun e w' => e = .returned (.bool (decide (k = 0 ∧ (1 ≤ v ∧ v ≤ 6)))) ∧ Below w.heap.size w w' := by
  have hm : ∀ w : World, (method 272 100 (OpV 10 k v) "loop.example/g00468/impl.fits").run Tryz.prog w = .ok (152, OpV 10 k v) w := fun _ => by kernel_rfl
  obtain ⟨B, hB⟩ : ∃ B, decide (k = 0 ∧ (1 ≤ v ∧ v ≤ 6)) = B := ⟨_, rfl⟩
  rw [hB]
  have HB : Hid (decide (k = 0 ∧ (1 ≤ v ∧ v ≤ 6)) = B) := hB
  clear hB
  go_enter Tryz.func17, Tryz.ntmps17
  go_wp2_with fail
  refine (implDeedOf_any 10 k v _).mono ?_
  rintro e w1 ⟨rfl, hb1⟩
  rw [show DeedV 10 k v = .iface 100 (OpV 10 k v) from rfl]
  go_wp2_with fail
  refine (fits_10 k v _).mono ?_
  rintro e w2 ⟨rfl, hb2⟩
  rw [HB.out]
  have hs : w.heap.size + 1 ≤ w1.heap.size := by simpa using hb1.size
  have hall : Below w.heap.size w w2 := (((Below.refl _ w).alloc (Nat.le_refl _) _).trans (hb1.mono (by simp))).trans (hb2.mono (by omega))
  clear hb1 hb2 hm
  go_wp2
  go_ret
  exact ⟨rfl, hall⟩

set_option maxHeartbeats 2000000 in
set_option maxRecDepth 100000 in
theorem implOpOk_none (kind k v : Int) (w : World) (h : ¬ (1 ≤ kind ∧ kind ≤ 10)) :
    Calls Tryz.prog 17 #[OpV kind k v] w fun e w' => e = .returned (.bool false) ∧ Below w.heap.size w w' := by
  have hm : ∀ w : World, (method 272 101 (OpV kind k v) "loop.example/g00468/impl.fits").run Tryz.prog w = .ok (153, OpV kind k v) w := fun _ => by kernel_rfl
  have hT : deedT kind = 101 := by
    unfold deedT
    rw [if_neg (by omega), if_neg (by omega), if_neg (by omega), if_neg (by omega), if_neg (by omega), if_neg (by omega), if_neg (by omega), if_neg (by omega), if_neg (by omega), if_neg (by omega)]
  go_enter Tryz.func17, Tryz.ntmps17
  go_wp2_with fail
  refine (implDeedOf_any kind k v _).mono ?_
  rintro e w1 ⟨rfl, hb1⟩
  rw [show DeedV kind k v = .iface 101 (OpV kind k v) by rw [DeedV, hT]]
  clear hT
  have hs : w.heap.size + 1 ≤ w1.heap.size := by simpa using hb1.size
  have hall : Below w.heap.size w w1 := (((Below.refl _ w).alloc (Nat.le_refl _) _).trans (hb1.mono (by simp)))
  clear hb1 h
  go_wp2
  go_ret
  first
    | exact ⟨rfl, hall⟩
    | exact ⟨rfl, hall.alloc (by omega) _⟩

theorem implOpOk_any (kind k v : Int) (w : World) :
    Calls Tryz.prog 17 #[OpV kind k v] w fun e w' => e = .returned (.bool (decide (OpGood kind k v))) ∧ Below w.heap.size w w' := by
  by_cases h : 1 ≤ kind ∧ kind ≤ 10
  · have key : ∀ (P : Prop) [Decidable P], (OpGood kind k v ↔ P) → decide P = decide (OpGood kind k v) := fun P _ hP => decide_eq_decide.2 hP.symm
    rcases kinds h with rfl | rfl | rfl | rfl | rfl | rfl | rfl | rfl | rfl | rfl
    · refine (implOpOk_1 k v w).mono ?_
      rintro e w' ⟨rfl, hb⟩
      exact ⟨by rw [key _ (by unfold OpGood KeyGood ValGood; omega)], hb⟩
    · refine (implOpOk_2 k v w).mono ?_
      rintro e w' ⟨rfl, hb⟩
      exact ⟨by rw [key _ (by unfold OpGood KeyGood ValGood; omega)], hb⟩
    · refine (implOpOk_3 k v w).mono ?_
      rintro e w' ⟨rfl, hb⟩
      exact ⟨by rw [key _ (by unfold OpGood KeyGood ValGood; omega)], hb⟩
    · refine (implOpOk_4 k v w).mono ?_
      rintro e w' ⟨rfl, hb⟩
      exact ⟨by rw [key _ (by unfold OpGood KeyGood ValGood; omega)], hb⟩
    · refine (implOpOk_5 k v w).mono ?_
      rintro e w' ⟨rfl, hb⟩
      exact ⟨by rw [key _ (by unfold OpGood KeyGood ValGood; omega)], hb⟩
    · refine (implOpOk_6 k v w).mono ?_
      rintro e w' ⟨rfl, hb⟩
      exact ⟨by rw [key _ (by unfold OpGood KeyGood ValGood; omega)], hb⟩
    · refine (implOpOk_7 k v w).mono ?_
      rintro e w' ⟨rfl, hb⟩
      exact ⟨by rw [key _ (by unfold OpGood KeyGood ValGood; omega)], hb⟩
    · refine (implOpOk_8 k v w).mono ?_
      rintro e w' ⟨rfl, hb⟩
      exact ⟨by rw [key _ (by unfold OpGood KeyGood ValGood; omega)], hb⟩
    · refine (implOpOk_9 k v w).mono ?_
      rintro e w' ⟨rfl, hb⟩
      exact ⟨by rw [key _ (by unfold OpGood KeyGood ValGood; omega)], hb⟩
    · refine (implOpOk_10 k v w).mono ?_
      rintro e w' ⟨rfl, hb⟩
      exact ⟨by rw [key _ (by unfold OpGood KeyGood ValGood; omega)], hb⟩
  · refine (implOpOk_none kind k v w h).mono ?_
    rintro e w' ⟨rfl, hb⟩
    exact ⟨by rw [decide_eq_false (fun g => h g.1)], hb⟩
end Go.Proofs.YtenlapppaimkkaeGreatDoor

/- Small facts on lists that a call owns, of no program. -/
namespace Go.Proofs.YtenlapppaimkkaeGreatDoor
open Go.RowKit

theorem owns_below {w w' : World} {base : Nat} {e : TypeId} {size : Nat} {v : Value} {n : Nat} {xs : List Value} (h : w.ownsRow base e size v n xs) {B : Nat} (hb : Below B w w') (hB : w.heap.size ≤ B) : w'.ownsRow base e size v n xs := by
  obtain ⟨h1, h2 | ⟨g, cap, cur, h3, h4, h5, h6⟩⟩ := h
  · exact ⟨h1, .inl h2⟩
  · refine ⟨h1, .inr ⟨g, cap, cur, h3, h4, ?_, h6⟩⟩
    have := (Array.getElem?_eq_some_iff.1 h5).1
    rw [hb.block g (by omega)]
    exact h5

theorem own_cell {w : World} {base : Nat} {e : TypeId} {g n cap j : Nat} {xs : List Value} (h : w.ownsRow base e 1 (.slice (some ⟨g, 0, none⟩) n cap) n xs) (hj : j < n) : ∃ u, w.cell? ⟨g, j, none⟩ = some u := by
  have h1 := h.cellAt j (by omega)
  have h2 : j < xs.length := by rw [h.1]; omega
  exact ⟨xs[j], by rw [h1, List.getElem?_eq_getElem h2]⟩

theorem own_base {w : World} {base : Nat} {e : TypeId} {g n cap : Nat} {xs : List Value} (h : w.ownsRow base e 1 (.slice (some ⟨g, 0, none⟩) n cap) n xs) : base ≤ g ∧ g < w.heap.size := h.lt g rfl
end Go.Proofs.YtenlapppaimkkaeGreatDoor

/- Small facts on lists of numbers in memory. -/
namespace Go.Proofs.YtenlapppaimkkaeGreatDoor
open Go.ChangeShapes Go.WideShapes Go.ChangeAt Go.RowKit

/-- A number as a value. -/
abbrev I (x : Int) : Value := .int .i64 x
/-- The slice of address a and length n holds the numbers xs. -/
def IntAt (w : World) (a : Option Addr) (n : Nat) (xs : List Int) : Prop :=
  xs.length = n ∧ n ≤ 1099511627776 ∧ (n = 0 ∨ ∃ b o, a = some ⟨b, o, none⟩ ∧ ∀ i, i < n → w.cell? ⟨b, o + i, none⟩ = some (I (xs.getD i 0)))

theorem IntAt.below {w w' : World} {a : Option Addr} {n : Nat} {xs : List Int} (h : IntAt w a n xs) {B : Nat} (hb : Below B w w') (hB : w.heap.size ≤ B) : IntAt w' a n xs := by
  obtain ⟨h1, h2, h3 | ⟨b, o, h3, h4⟩⟩ := h
  · exact ⟨h1, h2, .inl h3⟩
  · refine ⟨h1, h2, .inr ⟨b, o, h3, fun i hi => ?_⟩⟩
    have h5 := h4 i hi
    have h6 := World.block_lt_of_cell? w _ h5
    rw [hb.cell (show _ < B from Nat.lt_of_lt_of_le h6 hB)]
    exact h5
theorem own_intAt {w : World} {base : Nat} {e : TypeId} {g n cap : Nat} {xs : List Int} (h : w.ownsRow base e 1 (.slice (some ⟨g, 0, none⟩) n cap) n (xs.map I)) (hn : n ≤ 1099511627776) : IntAt w (some ⟨g, 0, none⟩) n xs := by
  have hl : xs.length = n := by have := h.1; simpa using this
  refine ⟨hl, hn, .inr ⟨g, 0, rfl, fun i hi => ?_⟩⟩
  rw [Nat.zero_add, h.cellAt i (by omega), List.getElem?_map, List.getElem?_eq_getElem (by omega)]
  simp [List.getD, show i < xs.length by omega]

theorem take_nextI {xs ys : List Int} {k : Nat} (hx : k < xs.length) (hy : k < ys.length) (h : xs.take k = ys.take k) (e : xs.getD k 0 = ys.getD k 0) : xs.take (k + 1) = ys.take (k + 1) := by
  have e' : xs[k] = ys[k] := by simpa [List.getD, hx, hy] using e
  rw [List.take_succ_eq_append_getElem hx, List.take_succ_eq_append_getElem hy, h, e']

theorem infoInt : (Tryz.prog.info? 3).map (fun i => (i.zero, i.size, i.bytes)) = some (some (.int .i64 0), 1, 8) := by kernel_rfl
end Go.Proofs.YtenlapppaimkkaeGreatDoor

/- A list that is copied by append onto an empty one: what the walk needs there. -/
namespace Go.Proofs.YtenlapppaimkkaeGreatDoor
open Go.ChangeShapes Go.WideShapes Go.ChangeAt Go.RowKit

theorem own_empty {w : World} {base : Nat} (hb : base ≤ w.heap.size) : (w.alloc (.cells #[] 3)).ownsRow base 3 1 (.slice (some ⟨w.heap.size, 0, none⟩) 0 0) 0 [] :=
  ⟨rfl, .inr ⟨w.heap.size, 0, #[], rfl, hb, (by show (w.heap.push _)[w.heap.size]? = _; simp), Nat.le_refl _, by unfold maxLen; omega, rfl, rfl⟩⟩
theorem own_empty_drew {w : World} {base g : Nat} (hg : w.heap.size = g) (hb : base ≤ g) : (w.alloc (.cells #[] 3)).drew.ownsRow base 3 1 (.slice (some ⟨g, 0, none⟩) 0 0) 0 [] := by
  subst hg
  exact own_empty hb
theorem own_weaken {w : World} {base base' : Nat} {e : TypeId} {size : Nat} {v : Value} {n : Nat} {xs : List Value} (h : w.ownsRow base e size v n xs) (hb : base' ≤ base) : w.ownsRow base' e size v n xs := by
  refine ⟨h.1, ?_⟩
  rcases h.2 with h2 | ⟨g, cap, cur, hv, hg, r⟩
  · exact .inl h2
  · exact .inr ⟨g, cap, cur, hv, Nat.le_trans hb hg, r⟩
theorem own_setCell_far {w : World} {base : Nat} {e : TypeId} {size : Nat} {v : Value} {n : Nat} {xs : List Value} (h : w.ownsRow base e size v n xs) {a : Addr} (ha : v.ownBlock ≠ some a.block) (u : Value) : (w.setCell a u).ownsRow base e size v n xs := by
  refine ⟨h.1, ?_⟩
  rcases h.2 with h2 | ⟨g, cap, cur, rfl, hg, hh, r⟩
  · exact .inl h2
  · exact .inr ⟨g, cap, cur, rfl, hg, by rw [Below.heap_setCell _ _ _ _ (fun e => ha (by simp [Value.ownBlock, e]))]; exact hh, r⟩
theorem own_at {w : World} {base : Nat} {e : TypeId} {v : Value} {n : Nat} {xs : List Int} (h : w.ownsRow base e 1 v n (xs.map I)) (hn : n ≤ 1099511627776) : ∃ a c, v = .slice a n c ∧ IntAt w a n xs := by
  have hl : xs.length = n := by have := h.1; simpa using this
  rcases h.2 with ⟨rfl, h0⟩ | ⟨g, cap, cur, rfl, _⟩
  · exact ⟨none, 0, by rw [h0], hl, hn, .inl h0⟩
  · exact ⟨_, cap, rfl, own_intAt h hn⟩
theorem news_len {xs : List Int} {n : Nat} (h : xs.length = n) : (xs.map I).length = n * 1 := by simp [h]
theorem news_at {w : World} {p o n : Nat} {xs : List Int} {ob : Obj} (hl : xs.length = n) (h : ∀ i, i < n → w.cell? ⟨p, o + i, none⟩ = some (I (xs.getD i 0))) :
    ∀ (j : Nat) (u : Value), (xs.map I)[j]? = some u → (w.alloc ob).cell? ((⟨p, o, none⟩ : Addr).add j) = some u := by
  intro j u hj
  have hj' : j < n := by
    rcases Nat.lt_or_ge j n with h1 | h1
    · exact h1
    · rw [List.getElem?_eq_none (by simp; omega)] at hj; cases hj
  have h1 := h j hj'
  have h2 := World.block_lt_of_cell? w _ h1
  have e : (⟨p, o, none⟩ : Addr).add j = ⟨p, o + j, none⟩ := by simp [Addr.add]
  rw [e, World.cell?_alloc_past _ _ _ (show p < w.heap.size from h2), h1]
  rw [List.getElem?_map, List.getElem?_eq_getElem (by omega)] at hj
  simpa [List.getD, show j < xs.length by omega] using hj
theorem news_at_drew {w : World} {p o n : Nat} {xs : List Int} {ob : Obj} (hl : xs.length = n) (h : ∀ i, i < n → w.cell? ⟨p, o + i, none⟩ = some (I (xs.getD i 0))) :
    ∀ (j : Nat) (u : Value), (xs.map I)[j]? = some u → (w.alloc ob).drew.cell? ((⟨p, o, none⟩ : Addr).add j) = some u := fun j u hj => news_at hl h j u hj
theorem IntAt.cells {w : World} {p o n : Nat} {xs : List Int} (h : IntAt w (some ⟨p, o, none⟩) n xs) : ∀ i, i < n → w.cell? ⟨p, o + i, none⟩ = some (I (xs.getD i 0)) := by
  intro i hi
  rcases h.2.2 with h0 | ⟨b, c, e, g⟩
  · omega
  · cases e
    exact g i hi
theorem below_appended_drew {a w1 w' : World} {B g c : Nat} {ob : Obj} (hb : Below B a w1) (hs : B ≤ w1.heap.size) (he : w1.heap.size = g) (hg : (w1.alloc ob).drew.grownBy w' (Value.slice (some ⟨g, 0, none⟩) 0 c).ownBlock) : Below B a w' :=
  (hb.alloc hs _).drew.grown hg (by simp; omega) fun k e => by cases e; exact he ▸ hs
theorem news_one {xs : List Int} : ∀ u ∈ xs.map I, u.oneCell' = true := by
  intro u hu
  simp at hu
  obtain ⟨x, _, rfl⟩ := hu
  rfl
theorem below_appended {w w1 w' : World} {ob : Obj} {c : Nat} (hb : Below w.heap.size w w1) (hs : w.heap.size ≤ w1.heap.size) (hg : (w1.alloc ob).grownBy w' (Value.slice (some ⟨w1.heap.size, 0, none⟩) 0 c).ownBlock) : Below w.heap.size w w' :=
  (hb.alloc hs _).grown hg (by simp; omega) fun k e => by cases e; exact hs
/-- append onto a list of the call's own, as one step of a region that draws its order. -/
theorem step_append_own {P : Program} {ops : Array Oper} {o : Oper} {a : Act} (w : World) {K : Act → World → Prop} {Q : Exit → Act → World → Prop} {E : Prop} (hg : o.guard = none) (s x : Operand) (t : TypeId)
    (ho : o.op = .call { callee := .builtin .append, args := #[s, x], argTypes := #[t, t] })
    (base : Nat) (e : TypeId) (i : TypeInfo) (z : Value) (size bytes : Nat) (ht : P.underlying t = some (.slice e)) (hi : P.info? e = some i) (hz : i.zero = some z)
    (hsize : i.size = size) (hby : i.bytes = bytes) (hzs : z.cells.size = size) (hsz : 0 < size)
    (v : Value) (n : Nat) (xs : List Value) (hs : a.eval s = v) (hown : w.ownsRow base e size v n xs)
    (ad : Addr) (m c : Nat) (news : List Value) (hx : a.eval x = .slice (some ad) m c) (hl : news.length = m * size) (hnews : ∀ j u, news[j]? = some u → w.cell? (ad.add j) = some u) (h1 : ∀ u ∈ news, u.oneCell' = true)
    (h63 : n + m ≤ maxLen) (hbytes : (n + m) * bytes ≤ 140737488355328) (hbase : base ≤ w.heap.size)
    (h : ∀ v' w', w'.ownsRow base e size v' (n + m) (xs ++ news) → w.grownBy w' v.ownBlock → (v' = .slice none 0 0 ↔ v = .slice none 0 0 ∧ m = 0) → K (a.put o.dst v') w') :
    if Region.wanted o (yielded ops a.tmps) = true then Oper.wp P o a w K Q else E := by
  rw [if_pos (by simp [Region.wanted, hg])]
  exact wp_append_own w s x t ho base e i z size bytes ht hi hz hsize hby hzs hsz v n xs hs hown ad m c news hx hl hnews h1 h63 hbytes hbase h
end Go.Proofs.YtenlapppaimkkaeGreatDoor

/- What comes of an op, as a value. -/
namespace Go.Proofs.YtenlapppaimkkaeGreatDoor
/-- What comes of an op, as a value. -/
abbrev ResV (code : Int) (a : Option Addr) (n c : Nat) : Value := .agg #[.int .i64 code, .slice a n c]
end Go.Proofs.YtenlapppaimkkaeGreatDoor

/- (comings).or, walked: one more that may come. -/
namespace Go.Proofs.YtenlapppaimkkaeGreatDoor
open Go.ChangeShapes Go.WideShapes Go.ChangeAt Go.RowKit

/-- What may come, as it lies in memory: codes and lists. -/
def cellsC (L : List (Int × Value)) : List Value := L.flatMap fun r => [.int .i64 r.1, r.2]
theorem cellsC_len (L : List (Int × Value)) : (cellsC L).length = L.length * 2 := by
  induction L with
  | nil => rfl
  | cons x r ih => simp only [cellsC, List.flatMap_cons, List.length_append, List.length_cons, List.length_nil] at ih ⊢; omega
theorem cellsC_snoc (L : List (Int × Value)) (k : Int) (v : Value) : cellsC L ++ [.int .i64 k, v] = cellsC (L ++ [(k, v)]) := by simp [cellsC]
/-- The list of what may come lies in memory of the call's own. -/
abbrev ComAt (w : World) (base : Nat) (v : Value) (L : List (Int × Value)) : Prop := w.ownsRow base 33 2 v L.length (cellsC L)
theorem com_empty {w : World} {base : Nat} (hb : base ≤ w.heap.size) : ComAt (w.alloc (.cells #[] 33)) base (.slice (some ⟨w.heap.size, 0, none⟩) 0 0) [] :=
  ⟨rfl, .inr ⟨w.heap.size, 0, #[], rfl, hb, (by show (w.heap.push _)[w.heap.size]? = _; simp), Nat.le_refl _, by unfold maxLen; omega, rfl, rfl⟩⟩

theorem cell_two_new (w : World) (x y : Value) (t : TypeId) : ∀ (j : Nat) (u : Value), [x, y][j]? = some u → (w.alloc (.cells #[x, y] t)).cell? ((⟨w.heap.size, 0, none⟩ : Addr).add j) = some u := by
  intro j u hj
  rcases j with _ | _ | j
  · simp only [List.getElem?_cons_zero, Option.some.injEq] at hj; subst hj; simp [Addr.add]
  · simp only [List.getElem?_cons_succ, List.getElem?_cons_zero, Option.some.injEq] at hj; subst hj; simp [Addr.add]
  · simp at hj

set_option maxHeartbeats 1000000 in
set_option maxRecDepth 100000 in
theorem or_yes (base : Nat) (code : Int) (a : Option Addr) (n c : Nat) (v : Value) (L : List (Int × Value)) (w : World) (h : ComAt w base v L) (hL : L.length ≤ 3) (hb : base ≤ w.heap.size) :
    Calls Tryz.prog 55 #[v, .bool true, .int .i64 code, .slice a n c] w fun e w' => ∃ v', e = .returned v' ∧ ComAt w' base v' (L ++ [(code, .slice a n c)]) ∧ w.grownBy w' v.ownBlock := by
  obtain ⟨i0, hin⟩ : ∃ i, Tryz.prog.info? 33 = some i := ⟨_, rfl⟩
  have hz0 : i0.zero = some (.agg #[.int .i64 0, .slice none 0 0]) := by cases hin; kernel_rfl
  have hz1 : i0.size = 2 := by cases hin; kernel_rfl
  have hz2 : i0.bytes = 32 := by cases hin; kernel_rfl
  go_enter Tryz.func55, Tryz.ntmps55
  go_wp2_with (first
    | (at_builtin; refine wpList_append_own _ rfl _ _ 56 rfl base 33 i0 (.agg #[.int .i64 0, .slice none 0 0]) 2 32 Tryz.underlying56 hin hz0 hz1 hz2 rfl (by decide) _ _ _ rfl (h.alloc _) ⟨w.heap.size, 0, none⟩ 1 1 [.int .i64 code, .slice a n c] rfl rfl (cell_two_new _ _ _ _) (by intro u hu; simp at hu; rcases hu with rfl | rfl <;> rfl) (by unfold maxLen; omega) (by omega) (by simp; omega) ?_; intro v' w' hown' hgrow hnil)
    | go_in)
  go_ret
  rw [cellsC_snoc] at hown'
  refine ⟨_, rfl, ?_, (World.grownBy_alloc w _ _).trans hgrow⟩
  rw [ComAt, List.length_append]
  exact hown'
theorem or_no (code : Int) (a : Option Addr) (n c : Nat) (v : Value) (w : World) :
    Calls Tryz.prog 55 #[v, .bool false, .int .i64 code, .slice a n c] w fun e w' => e = .returned v ∧ w' = w := by
  go_enter Tryz.func55, Tryz.ntmps55
  go_wp2
  go_ret
  exact ⟨rfl, rfl⟩
theorem or_on (base : Nat) (W0 : World) (code : Int) (a : Option Addr) (n c : Nat) (v : Value) (L : List (Int × Value)) (w : World) (h : ComAt w base v L) (hL : L.length ≤ 3) (hbl : Below base W0 w) (hs : base ≤ W0.heap.size) :
    Calls Tryz.prog 55 #[v, .bool true, .int .i64 code, .slice a n c] w fun e w' => ∃ v', e = .returned v' ∧ ComAt w' base v' (L ++ [(code, .slice a n c)]) ∧ w.grownBy w' v.ownBlock ∧ Below base W0 w' := by
  have hs' : base ≤ w.heap.size := Nat.le_trans hs hbl.size
  refine (or_yes base code a n c v L w h hL hs').mono ?_
  rintro e w' ⟨v', rfl, hc, hg⟩
  exact ⟨v', rfl, hc, hg, hbl.grown hg hs' fun j hj => (h.lt j hj).1⟩

/-- Codes and lists, as they lie there. -/
def TellsAs (w : World) : List (Int × Value) → List (Int × List Int) → Prop
  | [], [] => True
  | r :: L, q :: LL => (r.1 = q.1 ∧ ∃ a n c, r.2 = .slice a n c ∧ IntAt w a n q.2) ∧ TellsAs w L LL
  | _, _ => False
/-- What may come lies there. -/
def ComSays (e : Ending) (w w' : World) (LL : List (Int × List Int)) : Prop :=
  ∃ (v : Value) (L : List (Int × Value)), e = .returned v ∧ ComAt w' w.heap.size v L ∧ TellsAs w' L LL
theorem com_empty_at {w : World} {base g : Nat} (hg : w.heap.size = g) (hb : base ≤ g) : ComAt (w.alloc (.cells #[] 33)) base (.slice (some ⟨g, 0, none⟩) 0 0) [] := by
  subst hg
  exact com_empty hb
theorem com_empty_drew {w : World} {base g : Nat} (hg : w.heap.size = g) (hb : base ≤ g) : ComAt (w.alloc (.cells #[] 33)).drew base (.slice (some ⟨g, 0, none⟩) 0 0) [] := by
  subst hg
  exact com_empty hb
theorem nil_at (w : World) : IntAt w none 0 [] := ⟨rfl, by omega, .inl rfl⟩
theorem none_told (w : World) (k : Int) : (((k, Value.slice none 0 0) : Int × Value).1 = ((k, []) : Int × List Int).1 ∧ ∃ a n c, ((k, Value.slice none 0 0) : Int × Value).2 = .slice a n c ∧ IntAt w a n ((k, []) : Int × List Int).2) := ⟨rfl, none, 0, 0, rfl, nil_at w⟩
theorem tells_1 (w : World) (k : Int) : TellsAs w [(k, .slice none 0 0)] [(k, [])] := ⟨none_told w k, trivial⟩
theorem tells_2 (w : World) (k k' : Int) : TellsAs w [(k, .slice none 0 0), (k', .slice none 0 0)] [(k, []), (k', [])] := ⟨none_told w k, none_told w k', trivial⟩
theorem tells_l {w : World} {a : Option Addr} {n c : Nat} {xs : List Int} (h : IntAt w a n xs) (k : Int) : TellsAs w [(k, .slice a n c)] [(k, xs)] := ⟨⟨rfl, a, n, c, rfl, h⟩, trivial⟩
theorem one_at {w : World} {g : Nat} {x : Int} (h : w.cell? ⟨g, 0, none⟩ = some (.int .i64 x)) : IntAt w (some ⟨g, 0, none⟩) 1 [x] :=
  ⟨rfl, by omega, .inr ⟨g, 0, rfl, fun i hi => by obtain rfl : i = 0 := by omega
                                                  exact h⟩⟩
theorem com_done {w w' : World} {v : Value} {L : List (Int × Value)} {LL : List (Int × List Int)} {B : Nat} (hB : w.heap.size ≤ B) (hc : ComAt w' B v L) (ht : TellsAs w' L LL) : ComSays (.returned v) w w' LL := ⟨v, L, rfl, own_weaken hc hB, ht⟩
/-- The boxes of the two arguments, and what is held at one key. -/
theorem com_boxes {w : World} {p o j : Nat} {st n k v x : Int} {T : TypeId} (hc : w.cell? ⟨p, o + j, none⟩ = some (I x)) {W0 w' : World} (hW : W0 = (w.alloc (.cells #[.slice (some ⟨p, o, none⟩) 4 4, .int .i64 st] 26)).alloc (.cells #[.int .i64 n, .int .i64 k, .int .i64 v] T)) (hb : Below (w.heap.size + 1 + 1) W0 w') :
    (w'.cell? ⟨w.heap.size, 0, none⟩ = some (.slice (some ⟨p, o, none⟩) 4 4) ∧ w'.cell? ⟨w.heap.size, 1, none⟩ = some (.int .i64 st) ∧ w'.cell? ⟨w.heap.size + 1, 1, none⟩ = some (.int .i64 k) ∧ w'.cell? ⟨w.heap.size + 1, 2, none⟩ = some (.int .i64 v) ∧ w'.cell? ⟨p, o + j, none⟩ = some (I x)) ∧ Below w.heap.size w w' := by
  have hp : p < w.heap.size := World.block_lt_of_cell? w _ hc
  subst hW
  refine ⟨⟨?_, ?_, ?_, ?_, ?_⟩, (((Below.refl _ w).alloc (Nat.le_refl _) _).alloc (by simp) _).trans (hb.mono (by omega))⟩
  · rw [hb.cell (show w.heap.size < _ by omega)]; simp
  · rw [hb.cell (show w.heap.size < _ by omega)]; simp
  · rw [hb.cell (show w.heap.size + 1 < _ by omega)]; simp
  · rw [hb.cell (show w.heap.size + 1 < _ by omega)]; simp
  · rw [hb.cell (show p < _ by omega), World.cell?_alloc_past _ _ _ (show p < _ by simp; omega), World.cell?_alloc_past _ _ _ (show p < _ from hp), hc]
theorem told_first {W : World} {b : Nat} {x : Int} {ob : Obj} {t : TypeId} (hb : W.heap.size = b) : ((W.alloc (.cells #[I x] t)).alloc ob).cell? ⟨b, 0, none⟩ = some (.int .i64 x) := by
  subst hb
  rw [World.cell?_alloc_past _ _ _ (show W.heap.size < _ by simp)]
  simp
theorem told_second {W : World} {b : Nat} {x : Int} {ob : Obj} {t : TypeId} (hb : W.heap.size = b) : ((W.alloc ob).alloc (.cells #[I x] t)).cell? ⟨b + 1, 0, none⟩ = some (.int .i64 x) := by
  subst hb
  have e : (W.alloc ob).heap.size = W.heap.size + 1 := by simp
  rw [← e]
  simp
theorem told_first_drew {W : World} {b : Nat} {x : Int} {ob : Obj} {t : TypeId} (hb : W.heap.size = b) : ((W.alloc (.cells #[I x] t)).alloc ob).drew.cell? ⟨b, 0, none⟩ = some (.int .i64 x) := told_first hb
theorem told_second_drew {W : World} {b : Nat} {x : Int} {ob : Obj} {t : TypeId} (hb : W.heap.size = b) : ((W.alloc ob).alloc (.cells #[I x] t)).drew.cell? ⟨b + 1, 0, none⟩ = some (.int .i64 x) := told_second hb
end Go.Proofs.YtenlapppaimkkaeGreatDoor

/- All but one block is as it was: what follows of it. -/
namespace Go.Proofs.YtenlapppaimkkaeGreatDoor
open Go.ChangeShapes Go.WideShapes Go.ChangeAt Go.RowKit

theorem far_drew {w w' : World} {row : Option Nat} (h : w.grownBy w' row) : w.grownBy w'.drew row := ⟨h.os, h.tape, h.output, h.size, h.block⟩
theorem far_below {w w' : World} (h : Below w.heap.size w w') (row : Option Nat) : w.grownBy w' row := ⟨h.os, h.tape, h.output, h.size, fun k hk _ => h.block k hk⟩
theorem far_below_of {w0 w w' : World} {row : Option Nat} (h0 : w0.grownBy w row) (h : Below w.heap.size w w') : w0.grownBy w' row := h0.trans (far_below h row)
theorem far_set {w0 w : World} {row : Option Nat} (h : w0.grownBy w row) {a : Addr} (ha : w0.heap.size ≤ a.block) (v : Value) : w0.grownBy (w.setCell a v) row :=
  ⟨h.os, h.tape, h.output, by simpa [World.setCell] using h.size, fun k hk hr => by rw [Below.heap_setCell _ _ _ _ (fun e => by omega)]; exact h.block k hk hr⟩
theorem far_cell {w w' : World} {p g o : Nat} {v : Value} (h : w.grownBy w' (some p)) (hv : w.cell? ⟨g, o, none⟩ = some v) (hg : g ≠ p) : w'.cell? ⟨g, o, none⟩ = some v := h.cell hv (by simpa using hg)
end Go.Proofs.YtenlapppaimkkaeGreatDoor

/- A range over a function whose rounds are known ahead: `go x` says whether the round at x goes on. What the function tells ahead of the first that does not, comes; then the loop is left by a return. -/
namespace Go.Proofs.YtenlapppaimkkaeGreatDoor
open Go.ChangeShapes Go.WideShapes Go.ChangeAt Go.RowKit

/-- What abides new blocks. -/
def Grows {α : Type} (J : List α → World → Prop) : Prop := ∀ s W W', J s W → W.grownBy W' none → J s W'

/-- What a round that goes on keeps: all that lay below n₀; and every block that is no cells of the types ts. -/
structure Kp (n₀ : Nat) (ts : List TypeId) (A B : World) : Prop where
  low : Below n₀ A B
  keep : ∀ k, k < A.heap.size → (∀ cs t r, A.heap[k]? = some (.cells cs t r) → t ∉ ts) → B.heap[k]? = A.heap[k]?
theorem Kp.of_below {n₀ : Nat} {ts : List TypeId} {A B : World} (h : Below A.heap.size A B) (hn : n₀ ≤ A.heap.size) : Kp n₀ ts A B := ⟨h.mono hn, fun k hk _ => h.block k hk⟩
theorem Kp.trans {n₀ : Nat} {ts : List TypeId} {A B C : World} (h : Kp n₀ ts A B) (k : Kp n₀ ts B C) : Kp n₀ ts A C :=
  ⟨h.low.trans k.low, fun i hi hc => by
    have e := h.keep i hi hc
    exact (k.keep i (Nat.lt_of_lt_of_le hi h.low.size) (fun cs t r h' => hc cs t r (e.symm.trans h'))).trans e⟩
theorem Kp.cells {n₀ : Nat} {ts : List TypeId} {A B : World} (h : Kp n₀ ts A B) {k : Nat} {cs : Array Value} {t : TypeId} {r : Nat × Nat} (hk : A.heap[k]? = some (.cells cs t r)) (ht : t ∉ ts) : B.heap[k]? = some (.cells cs t r) :=
  (h.keep k (Array.getElem?_eq_some_iff.1 hk).1 (fun cs' t' r' h' => by rw [hk] at h'; cases h'; exact ht)).trans hk

/-- What a round that does not go on keeps: every block of cells that are not of the types ts. -/
structure Kx (ts : List TypeId) (A B : World) : Prop where
  size : A.heap.size ≤ B.heap.size
  keep : ∀ (k : Nat) (cs : Array Value) (t : TypeId) (r : Nat × Nat), A.heap[k]? = some (Obj.cells cs t r) → t ∉ ts → B.heap[k]? = some (Obj.cells cs t r)
theorem Kp.kx {n₀ : Nat} {ts : List TypeId} {A B : World} (h : Kp n₀ ts A B) : Kx ts A B := ⟨h.low.size, fun _ _ _ _ hk ht => h.cells hk ht⟩
theorem Kx.trans {ts : List TypeId} {A B C : World} (h : Kx ts A B) (k : Kx ts B C) : Kx ts A C := ⟨Nat.le_trans h.size k.size, fun i cs t r hk ht => k.keep i cs t r (h.keep i cs t r hk ht) ht⟩

/-- One call of yield, of which it is known whether it goes on. -/
def Rounds {α : Type} (P : Program) (l : Nat) (encs : α → Array Value) (go : α → Bool) (n₀ : Nat) (ts : List TypeId) (J Jx : List α → World → Prop) : Prop :=
  ∀ pre x W, pre.length < 100 → J pre W → YieldAt Fence.wide 3 P l (encs x) W fun e W' => e = .returned (.bool (go x)) ∧ (go x = true → J (pre ++ [x]) W' ∧ Kp n₀ ts W W') ∧ (go x = false → Jx (pre ++ [x]) W' ∧ Kx ts W W')

/-- The function value tells L, till a round does not go on. -/
def SeqGo {α : Type} (P : Program) (g : Nat) (lb : Array Value) (encs : α → Array Value) (go : α → Bool) (n₀ : Nat) (ts : List TypeId) (L : List α) (w : World) : Prop :=
  ∀ (l : Nat) (J Jx : List α → World → Prop) (W : World), Below w.heap.size w W → Grows J → Grows Jx → Rounds P l encs go n₀ ts J Jx → J [] W →
    Calls P g (#[.func (.yield l) #[] #[]] ++ lb) W fun e W' => (∃ v, e = .returned v) ∧
      ((∀ x ∈ L, go x = true) → J L W') ∧ (∀ pre x rest, L = pre ++ x :: rest → (∀ y ∈ pre, go y = true) → go x = false → Jx (pre ++ [x]) W')

theorem wp_rangeFunc_go {α : Type} {P : Program} {g : Operand} {ps : Array Tmp} {assign body : Code} {Q : Exit → Act → World → Prop} {a : Act} {w : World}
    {gf : Nat} {lb : Array Value} (hg : a.eval g = .func (.func gf) #[] lb) (eg : ∀ args w, (callFunc gf args).run P w = .ok (.enter gf args) w)
    {encs : α → Array Value} {go : α → Bool} {n₀ : Nat} {ts : List TypeId} {L : List α} (hseq : SeqGo P gf lb encs go n₀ ts L w) (hn : n₀ ≤ w.heap.size) (hps : ∀ x, (encs x).size = ps.size)
    (I Ix : List α → World → Prop) (hI : OwnFrom w.heap.size I) (hIx : OwnFrom w.heap.size Ix) (h0 : I [] w) (Ax : α → Act → World → Prop) (hAx : ∀ x a', OwnFrom w.heap.size (fun (_ : Unit) W => Ax x a' W))
    (hassign : ∀ (l : Nat) (pre : List α) (x : α) (W : World) (K : Act → World → Prop), w.heap.size + 1 < W.heap.size → pre.length < 100 → I pre W → (∀ a' W', W.grownBy W' none → I pre W' → Ax x a' W' → K a' W') →
      assign.wpIn (Fence.wide.inRound l) 3 P (Exit.then K (fun _ _ _ => False)) { tmps := (ps.zip (encs x)).foldl (fun t (p, v) => t.setIfInBounds p v) a.tmps, defers := [] } W)
    (hbody : ∀ (l : Nat) (pre : List α) (x : α) (a' : Act) (W : World), w.heap.size + 1 < W.heap.size → pre.length < 100 → I pre W → Ax x a' W → body.wpIn (Fence.wide.inRound l) 3 P (fun e _ W' =>
      (W'.heap[w.heap.size]? = W.heap[w.heap.size]? ∧ W'.heap[w.heap.size + 1]? = W.heap[w.heap.size + 1]?) ∧ ((e = .normal ∧ go x = true ∧ Kp n₀ ts W W' ∧ I (pre ++ [x]) W') ∨ (e = .ret ∧ go x = false ∧ Kx ts W W' ∧ Ix (pre ++ [x]) W'))) a' W)
    (hdone : ∀ (W : World), (∀ x ∈ L, go x = true) → I L W → W.heap[w.heap.size]? = some (.deferred (some [])) → Q .normal { a with defers := { target := .collected w.heap.size, args := #[] } :: a.defers } W)
    (hstop : ∀ (pre : List α) (x : α) (rest : List α) (W : World), L = pre ++ x :: rest → (∀ y ∈ pre, go y = true) → go x = false → Ix (pre ++ [x]) W → W.heap[w.heap.size]? = some (.deferred (some [])) → Code.ret.wp P Q { a with defers := { target := .collected w.heap.size, args := #[] } :: a.defers } W) :
    (Code.rangeFunc g ps assign body).wp P Q a w := by
  refine (wpIn_wide (n := 4)).1 (wpIn_rangeFunc ?_)
  intro fn hfn
  -- the loop's record, and the worlds in which it lies
  let R : LoopState → Option Code → Loop := fun st pe => { state := st, pending := pe, fn, tmps := a.tmps, params := ps, assign, body, defers := w.heap.size }
  let W1 := (w.alloc (.deferred (some []))).alloc (.loop (R .ready none))
  have s1 : W1.heap.size = w.heap.size + 1 + 1 := by show ((w.alloc _).alloc _).heap.size = _; simp
  have g1 : w.grownBy W1 none := (World.grownBy_alloc w _ none).trans (World.grownBy_alloc _ _ none)
  have L1 : W1.heap[w.heap.size + 1]? = some (.loop (R .ready none)) := by
    have := World.alloc_heap_new (w.alloc (.deferred (some []))) (.loop (R .ready none)); rwa [World.size_alloc] at this
  have D1 : W1.heap[w.heap.size]? = some (.deferred (some [])) := (Below.heap_alloc _ _ _ (by simp)).trans (World.alloc_heap_new w _)
  have b1 : Below w.heap.size w W1 := (Below.refl _ _).grown g1 (Nat.le_refl _) (fun k e => by cases e)
  refine ⟨w.heap.size + 1, [{ target := .collected w.heap.size, args := #[] }], W1, { target := .fn (.func gf) lb, args := #[.func (.yield (w.heap.size + 1)) #[] #[]] }, W1, gf,
    #[.func (.yield (w.heap.size + 1)) #[] #[]] ++ lb, W1, run_enterLoop_outer _ _ _ _ _, ?_, fun _ _ => trivial, ?_, fun _ => by omega, callsIn_wide.2 ?_⟩
  · simp only [resolve, hg]
    simp [go_sem]
  · simp [invoke, go_sem, eg]
  refine (hseq (w.heap.size + 1)
    (fun pre W => I pre W ∧ W.heap[w.heap.size + 1]? = some (.loop (R .ready none)) ∧ W.heap[w.heap.size]? = some (.deferred (some [])))
    (fun pre W => Ix pre W ∧ W.heap[w.heap.size + 1]? = some (.loop (R .done (some .ret))) ∧ W.heap[w.heap.size]? = some (.deferred (some []))) W1 b1 ?_ ?_ ?_
    ⟨hI _ _ _ _ h0 g1 (fun r e => by cases e), L1, D1⟩).mono ?_
  · intro s A C ⟨h1, h2, h3⟩ hgr
    exact ⟨hI _ _ _ _ h1 hgr (fun r e => by cases e), (hgr.block _ (Array.getElem?_eq_some_iff.1 h2).1 (by simp)).trans h2, (hgr.block _ (Array.getElem?_eq_some_iff.1 h3).1 (by simp)).trans h3⟩
  · intro s A C ⟨h1, h2, h3⟩ hgr
    exact ⟨hIx _ _ _ _ h1 hgr (fun r e => by cases e), (hgr.block _ (Array.getElem?_eq_some_iff.1 h2).1 (by simp)).trans h2, (hgr.block _ (Array.getElem?_eq_some_iff.1 h3).1 (by simp)).trans h3⟩
  · -- a round
    rintro pre x W hlen ⟨i0, l0, d0⟩
    refine ⟨fn, _, assign, body, run_yield (P := P) (args := encs x) l0 (hps x), roundIn_of_wpIn hfn (hassign _ pre x W _ (Array.getElem?_eq_some_iff.1 l0).1 hlen i0 ?_)⟩
    intro a' Wa ga ia ax
    have la := (ga.block _ (Array.getElem?_eq_some_iff.1 l0).1 (by simp)).trans l0
    have da := (ga.block _ (Array.getElem?_eq_some_iff.1 d0).1 (by simp)).trans d0
    have za := (Array.getElem?_eq_some_iff.1 la).1
    refine ⟨_, run_beginRound la rfl, ?_⟩
    let Wb := Wa.putObj (w.heap.size + 1) (.loop { R .ready none with state := .busy })
    have lb' : Wb.heap[w.heap.size + 1]? = some (.loop { R .ready none with state := .busy }) := World.putObj_heap_same za
    have db : Wb.heap[w.heap.size]? = some (.deferred (some [])) := (World.putObj_heap_other (by omega)).trans da
    have ub : Below n₀ Wa Wb := (Below.refl n₀ Wa).grown (grownBy_putObj' Wa _ _) (by omega) (fun k e => by cases e; omega)
    have ua : Below n₀ W Wa := (Below.refl n₀ W).grown ga (by have := (Array.getElem?_eq_some_iff.1 l0).1; omega) (fun k e => by cases e)
    refine wpIn_mono (hbody _ pre x a' Wb (by show w.heap.size + 1 < (Wa.putObj _ _).heap.size; simpa using za) hlen (hI.putObj _ ia (by omega) la rfl) ((hAx x a').putObj (s := ()) _ ax (by omega) la rfl)) ?_
    rintro e a3 W3 ⟨⟨q1, q2⟩, ⟨rfl, hgo, u3, i3⟩ | ⟨rfl, hgo, u3, i3⟩⟩
    · have l3 := q2.trans lb'
      have z3 := (Array.getElem?_eq_some_iff.1 l3).1
      have ud : Below n₀ W3 (W3.putObj (w.heap.size + 1) (.loop { R .ready none with state := .ready, pending := none })) := (Below.refl n₀ W3).grown (grownBy_putObj' W3 _ _) (by omega) (fun k e => by cases e; omega)
      refine ⟨_, _, run_endRound (P := P) none l3, by rw [hgo]; rfl, fun _ => ⟨⟨hI.putObj _ i3 (by omega) l3 rfl, World.putObj_heap_same z3, (World.putObj_heap_other (by omega)).trans (q1.trans db)⟩, ⟨((ua.trans ub).trans u3.low).trans ud, fun k hk hc => ?_⟩⟩, fun h => by rw [hgo] at h; cases h⟩
      by_cases hkl : k = w.heap.size + 1
      · rw [hkl, World.putObj_heap_same z3, l0]; rfl
      · have e1 : Wb.heap[k]? = W.heap[k]? := (World.putObj_heap_other hkl).trans (ga.block k hk (by simp))
        have z : k < Wb.heap.size := by show k < (Wa.putObj _ _).heap.size; rw [World.putObj_size]; exact Nat.lt_of_lt_of_le hk ga.size
        exact (World.putObj_heap_other hkl).trans ((u3.keep k z (fun cs t r h' => hc cs t r (e1.symm.trans h'))).trans e1)
    · have l3 := q2.trans lb'
      have z3 := (Array.getElem?_eq_some_iff.1 l3).1
      refine ⟨_, _, run_endRound (P := P) (some .ret) l3, by rw [hgo]; rfl, (fun h => by rw [hgo] at h; cases h), fun _ => ⟨⟨hIx.putObj _ i3 (by omega) l3 rfl, World.putObj_heap_same z3, (World.putObj_heap_other (by omega)).trans (q1.trans db)⟩, ?_⟩⟩
      refine ⟨Nat.le_trans ua.size (Nat.le_trans ub.size (Nat.le_trans u3.size (by rw [World.putObj_size]; exact Nat.le_refl _))), fun k cs t r hk ht => ?_⟩
      have hkl : k ≠ w.heap.size + 1 := fun e => by rw [e, l0] at hk; cases hk
      have zk := (Array.getElem?_eq_some_iff.1 hk).1
      have e1 : Wb.heap[k]? = some (.cells cs t r) := ((World.putObj_heap_other hkl).trans (ga.block k zk (by simp))).trans hk
      exact (World.putObj_heap_other hkl).trans (u3.keep k cs t r e1 ht)
  · -- behind
    rintro e W2 ⟨⟨v, rfl⟩, hall, hsome⟩
    by_cases hg' : ∀ x ∈ L, go x = true
    · obtain ⟨i2, l2, d2⟩ := hall hg'
      exact ⟨none, _, run_endLoop (P := P) l2 (by simp [R]), hdone _ hg' (hI.putObj _ i2 (by omega) l2 rfl) ((World.putObj_heap_other (by omega)).trans d2)⟩
    · have hsplit : ∃ pre x rest, L = pre ++ x :: rest ∧ (∀ y ∈ pre, go y = true) ∧ go x = false := by
        clear hseq hdone hstop hall hsome
        induction L with
        | nil => exact absurd (fun x hx => by cases hx) hg'
        | cons y t ih =>
          cases hy : go y with
          | false => exact ⟨[], y, t, rfl, (fun z hz => by cases hz), hy⟩
          | true =>
            obtain ⟨pre, x, rest, e1, e2, e3⟩ := ih (fun h => hg' (fun z hz => by
              rcases List.mem_cons.1 hz with rfl | hz
              · exact hy
              · exact h z hz))
            exact ⟨y :: pre, x, rest, by rw [e1]; rfl, (fun z hz => by
              rcases List.mem_cons.1 hz with rfl | hz
              · exact hy
              · exact e2 z hz), e3⟩
      obtain ⟨pre, x, rest, e1, e2, e3⟩ := hsplit
      obtain ⟨i2, l2, d2⟩ := hsome pre x rest e1 e2 e3
      exact ⟨some .ret, _, run_endLoop (P := P) l2 (by simp [R]), wpIn_wide.2 (hstop pre x rest _ e1 e2 e3 (hIx.putObj _ i2 (by omega) l2 rfl) ((World.putObj_heap_other (by omega)).trans d2))⟩
end Go.Proofs.YtenlapppaimkkaeGreatDoor

/- Lists of pairs: as they lie in memory (number by number), and what was read last. -/
namespace Go.Proofs.YtenlapppaimkkaeGreatDoor
open Go.ChangeShapes Go.WideShapes Go.ChangeAt Go.RowKit

/-- n pairs lie there: 2 * n numbers. -/
def PairAt (w : World) (a : Option Addr) (n : Nat) (fs : List Int) : Prop :=
  fs.length = n * 2 ∧ n ≤ 1099511627776 ∧ (n = 0 ∨ ∃ b o, a = some ⟨b, o, none⟩ ∧ ∀ i, i < n * 2 → w.cell? ⟨b, o + i, none⟩ = some (I (fs.getD i 0)))
theorem PairAt.below {w w' : World} {a : Option Addr} {n : Nat} {fs : List Int} (h : PairAt w a n fs) {B : Nat} (hb : Below B w w') (hB : w.heap.size ≤ B) : PairAt w' a n fs := by
  obtain ⟨h1, h2, h3 | ⟨b, o, h3, h4⟩⟩ := h
  · exact ⟨h1, h2, .inl h3⟩
  · refine ⟨h1, h2, .inr ⟨b, o, h3, fun i hi => ?_⟩⟩
    have h5 := h4 i hi
    rw [hb.cell (show b < B from Nat.lt_of_lt_of_le (World.block_lt_of_cell? w _ h5) hB)]
    exact h5
theorem own_pairAt {w : World} {base : Nat} {e : TypeId} {g n cap : Nat} {fs : List Int} (h : w.ownsRow base e 2 (.slice (some ⟨g, 0, none⟩) n cap) n (fs.map I)) (hn : n ≤ 1099511627776) : PairAt w (some ⟨g, 0, none⟩) n fs := by
  have hl : fs.length = n * 2 := by have := h.1; simpa using this
  refine ⟨hl, hn, .inr ⟨g, 0, rfl, fun i hi => ?_⟩⟩
  rw [Nat.zero_add, h.cellAt i (by omega), List.getElem?_map, List.getElem?_eq_getElem (by omega)]
  simp [List.getD, show i < fs.length by omega]
/-- What the last of the first k pairs at that place says. -/
def readF (fs : List Int) (at_ : Int) : Nat → Int × Bool
  | 0 => (0, false)
  | k + 1 => if fs.getD (k * 2) 0 = at_ then (fs.getD (k * 2 + 1) 0, true) else readF fs at_ k

set_option maxHeartbeats 1000000 in
theorem specRead_any (a : Option Addr) (n c : Nat) (at_ : Int) (fs : List Int) (w : World) (h : PairAt w a n fs) :
    Calls Tryz.prog 27 #[.slice a n c, .int .i64 at_] w fun e w' => e = .returned (.tuple #[.int .i64 (readF fs at_ n).1, .bool (readF fs at_ n).2]) ∧ Below w.heap.size w w' := by
  have HH : Hid (PairAt w a n fs) := h
  have hn := h.2.1
  clear h
  go_enter Tryz.func27, Tryz.ntmps27
  go_wp2
  go_loopw [6, 7, 8] (fun q b i wr => ∃ k : Nat, k ≤ n ∧ q = .int .i64 (readF fs at_ k).1 ∧ b = .bool (readF fs at_ k).2 ∧ i = .int .i64 k ∧ Below w.heap.size w wr) (fun _ _ i _ => n - (intOf i).toNat)
  case atStart => exact ⟨0, Nat.zero_le _, rfl, rfl, rfl, Below.refl _ _⟩
  case round =>
    obtain ⟨k, hk, rfl, rfl, rfl, hb⟩ := hrel
    obtain ⟨x, hx⟩ : ∃ x, fs.getD (k * 2) 0 = x := ⟨_, rfl⟩
    obtain ⟨y, hy⟩ : ∃ y, fs.getD (k * 2 + 1) 0 = y := ⟨_, rfl⟩
    have HN : Hid (readF fs at_ (k + 1) = if x = at_ then (y, true) else readF fs at_ k) := by rw [← hx, ← hy]; rfl
    obtain ⟨r, hr⟩ : ∃ r, readF fs at_ k = r := ⟨_, rfl⟩
    rw [hr]
    have HR : Hid (readF fs at_ k = r) := hr
    by_cases hlt : k < n
    · have hk0 : (0 : Int) ≤ (k : Int) := by omega
      have hk1 : (k : Int) < (n : Int) := by omega
      rcases (HH.out.below hb (Nat.le_refl _)).2.2 with h0 | ⟨p1, o1, rfl, g1⟩
      · omega
      have e1 := g1 (k * 2) (by omega)
      have e2 := g1 (k * 2 + 1) (by omega)
      rw [hx] at e1
      rw [hy] at e2
      rw [← Nat.add_assoc] at e2
      clear g1 hx hy hr
      by_cases hxa : x = at_
      · have hxb : (x == at_) = true := by simpa using hxa
        have HX : Hid (x = at_) := hxa
        clear hxa
        go_wp2
        refine ⟨⟨k + 1, by omega, ?_, ?_, by go_num, hb⟩, by simp [intOf]; omega⟩
        · rw [HN.out, if_pos HX.out]
        · rw [HN.out, if_pos HX.out]
      · have hxb : (x == at_) = false := by simpa using hxa
        have HX : Hid (¬ x = at_) := hxa
        clear hxa
        go_wp2
        refine ⟨⟨k + 1, by omega, ?_, ?_, by go_num, hb⟩, by simp [intOf]; omega⟩
        · rw [HN.out, if_neg HX.out, HR.out]
        · rw [HN.out, if_neg HX.out, HR.out]
    · obtain rfl : k = n := by omega
      go_wp2
      go_ret2
      exact ⟨by rw [HR.out]; rfl, hb⟩

end Go.Proofs.YtenlapppaimkkaeGreatDoor

/- impl.placeOf, walked: the place of a name in the program's table of names, or -1. -/
namespace Go.Proofs.YtenlapppaimkkaeGreatDoor
open Go.ChangeShapes Go.WideShapes Go.ChangeAt Go.RowKit

/-- The names, at their places. -/
def nmL : List (Int × Int) := [(1, 0), (1, 1), (1, 2), (1, 3), (2, 1), (2, 2), (2, 3), (2, 4), (2, 5), (2, 6), (3, 0), (3, 1), (3, 2), (4, 0), (5, 1), (5, 2), (5, 3), (5, 4), (5, 5), (5, 6)]
def nmA (k : Nat) : Int := (nmL.getD k (0, 0)).1
def nmB (k : Nat) : Int := (nmL.getD k (0, 0)).2
def nmCells : Array Value := (nmL.flatMap fun p => [Value.int .i64 p.1, .int .i64 p.2]).toArray
/-- The variable holds the names. -/
def Names (w : World) : Prop := w.var? Tryz.prog "loop.example/g00468/impl.wordNames" = some nmCells

theorem gNames : Tryz.prog.globalNamed "loop.example/g00468/impl.wordNames" = some 0 := by kernel_rfl
theorem gNamesType : (Tryz.prog.globals[0]?).map (·.type) = some 135 := by kernel_rfl

theorem Names.block {w : World} (h : Names w) : ∃ t fr, w.heap[0]? = some (.cells nmCells t fr) := by
  unfold Names at h
  simp only [World.var?, gNames, Option.bind_some] at h
  split at h
  · rename_i c t fr hb
    simp only [Option.some.injEq] at h
    subst h
    exact ⟨t, fr, hb⟩
  · cases h
theorem Names.lt {w : World} (h : Names w) : 0 < w.heap.size := by
  obtain ⟨t, fr, h1⟩ := h.block
  exact (Array.getElem?_eq_some_iff.1 h1).1
theorem Names.below {w w' : World} {B : Nat} (h : Names w) (hb : Below B w w') (hB : 0 < B) : Names w' :=
  var?_below hb gNames hB h

theorem index_names (k : Nat) (hk : k < 20) (w : World) : (Instr.index 135 (.agg nmCells) (.int .i64 (k : Int))).run Tryz.prog w = .ok (.agg #[.int .i64 (nmA k), .int .i64 (nmB k)]) w := by
  have h : k = 0 ∨ k = 1 ∨ k = 2 ∨ k = 3 ∨ k = 4 ∨ k = 5 ∨ k = 6 ∨ k = 7 ∨ k = 8 ∨ k = 9 ∨ k = 10 ∨ k = 11 ∨ k = 12 ∨ k = 13 ∨ k = 14 ∨ k = 15 ∨ k = 16 ∨ k = 17 ∨ k = 18 ∨ k = 19 := by omega
  rcases h with rfl | rfl | rfl | rfl | rfl | rfl | rfl | rfl | rfl | rfl | rfl | rfl | rfl | rfl | rfl | rfl | rfl | rfl | rfl | rfl <;> (show _ = _; kernel_rfl)

/-- The place of a name. -/
def placeN (a b : Int) : Int :=
  if a = 1 ∧ 0 ≤ b ∧ b ≤ 3 then b else if a = 2 ∧ 1 ≤ b ∧ b ≤ 6 then b + 3 else if a = 3 ∧ 0 ≤ b ∧ b ≤ 2 then b + 10 else if a = 4 ∧ b = 0 then 13 else if a = 5 ∧ 1 ≤ b ∧ b ≤ 6 then b + 13 else -1

theorem place_at (k : Nat) (hk : k < 20) : placeN (nmA k) (nmB k) = k := by
  have h : k = 0 ∨ k = 1 ∨ k = 2 ∨ k = 3 ∨ k = 4 ∨ k = 5 ∨ k = 6 ∨ k = 7 ∨ k = 8 ∨ k = 9 ∨ k = 10 ∨ k = 11 ∨ k = 12 ∨ k = 13 ∨ k = 14 ∨ k = 15 ∨ k = 16 ∨ k = 17 ∨ k = 18 ∨ k = 19 := by omega
  rcases h with rfl | rfl | rfl | rfl | rfl | rfl | rfl | rfl | rfl | rfl | rfl | rfl | rfl | rfl | rfl | rfl | rfl | rfl | rfl | rfl <;> (show _ = _; kernel_rfl)
theorem place_none (a b : Int) (h : ∀ k : Nat, k < 20 → ¬ (nmA k = a ∧ nmB k = b)) : placeN a b = -1 := by
  have e1 : ¬ (a = 1 ∧ 0 ≤ b ∧ b ≤ 3) := by
    rintro ⟨rfl, h0, h1⟩
    have h2 : b = 0 ∨ b = 1 ∨ b = 2 ∨ b = 3 := by omega
    rcases h2 with rfl | rfl | rfl | rfl
    · exact h 0 (by omega) ⟨rfl, rfl⟩
    · exact h 1 (by omega) ⟨rfl, rfl⟩
    · exact h 2 (by omega) ⟨rfl, rfl⟩
    · exact h 3 (by omega) ⟨rfl, rfl⟩
  have e2 : ¬ (a = 2 ∧ 1 ≤ b ∧ b ≤ 6) := by
    rintro ⟨rfl, h0, h1⟩
    have h2 : b = 1 ∨ b = 2 ∨ b = 3 ∨ b = 4 ∨ b = 5 ∨ b = 6 := by omega
    rcases h2 with rfl | rfl | rfl | rfl | rfl | rfl
    · exact h 4 (by omega) ⟨rfl, rfl⟩
    · exact h 5 (by omega) ⟨rfl, rfl⟩
    · exact h 6 (by omega) ⟨rfl, rfl⟩
    · exact h 7 (by omega) ⟨rfl, rfl⟩
    · exact h 8 (by omega) ⟨rfl, rfl⟩
    · exact h 9 (by omega) ⟨rfl, rfl⟩
  have e3 : ¬ (a = 3 ∧ 0 ≤ b ∧ b ≤ 2) := by
    rintro ⟨rfl, h0, h1⟩
    have h2 : b = 0 ∨ b = 1 ∨ b = 2 := by omega
    rcases h2 with rfl | rfl | rfl
    · exact h 10 (by omega) ⟨rfl, rfl⟩
    · exact h 11 (by omega) ⟨rfl, rfl⟩
    · exact h 12 (by omega) ⟨rfl, rfl⟩
  have e4 : ¬ (a = 4 ∧ b = 0) := by
    rintro ⟨rfl, rfl⟩
    exact h 13 (by omega) ⟨rfl, rfl⟩
  have e5 : ¬ (a = 5 ∧ 1 ≤ b ∧ b ≤ 6) := by
    rintro ⟨rfl, h0, h1⟩
    have h2 : b = 1 ∨ b = 2 ∨ b = 3 ∨ b = 4 ∨ b = 5 ∨ b = 6 := by omega
    rcases h2 with rfl | rfl | rfl | rfl | rfl | rfl
    · exact h 14 (by omega) ⟨rfl, rfl⟩
    · exact h 15 (by omega) ⟨rfl, rfl⟩
    · exact h 16 (by omega) ⟨rfl, rfl⟩
    · exact h 17 (by omega) ⟨rfl, rfl⟩
    · exact h 18 (by omega) ⟨rfl, rfl⟩
    · exact h 19 (by omega) ⟨rfl, rfl⟩
  unfold placeN
  rw [if_neg e1, if_neg e2, if_neg e3, if_neg e4, if_neg e5]

theorem info_int : (Tryz.prog.info? 3).map (fun i => (i.zero, i.size, i.bytes)) = some (some (.int .i64 0), 1, 8) := by kernel_rfl
theorem cells_int : Tryz.prog.cellsOf 3 = 1 := by kernel_rfl
theorem part0 (x y : Int) (w : World) : (part 3 #[.int .i64 x, .int .i64 y] 0).run Tryz.prog w = .ok (.int .i64 x) w := by kernel_rfl
theorem part1 (x y : Int) (w : World) : (part 3 #[.int .i64 x, .int .i64 y] 1).run Tryz.prog w = .ok (.int .i64 y) w := by kernel_rfl
theorem eq_names (x y a b : Int) (w : World) : (binOp .eql 124 (.agg #[.int .i64 x, .int .i64 y]) (.agg #[.int .i64 a, .int .i64 b])).run Tryz.prog w = .ok (.bool (decide (x = a ∧ y = b))) w := by
  obtain ⟨i0, hi, hz0, hz1, hz2⟩ := info_parts info_int
  rw [run_eql_struct, run_equalIn_array w 9999 _ _ Tryz.underlying124 hi, cells_int, show List.range 2 = [0, 1] from rfl]
  simp only [Op.eqItems, Sem.run_bind, Nat.zero_mul, Nat.one_mul, part0, Result.andThen_ok, run_equalIn_int w 9998 3 .i64 .i64 _ _ Tryz.underlying3]
  by_cases h0 : x = a <;> by_cases h1 : y = b <;> simp [h0, h1, part1, run_equalIn_int w 9998 3 .i64 .i64 _ _ Tryz.underlying3]

set_option maxRecDepth 100000 in
theorem placeOf_any (a b : Int) (w : World) (hN : Names w) :
    Calls Tryz.prog 88 #[.agg #[.int .i64 a, .int .i64 b]] w fun e w' => e = .returned (.int .i64 (placeN a b)) ∧ Below w.heap.size w w' := by
  have hlt := hN.lt
  obtain ⟨tn, fr, hbl⟩ := (hN.below ((Below.refl _ w).alloc (Nat.le_refl _) (.cells #[.int .i64 a, .int .i64 b] 124)) hN.lt).block
  have hsz : nmCells.size = 40 := by decide +kernel
  have hix := index_names
  clear hN
  obtain ⟨C, hC⟩ : ∃ C, C = nmCells := ⟨_, rfl⟩
  rw [← hC] at hbl hsz hix
  have HC : Hid (C = nmCells) := hC
  have HB : Hid (_) := hbl
  have HS : Hid (_) := hsz
  clear hC hbl hsz
  go_enter Tryz.func88, Tryz.ntmps88
  iterate 15 (first | go_values | go_skip | go_guarded | go_step | go_upon)
  refine wpList_load_row rfl 135 (.global 0) rfl 0 ?q1 tn C fr _ HB.out Tryz.underlying135 rfl ?q3 ?_
  case q1 => rfl
  case q3 => rw [HS.out]; kernel_rfl
  go_wp2
  go_loopw [6] (fun i wr => ∃ k : Nat, i = .int .i64 (k : Int) ∧ k ≤ 20 ∧ (∀ j, j < k → ¬ (nmA j = a ∧ nmB j = b)) ∧ Below w.heap.size w wr ∧ wr.heap[w.heap.size]? = some (.cells #[.int .i64 a, .int .i64 b] 124 (0, 0))) (fun i _ => 20 - (intOf i).toNat)
  case atStart =>
    exact ⟨0, rfl, by omega, fun j hj => by omega, (Below.refl _ w).alloc (Nat.le_refl _) _, heap_alloc_new _ _⟩
  case round =>
    obtain ⟨k, rfl, hk, hno, hb, hnm⟩ := hrel
    have HNO : Hid (_) := hno
    have hB : w.heap.size < wr.heap.size := (Array.getElem?_eq_some_iff.1 hnm).1
    have c0 : wr.cell? ⟨w.heap.size, 0, none⟩ = some (.int .i64 a) := by rw [cell_of_row _ _ 0 _ _ _ hnm]; rfl
    have c1 : wr.cell? ⟨w.heap.size, 1, none⟩ = some (.int .i64 b) := by rw [cell_of_row _ _ 1 _ _ _ hnm]; rfl
    have HNM : Hid (_) := hnm
    clear hno hnm
    by_cases hlt : k < 20
    · obtain ⟨x, hx⟩ : ∃ x, x = nmA k := ⟨_, rfl⟩
      obtain ⟨y, hy⟩ : ∃ y, y = nmB k := ⟨_, rfl⟩
      have hi1 := hix k hlt
      rw [← hx, ← hy] at hi1
      have HX : Hid (_) := hx
      have HY : Hid (_) := hy
      clear hx hy hix
      have hq := eq_names x y a b
      by_cases he : x = a ∧ y = b
      · obtain ⟨rfl, rfl⟩ := he
        go_wp2
        go_ret
        exact ⟨by rw [HX.out, HY.out, place_at k hlt]; rfl, hb.alloc (Nat.le_of_lt hB) _⟩
      · go_wp2
        go_roundw
        case rel =>
          refine ⟨k + 1, by go_num, by omega, fun j hj => ?_, hb.alloc (Nat.le_of_lt hB) _, (Below.heap_alloc _ _ _ hB).trans HNM.out⟩
          by_cases hjk : j = k
          · subst hjk; rw [← HX.out, ← HY.out]; exact he
          · exact HNO.out j (by omega)
        case measure => simp [intOf]; omega
    · obtain rfl : k = 20 := by omega
      go_wp2
      go_ret
      exact ⟨by rw [place_none a b HNO.out]; rfl, hb⟩
end Go.Proofs.YtenlapppaimkkaeGreatDoor

/- spec.ClassOf and impl.ClassOf, walked: both answer the class, -1 of what is none. -/
namespace Go.Proofs.YtenlapppaimkkaeGreatDoor
open Go.ChangeShapes Go.WideShapes Go.ChangeAt Go.RowKit

def classN (v : Int) : Int := if 1 ≤ v ∧ v ≤ 6 then v % 3 else -1

theorem specClassOf_any (k : Int) (w : World) :
    Calls Tryz.prog 71 #[.int .i64 k] w fun e w' => e = .returned (.int .i64 (classN k)) ∧ w' = w := by
  by_cases h : 1 ≤ k ∧ k ≤ 6
  · have h2 : k = 1 ∨ k = 2 ∨ k = 3 ∨ k = 4 ∨ k = 5 ∨ k = 6 := by omega
    clear h
    rcases h2 with rfl | rfl | rfl | rfl | rfl | rfl <;> (go_enter Tryz.func71, Tryz.ntmps71; go_wp2; go_ret; exact ⟨rfl, rfl⟩)
  · rw [show classN k = -1 from if_neg h]
    by_cases h0 : 1 ≤ k
    · have h1 : ¬ k ≤ 6 := by omega
      clear h
      go_enter Tryz.func71, Tryz.ntmps71
      go_wp2
      go_ret
      exact ⟨rfl, rfl⟩
    · clear h
      go_enter Tryz.func71, Tryz.ntmps71
      go_wp2
      go_ret
      exact ⟨rfl, rfl⟩

theorem implClassOf_any (k : Int) (w : World) :
    Calls Tryz.prog 104 #[.int .i64 k] w fun e w' => e = .returned (.int .i64 (classN k)) ∧ w' = w := by
  by_cases h : 1 ≤ k ∧ k ≤ 6
  · have h2 : k = 1 ∨ k = 2 ∨ k = 3 ∨ k = 4 ∨ k = 5 ∨ k = 6 := by omega
    clear h
    rcases h2 with rfl | rfl | rfl | rfl | rfl | rfl <;> (go_enter Tryz.func104, Tryz.ntmps104; go_wp2; go_ret; exact ⟨rfl, rfl⟩)
  · rw [show classN k = -1 from if_neg h]
    by_cases h0 : 1 ≤ k
    · have h1 : ¬ k ≤ 6 := by omega
      clear h
      go_enter Tryz.func104, Tryz.ntmps104
      go_wp2
      go_ret
      exact ⟨rfl, rfl⟩
    · clear h
      go_enter Tryz.func104, Tryz.ntmps104
      go_wp2
      go_ret
      exact ⟨rfl, rfl⟩
end Go.Proofs.YtenlapppaimkkaeGreatDoor

/- What must be known, in plain words: which word is next (no program but the places' names). -/
namespace Go.Proofs.YtenlapppaimkkaeGreatDoor

/-- How far one has come: the first place that is not known (-1: none till now), and whether there is no more. -/
abbrev Work := Int × Bool
/-- What stands at a place; what is not known stops. -/
def knowM (fs : List Int) (n : Nat) (s : Work) (at_ : Int) : Work × Int :=
  if s.2 = true then (s, 0) else if (readF fs at_ n).2 = false ∨ at_ < 0 then ((at_, true), 0) else (s, (readF fs at_ n).1)
def ifM (s : Work) (b : Prop) [Decidable b] : Work := (s.1, s.2 || decide b)
/-- How far the other way is made, and what it tells of what is held. -/
def viaM (fs : List Int) (n : Nat) (s : Work) (k : Int) (vals : List Int) : Work :=
  let r := knowM fs n s 13
  if k + 1 < r.2 then vals.foldl (fun s v => (knowM fs n s (placeN 5 v)).1) r.1 else r.1
def putM (fs : List Int) (n : Nat) (k v : Int) : Work :=
  let a := knowM fs n (-1, false) (placeN 1 k)
  let b := knowM fs n (ifM a.1 (a.2 ≠ 0)) (placeN 2 v)
  let c := knowM fs n (ifM b.1 (b.2 ≠ 0)) (placeN 3 (classN v))
  viaM fs n c.1 k [v]
def setM (fs : List Int) (n : Nat) (k v : Int) : Work :=
  let a := knowM fs n (-1, false) (placeN 1 k)
  let b := knowM fs n (ifM a.1 (a.2 = 0 ∨ a.2 = v)) (placeN 2 v)
  let c := knowM fs n (ifM b.1 (b.2 ≠ 0)) (placeN 2 a.2)
  let d := if classN a.2 = classN v then c.1 else (knowM fs n (knowM fs n c.1 (placeN 3 (classN a.2))).1 (placeN 3 (classN v))).1
  viaM fs n d k [a.2, v]
def delM (fs : List Int) (n : Nat) (k : Int) : Work :=
  let a := knowM fs n (-1, false) (placeN 1 k)
  let b := knowM fs n (ifM a.1 (a.2 = 0)) (placeN 2 a.2)
  let c := knowM fs n b.1 (placeN 3 (classN a.2))
  viaM fs n c.1 k [a.2]
def makeM (fs : List Int) (n : Nat) : Work :=
  let a := knowM fs n (-1, false) 13
  let b := knowM fs n (ifM a.1 (¬ (1 ≤ a.2 ∧ a.2 ≤ 4))) (placeN 1 (a.2 - 1))
  if b.2 = 0 then b.1 else (knowM fs n b.1 (placeN 5 b.2)).1
/-- How far an op's words are known. -/
def allM (fs : List Int) (n : Nat) (kind k v : Int) : Work :=
  if kind = 1 then putM fs n k v else if kind = 2 then setM fs n k v else if kind = 3 then delM fs n k
  else if kind = 4 then (knowM fs n (-1, false) (placeN 1 k)).1 else if kind = 5 then (knowM fs n (-1, false) (placeN 2 v)).1 else if kind = 6 then (knowM fs n (-1, false) (placeN 3 k)).1
  else if kind = 7 then (knowM fs n (knowM fs n (knowM fs n (knowM fs n (-1, false) (placeN 1 0)).1 (placeN 1 1)).1 (placeN 1 2)).1 (placeN 1 3)).1
  else if kind = 8 then (knowM fs n (-1, false) 13).1 else if kind = 9 then makeM fs n
  else (let a := knowM fs n (-1, false) 13; (knowM fs n (ifM a.1 (a.2 ≠ 5)) (placeN 5 v)).1)
/-- The place of the first word that is not known. -/
def nextM (fs : List Int) (n : Nat) (kind k v : Int) : Int := if OpGood kind k v then (allM fs n kind k v).1 else -1
theorem knowM_stop {fs : List Int} {n : Nat} {s : Work} (h : s.2 = true) (at_ : Int) : knowM fs n s at_ = (s, 0) := by unfold knowM; rw [if_pos h]
end Go.Proofs.YtenlapppaimkkaeGreatDoor
