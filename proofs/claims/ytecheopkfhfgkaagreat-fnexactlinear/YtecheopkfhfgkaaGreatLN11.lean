/- Texts joined: ImplOp, ImplCom1, ImplCom2, ImplCom3, ImplCom4, ImplCom5, ImplCom6, ImplCom7, ComLL, ImplCom, EqualI, Finds, ImplAllow. -/
import Derived.Test.YtecheopkfhfgkaaGreatLN02
import Derived.Test.YtecheopkfhfgkaaGreatLN04
import Derived.Test.YtecheopkfhfgkaaGreatLN03
import Derived.Test.YtecheopkfhfgkaaGreatLN10
import Derived.Deep.RegionHeld3
import Derived.Handy
set_option maxHeartbeats 2000000
set_option maxRecDepth 100000
namespace Go.Proofs.YtecheopkfhfgkaaGreat
section
open Go.ChangeShapes Go.WideShapes Go.ChangeAt Go.RowKit
def deedT (kind : Int) : TypeId :=
  if kind = 1 then 104 else if kind = 2 then 106 else if kind = 3 then 107
  else if kind = 4 then 108 else if kind = 5 then 109 else if kind = 6 then 110
  else if kind = 7 then 111 else if kind = 8 then 112 else if kind = 9 then 113
  else if kind = 10 then 114 else 115
abbrev DeedV (kind k v : Int) : Value := .iface (deedT kind) (OpV kind k v)

theorem implDeedOf_any (kind k v : Int) (w : World) :
    Calls Tryz.prog 51 #[OpV kind k v] w fun e w' => e = .returned (DeedV kind k v) ∧ Below w.heap.size w w' := by
  by_cases h : 1 ≤ kind ∧ kind ≤ 10
  · rcases kinds h with rfl | rfl | rfl | rfl | rfl | rfl | rfl | rfl | rfl | rfl
    all_goals
      go_enter Tryz.func51, Tryz.ntmps51
      go_wp2
      go_ret
      exact ⟨rfl, (Below.refl _ _).alloc (Nat.le_refl _) _⟩
  · have hT : deedT kind = 115 := by
      unfold deedT
      rw [if_neg (by omega), if_neg (by omega), if_neg (by omega), if_neg (by omega), if_neg (by omega), if_neg (by omega), if_neg (by omega), if_neg (by omega), if_neg (by omega), if_neg (by omega)]
    have h1 : (kind == 1) = false := by simp; omega
    have h2 : (kind == 2) = false := by simp; omega
    have h3 : (kind == 3) = false := by simp; omega
    have h4 : (kind == 4) = false := by simp; omega
    have h5 : (kind == 5) = false := by simp; omega
    have h6 : (kind == 6) = false := by simp; omega
    have h7 : (kind == 7) = false := by simp; omega
    have h8 : (kind == 8) = false := by simp; omega
    have h9 : (kind == 9) = false := by simp; omega
    have h10 : (kind == 10) = false := by simp; omega
    rw [show DeedV kind k v = .iface 115 (OpV kind k v) by rw [DeedV, hT]]
    clear hT h
    go_enter Tryz.func51, Tryz.ntmps51
    go_wp2
    go_ret
    exact ⟨rfl, (Below.refl _ _).alloc (Nat.le_refl _) _⟩

theorem fits_1 (k v : Int) (w : World) :
    Calls Tryz.prog 114 #[OpV 1 k v] w fun e w' => e = .returned (.bool (decide ((0 ≤ k ∧ k ≤ 3) ∧ (1 ≤ v ∧ v ≤ 6)))) ∧ Below w.heap.size w w' := by
  obtain ⟨B, hB⟩ : ∃ B, decide ((0 ≤ k ∧ k ≤ 3) ∧ (1 ≤ v ∧ v ≤ 6)) = B := ⟨_, rfl⟩
  rw [hB]
  have HB : Hid (decide ((0 ≤ k ∧ k ≤ 3) ∧ (1 ≤ v ∧ v ≤ 6)) = B) := hB
  clear hB
  rcases tri 0 3 k (by decide) with ⟨h0, h1⟩ | ⟨h0, h1⟩ | ⟨h0, h1⟩ <;> rcases tri 1 6 v (by decide) with ⟨g0, g1⟩ | ⟨g0, g1⟩ | ⟨g0, g1⟩
  all_goals
    go_enter Tryz.func114, Tryz.ntmps114
    go_wp2
    go_ret
    refine ⟨?_, (Below.refl _ _).alloc (Nat.le_refl _) _⟩
    rw [← HB.out]
    first
      | exact says_true (by omega)
      | exact says_false (by omega)
theorem implOpOk_1 (k v : Int) (w : World) :
    Calls Tryz.prog 48 #[OpV 1 k v] w fun e w' => e = .returned (.bool (decide ((0 ≤ k ∧ k ≤ 3) ∧ (1 ≤ v ∧ v ≤ 6)))) ∧ Below w.heap.size w w' := by
  have hm : ∀ w : World, (method 246 104 (OpV 1 k v) "loop.example/g00468/impl.fits").run Tryz.prog w = .ok (114, OpV 1 k v) w := fun _ => by kernel_rfl
  obtain ⟨B, hB⟩ : ∃ B, decide ((0 ≤ k ∧ k ≤ 3) ∧ (1 ≤ v ∧ v ≤ 6)) = B := ⟨_, rfl⟩
  rw [hB]
  have HB : Hid (decide ((0 ≤ k ∧ k ≤ 3) ∧ (1 ≤ v ∧ v ≤ 6)) = B) := hB
  clear hB
  go_enter Tryz.func48, Tryz.ntmps48
  go_wp2_with fail
  refine (implDeedOf_any 1 k v _).mono ?_
  rintro e w1 ⟨rfl, hb1⟩
  rw [show DeedV 1 k v = .iface 104 (OpV 1 k v) from rfl]
  go_wp2_with fail
  refine (fits_1 k v _).mono ?_
  rintro e w2 ⟨rfl, hb2⟩
  rw [HB.out]
  have hs : w.heap.size + 1 ≤ w1.heap.size := by simpa using hb1.size
  have hall : Below w.heap.size w w2 := (((Below.refl _ w).alloc (Nat.le_refl _) _).trans (hb1.mono (by simp))).trans (hb2.mono (by omega))
  clear hb1 hb2 hm
  go_wp2
  go_ret
  exact ⟨rfl, hall⟩

theorem fits_2 (k v : Int) (w : World) :
    Calls Tryz.prog 116 #[OpV 2 k v] w fun e w' => e = .returned (.bool (decide ((0 ≤ k ∧ k ≤ 3) ∧ (1 ≤ v ∧ v ≤ 6)))) ∧ Below w.heap.size w w' := by
  obtain ⟨B, hB⟩ : ∃ B, decide ((0 ≤ k ∧ k ≤ 3) ∧ (1 ≤ v ∧ v ≤ 6)) = B := ⟨_, rfl⟩
  rw [hB]
  have HB : Hid (decide ((0 ≤ k ∧ k ≤ 3) ∧ (1 ≤ v ∧ v ≤ 6)) = B) := hB
  clear hB
  rcases tri 0 3 k (by decide) with ⟨h0, h1⟩ | ⟨h0, h1⟩ | ⟨h0, h1⟩ <;> rcases tri 1 6 v (by decide) with ⟨g0, g1⟩ | ⟨g0, g1⟩ | ⟨g0, g1⟩
  all_goals
    go_enter Tryz.func116, Tryz.ntmps116
    go_wp2
    go_ret
    refine ⟨?_, (Below.refl _ _).alloc (Nat.le_refl _) _⟩
    rw [← HB.out]
    first
      | exact says_true (by omega)
      | exact says_false (by omega)
theorem implOpOk_2 (k v : Int) (w : World) :
    Calls Tryz.prog 48 #[OpV 2 k v] w fun e w' => e = .returned (.bool (decide ((0 ≤ k ∧ k ≤ 3) ∧ (1 ≤ v ∧ v ≤ 6)))) ∧ Below w.heap.size w w' := by
  have hm : ∀ w : World, (method 246 106 (OpV 2 k v) "loop.example/g00468/impl.fits").run Tryz.prog w = .ok (116, OpV 2 k v) w := fun _ => by kernel_rfl
  obtain ⟨B, hB⟩ : ∃ B, decide ((0 ≤ k ∧ k ≤ 3) ∧ (1 ≤ v ∧ v ≤ 6)) = B := ⟨_, rfl⟩
  rw [hB]
  have HB : Hid (decide ((0 ≤ k ∧ k ≤ 3) ∧ (1 ≤ v ∧ v ≤ 6)) = B) := hB
  clear hB
  go_enter Tryz.func48, Tryz.ntmps48
  go_wp2_with fail
  refine (implDeedOf_any 2 k v _).mono ?_
  rintro e w1 ⟨rfl, hb1⟩
  rw [show DeedV 2 k v = .iface 106 (OpV 2 k v) from rfl]
  go_wp2_with fail
  refine (fits_2 k v _).mono ?_
  rintro e w2 ⟨rfl, hb2⟩
  rw [HB.out]
  have hs : w.heap.size + 1 ≤ w1.heap.size := by simpa using hb1.size
  have hall : Below w.heap.size w w2 := (((Below.refl _ w).alloc (Nat.le_refl _) _).trans (hb1.mono (by simp))).trans (hb2.mono (by omega))
  clear hb1 hb2 hm
  go_wp2
  go_ret
  exact ⟨rfl, hall⟩

theorem fits_3 (k v : Int) (w : World) :
    Calls Tryz.prog 117 #[OpV 3 k v] w fun e w' => e = .returned (.bool (decide ((0 ≤ k ∧ k ≤ 3) ∧ v = 0))) ∧ Below w.heap.size w w' := by
  obtain ⟨B, hB⟩ : ∃ B, decide ((0 ≤ k ∧ k ≤ 3) ∧ v = 0) = B := ⟨_, rfl⟩
  rw [hB]
  have HB : Hid (decide ((0 ≤ k ∧ k ≤ 3) ∧ v = 0) = B) := hB
  clear hB
  rcases tri 0 3 k (by decide) with ⟨h0, h1⟩ | ⟨h0, h1⟩ | ⟨h0, h1⟩ <;> rcases eqb v 0 with ⟨g0, g1⟩ | ⟨g0, g1⟩
  all_goals
    go_enter Tryz.func117, Tryz.ntmps117
    go_wp2
    go_ret
    refine ⟨?_, (Below.refl _ _).alloc (Nat.le_refl _) _⟩
    rw [← HB.out]
    first
      | exact says_true (by omega)
      | exact says_false (by omega)
theorem implOpOk_3 (k v : Int) (w : World) :
    Calls Tryz.prog 48 #[OpV 3 k v] w fun e w' => e = .returned (.bool (decide ((0 ≤ k ∧ k ≤ 3) ∧ v = 0))) ∧ Below w.heap.size w w' := by
  have hm : ∀ w : World, (method 246 107 (OpV 3 k v) "loop.example/g00468/impl.fits").run Tryz.prog w = .ok (117, OpV 3 k v) w := fun _ => by kernel_rfl
  obtain ⟨B, hB⟩ : ∃ B, decide ((0 ≤ k ∧ k ≤ 3) ∧ v = 0) = B := ⟨_, rfl⟩
  rw [hB]
  have HB : Hid (decide ((0 ≤ k ∧ k ≤ 3) ∧ v = 0) = B) := hB
  clear hB
  go_enter Tryz.func48, Tryz.ntmps48
  go_wp2_with fail
  refine (implDeedOf_any 3 k v _).mono ?_
  rintro e w1 ⟨rfl, hb1⟩
  rw [show DeedV 3 k v = .iface 107 (OpV 3 k v) from rfl]
  go_wp2_with fail
  refine (fits_3 k v _).mono ?_
  rintro e w2 ⟨rfl, hb2⟩
  rw [HB.out]
  have hs : w.heap.size + 1 ≤ w1.heap.size := by simpa using hb1.size
  have hall : Below w.heap.size w w2 := (((Below.refl _ w).alloc (Nat.le_refl _) _).trans (hb1.mono (by simp))).trans (hb2.mono (by omega))
  clear hb1 hb2 hm
  go_wp2
  go_ret
  exact ⟨rfl, hall⟩

theorem fits_4 (k v : Int) (w : World) :
    Calls Tryz.prog 118 #[OpV 4 k v] w fun e w' => e = .returned (.bool (decide ((0 ≤ k ∧ k ≤ 3) ∧ v = 0))) ∧ Below w.heap.size w w' := by
  obtain ⟨B, hB⟩ : ∃ B, decide ((0 ≤ k ∧ k ≤ 3) ∧ v = 0) = B := ⟨_, rfl⟩
  rw [hB]
  have HB : Hid (decide ((0 ≤ k ∧ k ≤ 3) ∧ v = 0) = B) := hB
  clear hB
  rcases tri 0 3 k (by decide) with ⟨h0, h1⟩ | ⟨h0, h1⟩ | ⟨h0, h1⟩ <;> rcases eqb v 0 with ⟨g0, g1⟩ | ⟨g0, g1⟩
  all_goals
    go_enter Tryz.func118, Tryz.ntmps118
    go_wp2
    go_ret
    refine ⟨?_, (Below.refl _ _).alloc (Nat.le_refl _) _⟩
    rw [← HB.out]
    first
      | exact says_true (by omega)
      | exact says_false (by omega)
theorem implOpOk_4 (k v : Int) (w : World) :
    Calls Tryz.prog 48 #[OpV 4 k v] w fun e w' => e = .returned (.bool (decide ((0 ≤ k ∧ k ≤ 3) ∧ v = 0))) ∧ Below w.heap.size w w' := by
  have hm : ∀ w : World, (method 246 108 (OpV 4 k v) "loop.example/g00468/impl.fits").run Tryz.prog w = .ok (118, OpV 4 k v) w := fun _ => by kernel_rfl
  obtain ⟨B, hB⟩ : ∃ B, decide ((0 ≤ k ∧ k ≤ 3) ∧ v = 0) = B := ⟨_, rfl⟩
  rw [hB]
  have HB : Hid (decide ((0 ≤ k ∧ k ≤ 3) ∧ v = 0) = B) := hB
  clear hB
  go_enter Tryz.func48, Tryz.ntmps48
  go_wp2_with fail
  refine (implDeedOf_any 4 k v _).mono ?_
  rintro e w1 ⟨rfl, hb1⟩
  rw [show DeedV 4 k v = .iface 108 (OpV 4 k v) from rfl]
  go_wp2_with fail
  refine (fits_4 k v _).mono ?_
  rintro e w2 ⟨rfl, hb2⟩
  rw [HB.out]
  have hs : w.heap.size + 1 ≤ w1.heap.size := by simpa using hb1.size
  have hall : Below w.heap.size w w2 := (((Below.refl _ w).alloc (Nat.le_refl _) _).trans (hb1.mono (by simp))).trans (hb2.mono (by omega))
  clear hb1 hb2 hm
  go_wp2
  go_ret
  exact ⟨rfl, hall⟩

theorem fits_5 (k v : Int) (w : World) :
    Calls Tryz.prog 119 #[OpV 5 k v] w fun e w' => e = .returned (.bool (decide (k = 0 ∧ (1 ≤ v ∧ v ≤ 6)))) ∧ Below w.heap.size w w' := by
  obtain ⟨B, hB⟩ : ∃ B, decide (k = 0 ∧ (1 ≤ v ∧ v ≤ 6)) = B := ⟨_, rfl⟩
  rw [hB]
  have HB : Hid (decide (k = 0 ∧ (1 ≤ v ∧ v ≤ 6)) = B) := hB
  clear hB
  rcases eqb k 0 with ⟨h0, h1⟩ | ⟨h0, h1⟩ <;> rcases tri 1 6 v (by decide) with ⟨g0, g1⟩ | ⟨g0, g1⟩ | ⟨g0, g1⟩
  all_goals
    go_enter Tryz.func119, Tryz.ntmps119
    go_wp2
    go_ret
    refine ⟨?_, (Below.refl _ _).alloc (Nat.le_refl _) _⟩
    rw [← HB.out]
    first
      | exact says_true (by omega)
      | exact says_false (by omega)
theorem implOpOk_5 (k v : Int) (w : World) :
    Calls Tryz.prog 48 #[OpV 5 k v] w fun e w' => e = .returned (.bool (decide (k = 0 ∧ (1 ≤ v ∧ v ≤ 6)))) ∧ Below w.heap.size w w' := by
  have hm : ∀ w : World, (method 246 109 (OpV 5 k v) "loop.example/g00468/impl.fits").run Tryz.prog w = .ok (119, OpV 5 k v) w := fun _ => by kernel_rfl
  obtain ⟨B, hB⟩ : ∃ B, decide (k = 0 ∧ (1 ≤ v ∧ v ≤ 6)) = B := ⟨_, rfl⟩
  rw [hB]
  have HB : Hid (decide (k = 0 ∧ (1 ≤ v ∧ v ≤ 6)) = B) := hB
  clear hB
  go_enter Tryz.func48, Tryz.ntmps48
  go_wp2_with fail
  refine (implDeedOf_any 5 k v _).mono ?_
  rintro e w1 ⟨rfl, hb1⟩
  rw [show DeedV 5 k v = .iface 109 (OpV 5 k v) from rfl]
  go_wp2_with fail
  refine (fits_5 k v _).mono ?_
  rintro e w2 ⟨rfl, hb2⟩
  rw [HB.out]
  have hs : w.heap.size + 1 ≤ w1.heap.size := by simpa using hb1.size
  have hall : Below w.heap.size w w2 := (((Below.refl _ w).alloc (Nat.le_refl _) _).trans (hb1.mono (by simp))).trans (hb2.mono (by omega))
  clear hb1 hb2 hm
  go_wp2
  go_ret
  exact ⟨rfl, hall⟩

theorem fits_6 (k v : Int) (w : World) :
    Calls Tryz.prog 120 #[OpV 6 k v] w fun e w' => e = .returned (.bool (decide ((0 ≤ k ∧ k ≤ 2) ∧ v = 0))) ∧ Below w.heap.size w w' := by
  obtain ⟨B, hB⟩ : ∃ B, decide ((0 ≤ k ∧ k ≤ 2) ∧ v = 0) = B := ⟨_, rfl⟩
  rw [hB]
  have HB : Hid (decide ((0 ≤ k ∧ k ≤ 2) ∧ v = 0) = B) := hB
  clear hB
  rcases tri 0 2 k (by decide) with ⟨h0, h1⟩ | ⟨h0, h1⟩ | ⟨h0, h1⟩ <;> rcases eqb v 0 with ⟨g0, g1⟩ | ⟨g0, g1⟩
  all_goals
    go_enter Tryz.func120, Tryz.ntmps120
    go_wp2
    go_ret
    refine ⟨?_, (Below.refl _ _).alloc (Nat.le_refl _) _⟩
    rw [← HB.out]
    first
      | exact says_true (by omega)
      | exact says_false (by omega)
theorem implOpOk_6 (k v : Int) (w : World) :
    Calls Tryz.prog 48 #[OpV 6 k v] w fun e w' => e = .returned (.bool (decide ((0 ≤ k ∧ k ≤ 2) ∧ v = 0))) ∧ Below w.heap.size w w' := by
  have hm : ∀ w : World, (method 246 110 (OpV 6 k v) "loop.example/g00468/impl.fits").run Tryz.prog w = .ok (120, OpV 6 k v) w := fun _ => by kernel_rfl
  obtain ⟨B, hB⟩ : ∃ B, decide ((0 ≤ k ∧ k ≤ 2) ∧ v = 0) = B := ⟨_, rfl⟩
  rw [hB]
  have HB : Hid (decide ((0 ≤ k ∧ k ≤ 2) ∧ v = 0) = B) := hB
  clear hB
  go_enter Tryz.func48, Tryz.ntmps48
  go_wp2_with fail
  refine (implDeedOf_any 6 k v _).mono ?_
  rintro e w1 ⟨rfl, hb1⟩
  rw [show DeedV 6 k v = .iface 110 (OpV 6 k v) from rfl]
  go_wp2_with fail
  refine (fits_6 k v _).mono ?_
  rintro e w2 ⟨rfl, hb2⟩
  rw [HB.out]
  have hs : w.heap.size + 1 ≤ w1.heap.size := by simpa using hb1.size
  have hall : Below w.heap.size w w2 := (((Below.refl _ w).alloc (Nat.le_refl _) _).trans (hb1.mono (by simp))).trans (hb2.mono (by omega))
  clear hb1 hb2 hm
  go_wp2
  go_ret
  exact ⟨rfl, hall⟩

theorem fits_7 (k v : Int) (w : World) :
    Calls Tryz.prog 121 #[OpV 7 k v] w fun e w' => e = .returned (.bool (decide (k = 0 ∧ v = 0))) ∧ Below w.heap.size w w' := by
  obtain ⟨B, hB⟩ : ∃ B, decide (k = 0 ∧ v = 0) = B := ⟨_, rfl⟩
  rw [hB]
  have HB : Hid (decide (k = 0 ∧ v = 0) = B) := hB
  clear hB
  rcases eqb k 0 with ⟨h0, h1⟩ | ⟨h0, h1⟩ <;> rcases eqb v 0 with ⟨g0, g1⟩ | ⟨g0, g1⟩
  all_goals
    go_enter Tryz.func121, Tryz.ntmps121
    go_wp2
    go_ret
    refine ⟨?_, (Below.refl _ _).alloc (Nat.le_refl _) _⟩
    rw [← HB.out]
    first
      | exact says_true (by omega)
      | exact says_false (by omega)
theorem implOpOk_7 (k v : Int) (w : World) :
    Calls Tryz.prog 48 #[OpV 7 k v] w fun e w' => e = .returned (.bool (decide (k = 0 ∧ v = 0))) ∧ Below w.heap.size w w' := by
  have hm : ∀ w : World, (method 246 111 (OpV 7 k v) "loop.example/g00468/impl.fits").run Tryz.prog w = .ok (121, OpV 7 k v) w := fun _ => by kernel_rfl
  obtain ⟨B, hB⟩ : ∃ B, decide (k = 0 ∧ v = 0) = B := ⟨_, rfl⟩
  rw [hB]
  have HB : Hid (decide (k = 0 ∧ v = 0) = B) := hB
  clear hB
  go_enter Tryz.func48, Tryz.ntmps48
  go_wp2_with fail
  refine (implDeedOf_any 7 k v _).mono ?_
  rintro e w1 ⟨rfl, hb1⟩
  rw [show DeedV 7 k v = .iface 111 (OpV 7 k v) from rfl]
  go_wp2_with fail
  refine (fits_7 k v _).mono ?_
  rintro e w2 ⟨rfl, hb2⟩
  rw [HB.out]
  have hs : w.heap.size + 1 ≤ w1.heap.size := by simpa using hb1.size
  have hall : Below w.heap.size w w2 := (((Below.refl _ w).alloc (Nat.le_refl _) _).trans (hb1.mono (by simp))).trans (hb2.mono (by omega))
  clear hb1 hb2 hm
  go_wp2
  go_ret
  exact ⟨rfl, hall⟩

theorem fits_8 (k v : Int) (w : World) :
    Calls Tryz.prog 122 #[OpV 8 k v] w fun e w' => e = .returned (.bool (decide (k = 0 ∧ v = 0))) ∧ Below w.heap.size w w' := by
  obtain ⟨B, hB⟩ : ∃ B, decide (k = 0 ∧ v = 0) = B := ⟨_, rfl⟩
  rw [hB]
  have HB : Hid (decide (k = 0 ∧ v = 0) = B) := hB
  clear hB
  rcases eqb k 0 with ⟨h0, h1⟩ | ⟨h0, h1⟩ <;> rcases eqb v 0 with ⟨g0, g1⟩ | ⟨g0, g1⟩
  all_goals
    go_enter Tryz.func122, Tryz.ntmps122
    go_wp2
    go_ret
    refine ⟨?_, (Below.refl _ _).alloc (Nat.le_refl _) _⟩
    rw [← HB.out]
    first
      | exact says_true (by omega)
      | exact says_false (by omega)
theorem implOpOk_8 (k v : Int) (w : World) :
    Calls Tryz.prog 48 #[OpV 8 k v] w fun e w' => e = .returned (.bool (decide (k = 0 ∧ v = 0))) ∧ Below w.heap.size w w' := by
  have hm : ∀ w : World, (method 246 112 (OpV 8 k v) "loop.example/g00468/impl.fits").run Tryz.prog w = .ok (122, OpV 8 k v) w := fun _ => by kernel_rfl
  obtain ⟨B, hB⟩ : ∃ B, decide (k = 0 ∧ v = 0) = B := ⟨_, rfl⟩
  rw [hB]
  have HB : Hid (decide (k = 0 ∧ v = 0) = B) := hB
  clear hB
  go_enter Tryz.func48, Tryz.ntmps48
  go_wp2_with fail
  refine (implDeedOf_any 8 k v _).mono ?_
  rintro e w1 ⟨rfl, hb1⟩
  rw [show DeedV 8 k v = .iface 112 (OpV 8 k v) from rfl]
  go_wp2_with fail
  refine (fits_8 k v _).mono ?_
  rintro e w2 ⟨rfl, hb2⟩
  rw [HB.out]
  have hs : w.heap.size + 1 ≤ w1.heap.size := by simpa using hb1.size
  have hall : Below w.heap.size w w2 := (((Below.refl _ w).alloc (Nat.le_refl _) _).trans (hb1.mono (by simp))).trans (hb2.mono (by omega))
  clear hb1 hb2 hm
  go_wp2
  go_ret
  exact ⟨rfl, hall⟩

theorem fits_9 (k v : Int) (w : World) :
    Calls Tryz.prog 123 #[OpV 9 k v] w fun e w' => e = .returned (.bool (decide (k = 0 ∧ v = 0))) ∧ Below w.heap.size w w' := by
  obtain ⟨B, hB⟩ : ∃ B, decide (k = 0 ∧ v = 0) = B := ⟨_, rfl⟩
  rw [hB]
  have HB : Hid (decide (k = 0 ∧ v = 0) = B) := hB
  clear hB
  rcases eqb k 0 with ⟨h0, h1⟩ | ⟨h0, h1⟩ <;> rcases eqb v 0 with ⟨g0, g1⟩ | ⟨g0, g1⟩
  all_goals
    go_enter Tryz.func123, Tryz.ntmps123
    go_wp2
    go_ret
    refine ⟨?_, (Below.refl _ _).alloc (Nat.le_refl _) _⟩
    rw [← HB.out]
    first
      | exact says_true (by omega)
      | exact says_false (by omega)
theorem implOpOk_9 (k v : Int) (w : World) :
    Calls Tryz.prog 48 #[OpV 9 k v] w fun e w' => e = .returned (.bool (decide (k = 0 ∧ v = 0))) ∧ Below w.heap.size w w' := by
  have hm : ∀ w : World, (method 246 113 (OpV 9 k v) "loop.example/g00468/impl.fits").run Tryz.prog w = .ok (123, OpV 9 k v) w := fun _ => by kernel_rfl
  obtain ⟨B, hB⟩ : ∃ B, decide (k = 0 ∧ v = 0) = B := ⟨_, rfl⟩
  rw [hB]
  have HB : Hid (decide (k = 0 ∧ v = 0) = B) := hB
  clear hB
  go_enter Tryz.func48, Tryz.ntmps48
  go_wp2_with fail
  refine (implDeedOf_any 9 k v _).mono ?_
  rintro e w1 ⟨rfl, hb1⟩
  rw [show DeedV 9 k v = .iface 113 (OpV 9 k v) from rfl]
  go_wp2_with fail
  refine (fits_9 k v _).mono ?_
  rintro e w2 ⟨rfl, hb2⟩
  rw [HB.out]
  have hs : w.heap.size + 1 ≤ w1.heap.size := by simpa using hb1.size
  have hall : Below w.heap.size w w2 := (((Below.refl _ w).alloc (Nat.le_refl _) _).trans (hb1.mono (by simp))).trans (hb2.mono (by omega))
  clear hb1 hb2 hm
  go_wp2
  go_ret
  exact ⟨rfl, hall⟩

theorem fits_10 (k v : Int) (w : World) :
    Calls Tryz.prog 124 #[OpV 10 k v] w fun e w' => e = .returned (.bool (decide (k = 0 ∧ (1 ≤ v ∧ v ≤ 6)))) ∧ Below w.heap.size w w' := by
  obtain ⟨B, hB⟩ : ∃ B, decide (k = 0 ∧ (1 ≤ v ∧ v ≤ 6)) = B := ⟨_, rfl⟩
  rw [hB]
  have HB : Hid (decide (k = 0 ∧ (1 ≤ v ∧ v ≤ 6)) = B) := hB
  clear hB
  rcases eqb k 0 with ⟨h0, h1⟩ | ⟨h0, h1⟩ <;> rcases tri 1 6 v (by decide) with ⟨g0, g1⟩ | ⟨g0, g1⟩ | ⟨g0, g1⟩
  all_goals
    go_enter Tryz.func124, Tryz.ntmps124
    go_wp2
    go_ret
    refine ⟨?_, (Below.refl _ _).alloc (Nat.le_refl _) _⟩
    rw [← HB.out]
    first
      | exact says_true (by omega)
      | exact says_false (by omega)
theorem implOpOk_10 (k v : Int) (w : World) :
    Calls Tryz.prog 48 #[OpV 10 k v] w fun e w' => e = .returned (.bool (decide (k = 0 ∧ (1 ≤ v ∧ v ≤ 6)))) ∧ Below w.heap.size w w' := by
  have hm : ∀ w : World, (method 246 114 (OpV 10 k v) "loop.example/g00468/impl.fits").run Tryz.prog w = .ok (124, OpV 10 k v) w := fun _ => by kernel_rfl
  obtain ⟨B, hB⟩ : ∃ B, decide (k = 0 ∧ (1 ≤ v ∧ v ≤ 6)) = B := ⟨_, rfl⟩
  rw [hB]
  have HB : Hid (decide (k = 0 ∧ (1 ≤ v ∧ v ≤ 6)) = B) := hB
  clear hB
  go_enter Tryz.func48, Tryz.ntmps48
  go_wp2_with fail
  refine (implDeedOf_any 10 k v _).mono ?_
  rintro e w1 ⟨rfl, hb1⟩
  rw [show DeedV 10 k v = .iface 114 (OpV 10 k v) from rfl]
  go_wp2_with fail
  refine (fits_10 k v _).mono ?_
  rintro e w2 ⟨rfl, hb2⟩
  rw [HB.out]
  have hs : w.heap.size + 1 ≤ w1.heap.size := by simpa using hb1.size
  have hall : Below w.heap.size w w2 := (((Below.refl _ w).alloc (Nat.le_refl _) _).trans (hb1.mono (by simp))).trans (hb2.mono (by omega))
  clear hb1 hb2 hm
  go_wp2
  go_ret
  exact ⟨rfl, hall⟩

theorem implOpOk_none (kind k v : Int) (w : World) (h : ¬ (1 ≤ kind ∧ kind ≤ 10)) :
    Calls Tryz.prog 48 #[OpV kind k v] w fun e w' => e = .returned (.bool false) ∧ Below w.heap.size w w' := by
  have hm : ∀ w : World, (method 246 115 (OpV kind k v) "loop.example/g00468/impl.fits").run Tryz.prog w = .ok (125, OpV kind k v) w := fun _ => by kernel_rfl
  have hT : deedT kind = 115 := by
    unfold deedT
    rw [if_neg (by omega), if_neg (by omega), if_neg (by omega), if_neg (by omega), if_neg (by omega), if_neg (by omega), if_neg (by omega), if_neg (by omega), if_neg (by omega), if_neg (by omega)]
  go_enter Tryz.func48, Tryz.ntmps48
  go_wp2_with fail
  refine (implDeedOf_any kind k v _).mono ?_
  rintro e w1 ⟨rfl, hb1⟩
  rw [show DeedV kind k v = .iface 115 (OpV kind k v) by rw [DeedV, hT]]
  clear hT
  have hs : w.heap.size + 1 ≤ w1.heap.size := by simpa using hb1.size
  have hall : Below w.heap.size w w1 := (((Below.refl _ w).alloc (Nat.le_refl _) _).trans (hb1.mono (by simp)))
  clear hb1 h
  go_wp2
  go_ret
  first
    | exact ⟨rfl, hall⟩
    | exact ⟨rfl, hall.alloc (by omega) _⟩

theorem implOpOk_any (kind k v : Int) (w : World) :
    Calls Tryz.prog 48 #[OpV kind k v] w fun e w' => e = .returned (.bool (decide (OpGood kind k v))) ∧ Below w.heap.size w w' := by
  by_cases h : 1 ≤ kind ∧ kind ≤ 10
  · have key : ∀ (P : Prop) [Decidable P], (OpGood kind k v ↔ P) → decide P = decide (OpGood kind k v) := fun P _ hP => decide_eq_decide.2 hP.symm
    rcases kinds h with rfl | rfl | rfl | rfl | rfl | rfl | rfl | rfl | rfl | rfl
    · refine (implOpOk_1 k v w).mono ?_
      rintro e w' ⟨rfl, hb⟩
      exact ⟨by rw [key _ (by unfold OpGood KeyGood ValGood; omega)], hb⟩
    · refine (implOpOk_2 k v w).mono ?_
      rintro e w' ⟨rfl, hb⟩
      exact ⟨by rw [key _ (by unfold OpGood KeyGood ValGood; omega)], hb⟩
    · refine (implOpOk_3 k v w).mono ?_
      rintro e w' ⟨rfl, hb⟩
      exact ⟨by rw [key _ (by unfold OpGood KeyGood ValGood; omega)], hb⟩
    · refine (implOpOk_4 k v w).mono ?_
      rintro e w' ⟨rfl, hb⟩
      exact ⟨by rw [key _ (by unfold OpGood KeyGood ValGood; omega)], hb⟩
    · refine (implOpOk_5 k v w).mono ?_
      rintro e w' ⟨rfl, hb⟩
      exact ⟨by rw [key _ (by unfold OpGood KeyGood ValGood; omega)], hb⟩
    · refine (implOpOk_6 k v w).mono ?_
      rintro e w' ⟨rfl, hb⟩
      exact ⟨by rw [key _ (by unfold OpGood KeyGood ValGood; omega)], hb⟩
    · refine (implOpOk_7 k v w).mono ?_
      rintro e w' ⟨rfl, hb⟩
      exact ⟨by rw [key _ (by unfold OpGood KeyGood ValGood; omega)], hb⟩
    · refine (implOpOk_8 k v w).mono ?_
      rintro e w' ⟨rfl, hb⟩
      exact ⟨by rw [key _ (by unfold OpGood KeyGood ValGood; omega)], hb⟩
    · refine (implOpOk_9 k v w).mono ?_
      rintro e w' ⟨rfl, hb⟩
      exact ⟨by rw [key _ (by unfold OpGood KeyGood ValGood; omega)], hb⟩
    · refine (implOpOk_10 k v w).mono ?_
      rintro e w' ⟨rfl, hb⟩
      exact ⟨by rw [key _ (by unfold OpGood KeyGood ValGood; omega)], hb⟩
  · refine (implOpOk_none kind k v w h).mono ?_
    rintro e w' ⟨rfl, hb⟩
    exact ⟨by rw [decide_eq_false (fun g => h g.1)], hb⟩
end
section
open Go.ChangeShapes Go.WideShapes Go.ChangeAt Go.RowKit Go.Maps







end
def comLL (xs : List Int) (st kind k v : Int) : List (Int × List Int) :=
  if kind = 1 then (if atK xs k = 0 then (if keyN xs v < 0 then [(0, [])] else [(2, [])]) else (if keyN xs v < 0 then [(1, [])] else [(1, []), (2, [])]))
  else if kind = 2 then (if atK xs k = 0 then (if keyN xs v < 0 then [(3, [])] else [(3, []), (2, [])]) else (if keyN xs v < 0 then [(0, [])] else if keyN xs v = k then [(2, []), (0, [])] else [(2, [])]))
  else if kind = 3 then (if atK xs k = 0 then [(3, [])] else [(0, [])])
  else if kind = 4 then (if atK xs k = 0 then [(3, [])] else [(0, [atK xs k])])
  else if kind = 5 then (if keyN xs v < 0 then [(3, [])] else [(0, [keyN xs v])])
  else if kind = 6 then [(0, [cntK xs k 4])]
  else if kind = 7 then [(0, xs)]
  else if kind = 8 then (if st = 0 then [(0, [])] else [(4, [])])
  else if kind = 9 then (if st = 0 then [(4, [])] else if st = 5 then [(4, [])] else [(0, [])])
  else (if st = 5 then (if keyN xs v < 0 then [(3, [])] else [(0, [keyN xs v])]) else [(4, [])])
theorem ite_len {α : Type} {p : Prop} [Decidable p] {a b : List α} (ha : a.length ≤ 4) (hb : b.length ≤ 4) : (if p then a else b).length ≤ 4 := by split <;> assumption
theorem comLL_len (xs : List Int) (st kind k v : Int) : (comLL xs st kind k v).length ≤ 4 := by
  unfold comLL
  repeat' apply ite_len
  all_goals (try simp)
theorem codesC (code : Int) : code = 0 ∨ code = 1 ∨ code = 2 ∨ code = 3 ∨ code = 4 ∨ (code ≠ 0 ∧ code ≠ 1 ∧ code ≠ 2 ∧ code ≠ 3 ∧ code ≠ 4) := by omega
theorem com_mem_1 (xs : List Int) (st k v code : Int) (ys : List Int) (hst : 0 ≤ st ∧ st ≤ 5) :
    (code, ys) ∈ comLL xs st 1 k v ↔ ((code ≠ 0 ∧ ys = [] ∧ FailsM xs st 1 k v code) ∨ (code = 0 ∧ DoneM xs st 1 k v ∧ listM xs 1 k v = ys)) := by
  have _h := hst
  have hk := keyN_le xs v
  obtain ⟨q, hq⟩ : ∃ q, keyN xs v = q := ⟨_, rfl⟩
  obtain ⟨x, hx⟩ : ∃ x, atK xs k = x := ⟨_, rfl⟩
  rw [hq] at hk
  unfold comLL FailsM DoneM listM
  rw [hq, hx]
  clear hq hx
  rcases codesC code with rfl | rfl | rfl | rfl | rfl | ⟨c0, c1, c2, c3, c4⟩ <;> by_cases h1 : x = 0 <;> (rcases (show (q < 0 ∧ ¬ 0 ≤ q) ∨ (0 ≤ q ∧ ¬ q < 0) by omega) with ⟨h2, h2'⟩ | ⟨h2, h2'⟩)
  all_goals simp [*]
  all_goals first | done | omega | (intros; omega) | exact eq_comm | (constructor <;> intro h <;> simp_all <;> omega)
theorem com_mem_2 (xs : List Int) (st k v code : Int) (ys : List Int) (hst : 0 ≤ st ∧ st ≤ 5) :
    (code, ys) ∈ comLL xs st 2 k v ↔ ((code ≠ 0 ∧ ys = [] ∧ FailsM xs st 2 k v code) ∨ (code = 0 ∧ DoneM xs st 2 k v ∧ listM xs 2 k v = ys)) := by
  have _h := hst
  have hk := keyN_le xs v
  obtain ⟨q, hq⟩ : ∃ q, keyN xs v = q := ⟨_, rfl⟩
  obtain ⟨x, hx⟩ : ∃ x, atK xs k = x := ⟨_, rfl⟩
  rw [hq] at hk
  unfold comLL FailsM DoneM listM
  rw [hq, hx]
  clear hq hx
  rcases codesC code with rfl | rfl | rfl | rfl | rfl | ⟨c0, c1, c2, c3, c4⟩ <;> by_cases h1 : x = 0 <;> (rcases (show (q < 0 ∧ ¬ 0 ≤ q) ∨ (0 ≤ q ∧ ¬ q < 0) by omega) with ⟨h2, h2'⟩ | ⟨h2, h2'⟩) <;> (rcases Decidable.em (q = k) with rfl | h3)
  all_goals simp [*]
  all_goals first | done | omega | (intros; omega) | exact eq_comm | (constructor <;> intro h <;> simp_all <;> omega)
theorem com_mem_3 (xs : List Int) (st k v code : Int) (ys : List Int) (hst : 0 ≤ st ∧ st ≤ 5) :
    (code, ys) ∈ comLL xs st 3 k v ↔ ((code ≠ 0 ∧ ys = [] ∧ FailsM xs st 3 k v code) ∨ (code = 0 ∧ DoneM xs st 3 k v ∧ listM xs 3 k v = ys)) := by
  have _h := hst
  have hk := keyN_le xs v
  obtain ⟨q, hq⟩ : ∃ q, keyN xs v = q := ⟨_, rfl⟩
  obtain ⟨x, hx⟩ : ∃ x, atK xs k = x := ⟨_, rfl⟩
  rw [hq] at hk
  unfold comLL FailsM DoneM listM
  rw [hq, hx]
  clear hq hx
  rcases codesC code with rfl | rfl | rfl | rfl | rfl | ⟨c0, c1, c2, c3, c4⟩ <;> by_cases h1 : x = 0
  all_goals simp [*]
  all_goals first | done | omega | (intros; omega) | exact eq_comm | (constructor <;> intro h <;> simp_all <;> omega)
theorem com_mem_4 (xs : List Int) (st k v code : Int) (ys : List Int) (hst : 0 ≤ st ∧ st ≤ 5) :
    (code, ys) ∈ comLL xs st 4 k v ↔ ((code ≠ 0 ∧ ys = [] ∧ FailsM xs st 4 k v code) ∨ (code = 0 ∧ DoneM xs st 4 k v ∧ listM xs 4 k v = ys)) := by
  have _h := hst
  have hk := keyN_le xs v
  obtain ⟨q, hq⟩ : ∃ q, keyN xs v = q := ⟨_, rfl⟩
  obtain ⟨x, hx⟩ : ∃ x, atK xs k = x := ⟨_, rfl⟩
  rw [hq] at hk
  unfold comLL FailsM DoneM listM
  rw [hq, hx]
  clear hq hx
  rcases codesC code with rfl | rfl | rfl | rfl | rfl | ⟨c0, c1, c2, c3, c4⟩ <;> by_cases h1 : x = 0
  all_goals simp [*]
  all_goals first | done | omega | (intros; omega) | exact eq_comm | (constructor <;> intro h <;> simp_all <;> omega)
theorem com_mem_5 (xs : List Int) (st k v code : Int) (ys : List Int) (hst : 0 ≤ st ∧ st ≤ 5) :
    (code, ys) ∈ comLL xs st 5 k v ↔ ((code ≠ 0 ∧ ys = [] ∧ FailsM xs st 5 k v code) ∨ (code = 0 ∧ DoneM xs st 5 k v ∧ listM xs 5 k v = ys)) := by
  have _h := hst
  have hk := keyN_le xs v
  obtain ⟨q, hq⟩ : ∃ q, keyN xs v = q := ⟨_, rfl⟩
  obtain ⟨x, hx⟩ : ∃ x, atK xs k = x := ⟨_, rfl⟩
  rw [hq] at hk
  unfold comLL FailsM DoneM listM
  rw [hq, hx]
  clear hq hx
  rcases codesC code with rfl | rfl | rfl | rfl | rfl | ⟨c0, c1, c2, c3, c4⟩ <;> (rcases (show (q < 0 ∧ ¬ 0 ≤ q) ∨ (0 ≤ q ∧ ¬ q < 0) by omega) with ⟨h2, h2'⟩ | ⟨h2, h2'⟩)
  all_goals simp [*]
  all_goals first | done | omega | (intros; omega) | exact eq_comm | (constructor <;> intro h <;> simp_all <;> omega)
theorem com_mem_6 (xs : List Int) (st k v code : Int) (ys : List Int) (hst : 0 ≤ st ∧ st ≤ 5) :
    (code, ys) ∈ comLL xs st 6 k v ↔ ((code ≠ 0 ∧ ys = [] ∧ FailsM xs st 6 k v code) ∨ (code = 0 ∧ DoneM xs st 6 k v ∧ listM xs 6 k v = ys)) := by
  have _h := hst
  have hk := keyN_le xs v
  obtain ⟨q, hq⟩ : ∃ q, keyN xs v = q := ⟨_, rfl⟩
  obtain ⟨x, hx⟩ : ∃ x, atK xs k = x := ⟨_, rfl⟩
  rw [hq] at hk
  unfold comLL FailsM DoneM listM
  rw [hq, hx]
  clear hq hx
  rcases codesC code with rfl | rfl | rfl | rfl | rfl | ⟨c0, c1, c2, c3, c4⟩
  all_goals simp [*]
  all_goals first | done | omega | (intros; omega) | exact eq_comm | (constructor <;> intro h <;> simp_all <;> omega)
theorem com_mem_7 (xs : List Int) (st k v code : Int) (ys : List Int) (hst : 0 ≤ st ∧ st ≤ 5) :
    (code, ys) ∈ comLL xs st 7 k v ↔ ((code ≠ 0 ∧ ys = [] ∧ FailsM xs st 7 k v code) ∨ (code = 0 ∧ DoneM xs st 7 k v ∧ listM xs 7 k v = ys)) := by
  have _h := hst
  have hk := keyN_le xs v
  obtain ⟨q, hq⟩ : ∃ q, keyN xs v = q := ⟨_, rfl⟩
  obtain ⟨x, hx⟩ : ∃ x, atK xs k = x := ⟨_, rfl⟩
  rw [hq] at hk
  unfold comLL FailsM DoneM listM
  rw [hq, hx]
  clear hq hx
  rcases codesC code with rfl | rfl | rfl | rfl | rfl | ⟨c0, c1, c2, c3, c4⟩
  all_goals simp [*]
  all_goals first | done | omega | (intros; omega) | exact eq_comm | (constructor <;> intro h <;> simp_all <;> omega)
theorem com_mem_8 (xs : List Int) (st k v code : Int) (ys : List Int) (hst : 0 ≤ st ∧ st ≤ 5) :
    (code, ys) ∈ comLL xs st 8 k v ↔ ((code ≠ 0 ∧ ys = [] ∧ FailsM xs st 8 k v code) ∨ (code = 0 ∧ DoneM xs st 8 k v ∧ listM xs 8 k v = ys)) := by
  have _h := hst
  have hk := keyN_le xs v
  obtain ⟨q, hq⟩ : ∃ q, keyN xs v = q := ⟨_, rfl⟩
  obtain ⟨x, hx⟩ : ∃ x, atK xs k = x := ⟨_, rfl⟩
  rw [hq] at hk
  unfold comLL FailsM DoneM listM
  rw [hq, hx]
  clear hq hx
  rcases codesC code with rfl | rfl | rfl | rfl | rfl | ⟨c0, c1, c2, c3, c4⟩ <;> by_cases h4 : st = 0
  all_goals simp [*]
  all_goals first | done | omega | (intros; omega) | exact eq_comm | (constructor <;> intro h <;> simp_all <;> omega)
theorem com_mem_9 (xs : List Int) (st k v code : Int) (ys : List Int) (hst : 0 ≤ st ∧ st ≤ 5) :
    (code, ys) ∈ comLL xs st 9 k v ↔ ((code ≠ 0 ∧ ys = [] ∧ FailsM xs st 9 k v code) ∨ (code = 0 ∧ DoneM xs st 9 k v ∧ listM xs 9 k v = ys)) := by
  have _h := hst
  have hk := keyN_le xs v
  obtain ⟨q, hq⟩ : ∃ q, keyN xs v = q := ⟨_, rfl⟩
  obtain ⟨x, hx⟩ : ∃ x, atK xs k = x := ⟨_, rfl⟩
  rw [hq] at hk
  unfold comLL FailsM DoneM listM
  rw [hq, hx]
  clear hq hx
  rcases codesC code with rfl | rfl | rfl | rfl | rfl | ⟨c0, c1, c2, c3, c4⟩ <;> by_cases h4 : st = 0 <;> by_cases h5 : st = 5
  all_goals simp [*]
  all_goals first | done | omega | (intros; omega) | exact eq_comm | (constructor <;> intro h <;> simp_all <;> omega)
theorem com_mem_10 (xs : List Int) (st k v code : Int) (ys : List Int) (hst : 0 ≤ st ∧ st ≤ 5) :
    (code, ys) ∈ comLL xs st 10 k v ↔ ((code ≠ 0 ∧ ys = [] ∧ FailsM xs st 10 k v code) ∨ (code = 0 ∧ DoneM xs st 10 k v ∧ listM xs 10 k v = ys)) := by
  have _h := hst
  have hk := keyN_le xs v
  obtain ⟨q, hq⟩ : ∃ q, keyN xs v = q := ⟨_, rfl⟩
  obtain ⟨x, hx⟩ : ∃ x, atK xs k = x := ⟨_, rfl⟩
  rw [hq] at hk
  unfold comLL FailsM DoneM listM
  rw [hq, hx]
  clear hq hx
  rcases codesC code with rfl | rfl | rfl | rfl | rfl | ⟨c0, c1, c2, c3, c4⟩ <;> by_cases h5 : st = 5 <;> (rcases (show (q < 0 ∧ ¬ 0 ≤ q) ∨ (0 ≤ q ∧ ¬ q < 0) by omega) with ⟨h2, h2'⟩ | ⟨h2, h2'⟩)
  all_goals simp [*]
  all_goals first | done | omega | (intros; omega) | exact eq_comm | (constructor <;> intro h <;> simp_all <;> omega)
section
open Go.ChangeShapes Go.WideShapes Go.ChangeAt Go.RowKit Go.Maps
theorem atK_nat (xs : List Int) (j : Nat) : atK xs (j : Int) = xs.getD j 0 := by simp [atK]
theorem com_mem (xs : List Int) (st kind k v code : Int) (ys : List Int) (hst : 0 ≤ st ∧ st ≤ 5) (hk : 1 ≤ kind ∧ kind ≤ 10) :
    (code, ys) ∈ comLL xs st kind k v ↔ ((code ≠ 0 ∧ ys = [] ∧ FailsM xs st kind k v code) ∨ (code = 0 ∧ DoneM xs st kind k v ∧ listM xs kind k v = ys)) := by
  rcases kinds hk with rfl | rfl | rfl | rfl | rfl | rfl | rfl | rfl | rfl | rfl
  · exact com_mem_1 xs st k v code ys hst
  · exact com_mem_2 xs st k v code ys hst
  · exact com_mem_3 xs st k v code ys hst
  · exact com_mem_4 xs st k v code ys hst
  · exact com_mem_5 xs st k v code ys hst
  · exact com_mem_6 xs st k v code ys hst
  · exact com_mem_7 xs st k v code ys hst
  · exact com_mem_8 xs st k v code ys hst
  · exact com_mem_9 xs st k v code ys hst
  · exact com_mem_10 xs st k v code ys hst
end
section
open Go.ChangeShapes Go.WideShapes Go.ChangeAt Go.RowKit
theorem equalI_any (a1 a2 : Option Addr) (n1 n2 c1 c2 : Nat) (xs ys : List Int) (w : World) (h1 : IntAt w a1 n1 xs) (h2 : IntAt w a2 n2 ys) :
    Calls Tryz.prog 74 #[.slice a1 n1 c1, .slice a2 n2 c2] w fun e w' => e = .returned (.bool (decide (xs = ys))) ∧ Below w.heap.size w w' := by
  have H1 : Hid (IntAt w a1 n1 xs) := h1
  have H2 : Hid (IntAt w a2 n2 ys) := h2
  have L1 : Hid (xs.length = n1) := h1.1
  have L2 : Hid (ys.length = n2) := h2.1
  have b1 := h1.2.1
  have b2 := h2.2.1
  obtain ⟨B, hB⟩ : ∃ B, decide (xs = ys) = B := ⟨_, rfl⟩
  rw [hB]
  have HB : Hid (decide (xs = ys) = B) := hB
  clear h1 h2 hB
  by_cases hn : n1 = n2
  · subst hn
    go_enter Tryz.func74, Tryz.ntmps74
    go_wp2
    go_loopw [13] (fun i wr => ∃ k : Nat, k ≤ n1 ∧ i = .int .i64 k ∧ xs.take k = ys.take k ∧ Below w.heap.size w wr) (fun i _ => n1 - (intOf i).toNat)
    case atStart => exact ⟨0, Nat.zero_le _, rfl, rfl, Below.refl _ _⟩
    case round =>
      obtain ⟨k, hk1, rfl, ht, hb⟩ := hrel
      have HT : Hid (xs.take k = ys.take k) := ht
      clear ht
      by_cases hlt1 : k < n1
      · rcases (H1.out.below hb (Nat.le_refl _)).2.2 with h | ⟨p1, o1, rfl, g1⟩
        · omega
        rcases (H2.out.below hb (Nat.le_refl _)).2.2 with h | ⟨p2, o2, rfl, g2⟩
        · omega
        obtain ⟨x, hx⟩ : ∃ x, xs.getD k 0 = x := ⟨_, rfl⟩
        obtain ⟨y, hy⟩ : ∃ y, ys.getD k 0 = y := ⟨_, rfl⟩
        have e1 := g1 k hlt1
        have e2 := g2 k hlt1
        rw [hx] at e1
        rw [hy] at e2
        have HX : Hid (xs.getD k 0 = x) := hx
        have HY : Hid (ys.getD k 0 = y) := hy
        clear g1 g2 hx hy
        go_wp2
        go_region
        go_wp2
        · have hd : (x != y) = true := by assumption
          go_ret
          refine ⟨?_, hb.drew⟩
          have e : xs ≠ ys := fun e => by rw [← HX.out, ← HY.out, e] at hd; simp at hd
          rw [← HB.out]
          simp [e]
        · have hd : (x != y) = false := by assumption
          have l1 := L1.out
          have l2 := L2.out
          exact ⟨⟨k + 1, by omega, by go_num, take_nextI (by omega) (by omega) HT.out (by rw [HX.out, HY.out]; simpa using hd), hb.drew⟩, by simp [intOf]; omega⟩
      · obtain rfl : k = n1 := by omega
        go_wp2
        go_ret
        refine ⟨?_, hb⟩
        have l1 := L1.out
        have l2 := L2.out
        have e : xs = ys := by
          have e0 := HT.out
          rwa [List.take_of_length_le (by omega), List.take_of_length_le (by omega)] at e0
        rw [← HB.out]
        simp [e]
  · have hne : ((n1 : Int) != (n2 : Int)) = true := by simp; omega
    have hxy : xs ≠ ys := fun e => by have l1 := L1.out; have l2 := L2.out; rw [e] at l1; omega
    have HX : Hid (xs ≠ ys) := hxy
    clear hxy
    go_enter Tryz.func74, Tryz.ntmps74
    go_wp2
    go_ret
    refine ⟨?_, Below.refl _ _⟩
    rw [← HB.out]
    simp [HX.out]

theorem implResSame_any (a1 a2 : Option Addr) (n1 n2 c1 c2 : Nat) (k1 k2 : Int) (xs ys : List Int) (w : World) (h1 : IntAt w a1 n1 xs) (h2 : IntAt w a2 n2 ys) :
    Calls Tryz.prog 53 #[ResV k1 a1 n1 c1, ResV k2 a2 n2 c2] w fun e w' => e = .returned (.bool (decide (k1 = k2 ∧ xs = ys))) ∧ Below w.heap.size w w' := by
  have H1 : Hid (IntAt w a1 n1 xs) := h1
  have H2 : Hid (IntAt w a2 n2 ys) := h2
  obtain ⟨B, hB⟩ : ∃ B, decide (k1 = k2 ∧ xs = ys) = B := ⟨_, rfl⟩
  rw [hB]
  have HB : Hid (decide (k1 = k2 ∧ xs = ys) = B) := hB
  clear h1 h2 hB
  by_cases hk : k1 = k2
  · subst hk
    go_enter Tryz.func53, Tryz.ntmps53
    go_wp2_with fail
    have hb0 : Below w.heap.size w ((w.alloc (.cells #[.int .i64 k1, .slice a1 n1 c1] 50)).alloc (.cells #[.int .i64 k1, .slice a2 n2 c2] 50)) := ((Below.refl _ w).alloc (Nat.le_refl _) _).alloc (by simp) _
    refine (equalI_any a1 a2 n1 n2 c1 c2 xs ys _ (H1.out.below hb0 (Nat.le_refl _)) (H2.out.below hb0 (Nat.le_refl _))).mono ?_
    rintro e w1 ⟨rfl, hb1⟩
    have hb2 := hb0.trans (hb1.mono (by simp; omega))
    clear hb0 hb1
    by_cases hx : xs = ys
    · rw [show decide (xs = ys) = true from decide_eq_true hx]
      have HX : Hid (xs = ys) := hx
      clear hx
      go_wp2
      go_ret
      exact ⟨by rw [← HB.out]; simp [HX.out], hb2⟩
    · rw [show decide (xs = ys) = false from decide_eq_false hx]
      have HX : Hid (¬ xs = ys) := hx
      clear hx
      go_wp2
      go_ret
      exact ⟨by rw [← HB.out]; simp [HX.out], hb2⟩
  · have hk' : (k1 == k2) = false := by simpa using hk
    have HK : Hid (¬ k1 = k2) := hk
    clear hk
    go_enter Tryz.func53, Tryz.ntmps53
    go_wp2
    go_ret
    refine ⟨?_, ((Below.refl _ _).alloc (Nat.le_refl _) _).alloc (by simp) _⟩
    rw [← HB.out]
    simp [HK.out]
theorem clos_any (b : Nat) (code code2 : Int) (a a2 : Option Addr) (n n2 c c2 : Nat) (xs ys : List Int) (w : World) (hb : b < w.heap.size) (h1 : w.cell? ⟨b, 0, none⟩ = some (.int .i64 code2)) (h2 : w.cell? ⟨b, 1, none⟩ = some (.slice a2 n2 c2)) (hx : IntAt w a n xs) (hy : IntAt w a2 n2 ys) :
    Calls Tryz.prog 52 #[ResV code a n c, .pointer (some ⟨b, 0, none⟩)] w fun e w' => e = .returned (.bool (decide (code = code2 ∧ xs = ys))) ∧ Below w.heap.size w w' := by
  have HX : Hid (IntAt w a n xs) := hx
  have HY : Hid (IntAt w a2 n2 ys) := hy
  obtain ⟨B, hB⟩ : ∃ B, decide (code = code2 ∧ xs = ys) = B := ⟨_, rfl⟩
  have HB : Hid (decide (code = code2 ∧ xs = ys) = B) := hB
  rw [hB]
  clear hx hy hB
  go_enter Tryz.func52, Tryz.ntmps52
  go_wp2_with fail
  have hb0 : Below w.heap.size w (w.alloc (.cells #[.int .i64 code, .slice a n c] 50)) := (Below.refl _ w).alloc (Nat.le_refl _) _
  refine (implResSame_any a a2 n n2 c c2 code code2 xs ys _ (HX.out.below hb0 (Nat.le_refl _)) (HY.out.below hb0 (Nat.le_refl _))).mono ?_
  rintro e w1 ⟨rfl, hb1⟩
  have hb2 := hb0.trans (hb1.mono (by simp))
  rw [HB.out]
  clear hb0 hb1
  go_wp2
  go_ret
  exact ⟨rfl, hb2⟩

theorem cellsC_at {L : List (Int × Value)} {k : Nat} {r : Int × Value} (h : L[k]? = some r) : (cellsC L)[k * 2]? = some (.int .i64 r.1) ∧ (cellsC L)[k * 2 + 1]? = some r.2 := by
  induction L generalizing k with
  | nil => simp at h
  | cons x L ih =>
    cases k with
    | zero => simp only [List.getElem?_cons_zero, Option.some.injEq] at h; subst h; simp [cellsC]
    | succ k =>
      have h' : L[k]? = some r := by simpa using h
      have := ih h'
      simp only [cellsC, List.flatMap_cons, List.cons_append, List.nil_append] at this ⊢
      rw [show (k + 1) * 2 = k * 2 + 1 + 1 by omega, List.getElem?_cons_succ, List.getElem?_cons_succ, List.getElem?_cons_succ, List.getElem?_cons_succ]
      exact this
theorem com_cells {w : World} {base : Nat} {v : Value} {L : List (Int × Value)} (h : ComAt w base v L) {k : Nat} {r : Int × Value} (hr : L[k]? = some r) :
    ∃ g cap, v = .slice (some ⟨g, 0, none⟩) L.length cap ∧ g < w.heap.size ∧ w.cell? ⟨g, k * 2, none⟩ = some (.int .i64 r.1) ∧ w.cell? ⟨g, k * 2 + 1, none⟩ = some r.2 := by
  have hk : k < L.length := (List.getElem?_eq_some_iff.1 hr).1
  rcases h.2 with ⟨_, h0⟩ | ⟨g, cap, cur, rfl, _, hg, hcap, _, hsz, ht⟩
  · omega
  have hlt : g < w.heap.size := (Array.getElem?_eq_some_iff.1 hg).1
  obtain ⟨c0, c1⟩ := cellsC_at hr
  rw [← ht] at c0 c1
  have e0 : cur[k * 2]? = some (.int .i64 r.1) := by
    rw [List.getElem?_take] at c0
    split at c0
    · simpa using c0
    · cases c0
  have e1 : cur[k * 2 + 1]? = some r.2 := by
    rw [List.getElem?_take] at c1
    split at c1
    · simpa using c1
    · cases c1
  exact ⟨g, cap, rfl, hlt, by simp [World.cell?, hg, e0], by simp [World.cell?, hg, e1]⟩
theorem TellsAs.len {w : World} : ∀ {L : List (Int × Value)} {LL : List (Int × List Int)}, TellsAs w L LL → L.length = LL.length
  | [], [], _ => rfl
  | _ :: _, _ :: _, h => by simp [TellsAs.len h.2]
  | [], _ :: _, h => h.elim
  | _ :: _, [], h => h.elim
theorem TellsAs.at {w : World} : ∀ {L : List (Int × Value)} {LL : List (Int × List Int)}, TellsAs w L LL → ∀ {k : Nat} {q : Int × List Int}, LL[k]? = some q → ∃ a n c, L[k]? = some (q.1, .slice a n c) ∧ IntAt w a n q.2
  | [], [], _, k, q, h => by simp at h
  | r :: _, _ :: _, h, 0, q, hq => by
    simp only [List.getElem?_cons_zero, Option.some.injEq] at hq
    subst hq
    obtain ⟨⟨h1, a, n, c, h2, h3⟩, _⟩ := h
    exact ⟨a, n, c, by simp only [List.getElem?_cons_zero, Option.some.injEq]; rw [← h1, ← h2], h3⟩
  | _ :: _, _ :: _, h, k + 1, q, hq => by
    simp only [List.getElem?_cons_succ] at hq ⊢
    exact TellsAs.at h.2 hq
  | [], _ :: _, h, _, _, _ => h.elim
  | _ :: _, [], h, _, _, _ => h.elim

abbrev Clos (b : Nat) : Value := .func (.func 52) #[] #[.pointer (some ⟨b, 0, none⟩)]

theorem com_slice {w : World} {base : Nat} {v : Value} {L : List (Int × Value)} (h : ComAt w base v L) : ∃ a c, v = .slice a L.length c := by
  rcases h.2 with ⟨rfl, h0⟩ | ⟨g, cap, cur, rfl, _⟩
  · exact ⟨none, 0, by rw [h0]⟩
  · exact ⟨_, cap, rfl⟩
theorem no_more {α : Type} {LL : List α} {k : Nat} {q y : α} (h : y ∉ LL.take k) (hq : LL[k]? = some q) (hne : q ≠ y) : y ∉ LL.take (k + 1) := by
  rw [List.take_add_one, hq]
  simp only [Option.toList_some, List.mem_append, List.mem_singleton, not_or]
  exact ⟨h, fun e => hne e.symm⟩

theorem indexFunc_any (base b : Nat) (code : Int) (a2 : Option Addr) (n2 c2 : Nat) (ys : List Int) (vv : Value) (L : List (Int × Value)) (LL : List (Int × List Int)) (w : World) (hL : L.length ≤ 4) (hc : ComAt w base vv L) (ht : TellsAs w L LL)
    (hb : b < w.heap.size) (h1 : w.cell? ⟨b, 0, none⟩ = some (.int .i64 code)) (h2 : w.cell? ⟨b, 1, none⟩ = some (.slice a2 n2 c2)) (hy : IntAt w a2 n2 ys) :
    Calls Tryz.prog 70 #[vv, Clos b] w fun e w' => ∃ r : Int, e = .returned (.int .i64 r) ∧ (0 ≤ r ↔ (code, ys) ∈ LL) ∧ Below w.heap.size w w' := by
  have HC : Hid (ComAt w base vv L) := hc
  have HT : Hid (TellsAs w L LL) := ht
  have H1 : Hid (w.cell? ⟨b, 0, none⟩ = some (.int .i64 code)) := h1
  have H2 : Hid (w.cell? ⟨b, 1, none⟩ = some (.slice a2 n2 c2)) := h2
  have HY : Hid (IntAt w a2 n2 ys) := hy
  have HLL : Hid (L.length = LL.length) := ht.len
  obtain ⟨av, cv, rfl⟩ := com_slice hc
  obtain ⟨n, hn⟩ : ∃ n, L.length = n := ⟨_, rfl⟩
  rw [hn] at hL HLL
  have HN : Hid (L.length = n) := hn
  rw [hn]
  clear hc ht h1 h2 hy hn
  go_enter Tryz.func70, Tryz.ntmps70
  go_wp2
  go_loopw [8] (fun i wr => ∃ k : Nat, k ≤ n ∧ i = .int .i64 k ∧ (code, ys) ∉ LL.take k ∧ Below w.heap.size w wr) (fun i _ => n - (intOf i).toNat)
  case atStart => exact ⟨0, Nat.zero_le _, rfl, by simp, Below.refl _ _⟩
  case round =>
    obtain ⟨k, hk, rfl, hno, hbr⟩ := hrel
    have HNO : Hid ((code, ys) ∉ LL.take k) := hno
    clear hno
    by_cases hlt : k < n
    · obtain ⟨q, hq⟩ : ∃ q, LL[k]? = some q := ⟨_, List.getElem?_eq_getElem (by rw [← HLL.out]; exact hlt)⟩
      obtain ⟨a, m, c, hLk, hat⟩ := HT.out.at hq
      obtain ⟨g, cap, e, hg, g0, g1⟩ := com_cells HC.out hLk
      cases e
      have e0 : _ = _ := (hbr.cell (show g < w.heap.size from hg)).trans g0
      have e1 : _ = _ := (hbr.cell (show g < w.heap.size from hg)).trans g1
      have hk0 : (0 : Int) ≤ (k : Int) := by omega
      have hk1 : (k : Int) < (n : Int) := by omega
      have HAT : Hid (IntAt w a m q.2) := hat
      have HQ : Hid (LL[k]? = some q) := hq
      clear g0 g1 hat hq hLk
      go_wp2_with fail
      have hlb : b < wr.heap.size := Nat.lt_of_lt_of_le hb hbr.size
      refine (clos_any b q.1 code a a2 m n2 c c2 q.2 ys _ hlb ((hbr.cell (show b < w.heap.size from hb)).trans H1.out) ((hbr.cell (show b < w.heap.size from hb)).trans H2.out) (HAT.out.below hbr (Nat.le_refl _)) (HY.out.below hbr (Nat.le_refl _))).mono ?_
      rintro e w1 ⟨rfl, hb1⟩
      have hb2 := hbr.trans (hb1.mono hbr.size)
      clear hb1 e0 e1
      by_cases hh : q.1 = code ∧ q.2 = ys
      · rw [show decide (q.1 = code ∧ q.2 = ys) = true from decide_eq_true hh]
        have HH : Hid ((code, ys) ∈ LL) := by
          have e : q = (code, ys) := by rw [← hh.1, ← hh.2]
          rw [← e]
          exact List.mem_of_getElem? HQ.out
        clear hh
        go_wp2
        go_ret
        exact ⟨_, rfl, ⟨fun _ => HH.out, fun _ => hk0⟩, hb2⟩
      · rw [show decide (q.1 = code ∧ q.2 = ys) = false from decide_eq_false hh]
        have HH : Hid (q ≠ (code, ys)) := fun e => hh (by rw [e]; exact ⟨rfl, rfl⟩)
        clear hh
        go_wp2
        exact ⟨⟨k + 1, by omega, by go_num, no_more HNO.out HQ.out HH.out, hb2⟩, by simp [intOf]; omega⟩
    · obtain rfl : k = n := by omega
      go_wp2
      go_ret
      refine ⟨_, rfl, ?_, hbr⟩
      have h := HNO.out
      rw [HLL.out, List.take_length] at h
      simp [h]

theorem containsFunc_any (base b : Nat) (code : Int) (a2 : Option Addr) (n2 c2 : Nat) (ys : List Int) (vv : Value) (L : List (Int × Value)) (LL : List (Int × List Int)) (w : World) (hL : L.length ≤ 4) (hc : ComAt w base vv L) (ht : TellsAs w L LL)
    (hb : b < w.heap.size) (h1 : w.cell? ⟨b, 0, none⟩ = some (.int .i64 code)) (h2 : w.cell? ⟨b, 1, none⟩ = some (.slice a2 n2 c2)) (hy : IntAt w a2 n2 ys) :
    Calls Tryz.prog 49 #[vv, Clos b] w fun e w' => e = .returned (.bool (decide ((code, ys) ∈ LL))) ∧ Below w.heap.size w w' := by
  have HI : Hid (Calls Tryz.prog 70 #[vv, Clos b] w fun e w' => ∃ r : Int, e = .returned (.int .i64 r) ∧ (0 ≤ r ↔ (code, ys) ∈ LL) ∧ Below w.heap.size w w') := indexFunc_any base b code a2 n2 c2 ys vv L LL w hL hc ht hb h1 h2 hy
  obtain ⟨B, hB⟩ : ∃ B, decide ((code, ys) ∈ LL) = B := ⟨_, rfl⟩
  have HB : Hid (decide ((code, ys) ∈ LL) = B) := hB
  rw [hB]
  obtain ⟨av, cv, rfl⟩ := com_slice hc
  clear hc ht h1 h2 hy hB hL
  go_enter Tryz.func49, Tryz.ntmps49
  go_wp2_with fail
  refine HI.out.mono ?_
  rintro e w1 ⟨r, rfl, hr, hb1⟩
  have HR : Hid (0 ≤ r ↔ (code, ys) ∈ LL) := hr
  clear hr
  go_wp2
  go_ret
  refine ⟨?_, hb1⟩
  rw [← HB.out, decide_eq_decide.2 HR.out.symm]
  rfl
end
section
open Go.ChangeShapes Go.WideShapes Go.ChangeAt Go.RowKit Go.Maps
theorem allow_boxes {w W0 w' : World} {a1 a2 : Option Addr} {n1 c1 n2 c2 : Nat} {st kind k v code : Int} (hW : W0 = ((w.alloc (.cells #[.slice a1 n1 c1, .int .i64 st] 29)).alloc (.cells #[.int .i64 kind, .int .i64 k, .int .i64 v] 49)).alloc (.cells #[.int .i64 code, .slice a2 n2 c2] 50))
    (hb : Below (w.heap.size + 1 + 1 + 1) W0 w') :
    (w'.cell? ⟨w.heap.size, 0, none⟩ = some (.slice a1 n1 c1) ∧ w'.cell? ⟨w.heap.size, 1, none⟩ = some (.int .i64 st) ∧ w'.cell? ⟨w.heap.size + 1, 0, none⟩ = some (.int .i64 kind) ∧ w'.cell? ⟨w.heap.size + 1, 1, none⟩ = some (.int .i64 k) ∧ w'.cell? ⟨w.heap.size + 1, 2, none⟩ = some (.int .i64 v) ∧ w'.cell? ⟨w.heap.size + 1 + 1, 0, none⟩ = some (.int .i64 code) ∧ w'.cell? ⟨w.heap.size + 1 + 1, 1, none⟩ = some (.slice a2 n2 c2)) ∧ Below w.heap.size w w' := by
  subst hW
  have h := args_at w _ _ _ _ _ _ w' hb
  exact ⟨⟨h.1 0 _ rfl, h.1 1 _ rfl, h.2.1 0 _ rfl, h.2.1 1 _ rfl, h.2.1 2 _ rfl, h.2.2 0 _ rfl, h.2.2 1 _ rfl⟩, ((((Below.refl _ w).alloc (Nat.le_refl _) _).alloc (by simp) _).alloc (by simp; omega) _).trans (hb.mono (by omega))⟩
end
end Go.Proofs.YtecheopkfhfgkaaGreat
