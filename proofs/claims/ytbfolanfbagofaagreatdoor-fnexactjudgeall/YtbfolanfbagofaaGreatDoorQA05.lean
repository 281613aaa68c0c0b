/- Texts joined: ImplOp. -/
import Derived.Test.YtbfolanfbagofaaGreatDoorQA01
import Derived.Test.YtbfolanfbagofaaGreatDoorQA02
set_option maxHeartbeats 2000000
set_option maxRecDepth 100000
namespace Go.Proofs.YtbfolanfbagofaaGreatDoor
section
open Go.ChangeShapes Go.WideShapes Go.ChangeAt Go.RowKit
def deedT (kind : Int) : TypeId :=
 if kind = 1 then 221 else if kind = 2 then 223 else if kind = 3 then 224
 else if kind = 4 then 225 else if kind = 5 then 226 else if kind = 6 then 227
 else if kind = 7 then 228 else if kind = 8 then 229 else if kind = 9 then 230
 else if kind = 10 then 231 else 232
abbrev DeedV (kind k v : Int) : Value := .iface (deedT kind) (OpV kind k v)
theorem implDeedOf_any (kind k v : Int) (w : World) :
   Calls Tryz.prog 134 #[OpV kind k v] w fun e w' => e = .returned (DeedV kind k v) ∧ Below w.heap.size w w' := by
 by_cases h : 1 ≤ kind ∧ kind ≤ 10
 · rcases kinds h with rfl | rfl | rfl | rfl | rfl | rfl | rfl | rfl | rfl | rfl
   all_goals
     go_enter Tryz.func134, Tryz.ntmps134
     go_wp2
     go_ret
     exact ⟨rfl, (Below.refl _ _).alloc (Nat.le_refl _) _⟩
 · have hT : deedT kind = 232 := by
     unfold deedT
     rw [if_neg (by omega), if_neg (by omega), if_neg (by omega), if_neg (by omega), if_neg (by omega), if_neg (by omega), if_neg (by omega), if_neg (by omega), if_neg (by omega), if_neg (by omega)]
   have h1 : (kind == 1) = false := by simp; omega
   have h2 : (kind == 2) = false := by simp; omega
   have h3 : (kind == 3) = false := by simp; omega
   have h4 : (kind == 4) = false := by simp; omega
   have h5 : (kind == 5) = false := by simp; omega
   have h6 : (kind == 6) = false := by simp; omega
   have h7 : (kind == 7) = false := by simp; omega
   have h8 : (kind == 8) = false := by simp; omega
   have h9 : (kind == 9) = false := by simp; omega
   have h10 : (kind == 10) = false := by simp; omega
   rw [show DeedV kind k v = .iface 232 (OpV kind k v) by rw [DeedV, hT]]
   clear hT h
   go_enter Tryz.func134, Tryz.ntmps134
   go_wp2
   go_ret
   exact ⟨rfl, (Below.refl _ _).alloc (Nat.le_refl _) _⟩
theorem fits_1 (k v : Int) (w : World) :
   Calls Tryz.prog 225 #[OpV 1 k v] w fun e w' => e = .returned (.bool (decide ((0 ≤ k ∧ k ≤ 3) ∧ (1 ≤ v ∧ v ≤ 6)))) ∧ Below w.heap.size w w' := by
 obtain ⟨B, hB⟩ : ∃ B, decide ((0 ≤ k ∧ k ≤ 3) ∧ (1 ≤ v ∧ v ≤ 6)) = B := ⟨_, rfl⟩
 rw [hB]
 have HB : Hid (decide ((0 ≤ k ∧ k ≤ 3) ∧ (1 ≤ v ∧ v ≤ 6)) = B) := hB
 clear hB
 rcases tri 0 3 k (by decide) with ⟨h0, h1⟩ | ⟨h0, h1⟩ | ⟨h0, h1⟩ <;> rcases tri 1 6 v (by decide) with ⟨g0, g1⟩ | ⟨g0, g1⟩ | ⟨g0, g1⟩
 all_goals
   go_enter Tryz.func225, Tryz.ntmps225
   go_wp2
   go_ret
   refine ⟨?_, (Below.refl _ _).alloc (Nat.le_refl _) _⟩
   rw [← HB.out]
   first
     | exact says_true (by omega)
     | exact says_false (by omega)
theorem implOpOk_1 (k v : Int) (w : World) :
   Calls Tryz.prog 131 #[OpV 1 k v] w fun e w' => e = .returned (.bool (decide ((0 ≤ k ∧ k ≤ 3) ∧ (1 ≤ v ∧ v ≤ 6)))) ∧ Below w.heap.size w w' := by
 have hm : ∀ w : World, (method 396 221 (OpV 1 k v) "loop.example/g00468/impl.fits").run Tryz.prog w = .ok (225, OpV 1 k v) w := fun _ => by kernel_rfl
 obtain ⟨B, hB⟩ : ∃ B, decide ((0 ≤ k ∧ k ≤ 3) ∧ (1 ≤ v ∧ v ≤ 6)) = B := ⟨_, rfl⟩
 rw [hB]
 have HB : Hid (decide ((0 ≤ k ∧ k ≤ 3) ∧ (1 ≤ v ∧ v ≤ 6)) = B) := hB
 clear hB
 go_enter Tryz.func131, Tryz.ntmps131
 go_wp2_with fail
 refine (implDeedOf_any 1 k v _).mono ?_
 rintro e w1 ⟨rfl, hb1⟩
 rw [show DeedV 1 k v = .iface 221 (OpV 1 k v) from rfl]
 go_wp2_with fail
 refine (fits_1 k v _).mono ?_
 rintro e w2 ⟨rfl, hb2⟩
 rw [HB.out]
 have hs : w.heap.size + 1 ≤ w1.heap.size := by simpa using hb1.size
 have hall : Below w.heap.size w w2 := (((Below.refl _ w).alloc (Nat.le_refl _) _).trans (hb1.mono (by simp))).trans (hb2.mono (by omega))
 clear hb1 hb2 hm
 go_wp2
 go_ret
 exact ⟨rfl, hall⟩
theorem fits_2 (k v : Int) (w : World) :
   Calls Tryz.prog 227 #[OpV 2 k v] w fun e w' => e = .returned (.bool (decide ((0 ≤ k ∧ k ≤ 3) ∧ (1 ≤ v ∧ v ≤ 6)))) ∧ Below w.heap.size w w' := by
 obtain ⟨B, hB⟩ : ∃ B, decide ((0 ≤ k ∧ k ≤ 3) ∧ (1 ≤ v ∧ v ≤ 6)) = B := ⟨_, rfl⟩
 rw [hB]
 have HB : Hid (decide ((0 ≤ k ∧ k ≤ 3) ∧ (1 ≤ v ∧ v ≤ 6)) = B) := hB
 clear hB
 rcases tri 0 3 k (by decide) with ⟨h0, h1⟩ | ⟨h0, h1⟩ | ⟨h0, h1⟩ <;> rcases tri 1 6 v (by decide) with ⟨g0, g1⟩ | ⟨g0, g1⟩ | ⟨g0, g1⟩
 all_goals
   go_enter Tryz.func227, Tryz.ntmps227
   go_wp2
   go_ret
   refine ⟨?_, (Below.refl _ _).alloc (Nat.le_refl _) _⟩
   rw [← HB.out]
   first
     | exact says_true (by omega)
     | exact says_false (by omega)
theorem implOpOk_2 (k v : Int) (w : World) :
   Calls Tryz.prog 131 #[OpV 2 k v] w fun e w' => e = .returned (.bool (decide ((0 ≤ k ∧ k ≤ 3) ∧ (1 ≤ v ∧ v ≤ 6)))) ∧ Below w.heap.size w w' := by
 have hm : ∀ w : World, (method 396 223 (OpV 2 k v) "loop.example/g00468/impl.fits").run Tryz.prog w = .ok (227, OpV 2 k v) w := fun _ => by kernel_rfl
 obtain ⟨B, hB⟩ : ∃ B, decide ((0 ≤ k ∧ k ≤ 3) ∧ (1 ≤ v ∧ v ≤ 6)) = B := ⟨_, rfl⟩
 rw [hB]
 have HB : Hid (decide ((0 ≤ k ∧ k ≤ 3) ∧ (1 ≤ v ∧ v ≤ 6)) = B) := hB
 clear hB
 go_enter Tryz.func131, Tryz.ntmps131
 go_wp2_with fail
 refine (implDeedOf_any 2 k v _).mono ?_
 rintro e w1 ⟨rfl, hb1⟩
 rw [show DeedV 2 k v = .iface 223 (OpV 2 k v) from rfl]
 go_wp2_with fail
 refine (fits_2 k v _).mono ?_
 rintro e w2 ⟨rfl, hb2⟩
 rw [HB.out]
 have hs : w.heap.size + 1 ≤ w1.heap.size := by simpa using hb1.size
 have hall : Below w.heap.size w w2 := (((Below.refl _ w).alloc (Nat.le_refl _) _).trans (hb1.mono (by simp))).trans (hb2.mono (by omega))
 clear hb1 hb2 hm
 go_wp2
 go_ret
 exact ⟨rfl, hall⟩
theorem fits_3 (k v : Int) (w : World) :
   Calls Tryz.prog 228 #[OpV 3 k v] w fun e w' => e = .returned (.bool (decide ((0 ≤ k ∧ k ≤ 3) ∧ v = 0))) ∧ Below w.heap.size w w' := by
 obtain ⟨B, hB⟩ : ∃ B, decide ((0 ≤ k ∧ k ≤ 3) ∧ v = 0) = B := ⟨_, rfl⟩
 rw [hB]
 have HB : Hid (decide ((0 ≤ k ∧ k ≤ 3) ∧ v = 0) = B) := hB
 clear hB
 rcases tri 0 3 k (by decide) with ⟨h0, h1⟩ | ⟨h0, h1⟩ | ⟨h0, h1⟩ <;> rcases eqb v 0 with ⟨g0, g1⟩ | ⟨g0, g1⟩
 all_goals
   go_enter Tryz.func228, Tryz.ntmps228
   go_wp2
   go_ret
   refine ⟨?_, (Below.refl _ _).alloc (Nat.le_refl _) _⟩
   rw [← HB.out]
   first
     | exact says_true (by omega)
     | exact says_false (by omega)
theorem implOpOk_3 (k v : Int) (w : World) :
   Calls Tryz.prog 131 #[OpV 3 k v] w fun e w' => e = .returned (.bool (decide ((0 ≤ k ∧ k ≤ 3) ∧ v = 0))) ∧ Below w.heap.size w w' := by
 have hm : ∀ w : World, (method 396 224 (OpV 3 k v) "loop.example/g00468/impl.fits").run Tryz.prog w = .ok (228, OpV 3 k v) w := fun _ => by kernel_rfl
 obtain ⟨B, hB⟩ : ∃ B, decide ((0 ≤ k ∧ k ≤ 3) ∧ v = 0) = B := ⟨_, rfl⟩
 rw [hB]
 have HB : Hid (decide ((0 ≤ k ∧ k ≤ 3) ∧ v = 0) = B) := hB
 clear hB
 go_enter Tryz.func131, Tryz.ntmps131
 go_wp2_with fail
 refine (implDeedOf_any 3 k v _).mono ?_
 rintro e w1 ⟨rfl, hb1⟩
 rw [show DeedV 3 k v = .iface 224 (OpV 3 k v) from rfl]
 go_wp2_with fail
 refine (fits_3 k v _).mono ?_
 rintro e w2 ⟨rfl, hb2⟩
 rw [HB.out]
 have hs : w.heap.size + 1 ≤ w1.heap.size := by simpa using hb1.size
 have hall : Below w.heap.size w w2 := (((Below.refl _ w).alloc (Nat.le_refl _) _).trans (hb1.mono (by simp))).trans (hb2.mono (by omega))
 clear hb1 hb2 hm
 go_wp2
 go_ret
 exact ⟨rfl, hall⟩
theorem fits_4 (k v : Int) (w : World) :
   Calls Tryz.prog 229 #[OpV 4 k v] w fun e w' => e = .returned (.bool (decide ((0 ≤ k ∧ k ≤ 3) ∧ v = 0))) ∧ Below w.heap.size w w' := by
 obtain ⟨B, hB⟩ : ∃ B, decide ((0 ≤ k ∧ k ≤ 3) ∧ v = 0) = B := ⟨_, rfl⟩
 rw [hB]
 have HB : Hid (decide ((0 ≤ k ∧ k ≤ 3) ∧ v = 0) = B) := hB
 clear hB
 rcases tri 0 3 k (by decide) with ⟨h0, h1⟩ | ⟨h0, h1⟩ | ⟨h0, h1⟩ <;> rcases eqb v 0 with ⟨g0, g1⟩ | ⟨g0, g1⟩
 all_goals
   go_enter Tryz.func229, Tryz.ntmps229
   go_wp2
   go_ret
   refine ⟨?_, (Below.refl _ _).alloc (Nat.le_refl _) _⟩
   rw [← HB.out]
   first
     | exact says_true (by omega)
     | exact says_false (by omega)
theorem implOpOk_4 (k v : Int) (w : World) :
   Calls Tryz.prog 131 #[OpV 4 k v] w fun e w' => e = .returned (.bool (decide ((0 ≤ k ∧ k ≤ 3) ∧ v = 0))) ∧ Below w.heap.size w w' := by
 have hm : ∀ w : World, (method 396 225 (OpV 4 k v) "loop.example/g00468/impl.fits").run Tryz.prog w = .ok (229, OpV 4 k v) w := fun _ => by kernel_rfl
 obtain ⟨B, hB⟩ : ∃ B, decide ((0 ≤ k ∧ k ≤ 3) ∧ v = 0) = B := ⟨_, rfl⟩
 rw [hB]
 have HB : Hid (decide ((0 ≤ k ∧ k ≤ 3) ∧ v = 0) = B) := hB
 clear hB
 go_enter Tryz.func131, Tryz.ntmps131
 go_wp2_with fail
 refine (implDeedOf_any 4 k v _).mono ?_
 rintro e w1 ⟨rfl, hb1⟩
 rw [show DeedV 4 k v = .iface 225 (OpV 4 k v) from rfl]
 go_wp2_with fail
 refine (fits_4 k v _).mono ?_
 rintro e w2 ⟨rfl, hb2⟩
 rw [HB.out]
 have hs : w.heap.size + 1 ≤ w1.heap.size := by simpa using hb1.size
 have hall : Below w.heap.size w w2 := (((Below.refl _ w).alloc (Nat.le_refl _) _).trans (hb1.mono (by simp))).trans (hb2.mono (by omega))
 clear hb1 hb2 hm
 go_wp2
 go_ret
 exact ⟨rfl, hall⟩
theorem fits_5 (k v : Int) (w : World) :
   Calls Tryz.prog 230 #[OpV 5 k v] w fun e w' => e = .returned (.bool (decide (k = 0 ∧ (1 ≤ v ∧ v ≤ 6)))) ∧ Below w.heap.size w w' := by
 obtain ⟨B, hB⟩ : ∃ B, decide (k = 0 ∧ (1 ≤ v ∧ v ≤ 6)) = B := ⟨_, rfl⟩
 rw [hB]
 have HB : Hid (decide (k = 0 ∧ (1 ≤ v ∧ v ≤ 6)) = B) := hB
 clear hB
 rcases eqb k 0 with ⟨h0, h1⟩ | ⟨h0, h1⟩ <;> rcases tri 1 6 v (by decide) with ⟨g0, g1⟩ | ⟨g0, g1⟩ | ⟨g0, g1⟩
 all_goals
   go_enter Tryz.func230, Tryz.ntmps230
   go_wp2
   go_ret
   refine ⟨?_, (Below.refl _ _).alloc (Nat.le_refl _) _⟩
   rw [← HB.out]
   first
     | exact says_true (by omega)
     | exact says_false (by omega)
theorem implOpOk_5 (k v : Int) (w : World) :
   Calls Tryz.prog 131 #[OpV 5 k v] w fun e w' => e = .returned (.bool (decide (k = 0 ∧ (1 ≤ v ∧ v ≤ 6)))) ∧ Below w.heap.size w w' := by
 have hm : ∀ w : World, (method 396 226 (OpV 5 k v) "loop.example/g00468/impl.fits").run Tryz.prog w = .ok (230, OpV 5 k v) w := fun _ => by kernel_rfl
 obtain ⟨B, hB⟩ : ∃ B, decide (k = 0 ∧ (1 ≤ v ∧ v ≤ 6)) = B := ⟨_, rfl⟩
 rw [hB]
 have HB : Hid (decide (k = 0 ∧ (1 ≤ v ∧ v ≤ 6)) = B) := hB
 clear hB
 go_enter Tryz.func131, Tryz.ntmps131
 go_wp2_with fail
 refine (implDeedOf_any 5 k v _).mono ?_
 rintro e w1 ⟨rfl, hb1⟩
 rw [show DeedV 5 k v = .iface 226 (OpV 5 k v) from rfl]
 go_wp2_with fail
 refine (fits_5 k v _).mono ?_
 rintro e w2 ⟨rfl, hb2⟩
 rw [HB.out]
 have hs : w.heap.size + 1 ≤ w1.heap.size := by simpa using hb1.size
 have hall : Below w.heap.size w w2 := (((Below.refl _ w).alloc (Nat.le_refl _) _).trans (hb1.mono (by simp))).trans (hb2.mono (by omega))
 clear hb1 hb2 hm
 go_wp2
 go_ret
 exact ⟨rfl, hall⟩
theorem fits_6 (k v : Int) (w : World) :
   Calls Tryz.prog 231 #[OpV 6 k v] w fun e w' => e = .returned (.bool (decide ((0 ≤ k ∧ k ≤ 2) ∧ v = 0))) ∧ Below w.heap.size w w' := by
 obtain ⟨B, hB⟩ : ∃ B, decide ((0 ≤ k ∧ k ≤ 2) ∧ v = 0) = B := ⟨_, rfl⟩
 rw [hB]
 have HB : Hid (decide ((0 ≤ k ∧ k ≤ 2) ∧ v = 0) = B) := hB
 clear hB
 rcases tri 0 2 k (by decide) with ⟨h0, h1⟩ | ⟨h0, h1⟩ | ⟨h0, h1⟩ <;> rcases eqb v 0 with ⟨g0, g1⟩ | ⟨g0, g1⟩
 all_goals
   go_enter Tryz.func231, Tryz.ntmps231
   go_wp2
   go_ret
   refine ⟨?_, (Below.refl _ _).alloc (Nat.le_refl _) _⟩
   rw [← HB.out]
   first
     | exact says_true (by omega)
     | exact says_false (by omega)
theorem implOpOk_6 (k v : Int) (w : World) :
   Calls Tryz.prog 131 #[OpV 6 k v] w fun e w' => e = .returned (.bool (decide ((0 ≤ k ∧ k ≤ 2) ∧ v = 0))) ∧ Below w.heap.size w w' := by
 have hm : ∀ w : World, (method 396 227 (OpV 6 k v) "loop.example/g00468/impl.fits").run Tryz.prog w = .ok (231, OpV 6 k v) w := fun _ => by kernel_rfl
 obtain ⟨B, hB⟩ : ∃ B, decide ((0 ≤ k ∧ k ≤ 2) ∧ v = 0) = B := ⟨_, rfl⟩
 rw [hB]
 have HB : Hid (decide ((0 ≤ k ∧ k ≤ 2) ∧ v = 0) = B) := hB
 clear hB
 go_enter Tryz.func131, Tryz.ntmps131
 go_wp2_with fail
 refine (implDeedOf_any 6 k v _).mono ?_
 rintro e w1 ⟨rfl, hb1⟩
 rw [show DeedV 6 k v = .iface 227 (OpV 6 k v) from rfl]
 go_wp2_with fail
 refine (fits_6 k v _).mono ?_
 rintro e w2 ⟨rfl, hb2⟩
 rw [HB.out]
 have hs : w.heap.size + 1 ≤ w1.heap.size := by simpa using hb1.size
 have hall : Below w.heap.size w w2 := (((Below.refl _ w).alloc (Nat.le_refl _) _).trans (hb1.mono (by simp))).trans (hb2.mono (by omega))
 clear hb1 hb2 hm
 go_wp2
 go_ret
 exact ⟨rfl, hall⟩
theorem fits_7 (k v : Int) (w : World) :
   Calls Tryz.prog 232 #[OpV 7 k v] w fun e w' => e = .returned (.bool (decide (k = 0 ∧ v = 0))) ∧ Below w.heap.size w w' := by
 obtain ⟨B, hB⟩ : ∃ B, decide (k = 0 ∧ v = 0) = B := ⟨_, rfl⟩
 rw [hB]
 have HB : Hid (decide (k = 0 ∧ v = 0) = B) := hB
 clear hB
 rcases eqb k 0 with ⟨h0, h1⟩ | ⟨h0, h1⟩ <;> rcases eqb v 0 with ⟨g0, g1⟩ | ⟨g0, g1⟩
 all_goals
   go_enter Tryz.func232, Tryz.ntmps232
   go_wp2
   go_ret
   refine ⟨?_, (Below.refl _ _).alloc (Nat.le_refl _) _⟩
   rw [← HB.out]
   first
     | exact says_true (by omega)
     | exact says_false (by omega)
theorem implOpOk_7 (k v : Int) (w : World) :
   Calls Tryz.prog 131 #[OpV 7 k v] w fun e w' => e = .returned (.bool (decide (k = 0 ∧ v = 0))) ∧ Below w.heap.size w w' := by
 have hm : ∀ w : World, (method 396 228 (OpV 7 k v) "loop.example/g00468/impl.fits").run Tryz.prog w = .ok (232, OpV 7 k v) w := fun _ => by kernel_rfl
 obtain ⟨B, hB⟩ : ∃ B, decide (k = 0 ∧ v = 0) = B := ⟨_, rfl⟩
 rw [hB]
 have HB : Hid (decide (k = 0 ∧ v = 0) = B) := hB
 clear hB
 go_enter Tryz.func131, Tryz.ntmps131
 go_wp2_with fail
 refine (implDeedOf_any 7 k v _).mono ?_
 rintro e w1 ⟨rfl, hb1⟩
 rw [show DeedV 7 k v = .iface 228 (OpV 7 k v) from rfl]
 go_wp2_with fail
 refine (fits_7 k v _).mono ?_
 rintro e w2 ⟨rfl, hb2⟩
 rw [HB.out]
 have hs : w.heap.size + 1 ≤ w1.heap.size := by simpa using hb1.size
 have hall : Below w.heap.size w w2 := (((Below.refl _ w).alloc (Nat.le_refl _) _).trans (hb1.mono (by simp))).trans (hb2.mono (by omega))
 clear hb1 hb2 hm
 go_wp2
 go_ret
 exact ⟨rfl, hall⟩
theorem fits_8 (k v : Int) (w : World) :
   Calls Tryz.prog 233 #[OpV 8 k v] w fun e w' => e = .returned (.bool (decide (k = 0 ∧ v = 0))) ∧ Below w.heap.size w w' := by
 obtain ⟨B, hB⟩ : ∃ B, decide (k = 0 ∧ v = 0) = B := ⟨_, rfl⟩
 rw [hB]
 have HB : Hid (decide (k = 0 ∧ v = 0) = B) := hB
 clear hB
 rcases eqb k 0 with ⟨h0, h1⟩ | ⟨h0, h1⟩ <;> rcases eqb v 0 with ⟨g0, g1⟩ | ⟨g0, g1⟩
 all_goals
   go_enter Tryz.func233, Tryz.ntmps233
   go_wp2
   go_ret
   refine ⟨?_, (Below.refl _ _).alloc (Nat.le_refl _) _⟩
   rw [← HB.out]
   first
     | exact says_true (by omega)
     | exact says_false (by omega)
theorem implOpOk_8 (k v : Int) (w : World) :
   Calls Tryz.prog 131 #[OpV 8 k v] w fun e w' => e = .returned (.bool (decide (k = 0 ∧ v = 0))) ∧ Below w.heap.size w w' := by
 have hm : ∀ w : World, (method 396 229 (OpV 8 k v) "loop.example/g00468/impl.fits").run Tryz.prog w = .ok (233, OpV 8 k v) w := fun _ => by kernel_rfl
 obtain ⟨B, hB⟩ : ∃ B, decide (k = 0 ∧ v = 0) = B := ⟨_, rfl⟩
 rw [hB]
 have HB : Hid (decide (k = 0 ∧ v = 0) = B) := hB
 clear hB
 go_enter Tryz.func131, Tryz.ntmps131
 go_wp2_with fail
 refine (implDeedOf_any 8 k v _).mono ?_
 rintro e w1 ⟨rfl, hb1⟩
 rw [show DeedV 8 k v = .iface 229 (OpV 8 k v) from rfl]
 go_wp2_with fail
 refine (fits_8 k v _).mono ?_
 rintro e w2 ⟨rfl, hb2⟩
 rw [HB.out]
 have hs : w.heap.size + 1 ≤ w1.heap.size := by simpa using hb1.size
 have hall : Below w.heap.size w w2 := (((Below.refl _ w).alloc (Nat.le_refl _) _).trans (hb1.mono (by simp))).trans (hb2.mono (by omega))
 clear hb1 hb2 hm
 go_wp2
 go_ret
 exact ⟨rfl, hall⟩
theorem fits_9 (k v : Int) (w : World) :
   Calls Tryz.prog 234 #[OpV 9 k v] w fun e w' => e = .returned (.bool (decide (k = 0 ∧ v = 0))) ∧ Below w.heap.size w w' := by
 obtain ⟨B, hB⟩ : ∃ B, decide (k = 0 ∧ v = 0) = B := ⟨_, rfl⟩
 rw [hB]
 have HB : Hid (decide (k = 0 ∧ v = 0) = B) := hB
 clear hB
 rcases eqb k 0 with ⟨h0, h1⟩ | ⟨h0, h1⟩ <;> rcases eqb v 0 with ⟨g0, g1⟩ | ⟨g0, g1⟩
 all_goals
   go_enter Tryz.func234, Tryz.ntmps234
   go_wp2
   go_ret
   refine ⟨?_, (Below.refl _ _).alloc (Nat.le_refl _) _⟩
   rw [← HB.out]
   first
     | exact says_true (by omega)
     | exact says_false (by omega)
theorem implOpOk_9 (k v : Int) (w : World) :
   Calls Tryz.prog 131 #[OpV 9 k v] w fun e w' => e = .returned (.bool (decide (k = 0 ∧ v = 0))) ∧ Below w.heap.size w w' := by
 have hm : ∀ w : World, (method 396 230 (OpV 9 k v) "loop.example/g00468/impl.fits").run Tryz.prog w = .ok (234, OpV 9 k v) w := fun _ => by kernel_rfl
 obtain ⟨B, hB⟩ : ∃ B, decide (k = 0 ∧ v = 0) = B := ⟨_, rfl⟩
 rw [hB]
 have HB : Hid (decide (k = 0 ∧ v = 0) = B) := hB
 clear hB
 go_enter Tryz.func131, Tryz.ntmps131
 go_wp2_with fail
 refine (implDeedOf_any 9 k v _).mono ?_
 rintro e w1 ⟨rfl, hb1⟩
 rw [show DeedV 9 k v = .iface 230 (OpV 9 k v) from rfl]
 go_wp2_with fail
 refine (fits_9 k v _).mono ?_
 rintro e w2 ⟨rfl, hb2⟩
 rw [HB.out]
 have hs : w.heap.size + 1 ≤ w1.heap.size := by simpa using hb1.size
 have hall : Below w.heap.size w w2 := (((Below.refl _ w).alloc (Nat.le_refl _) _).trans (hb1.mono (by simp))).trans (hb2.mono (by omega))
 clear hb1 hb2 hm
 go_wp2
 go_ret
 exact ⟨rfl, hall⟩
theorem fits_10 (k v : Int) (w : World) :
   Calls Tryz.prog 235 #[OpV 10 k v] w fun e w' => e = .returned (.bool (decide (k = 0 ∧ (1 ≤ v ∧ v ≤ 6)))) ∧ Below w.heap.size w w' := by
 obtain ⟨B, hB⟩ : ∃ B, decide (k = 0 ∧ (1 ≤ v ∧ v ≤ 6)) = B := ⟨_, rfl⟩
 rw [hB]
 have HB : Hid (decide (k = 0 ∧ (1 ≤ v ∧ v ≤ 6)) = B) := hB
 clear hB
 rcases eqb k 0 with ⟨h0, h1⟩ | ⟨h0, h1⟩ <;> rcases tri 1 6 v (by decide) with ⟨g0, g1⟩ | ⟨g0, g1⟩ | ⟨g0, g1⟩
 all_goals
   go_enter Tryz.func235, Tryz.ntmps235
   go_wp2
   go_ret
   refine ⟨?_, (Below.refl _ _).alloc (Nat.le_refl _) _⟩
   rw [← HB.out]
   first
     | exact says_true (by omega)
     | exact says_false (by omega)
theorem implOpOk_10 (k v : Int) (w : World) :
   Calls Tryz.prog 131 #[OpV 10 k v] w fun e w' => e = .returned (.bool (decide (k = 0 ∧ (1 ≤ v ∧ v ≤ 6)))) ∧ Below w.heap.size w w' := by
 have hm : ∀ w : World, (method 396 231 (OpV 10 k v) "loop.example/g00468/impl.fits").run Tryz.prog w = .ok (235, OpV 10 k v) w := fun _ => by kernel_rfl
 obtain ⟨B, hB⟩ : ∃ B, decide (k = 0 ∧ (1 ≤ v ∧ v ≤ 6)) = B := ⟨_, rfl⟩
 rw [hB]
 have HB : Hid (decide (k = 0 ∧ (1 ≤ v ∧ v ≤ 6)) = B) := hB
 clear hB
 go_enter Tryz.func131, Tryz.ntmps131
 go_wp2_with fail
 refine (implDeedOf_any 10 k v _).mono ?_
 rintro e w1 ⟨rfl, hb1⟩
 rw [show DeedV 10 k v = .iface 231 (OpV 10 k v) from rfl]
 go_wp2_with fail
 refine (fits_10 k v _).mono ?_
 rintro e w2 ⟨rfl, hb2⟩
 rw [HB.out]
 have hs : w.heap.size + 1 ≤ w1.heap.size := by simpa using hb1.size
 have hall : Below w.heap.size w w2 := (((Below.refl _ w).alloc (Nat.le_refl _) _).trans (hb1.mono (by simp))).trans (hb2.mono (by omega))
 clear hb1 hb2 hm
 go_wp2
 go_ret
 exact ⟨rfl, hall⟩
theorem implOpOk_none (kind k v : Int) (w : World) (h : ¬ (1 ≤ kind ∧ kind ≤ 10)) :
   Calls Tryz.prog 131 #[OpV kind k v] w fun e w' => e = .returned (.bool false) ∧ Below w.heap.size w w' := by
 have hm : ∀ w : World, (method 396 232 (OpV kind k v) "loop.example/g00468/impl.fits").run Tryz.prog w = .ok (236, OpV kind k v) w := fun _ => by kernel_rfl
 have hT : deedT kind = 232 := by
   unfold deedT
   rw [if_neg (by omega), if_neg (by omega), if_neg (by omega), if_neg (by omega), if_neg (by omega), if_neg (by omega), if_neg (by omega), if_neg (by omega), if_neg (by omega), if_neg (by omega)]
 go_enter Tryz.func131, Tryz.ntmps131
 go_wp2_with fail
 refine (implDeedOf_any kind k v _).mono ?_
 rintro e w1 ⟨rfl, hb1⟩
 rw [show DeedV kind k v = .iface 232 (OpV kind k v) by rw [DeedV, hT]]
 clear hT
 have hs : w.heap.size + 1 ≤ w1.heap.size := by simpa using hb1.size
 have hall : Below w.heap.size w w1 := (((Below.refl _ w).alloc (Nat.le_refl _) _).trans (hb1.mono (by simp)))
 clear hb1 h
 go_wp2
 go_ret
 first
   | exact ⟨rfl, hall⟩
   | exact ⟨rfl, hall.alloc (by omega) _⟩
theorem implOpOk_any (kind k v : Int) (w : World) :
   Calls Tryz.prog 131 #[OpV kind k v] w fun e w' => e = .returned (.bool (decide (OpGood kind k v))) ∧ Below w.heap.size w w' := by
 by_cases h : 1 ≤ kind ∧ kind ≤ 10
 · have key : ∀ (P : Prop) [Decidable P], (OpGood kind k v ↔ P) → decide P = decide (OpGood kind k v) := fun P _ hP => decide_eq_decide.2 hP.symm
   rcases kinds h with rfl | rfl | rfl | rfl | rfl | rfl | rfl | rfl | rfl | rfl
   · refine (implOpOk_1 k v w).mono ?_
     rintro e w' ⟨rfl, hb⟩
     exact ⟨by rw [key _ (by unfold OpGood KeyGood ValGood; omega)], hb⟩
   · refine (implOpOk_2 k v w).mono ?_
     rintro e w' ⟨rfl, hb⟩
     exact ⟨by rw [key _ (by unfold OpGood KeyGood ValGood; omega)], hb⟩
   · refine (implOpOk_3 k v w).mono ?_
     rintro e w' ⟨rfl, hb⟩
     exact ⟨by rw [key _ (by unfold OpGood KeyGood ValGood; omega)], hb⟩
   · refine (implOpOk_4 k v w).mono ?_
     rintro e w' ⟨rfl, hb⟩
     exact ⟨by rw [key _ (by unfold OpGood KeyGood ValGood; omega)], hb⟩
   · refine (implOpOk_5 k v w).mono ?_
     rintro e w' ⟨rfl, hb⟩
     exact ⟨by rw [key _ (by unfold OpGood KeyGood ValGood; omega)], hb⟩
   · refine (implOpOk_6 k v w).mono ?_
     rintro e w' ⟨rfl, hb⟩
     exact ⟨by rw [key _ (by unfold OpGood KeyGood ValGood; omega)], hb⟩
   · refine (implOpOk_7 k v w).mono ?_
     rintro e w' ⟨rfl, hb⟩
     exact ⟨by rw [key _ (by unfold OpGood KeyGood ValGood; omega)], hb⟩
   · refine (implOpOk_8 k v w).mono ?_
     rintro e w' ⟨rfl, hb⟩
     exact ⟨by rw [key _ (by unfold OpGood KeyGood ValGood; omega)], hb⟩
   · refine (implOpOk_9 k v w).mono ?_
     rintro e w' ⟨rfl, hb⟩
     exact ⟨by rw [key _ (by unfold OpGood KeyGood ValGood; omega)], hb⟩
   · refine (implOpOk_10 k v w).mono ?_
     rintro e w' ⟨rfl, hb⟩
     exact ⟨by rw [key _ (by unfold OpGood KeyGood ValGood; omega)], hb⟩
 · refine (implOpOk_none kind k v w h).mono ?_
   rintro e w' ⟨rfl, hb⟩
   exact ⟨by rw [decide_eq_false (fun g => h g.1)], hb⟩
end
end Go.Proofs.YtbfolanfbagofaaGreatDoor
