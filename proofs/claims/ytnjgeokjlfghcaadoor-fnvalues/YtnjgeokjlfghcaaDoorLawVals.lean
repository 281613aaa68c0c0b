/- FnValues, walked from what the program's functions are said to answer. -/
import Derived.Test.YtnjgeokjlfghcaaDoorRows
import Derived.Test.YtnjgeokjlfghcaaDoorTie
import Derived.Test.YtnjgeokjlfghcaaDoorCards
import Derived.Test.YtnjgeokjlfghcaaDoorSpecVx
import Derived.Test.YtnjgeokjlfghcaaDoorSpecVl
import Derived.Test.YtnjgeokjlfghcaaDoorSpecVs
import Derived.Test.YtnjgeokjlfghcaaDoorOrd18
import Derived.Test.YtnjgeokjlfghcaaDoorDrawV5
import Derived.Test.YtnjgeokjlfghcaaDoorPowT
import Derived.Test.YtnjgeokjlfghcaaDoorSameI
import Derived.WalkKit
import Derived.ProofKit
import Derived.OpenShut
import Derived.ChangeOld
import Derived.Below
import Derived.LaidMore
import Derived.Stop.Joined
import Derived.Stop.LaidErr
import Derived.Lib.LaidTab
import Derived.Lib.SmallJoins
import Derived.MakeChecks
import Derived.SevenTiedAt
import Derived.Deep.RegionHeld3
import Derived.Deep.Cut
namespace Go.Proofs.YtnjgeokjlfghcaaDoor
open Go.ChangeShapes Go.WideShapes Go.ChangeAt Go.RowKit Go.Joins
open Go.Lib (itoa)

theorem itoa_some (n : Int) : itoa n ≠ [] := by
  intro h
  unfold itoa at h
  split at h
  · cases h
  · have h1 := congrArg List.length h
    rw [Lib.decDigits_length, List.length_nil] at h1
    have := Lib.nDigits_pos n.toNat
    omega
namespace fnValues
theorem own : ownKnob Tryd.prog.godebug = none := by kernel_rfl
theorem laidOut : laidOutB Tryd.prog = true := by kernel_rfl
theorem pick6 {A B C D E F G : Prop} (h : A ∧ B ∧ C ∧ D ∧ E ∧ F ∧ G) : A ∧ B ∧ C ∧ D ∧ E ∧ F := ⟨h.1, h.2.1, h.2.2.1, h.2.2.2.1, h.2.2.2.2.1, h.2.2.2.2.2.1⟩
theorem less_self (k n : Int) (s : ByteArray) : lessV k n s k n s = false := by
  unfold lessV
  rw [if_pos rfl, if_pos rfl]
  exact bl_self _
theorem valB_some (k n : Int) (s : ByteArray) : valB k n s ≠ [] := by
  intro h
  unfold valB at h
  split at h
  · cases h
  · split at h
    · split at h <;> cases h
    · split at h
      · exact itoa_some n h
      · split at h <;> cases h
/-- What the law asks of the program's functions. -/
def AskOk : Prop := ∀ (k n : Int) (s : ByteArray) (w : World), Calls Tryd.prog 14 #[VaV k n s] w fun e w' => e = .returned (.bool (decide (VaGood k n s))) ∧ Below w.heap.size w w'
def AskL : Prop := ∀ (k n : Int) (s : ByteArray) (k' n' : Int) (s' : ByteArray) (w : World), Calls Tryd.prog 10 #[VaV k n s, VaV k' n' s'] w fun e w' => e = .returned (.bool (lessV k n s k' n' s')) ∧ Below w.heap.size w w'
def AskS : Prop := ∀ (k n : Int) (s : ByteArray) (k' n' : Int) (s' : ByteArray) (w : World), Calls Tryd.prog 12 #[VaV k n s, VaV k' n' s'] w fun e w' => e = .returned (.bool (sameV k n s k' n' s')) ∧ Below w.heap.size w w'
def AskT : Prop := ∀ (k n : Int) (s : ByteArray) (w : World), PowT w → Calls Tryd.prog 16 #[VaV k n s] w fun e w' => TextSays e (valB k n s) ∧ Below w.heap.size w w'
set_option maxHeartbeats 8000000 in
set_option maxRecDepth 100000 in
theorem values_walk (a : Option Addr) (n c : Nat) (w : World) (hB : BytesAt w w.heap.size a n) (hT : PowT w) (iOk : AskOk) (iL : AskL) (iS : AskS) (iT : AskT) :
    Calls Tryd.prog 3 #[.slice a n c] w fun e w' => e = .returned (.bool true) ∧ Below w.heap.size w w' := by
  have HB : Hid (BytesAt w w.heap.size a n) := hB
  have HT : Hid (PowT w) := hT
  have IOk : Hid (∀ (k n : Int) (s : ByteArray) (w : World), Calls Tryd.prog 14 #[VaV k n s] w fun e w' => e = .returned (.bool (decide (VaGood k n s))) ∧ Below w.heap.size w w') := iOk
  have IL : Hid (∀ (k n : Int) (s : ByteArray) (k' n' : Int) (s' : ByteArray) (w : World), Calls Tryd.prog 10 #[VaV k n s, VaV k' n' s'] w fun e w' => e = .returned (.bool (lessV k n s k' n' s')) ∧ Below w.heap.size w w') := iL
  have IS : Hid (∀ (k n : Int) (s : ByteArray) (k' n' : Int) (s' : ByteArray) (w : World), Calls Tryd.prog 12 #[VaV k n s, VaV k' n' s'] w fun e w' => e = .returned (.bool (sameV k n s k' n' s')) ∧ Below w.heap.size w w') := iS
  have IT : Hid (∀ (k n : Int) (s : ByteArray) (w : World), PowT w → Calls Tryd.prog 16 #[VaV k n s] w fun e w' => TextSays e (valB k n s) ∧ Below w.heap.size w w') := iT
  clear hB hT iOk iL iS iT
  by_cases hbig : 1048576 < n
  · go_enter Tryd.func3, Tryd.ntmps3
    go_wp2_with fail
    refine (bigI a n c w).mono ?_
    rintro e w0 ⟨rfl, hw⟩
    rw [hw, decide_eq_true hbig]
    go_wp2
    go_ret
    exact ⟨rfl, Below.refl _ _⟩
  have hn : n ≤ 1048576 := by omega
  go_enter Tryd.func3, Tryd.ntmps3
  go_wp2_with fail
  refine (bigI a n c w).mono ?_
  rintro e w0 ⟨rfl, hw⟩
  rw [hw, decide_eq_false hbig]
  clear hw hbig
  obtain ⟨w0', hw0⟩ : ∃ w0', w = w0' := ⟨_, rfl⟩
  have B0 : Hid (Below w.heap.size w w) := Below.refl _ _
  clear hw0
  go_upto_region 4 with
    (go_at_call 6
     refine (drawValueLess_any a n c _ hn HB.out).mono ?_
     rintro e u1 ⟨⟨k1, m1, s1, k2, m2, s2, rfl, -, -⟩, hb⟩
     have HBU1 : Hid (Below w.heap.size w u1) := hb
     clear hb)
  obtain ⟨g1, hgi⟩ : ∃ g, u1.heap.size = g := ⟨_, rfl⟩
  obtain ⟨g2, hgj⟩ : ∃ g, g1 + 1 = g := ⟨_, rfl⟩
  obtain ⟨w2, hw⟩ : ∃ W, (u1.alloc (.cells #[.int .i64 k1, .int .i64 m1, .string s1] 25)).alloc (.cells #[.int .i64 k2, .int .i64 m2, .string s2] 25) = W := ⟨_, rfl⟩
  have G1 : Hid (u1.heap.size = g1) := hgi
  have G2 : Hid (g1 + 1 = g2) := hgj
  have HW2 : Hid ((u1.alloc (.cells #[.int .i64 k1, .int .i64 m1, .string s1] 25)).alloc (.cells #[.int .i64 k2, .int .i64 m2, .string s2] 25) = w2) := hw
  have X1 : Hid (Box w2 g1 #[.int .i64 k1, .int .i64 m1, .string s1] 25) := by rw [← hw, ← hgi]; exact (box_of _ _ _).alloc _
  have X2 : Hid (Box w2 g2 #[.int .i64 k2, .int .i64 m2, .string s2] 25) := by rw [← hw, ← hgj, ← hgi]; have := box_of (u1.alloc (.cells #[.int .i64 k1, .int .i64 m1, .string s1] 25)) #[.int .i64 k2, .int .i64 m2, .string s2] 25; rwa [World.size_alloc] at this
  have BB2 := B0.out.trans (HBU1.out.mono B0.out.size)
  have B2 : Hid (Below w.heap.size w w2) := by rw [← hw]; exact (BB2.alloc BB2.size _).alloc (Nat.le_trans BB2.size (by simp)) _
  have BS2 : Hid (Below w.heap.size w w2) := by rw [← hw]; exact (HBU1.out.alloc HBU1.out.size _).alloc (Nat.le_trans HBU1.out.size (by simp)) _
  rw [HW2.out, G1.out]
  (try rw [G2.out])
  clear hw hgi hgj BB2
  go_upto_region 5 with
    (go_at_call 7
     refine (drawValueSame_any a n c _ hn (bytes_nowV HB.out B2.out)).mono ?_
     rintro e u3 ⟨⟨k3, m3, s3, k4, m4, s4, rfl, -, -⟩, hb⟩
     have HBU3 : Hid (Below w2.heap.size w2 u3) := hb
     clear hb)
  obtain ⟨g3, hgi⟩ : ∃ g, u3.heap.size = g := ⟨_, rfl⟩
  obtain ⟨g4, hgj⟩ : ∃ g, g3 + 1 = g := ⟨_, rfl⟩
  obtain ⟨w4, hw⟩ : ∃ W, (u3.alloc (.cells #[.int .i64 k3, .int .i64 m3, .string s3] 25)).alloc (.cells #[.int .i64 k4, .int .i64 m4, .string s4] 25) = W := ⟨_, rfl⟩
  have G3 : Hid (u3.heap.size = g3) := hgi
  have G4 : Hid (g3 + 1 = g4) := hgj
  have HW4 : Hid ((u3.alloc (.cells #[.int .i64 k3, .int .i64 m3, .string s3] 25)).alloc (.cells #[.int .i64 k4, .int .i64 m4, .string s4] 25) = w4) := hw
  have X3 : Hid (Box w4 g3 #[.int .i64 k3, .int .i64 m3, .string s3] 25) := by rw [← hw, ← hgi]; exact (box_of _ _ _).alloc _
  have X4 : Hid (Box w4 g4 #[.int .i64 k4, .int .i64 m4, .string s4] 25) := by rw [← hw, ← hgj, ← hgi]; have := box_of (u3.alloc (.cells #[.int .i64 k3, .int .i64 m3, .string s3] 25)) #[.int .i64 k4, .int .i64 m4, .string s4] 25; rwa [World.size_alloc] at this
  have BB4 := B2.out.trans (HBU3.out.mono B2.out.size)
  have B4 : Hid (Below w.heap.size w w4) := by rw [← hw]; exact (BB4.alloc BB4.size _).alloc (Nat.le_trans BB4.size (by simp)) _
  have BS4 : Hid (Below w2.heap.size w2 w4) := by rw [← hw]; exact (HBU3.out.alloc HBU3.out.size _).alloc (Nat.le_trans HBU3.out.size (by simp)) _
  rw [HW4.out, G3.out]
  (try rw [G4.out])
  clear hw hgi hgj BB4
  go_upto_region 6 with (first
    | (go_at_call 8
       refine (drawValueOk_any a n c _ hn (bytes_nowV HB.out B4.out)).mono ?_
       rintro e u5 ⟨k5, m5, s5, rfl, -, hb⟩
       have HBU5 : Hid (Below w4.heap.size w4 u5) := hb
       have BU5 : Hid (Below w.heap.size w u5) := B4.out.trans (hb.mono B4.out.size)
       clear hb)
    | (go_at_call 9
       refine (drawValueText_any a n c _ hn (bytes_nowV HB.out BU5.out)).mono ?_
       rintro e u6 ⟨k6, m6, s6, rfl, -, hb⟩
       have HBU6 : Hid (Below u5.heap.size u5 u6) := hb
       have BU6 : Hid (Below w.heap.size w u6) := BU5.out.trans (hb.mono BU5.out.size)
       clear hb))
  obtain ⟨g5, hgi⟩ : ∃ g, u6.heap.size = g := ⟨_, rfl⟩
  obtain ⟨g6, hgj⟩ : ∃ g, g5 + 1 = g := ⟨_, rfl⟩
  obtain ⟨w6, hw⟩ : ∃ W, (u6.alloc (.cells #[.int .i64 k5, .int .i64 m5, .string s5] 25)).alloc (.cells #[.int .i64 k6, .int .i64 m6, .string s6] 25) = W := ⟨_, rfl⟩
  have G5 : Hid (u6.heap.size = g5) := hgi
  have G6 : Hid (g5 + 1 = g6) := hgj
  have HW6 : Hid ((u6.alloc (.cells #[.int .i64 k5, .int .i64 m5, .string s5] 25)).alloc (.cells #[.int .i64 k6, .int .i64 m6, .string s6] 25) = w6) := hw
  have X5 : Hid (Box w6 g5 #[.int .i64 k5, .int .i64 m5, .string s5] 25) := by rw [← hw, ← hgi]; exact (box_of _ _ _).alloc _
  have X6 : Hid (Box w6 g6 #[.int .i64 k6, .int .i64 m6, .string s6] 25) := by rw [← hw, ← hgj, ← hgi]; have := box_of (u6.alloc (.cells #[.int .i64 k5, .int .i64 m5, .string s5] 25)) #[.int .i64 k6, .int .i64 m6, .string s6] 25; rwa [World.size_alloc] at this
  have B6 : Hid (Below w.heap.size w w6) := by rw [← hw]; exact (BU6.out.alloc BU6.out.size _).alloc (Nat.le_trans BU6.out.size (by simp)) _
  have BS6 : Hid (Below w4.heap.size w4 w6) := by
    have h1 := HBU5.out.trans (HBU6.out.mono HBU5.out.size)
    rw [← hw]; exact (h1.alloc h1.size _).alloc (Nat.le_trans h1.size (by simp)) _
  rw [HW6.out, G5.out]
  (try rw [G6.out])
  clear hw hgi hgj
  have KS : Hid (∀ z, Below w6.heap.size w6 z → z.cell? ⟨g1, 0, none⟩ = some (.int .i64 k1) ∧ z.cell? ⟨g1, 1, none⟩ = some (.int .i64 m1) ∧ z.cell? ⟨g1, 2, none⟩ = some (.string s1) ∧ z.cell? ⟨g2, 0, none⟩ = some (.int .i64 k2) ∧ z.cell? ⟨g2, 1, none⟩ = some (.int .i64 m2) ∧ z.cell? ⟨g2, 2, none⟩ = some (.string s2) ∧ z.cell? ⟨g3, 0, none⟩ = some (.int .i64 k3) ∧ z.cell? ⟨g3, 1, none⟩ = some (.int .i64 m3) ∧ z.cell? ⟨g3, 2, none⟩ = some (.string s3) ∧ z.cell? ⟨g4, 0, none⟩ = some (.int .i64 k4) ∧ z.cell? ⟨g4, 1, none⟩ = some (.int .i64 m4) ∧ z.cell? ⟨g4, 2, none⟩ = some (.string s4) ∧ z.cell? ⟨g5, 0, none⟩ = some (.int .i64 k5) ∧ z.cell? ⟨g5, 1, none⟩ = some (.int .i64 m5) ∧ z.cell? ⟨g5, 2, none⟩ = some (.string s5) ∧ z.cell? ⟨g6, 0, none⟩ = some (.int .i64 k6) ∧ z.cell? ⟨g6, 1, none⟩ = some (.int .i64 m6) ∧ z.cell? ⟨g6, 2, none⟩ = some (.string s6)) := fun z hb => by
    have b1 := (X1.out.below BS4.out X1.out.lt).below BS6.out (X1.out.below BS4.out X1.out.lt).lt
    have b2 := (X2.out.below BS4.out X2.out.lt).below BS6.out (X2.out.below BS4.out X2.out.lt).lt
    have b3 := X3.out.below BS6.out X3.out.lt
    have b4 := X4.out.below BS6.out X4.out.lt
    obtain ⟨p1, p2, p3⟩ := (b1.below hb b1.lt).triV
    obtain ⟨p4, p5, p6⟩ := (b2.below hb b2.lt).triV
    obtain ⟨p7, p8, p9⟩ := (b3.below hb b3.lt).triV
    obtain ⟨q1, q2, q3⟩ := (b4.below hb b4.lt).triV
    obtain ⟨q4, q5, q6⟩ := (X5.out.below hb X5.out.lt).triV
    obtain ⟨q7, q8, q9⟩ := (X6.out.below hb X6.out.lt).triV
    exact ⟨p1, p2, p3, p4, p5, p6, p7, p8, p9, q1, q2, q3, q4, q5, q6, q7, q8, q9⟩
  have K0 : Hid (w6.drew.cell? ⟨g1, 0, none⟩ = some (.int .i64 k1) ∧ w6.drew.cell? ⟨g1, 1, none⟩ = some (.int .i64 m1) ∧ w6.drew.cell? ⟨g1, 2, none⟩ = some (.string s1) ∧ w6.drew.cell? ⟨g2, 0, none⟩ = some (.int .i64 k2) ∧ w6.drew.cell? ⟨g2, 1, none⟩ = some (.int .i64 m2) ∧ w6.drew.cell? ⟨g2, 2, none⟩ = some (.string s2) ∧ w6.drew.cell? ⟨g3, 0, none⟩ = some (.int .i64 k3) ∧ w6.drew.cell? ⟨g3, 1, none⟩ = some (.int .i64 m3) ∧ w6.drew.cell? ⟨g3, 2, none⟩ = some (.string s3) ∧ w6.drew.cell? ⟨g4, 0, none⟩ = some (.int .i64 k4) ∧ w6.drew.cell? ⟨g4, 1, none⟩ = some (.int .i64 m4) ∧ w6.drew.cell? ⟨g4, 2, none⟩ = some (.string s4) ∧ w6.drew.cell? ⟨g5, 0, none⟩ = some (.int .i64 k5) ∧ w6.drew.cell? ⟨g5, 1, none⟩ = some (.int .i64 m5) ∧ w6.drew.cell? ⟨g5, 2, none⟩ = some (.string s5) ∧ w6.drew.cell? ⟨g6, 0, none⟩ = some (.int .i64 k6) ∧ w6.drew.cell? ⟨g6, 1, none⟩ = some (.int .i64 m6) ∧ w6.drew.cell? ⟨g6, 2, none⟩ = some (.string s6)) := KS.out _ (Below.refl _ _).drew
  obtain ⟨bl, hbl⟩ : ∃ bl, lessV k1 m1 s1 k2 m2 s2 = bl := ⟨_, rfl⟩
  obtain ⟨bl', hbl'⟩ : ∃ bl', lessV k2 m2 s2 k1 m1 s1 = bl' := ⟨_, rfl⟩
  obtain ⟨bs, hbs⟩ : ∃ bs, sameV k1 m1 s1 k2 m2 s2 = bs := ⟨_, rfl⟩
  obtain ⟨bt, hbt⟩ : ∃ bt, sameV k3 m3 s3 k4 m4 s4 = bt := ⟨_, rfl⟩
  obtain ⟨bo, hbo⟩ : ∃ bo, decide (VaGood k5 m5 s5) = bo := ⟨_, rfl⟩
  have HBL : Hid (lessV k1 m1 s1 k2 m2 s2 = bl) := hbl
  have HBL' : Hid (lessV k2 m2 s2 k1 m1 s1 = bl') := hbl'
  have HBS : Hid (sameV k1 m1 s1 k2 m2 s2 = bs) := hbs
  have HBT : Hid (sameV k3 m3 s3 k4 m4 s4 = bt) := hbt
  have HBO : Hid (decide (VaGood k5 m5 s5) = bo) := hbo
  have n1 : (bl != bl) = false := by cases bl <;> rfl
  have n2 : (bt != bt) = false := by cases bt <;> rfl
  have n3 : (bo != bo) = false := by cases bo <;> rfl
  clear hbl hbl' hbs hbt hbo
  go_region_held3 (fun w' => w'.cell? ⟨g1, 0, none⟩ = some (.int .i64 k1) ∧ w'.cell? ⟨g1, 1, none⟩ = some (.int .i64 m1) ∧ w'.cell? ⟨g1, 2, none⟩ = some (.string s1) ∧ w'.cell? ⟨g2, 0, none⟩ = some (.int .i64 k2) ∧ w'.cell? ⟨g2, 1, none⟩ = some (.int .i64 m2) ∧ w'.cell? ⟨g2, 2, none⟩ = some (.string s2) ∧ w'.cell? ⟨g3, 0, none⟩ = some (.int .i64 k3) ∧ w'.cell? ⟨g3, 1, none⟩ = some (.int .i64 m3) ∧ w'.cell? ⟨g3, 2, none⟩ = some (.string s3) ∧ w'.cell? ⟨g4, 0, none⟩ = some (.int .i64 k4) ∧ w'.cell? ⟨g4, 1, none⟩ = some (.int .i64 m4) ∧ w'.cell? ⟨g4, 2, none⟩ = some (.string s4) ∧ w'.cell? ⟨g5, 0, none⟩ = some (.int .i64 k5) ∧ w'.cell? ⟨g5, 1, none⟩ = some (.int .i64 m5) ∧ w'.cell? ⟨g5, 2, none⟩ = some (.string s5) ∧ w'.cell? ⟨g6, 0, none⟩ = some (.int .i64 k6) ∧ w'.cell? ⟨g6, 1, none⟩ = some (.int .i64 m6) ∧ w'.cell? ⟨g6, 2, none⟩ = some (.string s6))
    (first | (with_reducible exact K9.out) | (with_reducible exact K8.out) | (with_reducible exact K7.out) | (with_reducible exact K6.out) | (with_reducible exact K5.out) | (with_reducible exact K4.out) | (with_reducible exact K3.out) | (with_reducible exact K2.out) | (with_reducible exact K1.out) | (with_reducible exact K0.out) | go_keep)
    (first
    | (go_at_call 10
       refine (IL.out k1 m1 s1 k2 m2 s2 _).mono ?_
       rintro e z1 ⟨rfl, hb⟩
       have hb' : Below w6.heap.size w6 z1 := (Below.refl _ w6).drew.trans hb
       have ZB1 : Hid (Below w6.heap.size w6 z1) := hb'
       have K1 : Hid (z1.cell? ⟨g1, 0, none⟩ = some (.int .i64 k1) ∧ z1.cell? ⟨g1, 1, none⟩ = some (.int .i64 m1) ∧ z1.cell? ⟨g1, 2, none⟩ = some (.string s1) ∧ z1.cell? ⟨g2, 0, none⟩ = some (.int .i64 k2) ∧ z1.cell? ⟨g2, 1, none⟩ = some (.int .i64 m2) ∧ z1.cell? ⟨g2, 2, none⟩ = some (.string s2) ∧ z1.cell? ⟨g3, 0, none⟩ = some (.int .i64 k3) ∧ z1.cell? ⟨g3, 1, none⟩ = some (.int .i64 m3) ∧ z1.cell? ⟨g3, 2, none⟩ = some (.string s3) ∧ z1.cell? ⟨g4, 0, none⟩ = some (.int .i64 k4) ∧ z1.cell? ⟨g4, 1, none⟩ = some (.int .i64 m4) ∧ z1.cell? ⟨g4, 2, none⟩ = some (.string s4) ∧ z1.cell? ⟨g5, 0, none⟩ = some (.int .i64 k5) ∧ z1.cell? ⟨g5, 1, none⟩ = some (.int .i64 m5) ∧ z1.cell? ⟨g5, 2, none⟩ = some (.string s5) ∧ z1.cell? ⟨g6, 0, none⟩ = some (.int .i64 k6) ∧ z1.cell? ⟨g6, 1, none⟩ = some (.int .i64 m6) ∧ z1.cell? ⟨g6, 2, none⟩ = some (.string s6)) := KS.out _ hb'
       rw [HBL.out]
       clear hb hb')
    | (go_at_call 11
       refine (specValueLess_any k1 m1 s1 k2 m2 s2 _).mono ?_
       rintro e z2 ⟨rfl, hb⟩
       have hb' : Below w6.heap.size w6 z2 := ZB1.out.trans (hb.mono ZB1.out.size)
       have ZB2 : Hid (Below w6.heap.size w6 z2) := hb'
       have K2 : Hid (z2.cell? ⟨g1, 0, none⟩ = some (.int .i64 k1) ∧ z2.cell? ⟨g1, 1, none⟩ = some (.int .i64 m1) ∧ z2.cell? ⟨g1, 2, none⟩ = some (.string s1) ∧ z2.cell? ⟨g2, 0, none⟩ = some (.int .i64 k2) ∧ z2.cell? ⟨g2, 1, none⟩ = some (.int .i64 m2) ∧ z2.cell? ⟨g2, 2, none⟩ = some (.string s2) ∧ z2.cell? ⟨g3, 0, none⟩ = some (.int .i64 k3) ∧ z2.cell? ⟨g3, 1, none⟩ = some (.int .i64 m3) ∧ z2.cell? ⟨g3, 2, none⟩ = some (.string s3) ∧ z2.cell? ⟨g4, 0, none⟩ = some (.int .i64 k4) ∧ z2.cell? ⟨g4, 1, none⟩ = some (.int .i64 m4) ∧ z2.cell? ⟨g4, 2, none⟩ = some (.string s4) ∧ z2.cell? ⟨g5, 0, none⟩ = some (.int .i64 k5) ∧ z2.cell? ⟨g5, 1, none⟩ = some (.int .i64 m5) ∧ z2.cell? ⟨g5, 2, none⟩ = some (.string s5) ∧ z2.cell? ⟨g6, 0, none⟩ = some (.int .i64 k6) ∧ z2.cell? ⟨g6, 1, none⟩ = some (.int .i64 m6) ∧ z2.cell? ⟨g6, 2, none⟩ = some (.string s6)) := KS.out _ hb'
       rw [HBL.out]
       clear hb hb')
    | (go_at_call 12
       refine (IS.out k3 m3 s3 k4 m4 s4 _).mono ?_
       rintro e z3 ⟨rfl, hb⟩
       have hb' : Below w6.heap.size w6 z3 := ZB2.out.trans (hb.mono ZB2.out.size)
       have ZB3 : Hid (Below w6.heap.size w6 z3) := hb'
       have K3 : Hid (z3.cell? ⟨g1, 0, none⟩ = some (.int .i64 k1) ∧ z3.cell? ⟨g1, 1, none⟩ = some (.int .i64 m1) ∧ z3.cell? ⟨g1, 2, none⟩ = some (.string s1) ∧ z3.cell? ⟨g2, 0, none⟩ = some (.int .i64 k2) ∧ z3.cell? ⟨g2, 1, none⟩ = some (.int .i64 m2) ∧ z3.cell? ⟨g2, 2, none⟩ = some (.string s2) ∧ z3.cell? ⟨g3, 0, none⟩ = some (.int .i64 k3) ∧ z3.cell? ⟨g3, 1, none⟩ = some (.int .i64 m3) ∧ z3.cell? ⟨g3, 2, none⟩ = some (.string s3) ∧ z3.cell? ⟨g4, 0, none⟩ = some (.int .i64 k4) ∧ z3.cell? ⟨g4, 1, none⟩ = some (.int .i64 m4) ∧ z3.cell? ⟨g4, 2, none⟩ = some (.string s4) ∧ z3.cell? ⟨g5, 0, none⟩ = some (.int .i64 k5) ∧ z3.cell? ⟨g5, 1, none⟩ = some (.int .i64 m5) ∧ z3.cell? ⟨g5, 2, none⟩ = some (.string s5) ∧ z3.cell? ⟨g6, 0, none⟩ = some (.int .i64 k6) ∧ z3.cell? ⟨g6, 1, none⟩ = some (.int .i64 m6) ∧ z3.cell? ⟨g6, 2, none⟩ = some (.string s6)) := KS.out _ hb'
       rw [HBT.out]
       clear hb hb')
    | (go_at_call 13
       refine (specValueSame_any k3 m3 s3 k4 m4 s4 _).mono ?_
       rintro e z4 ⟨rfl, hb⟩
       have hb' : Below w6.heap.size w6 z4 := ZB3.out.trans (hb.mono ZB3.out.size)
       have ZB4 : Hid (Below w6.heap.size w6 z4) := hb'
       have K4 : Hid (z4.cell? ⟨g1, 0, none⟩ = some (.int .i64 k1) ∧ z4.cell? ⟨g1, 1, none⟩ = some (.int .i64 m1) ∧ z4.cell? ⟨g1, 2, none⟩ = some (.string s1) ∧ z4.cell? ⟨g2, 0, none⟩ = some (.int .i64 k2) ∧ z4.cell? ⟨g2, 1, none⟩ = some (.int .i64 m2) ∧ z4.cell? ⟨g2, 2, none⟩ = some (.string s2) ∧ z4.cell? ⟨g3, 0, none⟩ = some (.int .i64 k3) ∧ z4.cell? ⟨g3, 1, none⟩ = some (.int .i64 m3) ∧ z4.cell? ⟨g3, 2, none⟩ = some (.string s3) ∧ z4.cell? ⟨g4, 0, none⟩ = some (.int .i64 k4) ∧ z4.cell? ⟨g4, 1, none⟩ = some (.int .i64 m4) ∧ z4.cell? ⟨g4, 2, none⟩ = some (.string s4) ∧ z4.cell? ⟨g5, 0, none⟩ = some (.int .i64 k5) ∧ z4.cell? ⟨g5, 1, none⟩ = some (.int .i64 m5) ∧ z4.cell? ⟨g5, 2, none⟩ = some (.string s5) ∧ z4.cell? ⟨g6, 0, none⟩ = some (.int .i64 k6) ∧ z4.cell? ⟨g6, 1, none⟩ = some (.int .i64 m6) ∧ z4.cell? ⟨g6, 2, none⟩ = some (.string s6)) := KS.out _ hb'
       rw [HBT.out]
       clear hb hb')
    | (go_at_call 14
       refine (IOk.out k5 m5 s5 _).mono ?_
       rintro e z5 ⟨rfl, hb⟩
       have hb' : Below w6.heap.size w6 z5 := ZB4.out.trans (hb.mono ZB4.out.size)
       have ZB5 : Hid (Below w6.heap.size w6 z5) := hb'
       have K5 : Hid (z5.cell? ⟨g1, 0, none⟩ = some (.int .i64 k1) ∧ z5.cell? ⟨g1, 1, none⟩ = some (.int .i64 m1) ∧ z5.cell? ⟨g1, 2, none⟩ = some (.string s1) ∧ z5.cell? ⟨g2, 0, none⟩ = some (.int .i64 k2) ∧ z5.cell? ⟨g2, 1, none⟩ = some (.int .i64 m2) ∧ z5.cell? ⟨g2, 2, none⟩ = some (.string s2) ∧ z5.cell? ⟨g3, 0, none⟩ = some (.int .i64 k3) ∧ z5.cell? ⟨g3, 1, none⟩ = some (.int .i64 m3) ∧ z5.cell? ⟨g3, 2, none⟩ = some (.string s3) ∧ z5.cell? ⟨g4, 0, none⟩ = some (.int .i64 k4) ∧ z5.cell? ⟨g4, 1, none⟩ = some (.int .i64 m4) ∧ z5.cell? ⟨g4, 2, none⟩ = some (.string s4) ∧ z5.cell? ⟨g5, 0, none⟩ = some (.int .i64 k5) ∧ z5.cell? ⟨g5, 1, none⟩ = some (.int .i64 m5) ∧ z5.cell? ⟨g5, 2, none⟩ = some (.string s5) ∧ z5.cell? ⟨g6, 0, none⟩ = some (.int .i64 k6) ∧ z5.cell? ⟨g6, 1, none⟩ = some (.int .i64 m6) ∧ z5.cell? ⟨g6, 2, none⟩ = some (.string s6)) := KS.out _ hb'
       rw [HBO.out]
       clear hb hb')
    | (go_at_call 15
       refine (specValueOk_any k5 m5 s5 _).mono ?_
       rintro e z6 ⟨rfl, hb⟩
       have hb' : Below w6.heap.size w6 z6 := ZB5.out.trans (hb.mono ZB5.out.size)
       have ZB6 : Hid (Below w6.heap.size w6 z6) := hb'
       have K6 : Hid (z6.cell? ⟨g1, 0, none⟩ = some (.int .i64 k1) ∧ z6.cell? ⟨g1, 1, none⟩ = some (.int .i64 m1) ∧ z6.cell? ⟨g1, 2, none⟩ = some (.string s1) ∧ z6.cell? ⟨g2, 0, none⟩ = some (.int .i64 k2) ∧ z6.cell? ⟨g2, 1, none⟩ = some (.int .i64 m2) ∧ z6.cell? ⟨g2, 2, none⟩ = some (.string s2) ∧ z6.cell? ⟨g3, 0, none⟩ = some (.int .i64 k3) ∧ z6.cell? ⟨g3, 1, none⟩ = some (.int .i64 m3) ∧ z6.cell? ⟨g3, 2, none⟩ = some (.string s3) ∧ z6.cell? ⟨g4, 0, none⟩ = some (.int .i64 k4) ∧ z6.cell? ⟨g4, 1, none⟩ = some (.int .i64 m4) ∧ z6.cell? ⟨g4, 2, none⟩ = some (.string s4) ∧ z6.cell? ⟨g5, 0, none⟩ = some (.int .i64 k5) ∧ z6.cell? ⟨g5, 1, none⟩ = some (.int .i64 m5) ∧ z6.cell? ⟨g5, 2, none⟩ = some (.string s5) ∧ z6.cell? ⟨g6, 0, none⟩ = some (.int .i64 k6) ∧ z6.cell? ⟨g6, 1, none⟩ = some (.int .i64 m6) ∧ z6.cell? ⟨g6, 2, none⟩ = some (.string s6)) := KS.out _ hb'
       rw [HBO.out]
       clear hb hb')
    | (go_at_call 16
       refine (IT.out k6 m6 s6 z6 (HT.out.below (B6.out.trans (ZB6.out.mono B6.out.size)) (Nat.le_refl _))).mono ?_
       rintro e z7 ⟨⟨t7, rfl, ht7⟩, hb⟩
       have hb' : Below w6.heap.size w6 z7 := ZB6.out.trans (hb.mono ZB6.out.size)
       have ZB7 : Hid (Below w6.heap.size w6 z7) := hb'
       have K7 : Hid (z7.cell? ⟨g1, 0, none⟩ = some (.int .i64 k1) ∧ z7.cell? ⟨g1, 1, none⟩ = some (.int .i64 m1) ∧ z7.cell? ⟨g1, 2, none⟩ = some (.string s1) ∧ z7.cell? ⟨g2, 0, none⟩ = some (.int .i64 k2) ∧ z7.cell? ⟨g2, 1, none⟩ = some (.int .i64 m2) ∧ z7.cell? ⟨g2, 2, none⟩ = some (.string s2) ∧ z7.cell? ⟨g3, 0, none⟩ = some (.int .i64 k3) ∧ z7.cell? ⟨g3, 1, none⟩ = some (.int .i64 m3) ∧ z7.cell? ⟨g3, 2, none⟩ = some (.string s3) ∧ z7.cell? ⟨g4, 0, none⟩ = some (.int .i64 k4) ∧ z7.cell? ⟨g4, 1, none⟩ = some (.int .i64 m4) ∧ z7.cell? ⟨g4, 2, none⟩ = some (.string s4) ∧ z7.cell? ⟨g5, 0, none⟩ = some (.int .i64 k5) ∧ z7.cell? ⟨g5, 1, none⟩ = some (.int .i64 m5) ∧ z7.cell? ⟨g5, 2, none⟩ = some (.string s5) ∧ z7.cell? ⟨g6, 0, none⟩ = some (.int .i64 k6) ∧ z7.cell? ⟨g6, 1, none⟩ = some (.int .i64 m6) ∧ z7.cell? ⟨g6, 2, none⟩ = some (.string s6)) := KS.out _ hb'
       have HT7 : Hid (t7.data.toList = valB k6 m6 s6) := ht7
       have hne := str_some (s := t7) (fun e => valB_some k6 m6 s6 (by rw [← ht7]; exact List.length_eq_zero_iff.1 (by simpa using e)))
       clear ht7
       clear hb hb')
    | (go_at_call 17
       refine (specValueText_any k6 m6 s6 _).mono ?_
       rintro e z8 ⟨⟨t8, rfl, ht8⟩, hb⟩
       have hb' : Below w6.heap.size w6 z8 := ZB7.out.trans (hb.mono ZB7.out.size)
       have ZB8 : Hid (Below w6.heap.size w6 z8) := hb'
       have K8 : Hid (z8.cell? ⟨g1, 0, none⟩ = some (.int .i64 k1) ∧ z8.cell? ⟨g1, 1, none⟩ = some (.int .i64 m1) ∧ z8.cell? ⟨g1, 2, none⟩ = some (.string s1) ∧ z8.cell? ⟨g2, 0, none⟩ = some (.int .i64 k2) ∧ z8.cell? ⟨g2, 1, none⟩ = some (.int .i64 m2) ∧ z8.cell? ⟨g2, 2, none⟩ = some (.string s2) ∧ z8.cell? ⟨g3, 0, none⟩ = some (.int .i64 k3) ∧ z8.cell? ⟨g3, 1, none⟩ = some (.int .i64 m3) ∧ z8.cell? ⟨g3, 2, none⟩ = some (.string s3) ∧ z8.cell? ⟨g4, 0, none⟩ = some (.int .i64 k4) ∧ z8.cell? ⟨g4, 1, none⟩ = some (.int .i64 m4) ∧ z8.cell? ⟨g4, 2, none⟩ = some (.string s4) ∧ z8.cell? ⟨g5, 0, none⟩ = some (.int .i64 k5) ∧ z8.cell? ⟨g5, 1, none⟩ = some (.int .i64 m5) ∧ z8.cell? ⟨g5, 2, none⟩ = some (.string s5) ∧ z8.cell? ⟨g6, 0, none⟩ = some (.int .i64 k6) ∧ z8.cell? ⟨g6, 1, none⟩ = some (.int .i64 m6) ∧ z8.cell? ⟨g6, 2, none⟩ = some (.string s6)) := KS.out _ hb'
       obtain rfl : t7 = t8 := str_eq (HT7.out.trans ht8.symm)
       clear ht8
       clear hb hb')
    | (go_at_call 16
       refine (IT.out k6 m6 s6 z8 (HT.out.below (B6.out.trans (ZB8.out.mono B6.out.size)) (Nat.le_refl _))).mono ?_
       rintro e z9 ⟨⟨t9, rfl, ht9⟩, hb⟩
       have hb' : Below w6.heap.size w6 z9 := ZB8.out.trans (hb.mono ZB8.out.size)
       have ZB9 : Hid (Below w6.heap.size w6 z9) := hb'
       have K9 : Hid (z9.cell? ⟨g1, 0, none⟩ = some (.int .i64 k1) ∧ z9.cell? ⟨g1, 1, none⟩ = some (.int .i64 m1) ∧ z9.cell? ⟨g1, 2, none⟩ = some (.string s1) ∧ z9.cell? ⟨g2, 0, none⟩ = some (.int .i64 k2) ∧ z9.cell? ⟨g2, 1, none⟩ = some (.int .i64 m2) ∧ z9.cell? ⟨g2, 2, none⟩ = some (.string s2) ∧ z9.cell? ⟨g3, 0, none⟩ = some (.int .i64 k3) ∧ z9.cell? ⟨g3, 1, none⟩ = some (.int .i64 m3) ∧ z9.cell? ⟨g3, 2, none⟩ = some (.string s3) ∧ z9.cell? ⟨g4, 0, none⟩ = some (.int .i64 k4) ∧ z9.cell? ⟨g4, 1, none⟩ = some (.int .i64 m4) ∧ z9.cell? ⟨g4, 2, none⟩ = some (.string s4) ∧ z9.cell? ⟨g5, 0, none⟩ = some (.int .i64 k5) ∧ z9.cell? ⟨g5, 1, none⟩ = some (.int .i64 m5) ∧ z9.cell? ⟨g5, 2, none⟩ = some (.string s5) ∧ z9.cell? ⟨g6, 0, none⟩ = some (.int .i64 k6) ∧ z9.cell? ⟨g6, 1, none⟩ = some (.int .i64 m6) ∧ z9.cell? ⟨g6, 2, none⟩ = some (.string s6)) := KS.out _ hb'
       obtain rfl : t7 = t9 := str_eq (HT7.out.trans ht9.symm)
       clear ht9
       clear hb hb'))
  have HBZ9 : Hid (Below w.heap.size w z9) := B6.out.trans (ZB9.out.mono B6.out.size)
  obtain ⟨c10, c11, c12, c20, c21, c22⟩ := pick6 K9.out
  clear K0 K1 K2 K3 K4 K5 K6 K7 K8 K9 hne
  go_upto_region 8 with (fail)
  go_wp2_with fail
  refine (IS.out k1 m1 s1 k2 m2 s2 z9).mono ?_
  rintro e z10 ⟨rfl, hb⟩
  rw [HBS.out]
  have hb' : Below w6.heap.size w6 z10 := ZB9.out.trans (hb.mono ZB9.out.size)
  have ZB10 : Hid (Below w6.heap.size w6 z10) := hb'
  clear c10 c11 c12 c20 c21 c22
  obtain ⟨c10, c11, c12, c20, c21, c22⟩ := pick6 (KS.out _ hb')
  clear hb hb'
  rcases bs with _ | _
  · have HOR : Hid (bl = !bl') := by
      show bl = !bl'
      rw [← HBL.out, ← HBL'.out]
      exact lessV_or (x := (k1, m1, s1)) (y := (k2, m2, s2)) HBS.out
    have HNQ : Hid (¬ bl = bl') := by show ¬ bl = bl'; rw [HOR.out]; cases bl' <;> decide
    have K10 : Hid (z10.drew.cell? ⟨g1, 0, none⟩ = some (.int .i64 k1) ∧ z10.drew.cell? ⟨g1, 1, none⟩ = some (.int .i64 m1) ∧ z10.drew.cell? ⟨g1, 2, none⟩ = some (.string s1) ∧ z10.drew.cell? ⟨g2, 0, none⟩ = some (.int .i64 k2) ∧ z10.drew.cell? ⟨g2, 1, none⟩ = some (.int .i64 m2) ∧ z10.drew.cell? ⟨g2, 2, none⟩ = some (.string s2)) := ⟨c10, c11, c12, c20, c21, c22⟩
    have KT : Hid (∀ z, Below w6.heap.size w6 z → z.cell? ⟨g1, 0, none⟩ = some (.int .i64 k1) ∧ z.cell? ⟨g1, 1, none⟩ = some (.int .i64 m1) ∧ z.cell? ⟨g1, 2, none⟩ = some (.string s1) ∧ z.cell? ⟨g2, 0, none⟩ = some (.int .i64 k2) ∧ z.cell? ⟨g2, 1, none⟩ = some (.int .i64 m2) ∧ z.cell? ⟨g2, 2, none⟩ = some (.string s2)) := fun z hb => pick6 (KS.out z hb)
    go_upto_region 10 with (fail)
    clear c10 c11 c12 c20 c21 c22
    refine wp_region_held_drew (S := fun w' => w'.cell? ⟨g1, 0, none⟩ = some (.int .i64 k1) ∧ w'.cell? ⟨g1, 1, none⟩ = some (.int .i64 m1) ∧ w'.cell? ⟨g1, 2, none⟩ = some (.string s1) ∧ w'.cell? ⟨g2, 0, none⟩ = some (.int .i64 k2) ∧ w'.cell? ⟨g2, 1, none⟩ = some (.int .i64 m2) ∧ w'.cell? ⟨g2, 2, none⟩ = some (.string s2)) (by kernel_rfl) K10.out (fun hHeld => ?_)
    refine wpAnyH_take (i := 0) (oi := _) (v := .agg #[.int .i64 k1, .int .i64 m1, .string s1]) (by rw [List.getElem?_toArray]; exact rfl) (by kernel_rfl) (by kernel_rfl) (by kernel_rfl) (by intro _ _ _ h; exact h) (Or.inl ⟨by kernel_rfl, ?_⟩) hHeld ?_
    · intro w hSw; obtain ⟨s0, s1, s2, s3, s4, s5⟩ := hSw; go_simp
    simp only [Act.put, List.setIfInBounds_toArray, List.set_cons_zero, List.set_cons_succ]
    refine wpAnyH_take (i := 1) (oi := _) (v := .agg #[.int .i64 k2, .int .i64 m2, .string s2]) (by rw [List.getElem?_toArray]; exact rfl) (by kernel_rfl) (by kernel_rfl) (by kernel_rfl) (by intro _ _ _ h; exact h) (Or.inl ⟨by kernel_rfl, ?_⟩) hHeld ?_
    · intro w hSw; obtain ⟨s0, s1, s2, s3, s4, s5⟩ := hSw; go_simp
    simp only [Act.put, List.setIfInBounds_toArray, List.set_cons_zero, List.set_cons_succ]
    refine wpAnyH_take (i := 3) (oi := _) (v := .agg #[.int .i64 k2, .int .i64 m2, .string s2]) (by rw [List.getElem?_toArray]; exact rfl) (by kernel_rfl) (by kernel_rfl) (by kernel_rfl) (by intro _ _ _ h; exact h) (Or.inl ⟨by kernel_rfl, ?_⟩) hHeld ?_
    · intro w hSw; obtain ⟨s0, s1, s2, s3, s4, s5⟩ := hSw; go_simp
    simp only [Act.put, List.setIfInBounds_toArray, List.set_cons_zero, List.set_cons_succ]
    refine wpAnyH_take (i := 4) (oi := _) (v := .agg #[.int .i64 k1, .int .i64 m1, .string s1]) (by rw [List.getElem?_toArray]; exact rfl) (by kernel_rfl) (by kernel_rfl) (by kernel_rfl) (by intro _ _ _ h; exact h) (Or.inl ⟨by kernel_rfl, ?_⟩) hHeld ?_
    · intro w hSw; obtain ⟨s0, s1, s2, s3, s4, s5⟩ := hSw; go_simp
    simp only [Act.put, List.setIfInBounds_toArray, List.set_cons_zero, List.set_cons_succ]
    refine wpAnyH_ready (rs := [2]) (by kernel_rfl) (by simp) ?_
    refine AllReadyH.cons (o := _) (by rw [List.getElem?_toArray]; exact rfl) (fun K hK => ?_) AllReadyH.nil
    rw [if_pos (by kernel_rfl)]
    go_simp
    refine (IL.out k1 m1 s1 k2 m2 s2 z10.drew).mono ?_
    rintro e z11 ⟨rfl, hb⟩
    rw [HBL.out]
    have hb' : Below w6.heap.size w6 z11 := ZB10.out.drew.trans (hb.mono ZB10.out.size)
    have ZB11 : Hid (Below w6.heap.size w6 z11) := hb'
    go_simp
    refine hK.out _ _ (KT.out _ hb') (fun hHeld => ?_)
    clear hK K hb hb'
    (try simp only [Act.put, List.setIfInBounds_toArray, List.set_cons_zero, List.set_cons_succ])
    refine wpAnyH_ready (rs := [5]) (by kernel_rfl) (by simp) ?_
    refine AllReadyH.cons (o := _) (by rw [List.getElem?_toArray]; exact rfl) (fun K hK => ?_) AllReadyH.nil
    rw [if_pos (by kernel_rfl)]
    go_simp
    refine (IL.out k2 m2 s2 k1 m1 s1 z11).mono ?_
    rintro e z12 ⟨rfl, hb⟩
    rw [HBL'.out]
    have hb' : Below w6.heap.size w6 z12 := ZB11.out.trans (hb.mono ZB11.out.size)
    have ZB12 : Hid (Below w6.heap.size w6 z12) := hb'
    go_simp
    refine hK.out _ _ (KT.out _ hb') (fun hHeld => ?_)
    clear hK K hb hb'
    (try simp only [Act.put, List.setIfInBounds_toArray, List.set_cons_zero, List.set_cons_succ])
    refine wpAnyH_take (i := 6) (oi := _) (v := .bool true) (by rw [List.getElem?_toArray]; exact rfl) (by kernel_rfl) (by kernel_rfl) (by kernel_rfl) (by intro _ _ _ h; exact h) (Or.inl ⟨by kernel_rfl, ?_⟩) hHeld ?_
    · intro w hSw; obtain ⟨s0, s1, s2, s3, s4, s5⟩ := hSw; go_simp; exact HNQ.out
    simp only [Act.put, List.setIfInBounds_toArray, List.set_cons_zero, List.set_cons_succ]
    refine wpAnyH_take (i := 7) (oi := _) (v := .bool true) (by rw [List.getElem?_toArray]; exact rfl) (by kernel_rfl) (by kernel_rfl) (by kernel_rfl) (by intro _ _ _ h; exact h) (Or.inl ⟨by kernel_rfl, ?_⟩) hHeld ?_
    · intro w hSw; obtain ⟨s0, s1, s2, s3, s4, s5⟩ := hSw; go_simp
    simp only [Act.put, List.setIfInBounds_toArray, List.set_cons_zero, List.set_cons_succ]
    refine wpAnyH_done (by kernel_rfl) ?_ _
    go_wp2
    go_ret
    exact ⟨rfl, B6.out.trans (ZB12.out.mono B6.out.size)⟩
  · have heq : k1 = k2 ∧ m1 = m2 ∧ s1 = s2 := of_decide_eq_true (show decide (k1 = k2 ∧ m1 = m2 ∧ s1 = s2) = true from HBS.out)
    have HEQ : Hid (k1 = k2 ∧ m1 = m2 ∧ s1 = s2) := heq
    clear heq
    have HL0 : Hid (bl = false ∧ bl' = false) := by
      obtain ⟨e1, e2, e3⟩ := HEQ.out
      refine ⟨?_, ?_⟩
      · rw [← HBL.out, e1, e2, e3]; exact less_self _ _ _
      · rw [← HBL'.out, e1, e2, e3]; exact less_self _ _ _
    go_wp2_with fail
    refine (IL.out k1 m1 s1 k2 m2 s2 z10).mono ?_
    rintro e z11 ⟨rfl, hb⟩
    rw [HBL.out, HL0.out.1]
    have hb' : Below w6.heap.size w6 z11 := ZB10.out.trans (hb.mono ZB10.out.size)
    have ZB11 : Hid (Below w6.heap.size w6 z11) := hb'
    clear c10 c11 c12 c20 c21 c22
    obtain ⟨c10, c11, c12, c20, c21, c22⟩ := pick6 (KS.out _ hb')
    clear hb hb'
    go_wp2_with fail
    refine (IL.out k2 m2 s2 k1 m1 s1 z11).mono ?_
    rintro e z12 ⟨rfl, hb⟩
    rw [HBL'.out, HL0.out.2]
    have ZB12 : Hid (Below w6.heap.size w6 z12) := ZB11.out.trans (hb.mono ZB11.out.size)
    clear hb
    go_wp2
    go_ret
    exact ⟨rfl, B6.out.trans (ZB12.out.mono B6.out.size)⟩
/-- The heap that the door's own run leaves meets the row's condition on the tables. -/
theorem door_met (os : Os) (args : Array Value) : laidMetH Tryd.prog Rows.fnValuesRow.laid ((World.doorLaid Tryd.prog 200 os).forCall (fun _ _ => 0) ⟨#[], args, []⟩).memory :=
  laidMetH_of_parts3 (fuel := 8) (laidMet_of_run' 8 (by kernel_rfl) (by kernel_rfl)) (by kernel_rfl) (by kernel_rfl)
theorem of_laid {W : World} (h : laidMetH Tryd.prog Rows.fnValuesRow.laid W) : PowT W := by
  rw [MakeChecks.laidMetH_plain _ _ _ (by kernel_rfl)] at h
  have h2 : laidMet Tryd.prog [("internal/strconv.uint64pow10", Rows.laid_internal_strconv_uint64pow10)] W := laidMet.tail (laidMet.tail h)
  rw [tab_is] at h2
  exact ⟨Lib.tabIs_of_head gTab tTab Tryd.underlying76 Tryd.underlying69 cU64 cTab h2⟩
set_option maxRecDepth 100000 in
theorem lifted (iOk : AskOk) (iL : AskL) (iS : AskS) (iT : AskT) (os : Os) (started : os.Started) (H : Type) (enc : TypeId × Value → H) :
    ReturnsInHanded {} Tryd.checked os 3 .any (fun w args => (Rows.fnValuesSpec.pre enc Tryd.prog Tryd.f3 [] false w args ∧ laidMetH Tryd.prog Rows.fnValuesRow.laid w) ∧ sizedMet enc Tryd.prog Tryd.f3 (OpenSpec.ofChange Rows.fnValuesSpec) false w args)
      (Rows.fnValuesSpec.post enc Tryd.prog Tryd.f3 false true false false) := by
  refine returnsInHanded_of_change_and (C := Tryd.checked) (X := fun w _ => laidMetH Tryd.prog Rows.fnValuesRow.laid w) (fun _ _ _ hh h => h.of_heap hh) own started (by kernel_rfl) Tryd.func3
    (ChangeSpec.witness_shaped (enc := enc) (C := Tryd.checked) (os := os) (X := fun w _ => laidMetH Tryd.prog Rows.fnValuesRow.laid w) false (World.doorLaid Tryd.prog 200 os) #[.slice none 0 0] 8 rfl (World.shaped_of_RefB (by kernel_rfl) (by kernel_rfl)) (by kernel_rfl) (by kernel_rfl) (by kernel_rfl) (door_met os _)) ?_
  intro W base args ds gs before hval0 hW _ _ hL _
  have hval : ∀ (j : Nat) t v, Tryd.f3.params[j]? = some t → args[j]? = some v → Value.okWide Tryd.prog W .any base t v := hval0
  have hW' := hW
  obtain ⟨p, q, hA0, hV0, rfl, hfz, hnd⟩ := hW
  have hA : DataW.TrodAll enc Tryd.prog W 0 (fun _ => true) true Tryd.f3.params.toList args.toList ds p := hA0
  have hT := of_laid hL
  obtain ⟨rfl, rfl⟩ := trodVars_none hV0
  rw [Tryd.params3] at hA hval
  obtain ⟨v0, d0, rfl, rfl, h0⟩ := trodAll_one hA
  have k0 := h0
  have lt0 : ∀ x ∈ p, x.block < W.heap.size := by obtain ⟨m, hm⟩ := k0; exact DataW.trod_lt m _ _ _ hm
  obtain ⟨a0, n, c, rfl⟩ := okWide_slice Tryd.underlying22 (hval 0 22 v0 rfl rfl)
  have hB : BytesAt W W.heap.size a0 n := by
    obtain ⟨fuel, hf⟩ := h0
    rcases open_ints Tryd.underlying22 Tryd.underlying5 (by kernel_rfl) hf with ⟨hcs, _⟩ | ⟨x, l, cc, zs, hcs, _, hl, hm, hz, _, hcell, hwz⟩
    · simp [Value.cells] at hcs
      obtain ⟨rfl, rfl, rfl⟩ := hcs
      exact .inl rfl
    · simp [Value.cells] at hcs
      obtain ⟨rfl, rfl, rfl⟩ := hcs
      by_cases h0 : n = 0
      · exact .inl h0
      · simp at hz
        obtain ⟨b, o, rfl, hc⟩ := ints_at hcell (by omega)
        refine .inr ⟨b, o, rfl, World.block_lt_of_cell? W _ (hc 0 (by omega)), fun i hi => ?_⟩
        have hzi : i < zs.length := by omega
        have bd := bounds_u8 (hwz zs[i] (List.getElem_mem hzi))
        refine ⟨zs[i].toNat, by omega, ?_⟩
        rw [hc i hzi, show ((zs[i].toNat : Nat) : Int) = zs[i] by omega]
        simp [List.getD, hzi]
  refine (values_walk a0 n c W hB hT iOk iL iS iT).mono fun e W' ⟨he, bel⟩ => ?_
  subst he
  exact ⟨_, rfl, _, _, _, [], _, _, hW', trodAll_mk1 (shut_bool Tryd.underlying4 _), (trodAll_cons_mk (Below.trod laidOut (by kernel_rfl) (of_decide_eq_true (by kernel_rfl)) k0 bel lt0) trodAll_mk0), rfl, bel.frame _, fun h => by cases h⟩
theorem row_holds (iOk : AskOk) (iL : AskL) (iS : AskS) (iT : AskT) : Rows.FnValuesSaid :=
  OpenClaim.holds_of_wide 3 Tryd.f3 rfl rfl rfl rfl rfl rfl rfl ⟨rfl, rfl, rfl, rfl, rfl⟩ rfl rfl rfl rfl rfl (by kernel_rfl) Tryd.func3 (by kernel_rfl)
    (of_decide_eq_true (by kernel_rfl)) (by unfold Func.isWrapper; first | (rw [if_pos (by decide +kernel)]; kernel_rfl) | (rw [if_neg (by decide +kernel)]; exact ⟨rfl, rfl⟩))
    (fun os started H enc _ => lifted iOk iL iS iT os started H enc)
end fnValues
theorem fnValues_over (iOk : fnValues.AskOk) (iL : fnValues.AskL) (iS : fnValues.AskS) (iT : fnValues.AskT) : Rows.FnValuesCardSaid :=
  Claim7.holds_tied_plain_at .later [] [.data, .data, .data] true Rows.fnValuesCard.stood.harness Rows.fnValuesCard.stood.looks
    (fnValues.row_holds iOk iL iS iT) (fun _ h => by cases h) (by kernel_rfl) (fun _ h => by cases h) fnValues_row_tie rfl ⟨rfl, rfl⟩ (by kernel_rfl) rfl
    (fun f fn hf hfn => by
      obtain rfl : f = 3 := Option.some.inj ((show Tryd.prog.funcNamed Rows.fnValuesRow.func = some 3 by kernel_rfl).symm.trans hf) |>.symm
      obtain rfl : fn = Tryd.f3 := (Option.some.inj (Tryd.func3.symm.trans hfn)).symm
      exact ⟨by kernel_rfl, fun j t ht => by
        rw [Tryd.params3] at ht
        have hm : t ∈ [22] := by simpa using Array.mem_of_getElem? ht
        have hall : ([22].all fun u => !Tryd.prog.wantsStandIn u) = true := by kernel_rfl
        exact (show Tryd.prog.wantsStandIn t = false by simpa using List.all_eq_true.1 hall t hm)⟩)
    (by kernel_rfl)
end Go.Proofs.YtnjgeokjlfghcaaDoor
