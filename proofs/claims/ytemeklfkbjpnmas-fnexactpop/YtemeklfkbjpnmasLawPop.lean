/- Pop of the program answers as the specification's Pop at all threads, with memory of its own, and leaves what it was handed as it was: the law FnExactPop holds, with no condition. -/
import Derived.Test.YtemeklfkbjpnmasRows
import Derived.Test.YtemeklfkbjpnmasLawT
import Derived.Test.YtemeklfkbjpnmasImpl8
import Derived.Test.YtemeklfkbjpnmasSpec8b
import Derived.OpenShut
import Derived.ChangeOld
import Derived.Below
import Derived.Lib.SmallJoins
import Derived.Deep.RegionHeld3
namespace Go.Proofs.Ytemeklfkbjpnmas
open Go.ChangeShapes Go.WideShapes Go.ChangeAt Go.RowKit Go.Joins

namespace fnExactPop
theorem own : ownKnob Try.prog.godebug = none := by kernel_rfl
theorem laidOut : laidOutB Try.prog = true := by kernel_rfl
set_option maxHeartbeats 16000000 in
set_option maxRecDepth 100000 in
theorem walk (a0 a1 a2 : Option Addr) (n0 c0 n1 c1 n2 c2 : Nat) (fs gs hs : List Int) (pc : Int) (on : Bool) (w : World) (h0 : n0 ≤ 9223372036854775807) (h1 : n1 ≤ 9223372036854775807) (h2 : n2 ≤ 9223372036854775807) (k0 : n0 ≤ 1048576 → KAt 3 w a0 n0 fs) (k1 : n1 ≤ 1048576 → KAt 2 w a1 n1 gs) (k2 : n2 ≤ 1048576 → KAt 4 w a2 n2 hs) :
    Calls Try.prog 4 #[ThV (.slice a0 n0 c0) (.slice a1 n1 c1) (.slice a2 n2 c2) pc on] w fun e w' => e = .returned (.bool true) ∧ Below w.heap.size w w' := by
  obtain ⟨sz, hsz⟩ : ∃ sz, w.heap.size = sz := ⟨_, rfl⟩
  obtain ⟨W, hW⟩ : ∃ W, w.alloc (.cells #[.slice a0 n0 c0, .int .i64 pc, .bool on, .slice a1 n1 c1, .slice a2 n2 c2] 26) = W := ⟨_, rfl⟩
  have hb0 : Below sz w W := by rw [← hW, ← hsz]; exact (Below.refl _ w).alloc (Nat.le_refl _) _
  have hWs : W.heap.size = sz + 1 := by rw [← hW, ← hsz]; simp
  have XA : Hid (Box W sz #[.slice a0 n0 c0, .int .i64 pc, .bool on, .slice a1 n1 c1, .slice a2 n2 c2] 26) := by rw [← hW, ← hsz]; exact (box_of w _ _)
  have HW : Hid _ := hW
  have HSZ : Hid (w.heap.size = sz) := hsz
  have HB0 : Hid (Below sz w W) := hb0
  have HWS : Hid (W.heap.size = sz + 1) := hWs
  have HK : Hid ((n0 ≤ 1048576 → KAt 3 w a0 n0 fs) ∧ (n1 ≤ 1048576 → KAt 2 w a1 n1 gs) ∧ (n2 ≤ 1048576 → KAt 4 w a2 n2 hs)) := ⟨k0, k1, k2⟩
  clear hW hb0 hWs hsz k0 k1 k2
  go_enter Try.func4, Try.ntmps4
  go_wp2_with fail
  rw [HW.out]
  (try rw [HSZ.out])
  refine (szThread_any a0 a1 a2 n0 c0 n1 c1 n2 c2 pc on _ h0 h1 h2).mono ?_
  rintro e w1 ⟨hb1, rfl | ⟨r, rfl, hr0, hsum⟩⟩
  · have hall : Below sz w w1 := HB0.out.trans (hb1.mono (by have := HWS.out; omega))
    clear hb1
    go_wp2
    go_ret
    exact ⟨rfl, by rw [HSZ.out]; exact hall⟩
  have hr2 : ¬ r < 0 := by omega
  have HB1 : Hid (Below W.heap.size W w1) := hb1
  have IN0 : Hid (ThIn w a0 a1 a2 ⟨n0, fs, pc, on, n1, gs, n2, hs⟩) := ⟨HK.out.1 (by omega), HK.out.2.1 (by omega), HK.out.2.2 (by omega)⟩
  have SM : Hid (TD.Small ⟨n0, fs, pc, on, n1, gs, n2, hs⟩) := ⟨by show n0 ≤ _; omega, by show n1 ≤ _; omega, by show n2 ≤ _; omega⟩
  have hn2 : n2 ≤ 1048576 := by omega
  have hsw : w.heap.size ≤ sz := by rw [HSZ.out]; exact Nat.le_refl _
  have HBW1 : Hid (Below sz w w1) := HB0.out.trans (hb1.mono (by have := HWS.out; omega))
  have INS : Hid (∀ y, Below sz w y → ThIn y a0 a1 a2 ⟨n0, fs, pc, on, n1, gs, n2, hs⟩) := fun y hb => IN0.out.below hb hsw
  have CA : Hid (∀ y, Below W.heap.size W y → y.cell? ⟨sz, 0, none⟩ = some (.slice a0 n0 c0) ∧ y.cell? ⟨sz, 1, none⟩ = some (.int .i64 pc) ∧ y.cell? ⟨sz, 2, none⟩ = some (.bool on) ∧ y.cell? ⟨sz, 3, none⟩ = some (.slice a1 n1 c1) ∧ y.cell? ⟨sz, 4, none⟩ = some (.slice a2 n2 c2)) := fun y hb => by
    obtain ⟨y0, y1, y2, y3, y4, -⟩ := (XA.out.below hb XA.out.lt).five
    exact ⟨y0, y1, y2, y3, y4⟩
  clear hb1 HK
  obtain ⟨T, hT⟩ : ∃ T, TD.pop ⟨n0, fs, pc, on, n1, gs, n2, hs⟩ = T := ⟨_, rfl⟩
  have SPEC : Hid (∀ v0 v1 v2 y, ThAt y v0 v1 v2 ⟨n0, fs, pc, on, n1, gs, n2, hs⟩ → Calls Try.prog 13 #[ThV v0 v1 v2 pc on] y (ThAns y T)) := fun v0 v1 v2 y hy => hT ▸ specPop_any v0 v1 v2 ⟨n0, fs, pc, on, n1, gs, n2, hs⟩ y hy
  have IMPL : Hid (∀ v0 v1 v2 y, ThAt y v0 v1 v2 ⟨n0, fs, pc, on, n1, gs, n2, hs⟩ → Calls Try.prog 14 #[ThV v0 v1 v2 pc on] y (ThAns y T)) := fun v0 v1 v2 y hy => hT ▸ implPop_any v0 v1 v2 ⟨n0, fs, pc, on, n1, gs, n2, hs⟩ y hn2 hy
  have SMT : Hid T.Small := by rw [← hT]; exact ⟨by show n0 ≤ _; omega, by show n1 ≤ _; omega, by show n2 - 1 ≤ _; omega⟩
  clear hT
  obtain ⟨y0, y1, y2, y3, y4⟩ := CA.out _ HB1.out
  go_wp2_with fail
  refine (toThread_any a0 a1 a2 c0 c1 c2 ⟨n0, fs, pc, on, n1, gs, n2, hs⟩ _ (INS.out _ HBW1.out)).mono ?_
  rintro e w2 ⟨s0, s1, s2, rfl, sO, hb2⟩
  have HB2 : Hid (Below W.heap.size W w2) := HB1.out.trans (hb2.mono HB1.out.size)
  have SA : Hid (ThAt w2 s0 s1 s2 ⟨n0, fs, pc, on, n1, gs, n2, hs⟩) := sO.at SM.out
  clear y0 y1 y2 y3 y4 sO hb2
  go_wp2_with fail
  refine (SPEC.out s0 s1 s2 _ SA.out).mono ?_
  rintro e w3 ⟨x0, x1, x2, rfl, xO, hb3⟩
  obtain ⟨xp0, xd0, xp1, xd1, xp2, xd2, rfl, rfl, rfl⟩ := xO.forms
  have HB3 : Hid (Below W.heap.size W w3) := HB2.out.trans (hb3.mono HB2.out.size)
  obtain ⟨B4, hB4⟩ : ∃ B4, w2.heap.size = B4 := ⟨_, rfl⟩
  obtain ⟨q4, hq4⟩ : ∃ q4, w3.heap.size = q4 := ⟨_, rfl⟩
  obtain ⟨W4, hW4⟩ : ∃ W4, w3.alloc (.cells #[Value.slice xp0 T.n0 xd0, .int .i64 (T).pc, .bool (T).on, Value.slice xp1 T.n1 xd1, Value.slice xp2 T.n2 xd2] 34) = W4 := ⟨_, rfl⟩
  have hxW4 : Below w3.heap.size w3 W4 := by rw [← hW4]; exact (Below.refl _ _).alloc (Nat.le_refl _) _
  have hsW4 : W4.heap.size = w3.heap.size + 1 := by rw [← hW4]; simp
  have X4 : Hid (Box W4 q4 #[Value.slice xp0 T.n0 xd0, .int .i64 T.pc, .bool T.on, Value.slice xp1 T.n1 xd1, Value.slice xp2 T.n2 xd2] 34) := by rw [← hW4, ← hq4]; exact box_of w3 _ _
  have XO : Hid (ThO W4 B4 (Value.slice xp0 T.n0 xd0) (Value.slice xp1 T.n1 xd1) (Value.slice xp2 T.n2 xd2) T) := by rw [← hB4]; exact xO.below hxW4 (Nat.le_refl _)
  have HA4 : Hid (Below W.heap.size W W4) := HB3.out.trans (hxW4.mono HB3.out.size)
  have HLT : Hid (sz < W4.heap.size) := by have h1 := HA4.out.size; have h2 := HWS.out; show _ < _; omega
  have HW4 : Hid _ := hW4
  have Q4 : Hid (w3.heap.size = q4) := hq4
  clear xO hb3 hW4 hB4 hq4 hsW4 hxW4
  go_upto_region 6 with (fail)
  rw [HW4.out]
  (try rw [Q4.out])
  clear HW4 Q4 HB1 HB2 HB3 SA HBW1
  obtain ⟨B5, hB5⟩ : ∃ B5, W4.heap.size = B5 := ⟨_, rfl⟩
  have HB5 : Hid (W4.heap.size = B5) := hB5
  clear hB5
  obtain ⟨y0, y1, y2, y3, y4⟩ := CA.out _ HA4.out
  go_wp2_with fail
  refine (toThread_any a0 a1 a2 c0 c1 c2 ⟨n0, fs, pc, on, n1, gs, n2, hs⟩ _ (INS.out _ (HB0.out.trans (HA4.out.mono (by have := HWS.out; omega))))).mono ?_
  rintro e w5 ⟨u0, u1, u2, rfl, uO, hb5⟩
  obtain ⟨up0, ud0, up1, ud1, up2, ud2, rfl, rfl, rfl⟩ := uO.forms
  have ULT : Hid (∀ k, In3 (Value.slice up0 n0 ud0) (Value.slice up1 n1 ud1) (Value.slice up2 n2 ud2) k → W4.heap.size ≤ k ∧ k < w5.heap.size) := fun k hk => uO.blk hk
  have S5 : Hid (W4.heap.size ≤ w5.heap.size) := hb5.size
  obtain ⟨q5, hq5⟩ : ∃ q5, w5.heap.size = q5 := ⟨_, rfl⟩
  obtain ⟨W5, hW5⟩ : ∃ W5, w5.alloc (.cells #[Value.slice up0 n0 ud0, .int .i64 pc, .bool on, Value.slice up1 n1 ud1, Value.slice up2 n2 ud2] 34) = W5 := ⟨_, rfl⟩
  have hxW5 : Below w5.heap.size w5 W5 := by rw [← hW5]; exact (Below.refl _ _).alloc (Nat.le_refl _) _
  have hsW5 : W5.heap.size = w5.heap.size + 1 := by rw [← hW5]; simp
  obtain ⟨B6, hB6⟩ : ∃ B6, W5.heap.size = B6 := ⟨_, rfl⟩
  have X5 : Hid (Box W5 q5 #[Value.slice up0 n0 ud0, .int .i64 pc, .bool on, Value.slice up1 n1 ud1, Value.slice up2 n2 ud2] 34) := by rw [← hW5, ← hq5]; exact box_of w5 _ _
  have UO : Hid (ThO W5 W4.heap.size (Value.slice up0 n0 ud0) (Value.slice up1 n1 ud1) (Value.slice up2 n2 ud2) ⟨n0, fs, pc, on, n1, gs, n2, hs⟩) := uO.below hxW5 (Nat.le_refl _)
  have HB45 : Hid (Below W4.heap.size W4 W5) := hb5.trans (hxW5.mono hb5.size)
  have HA5 : Hid (Below W.heap.size W W5) := HA4.out.trans (HB45.out.mono HA4.out.size)
  have HW5 : Hid _ := hW5
  have E5 : Hid (w5.heap.size = q5 ∧ W5.heap.size = w5.heap.size + 1 ∧ W5.heap.size = B6) := ⟨hq5, hsW5, hB6⟩
  have UA : Hid (ThAt W5 (Value.slice up0 n0 ud0) (Value.slice up1 n1 ud1) (Value.slice up2 n2 ud2) ⟨n0, fs, pc, on, n1, gs, n2, hs⟩) := UO.out.at SM.out
  clear uO hb5 hW5 hq5 hsW5 hB6 hxW5 y0 y1 y2 y3 y4
  go_upto_region 7 with (fail)
  rw [HW5.out]
  (try rw [E5.out.1])
  obtain ⟨y0, y1, y2, y3, y4, -⟩ := X5.out.five
  go_wp2_with fail
  refine (IMPL.out _ _ _ _ UA.out).mono ?_
  rintro e w6 ⟨g0, g1, g2, rfl, gO, hb6⟩
  obtain ⟨gp0, gd0, gp1, gd1, gp2, gd2, rfl, rfl, rfl⟩ := gO.forms
  obtain ⟨q6, hq6⟩ : ∃ q6, w6.heap.size = q6 := ⟨_, rfl⟩
  obtain ⟨W6, hW6⟩ : ∃ W6, w6.alloc (.cells #[Value.slice gp0 T.n0 gd0, .int .i64 (T).pc, .bool (T).on, Value.slice gp1 T.n1 gd1, Value.slice gp2 T.n2 gd2] 34) = W6 := ⟨_, rfl⟩
  have hxW6 : Below w6.heap.size w6 W6 := by rw [← hW6]; exact (Below.refl _ _).alloc (Nat.le_refl _) _
  have hsW6 : W6.heap.size = w6.heap.size + 1 := by rw [← hW6]; simp
  have X6 : Hid (Box W6 q6 #[Value.slice gp0 T.n0 gd0, .int .i64 T.pc, .bool T.on, Value.slice gp1 T.n1 gd1, Value.slice gp2 T.n2 gd2] 34) := by rw [← hW6, ← hq6]; exact box_of w6 _ _
  have GNE : Hid (¬ In3 (Value.slice gp0 T.n0 gd0) (Value.slice gp1 T.n1 gd1) (Value.slice gp2 T.n2 gd2) q6 ∧ W5.heap.size ≤ q6) := ⟨fun hk => by have := (gO.blk hk).2; omega, by have := hb6.size; omega⟩
  have GO : Hid (ThO W6 W5.heap.size (Value.slice gp0 T.n0 gd0) (Value.slice gp1 T.n1 gd1) (Value.slice gp2 T.n2 gd2) T) := gO.below hxW6 (Nat.le_refl _)
  have HB56 : Hid (Below W5.heap.size W5 W6) := hb6.trans (hxW6.mono hb6.size)
  have HW6 : Hid _ := hW6
  have E6 : Hid (w6.heap.size = q6) := hq6
  clear gO hb6 hW6 hq6 hsW6 hxW6
  go_upto_region 8 with (fail)
  rw [HW6.out]
  (try rw [E6.out])
  clear HW6 E6
  clear y0 y1 y2 y3 y4
  have HA6 : Hid (Below W.heap.size W W6) := HA5.out.trans (HB56.out.mono HA5.out.size)
  have eB5 := HB5.out
  obtain ⟨eq5, es5, eB6⟩ := E5.out
  have s45 := HB45.out.size
  have s56 := HB56.out.size
  have s5 := S5.out
  have hlt := HLT.out
  have x4l := X4.out.lt
  have LHH : Hid (LH sz B5 q4 q5 B6 q6 (Value.slice xp0 T.n0 xd0) (Value.slice xp1 T.n1 xd1) (Value.slice xp2 T.n2 xd2) (Value.slice up0 n0 ud0) (Value.slice up1 n1 ud1) (Value.slice up2 n2 ud2) (Value.slice gp0 T.n0 gd0) (Value.slice gp1 T.n1 gd1) (Value.slice gp2 T.n2 gd2)) := by
    refine ⟨by omega, by omega, fun k hk => ?_, fun k hk => ?_, by omega, fun k hk => ⟨?_, fun e => GNE.out.1 (e ▸ hk)⟩, ?_, by omega⟩
    · have := (XO.out.blk hk).2; omega
    · have := ULT.out k hk; omega
    · have := GO.out.blk hk; omega
    · have := GNE.out.2; omega
  have LC6 : Hid (LC w sz B4 B5 B6 q4 q5 q6 (Value.slice xp0 T.n0 xd0) (Value.slice xp1 T.n1 xd1) (Value.slice xp2 T.n2 xd2) (Value.slice up0 n0 ud0) (Value.slice up1 n1 ud1) (Value.slice up2 n2 ud2) (Value.slice gp0 T.n0 gd0) (Value.slice gp1 T.n1 gd1) (Value.slice gp2 T.n2 gd2) T ⟨n0, fs, pc, on, n1, gs, n2, hs⟩ T W6) := by
    have h1 := HWS.out
    have b46 : Below W4.heap.size W4 W6 := HB45.out.trans (HB56.out.mono HB45.out.size)
    refine ⟨HB0.out.trans (HA6.out.mono (by omega)), X4.out.below b46 X4.out.lt, XO.out.below b46 (Nat.le_refl _), X5.out.below HB56.out X5.out.lt, (UO.out.below HB56.out (Nat.le_refl _)).weaken (by omega), X6.out, GO.out.weaken (by omega)⟩
  have HWB : Hid (W.heap.size ≤ B5 ∧ W.heap.size ≤ B6) := by
    have h2 := HA4.out.size
    refine ⟨?_, ?_⟩ <;> (show _ ≤ _) <;> omega
  clear eB5 eq5 es5 eB6 s45 s56 s5 hlt x4l X4 X5 X6 XO UO GO UA HB45 HB56 E5 HB5 S5 HW5 HA4 HA5 HLT ULT GNE
  obtain ⟨y0, y1, y2, y3, y4, -⟩ := LC6.out.b6.five
  obtain ⟨z0, z1, z2, z3, z4, -⟩ := LC6.out.b4.five
  go_wp2_with fail
  refine (eqThread_same _ _ _ _ _ _ T _ (LC6.out.o6.at SMT.out) (LC6.out.o4.at SMT.out)).mono ?_
  rintro e w7 ⟨rfl, hb7⟩
  have LC7 : Hid (LC w sz B4 B5 B6 q4 q5 q6 (Value.slice xp0 T.n0 xd0) (Value.slice xp1 T.n1 xd1) (Value.slice xp2 T.n2 xd2) (Value.slice up0 n0 ud0) (Value.slice up1 n1 ud1) (Value.slice up2 n2 ud2) (Value.slice gp0 T.n0 gd0) (Value.slice gp1 T.n1 gd1) (Value.slice gp2 T.n2 gd2) T ⟨n0, fs, pc, on, n1, gs, n2, hs⟩ T w7) := LC6.out.on (LC6.out.size HSZ.out) hb7
  have HA7 : Hid (Below W.heap.size W w7) := HA6.out.trans (hb7.mono HA6.out.size)
  clear hb7 y0 y1 y2 y3 y4 z0 z1 z2 z3 z4
  have KS : Hid (∀ y, Below w7.heap.size w7 y → (y.cell? ⟨q5, 0, none⟩ = some (.slice up0 n0 ud0) ∧ y.cell? ⟨q5, 1, none⟩ = some (.int .i64 pc) ∧ y.cell? ⟨q5, 2, none⟩ = some (.bool on) ∧ y.cell? ⟨q5, 3, none⟩ = some (.slice up1 n1 ud1) ∧ y.cell? ⟨q5, 4, none⟩ = some (.slice up2 n2 ud2)) ∧ y.cell? ⟨sz, 0, none⟩ = some (.slice a0 n0 c0) ∧ y.cell? ⟨sz, 1, none⟩ = some (.int .i64 pc) ∧ y.cell? ⟨sz, 2, none⟩ = some (.bool on) ∧ y.cell? ⟨sz, 3, none⟩ = some (.slice a1 n1 c1) ∧ y.cell? ⟨sz, 4, none⟩ = some (.slice a2 n2 c2)) := fun y hb => by
    obtain ⟨y0, y1, y2, y3, y4, -⟩ := (LC7.out.b5.below hb LC7.out.b5.lt).five
    exact ⟨⟨y0, y1, y2, y3, y4⟩, CA.out y (HA7.out.trans (hb.mono HA7.out.size))⟩
  have K0 : Hid ((w7.drew.cell? ⟨q5, 0, none⟩ = some (.slice up0 n0 ud0) ∧ w7.drew.cell? ⟨q5, 1, none⟩ = some (.int .i64 pc) ∧ w7.drew.cell? ⟨q5, 2, none⟩ = some (.bool on) ∧ w7.drew.cell? ⟨q5, 3, none⟩ = some (.slice up1 n1 ud1) ∧ w7.drew.cell? ⟨q5, 4, none⟩ = some (.slice up2 n2 ud2)) ∧ w7.drew.cell? ⟨sz, 0, none⟩ = some (.slice a0 n0 c0) ∧ w7.drew.cell? ⟨sz, 1, none⟩ = some (.int .i64 pc) ∧ w7.drew.cell? ⟨sz, 2, none⟩ = some (.bool on) ∧ w7.drew.cell? ⟨sz, 3, none⟩ = some (.slice a1 n1 c1) ∧ w7.drew.cell? ⟨sz, 4, none⟩ = some (.slice a2 n2 c2)) := KS.out _ (Below.refl _ _).drew
  go_upto_region 10 with (fail)
  go_region_held3 (fun w' => (w'.cell? ⟨q5, 0, none⟩ = some (.slice up0 n0 ud0) ∧ w'.cell? ⟨q5, 1, none⟩ = some (.int .i64 pc) ∧ w'.cell? ⟨q5, 2, none⟩ = some (.bool on) ∧ w'.cell? ⟨q5, 3, none⟩ = some (.slice up1 n1 ud1) ∧ w'.cell? ⟨q5, 4, none⟩ = some (.slice up2 n2 ud2)) ∧ w'.cell? ⟨sz, 0, none⟩ = some (.slice a0 n0 c0) ∧ w'.cell? ⟨sz, 1, none⟩ = some (.int .i64 pc) ∧ w'.cell? ⟨sz, 2, none⟩ = some (.bool on) ∧ w'.cell? ⟨sz, 3, none⟩ = some (.slice a1 n1 c1) ∧ w'.cell? ⟨sz, 4, none⟩ = some (.slice a2 n2 c2))
    (first | (with_reducible exact K2.out) | (with_reducible exact K1.out) | (with_reducible exact K0.out) | go_keep)
    (first
    | (go_at_call 7
       refine (toThread_any a0 a1 a2 c0 c1 c2 ⟨n0, fs, pc, on, n1, gs, n2, hs⟩ _ (INS.out _ LC7.out.bel.drew)).mono ?_
       rintro e w8 ⟨s0, s1, s2, rfl, sO, hb8⟩
       have hb8' : Below w7.heap.size w7 w8 := (Below.refl w7.heap.size w7).drew.trans hb8
       have HB8 : Hid (Below w7.heap.size w7 w8) := hb8'
       have SA8 : Hid (ThAt w8 s0 s1 s2 ⟨n0, fs, pc, on, n1, gs, n2, hs⟩) := sO.at SM.out
       have K1 : Hid ((w8.cell? ⟨q5, 0, none⟩ = some (.slice up0 n0 ud0) ∧ w8.cell? ⟨q5, 1, none⟩ = some (.int .i64 pc) ∧ w8.cell? ⟨q5, 2, none⟩ = some (.bool on) ∧ w8.cell? ⟨q5, 3, none⟩ = some (.slice up1 n1 ud1) ∧ w8.cell? ⟨q5, 4, none⟩ = some (.slice up2 n2 ud2)) ∧ w8.cell? ⟨sz, 0, none⟩ = some (.slice a0 n0 c0) ∧ w8.cell? ⟨sz, 1, none⟩ = some (.int .i64 pc) ∧ w8.cell? ⟨sz, 2, none⟩ = some (.bool on) ∧ w8.cell? ⟨sz, 3, none⟩ = some (.slice a1 n1 c1) ∧ w8.cell? ⟨sz, 4, none⟩ = some (.slice a2 n2 c2)) := KS.out _ hb8'
       clear hb8 hb8' sO)
    | (go_at_call 10
       refine (eqThread_same _ _ _ s0 s1 s2 ⟨n0, fs, pc, on, n1, gs, n2, hs⟩ _ ((LC7.out.o5.below HB8.out (Nat.le_refl _)).at SM.out) SA8.out).mono ?_
       rintro e w9 ⟨rfl, hb9⟩
       have hb9' : Below w7.heap.size w7 w9 := HB8.out.trans (hb9.mono HB8.out.size)
       have HB9 : Hid (Below w7.heap.size w7 w9) := hb9'
       have K2 : Hid ((w9.cell? ⟨q5, 0, none⟩ = some (.slice up0 n0 ud0) ∧ w9.cell? ⟨q5, 1, none⟩ = some (.int .i64 pc) ∧ w9.cell? ⟨q5, 2, none⟩ = some (.bool on) ∧ w9.cell? ⟨q5, 3, none⟩ = some (.slice up1 n1 ud1) ∧ w9.cell? ⟨q5, 4, none⟩ = some (.slice up2 n2 ud2)) ∧ w9.cell? ⟨sz, 0, none⟩ = some (.slice a0 n0 c0) ∧ w9.cell? ⟨sz, 1, none⟩ = some (.int .i64 pc) ∧ w9.cell? ⟨sz, 2, none⟩ = some (.bool on) ∧ w9.cell? ⟨sz, 3, none⟩ = some (.slice a1 n1 c1) ∧ w9.cell? ⟨sz, 4, none⟩ = some (.slice a2 n2 c2)) := KS.out _ hb9'
       clear hb9 hb9'))
  have LC9 : Hid (LC w sz B4 B5 B6 q4 q5 q6 (Value.slice xp0 T.n0 xd0) (Value.slice xp1 T.n1 xd1) (Value.slice xp2 T.n2 xd2) (Value.slice up0 n0 ud0) (Value.slice up1 n1 ud1) (Value.slice up2 n2 ud2) (Value.slice gp0 T.n0 gd0) (Value.slice gp1 T.n1 gd1) (Value.slice gp2 T.n2 gd2) T ⟨n0, fs, pc, on, n1, gs, n2, hs⟩ T w9) := LC7.out.on (LC7.out.size HSZ.out) HB9.out
  have HA9 : Hid (Below W.heap.size W w9) := HA7.out.trans (HB9.out.mono HA7.out.size)
  clear K0 K1 K2 KS SA8 HB8 HB9 LC6 LC7 HA6 HA7
  obtain ⟨y0, y1, y2, y3, y4, -⟩ := LC9.out.b5.five
  go_wp2_with fail
  refine (markThread_o B5 _ _ _ ⟨n0, fs, pc, on, n1, gs, n2, hs⟩ _ SM.out LC9.out.o5).mono ?_
  rintro e w10 ⟨rfl, mo, mb, me⟩
  have LC10 : Hid (LC w sz B4 B5 B6 q4 q5 q6 (Value.slice xp0 T.n0 xd0) (Value.slice xp1 T.n1 xd1) (Value.slice xp2 T.n2 xd2) (Value.slice up0 n0 ud0) (Value.slice up1 n1 ud1) (Value.slice up2 n2 ud2) (Value.slice gp0 T.n0 gd0) (Value.slice gp1 T.n1 gd1) (Value.slice gp2 T.n2 gd2) T (TD.mark ⟨n0, fs, pc, on, n1, gs, n2, hs⟩ 1) T w10) := LC9.out.markU LHH.out _ (mark_pc _ _) mo mb me
  have HA10 : Hid (Below W.heap.size W w10) := HA9.out.trans (mb.mono (by have h1 := HA9.out.size; have h2 := HWB.out; omega))
  obtain ⟨ru, hru⟩ : ∃ ru : Int, 1 + TD.off ⟨n0, fs, pc, on, n1, gs, n2, hs⟩ = ru := ⟨_, rfl⟩
  have hru0 : ¬ ru < 0 := by have := off_nonneg ⟨n0, fs, pc, on, n1, gs, n2, hs⟩; omega
  rw [hru]
  clear mo mb me hru y0 y1 y2 y3 y4 LC9 HA9
  obtain ⟨y0, y1, y2, y3, y4, -⟩ := LC10.out.b6.five
  obtain ⟨z0, z1, z2, z3, z4, -⟩ := LC10.out.b4.five
  go_wp2_with fail
  refine (eqThread_same _ _ _ _ _ _ T _ (LC10.out.o6.at SMT.out) (LC10.out.o4.at SMT.out)).mono ?_
  rintro e w11 ⟨rfl, hb11⟩
  have LC11 : Hid (LC w sz B4 B5 B6 q4 q5 q6 (Value.slice xp0 T.n0 xd0) (Value.slice xp1 T.n1 xd1) (Value.slice xp2 T.n2 xd2) (Value.slice up0 n0 ud0) (Value.slice up1 n1 ud1) (Value.slice up2 n2 ud2) (Value.slice gp0 T.n0 gd0) (Value.slice gp1 T.n1 gd1) (Value.slice gp2 T.n2 gd2) T (TD.mark ⟨n0, fs, pc, on, n1, gs, n2, hs⟩ 1) T w11) := LC10.out.on (LC10.out.size HSZ.out) hb11
  have HA11 : Hid (Below W.heap.size W w11) := HA10.out.trans (hb11.mono HA10.out.size)
  clear hb11 y0 y1 y2 y3 y4 z0 z1 z2 z3 z4 LC10 HA10
  obtain ⟨y0, y1, y2, y3, y4, -⟩ := LC11.out.b6.five
  go_wp2_with fail
  refine (markThread_o B6 _ _ _ T _ SMT.out LC11.out.o6).mono ?_
  rintro e w12 ⟨rfl, mo, mb, me⟩
  have LC12 : Hid (LC w sz B4 B5 B6 q4 q5 q6 (Value.slice xp0 T.n0 xd0) (Value.slice xp1 T.n1 xd1) (Value.slice xp2 T.n2 xd2) (Value.slice up0 n0 ud0) (Value.slice up1 n1 ud1) (Value.slice up2 n2 ud2) (Value.slice gp0 T.n0 gd0) (Value.slice gp1 T.n1 gd1) (Value.slice gp2 T.n2 gd2) T (TD.mark ⟨n0, fs, pc, on, n1, gs, n2, hs⟩ 1) (T.mark 1) w12) := LC11.out.markG LHH.out _ (mark_pc _ _) mo mb me
  have HA12 : Hid (Below W.heap.size W w12) := HA11.out.trans (mb.mono (by have h1 := HA11.out.size; have h2 := HWB.out; omega))
  obtain ⟨rg, hrg⟩ : ∃ rg : Int, 1 + T.off = rg := ⟨_, rfl⟩
  have hrg0 : ¬ rg < 0 := by have := off_nonneg T; omega
  have hrg1 : (rg != rg) = false := by simp
  have HRG : Hid (1 + T.off = rg) := hrg
  rw [hrg]
  clear mo mb me hrg y0 y1 y2 y3 y4 LC11 HA11
  obtain ⟨y0, y1, y2, y3, y4, -⟩ := LC12.out.b6.five
  go_wp2_with fail
  refine (heldThread_o _ _ _ T _ SMT.out (LC12.out.o6.at (mark_small SMT.out))).mono ?_
  rintro e w13 ⟨rfl, hb13⟩
  rw [HRG.out]
  have LC13 : Hid (LC w sz B4 B5 B6 q4 q5 q6 (Value.slice xp0 T.n0 xd0) (Value.slice xp1 T.n1 xd1) (Value.slice xp2 T.n2 xd2) (Value.slice up0 n0 ud0) (Value.slice up1 n1 ud1) (Value.slice up2 n2 ud2) (Value.slice gp0 T.n0 gd0) (Value.slice gp1 T.n1 gd1) (Value.slice gp2 T.n2 gd2) T (TD.mark ⟨n0, fs, pc, on, n1, gs, n2, hs⟩ 1) (T.mark 1) w13) := LC12.out.on (LC12.out.size HSZ.out) hb13
  have HA13 : Hid (Below W.heap.size W w13) := HA12.out.trans (hb13.mono HA12.out.size)
  clear hb13 y0 y1 y2 y3 y4 LC12 HA12
  obtain ⟨y0, y1, y2, y3, y4⟩ := CA.out _ HA13.out
  go_wp2_with fail
  refine (toThread_any a0 a1 a2 c0 c1 c2 ⟨n0, fs, pc, on, n1, gs, n2, hs⟩ _ (INS.out _ LC13.out.bel)).mono ?_
  rintro e w14 ⟨s0, s1, s2, rfl, sO, hb14⟩
  have LC14 : Hid (LC w sz B4 B5 B6 q4 q5 q6 (Value.slice xp0 T.n0 xd0) (Value.slice xp1 T.n1 xd1) (Value.slice xp2 T.n2 xd2) (Value.slice up0 n0 ud0) (Value.slice up1 n1 ud1) (Value.slice up2 n2 ud2) (Value.slice gp0 T.n0 gd0) (Value.slice gp1 T.n1 gd1) (Value.slice gp2 T.n2 gd2) T (TD.mark ⟨n0, fs, pc, on, n1, gs, n2, hs⟩ 1) (T.mark 1) w14) := LC13.out.on (LC13.out.size HSZ.out) hb14
  have SA14 : Hid (ThAt w14 s0 s1 s2 ⟨n0, fs, pc, on, n1, gs, n2, hs⟩) := sO.at SM.out
  clear sO hb14 y0 y1 y2 y3 y4 LC13 HA13
  go_wp2_with fail
  refine (IMPL.out s0 s1 s2 _ SA14.out).mono ?_
  rintro e w15 ⟨h0', h1', h2', rfl, hO, hb15⟩
  obtain ⟨hp0, hd0, hp1, hd1, hp2, hd2, rfl, rfl, rfl⟩ := hO.forms
  obtain ⟨q8, hq8⟩ : ∃ q8, w15.heap.size = q8 := ⟨_, rfl⟩
  obtain ⟨W15, hW15⟩ : ∃ W15, w15.alloc (.cells #[Value.slice hp0 T.n0 hd0, .int .i64 (T).pc, .bool (T).on, Value.slice hp1 T.n1 hd1, Value.slice hp2 T.n2 hd2] 34) = W15 := ⟨_, rfl⟩
  have hxW15 : Below w15.heap.size w15 W15 := by rw [← hW15]; exact (Below.refl _ _).alloc (Nat.le_refl _) _
  have hsW15 : W15.heap.size = w15.heap.size + 1 := by rw [← hW15]; simp
  have YH : Hid (Box W15 q8 #[Value.slice hp0 T.n0 hd0, .int .i64 T.pc, .bool T.on, Value.slice hp1 T.n1 hd1, Value.slice hp2 T.n2 hd2] 34) := by rw [← hW15, ← hq8]; exact box_of w15 _ _
  have HO : Hid (ThAt W15 (Value.slice hp0 T.n0 hd0) (Value.slice hp1 T.n1 hd1) (Value.slice hp2 T.n2 hd2) T) := (hO.below hxW15 (Nat.le_refl _)).at SMT.out
  have LC15 : Hid (LC w sz B4 B5 B6 q4 q5 q6 (Value.slice xp0 T.n0 xd0) (Value.slice xp1 T.n1 xd1) (Value.slice xp2 T.n2 xd2) (Value.slice up0 n0 ud0) (Value.slice up1 n1 ud1) (Value.slice up2 n2 ud2) (Value.slice gp0 T.n0 gd0) (Value.slice gp1 T.n1 gd1) (Value.slice gp2 T.n2 gd2) T (TD.mark ⟨n0, fs, pc, on, n1, gs, n2, hs⟩ 1) (T.mark 1) W15) := LC14.out.on (LC14.out.size HSZ.out) (hb15.trans (hxW15.mono hb15.size))
  have HW15 : Hid _ := hW15
  have E15 : Hid (w15.heap.size = q8) := hq8
  clear hO hb15 hW15 hq8 hsW15 hxW15 LC14 SA14
  go_upto_region 25 with (fail)
  rw [HW15.out]
  (try rw [E15.out])
  clear HW15 E15
  obtain ⟨y0, y1, y2, y3, y4, -⟩ := YH.out.five
  obtain ⟨z0, z1, z2, z3, z4, -⟩ := LC15.out.b4.five
  go_wp2_with fail
  refine (eqThread_same _ _ _ _ _ _ T _ HO.out (LC15.out.o4.at SMT.out)).mono ?_
  rintro e w16 ⟨rfl, hb16⟩
  have LC16 : Hid (LC w sz B4 B5 B6 q4 q5 q6 (Value.slice xp0 T.n0 xd0) (Value.slice xp1 T.n1 xd1) (Value.slice xp2 T.n2 xd2) (Value.slice up0 n0 ud0) (Value.slice up1 n1 ud1) (Value.slice up2 n2 ud2) (Value.slice gp0 T.n0 gd0) (Value.slice gp1 T.n1 gd1) (Value.slice gp2 T.n2 gd2) T (TD.mark ⟨n0, fs, pc, on, n1, gs, n2, hs⟩ 1) (T.mark 1) w16) := LC15.out.on (LC15.out.size HSZ.out) hb16
  clear hb16 y0 y1 y2 y3 y4 z0 z1 z2 z3 z4 LC15 HO YH
  obtain ⟨y0, y1, y2, y3, y4, -⟩ := LC16.out.b6.five
  go_wp2_with fail
  refine (heldThread_o _ _ _ T _ SMT.out (LC16.out.o6.at (mark_small SMT.out))).mono ?_
  rintro e w17 ⟨rfl, hb17⟩
  rw [HRG.out]
  have hall : Below sz w w17 := LC16.out.bel.trans (hb17.mono (LC16.out.size HSZ.out))
  clear hb17 y0 y1 y2 y3 y4
  go_wp2
  go_ret
  exact ⟨rfl, by rw [HSZ.out]; exact hall⟩

set_option maxRecDepth 100000 in
theorem lifted (os : Os) (started : os.Started) (H : Type) (enc : TypeId × Value → H) :
    ReturnsInHanded {} Try.checked os 4 .any (Rows.fnExactPopSpec.pre6 enc Try.prog Try.f4 Rows.fnExactPopRow.domain false) (Rows.fnExactPopSpec.post enc Try.prog Try.f4 false true false false) := by
  refine returnsInHanded_of_change (C := Try.checked) own started (by kernel_rfl) Try.func4
    (ChangeSpec.witness6 (enc := enc) (C := Try.checked) false ⟨#[], #[.agg #[.slice none 0 0, .int .i64 0, .bool false, .slice none 0 0, .slice none 0 0]], []⟩ 8 (by kernel_rfl) (by kernel_rfl) (by kernel_rfl) (by kernel_rfl)) ?_
  intro W base args ds gs before hval0 hW hcnd _
  have hval : ∀ (j : Nat) t v, Try.f4.params[j]? = some t → args[j]? = some v → Value.okWide Try.prog W .any base t v := hval0
  have hW' := hW
  obtain ⟨p, q, hA0, hV, rfl, hfz, hnd⟩ := hW
  have hA : DataW.TrodAll enc Try.prog W 0 (fun _ => true) true Try.f4.params.toList args.toList ds p := hA0
  rw [Try.params4] at hA hval
  obtain ⟨v0, d0, rfl, rfl, h0⟩ := trodAll_one hA
  obtain ⟨rfl, rfl⟩ := trodVars_none hV
  have k0 := h0
  have lt0 : ∀ x ∈ p, x.block < W.heap.size := by obtain ⟨m, hm⟩ := k0; exact DataW.trod_lt m _ _ _ hm
  obtain ⟨a0, a1, a2, n0, c0, n1, c1, n2, c2, fs, gs, hs, pc, on, rfl, m0, m1, m2, q0, q1, q2⟩ := open_thread (hval 0 26 v0 rfl rfl) h0
  refine (walk a0 a1 a2 n0 c0 n1 c1 n2 c2 fs gs hs pc on W m0 m1 m2 q0 q1 q2).mono fun e W' ⟨he, bel⟩ => ?_
  subst he
  exact ⟨_, rfl, _, _, _, [], _, [], hW', trodAll_mk1 (shut_bool Try.underlying4 _), (trodAll_cons_mk (Below.trod laidOut (by kernel_rfl) (of_decide_eq_true (by kernel_rfl)) k0 bel lt0) trodAll_mk0), rfl, bel.frame _, fun h => by cases h⟩
end fnExactPop
theorem fnExactPop_holds : Rows.FnExactPopSaid :=
  OpenClaim.holds_of_wide 4 Try.f4 rfl rfl rfl rfl rfl rfl rfl ⟨rfl, rfl, rfl, rfl, rfl⟩ rfl rfl rfl rfl rfl (by kernel_rfl) Try.func4 (by kernel_rfl)
    (of_decide_eq_true (by kernel_rfl)) (by unfold Func.isWrapper; first | (rw [if_pos (by decide +kernel)]; kernel_rfl) | (rw [if_neg (by decide +kernel)]; exact ⟨rfl, rfl⟩))
    (fun os started H enc _ => fnExactPop.lifted os started H enc)
#print axioms fnExactPop_holds
end Go.Proofs.Ytemeklfkbjpnmas
