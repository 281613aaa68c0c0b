/- Push of the program answers as the specification's Push at all threads and helps, with memory of its own, and leaves what it was handed as it was: the law FnExactPush holds, with no condition. -/
import Derived.Test.YtemeklfkbjpnmarRows
import Derived.Test.YtemeklfkbjpnmarLawT
import Derived.Test.YtemeklfkbjpnmarLawPushR
import Derived.Test.YtemeklfkbjpnmarImpl8
import Derived.Test.YtemeklfkbjpnmarSpec8c
import Derived.OpenShut
import Derived.ChangeOld
import Derived.Below
import Derived.Lib.SmallJoins
import Derived.Deep.RegionHeld3
namespace Go.Proofs.Ytemeklfkbjpnmar
open Go.ChangeShapes Go.WideShapes Go.ChangeAt Go.RowKit Go.Joins

namespace fnExactPush
theorem own : ownKnob Try.prog.godebug = none := by kernel_rfl
theorem laidOut : laidOutB Try.prog = true := by kernel_rfl
set_option maxHeartbeats 16000000 in
set_option maxRecDepth 100000 in
theorem walk (a0 a1 a2 : Option Addr) (n0 c0 n1 c1 n2 c2 : Nat) (fs gs hs : List Int) (pc : Int) (on : Bool) (h : Nat → Int) (w : World) (h0 : n0 ≤ 9223372036854775807) (h1 : n1 ≤ 9223372036854775807) (h2 : n2 ≤ 9223372036854775807) (k0 : n0 ≤ 1048576 → KAt 3 w a0 n0 fs) (k1 : n1 ≤ 1048576 → KAt 2 w a1 n1 gs) (k2 : n2 ≤ 1048576 → KAt 4 w a2 n2 hs) :
    Calls Try.prog 7 #[ThV (.slice a0 n0 c0) (.slice a1 n1 c1) (.slice a2 n2 c2) pc on, HelpV h] w fun e w' => e = .returned (.bool true) ∧ Below w.heap.size w w' := by
  obtain ⟨sz, hsz⟩ : ∃ sz, w.heap.size = sz := ⟨_, rfl⟩
  obtain ⟨W, hW⟩ : ∃ W, (w.alloc (.cells #[.slice a0 n0 c0, .int .i64 pc, .bool on, .slice a1 n1 c1, .slice a2 n2 c2] 39)).alloc (.cells #[.int .i64 (h 0), .int .i64 (h 1), .int .i64 (h 2), .int .i64 (h 3)] 60) = W := ⟨_, rfl⟩
  have hb0 : Below sz w W := by rw [← hW, ← hsz]; exact ((Below.refl _ w).alloc (Nat.le_refl _) _).alloc (by simp) _
  have hWs : W.heap.size = sz + 2 := by rw [← hW, ← hsz]; simp
  have XA : Hid (Box W sz #[.slice a0 n0 c0, .int .i64 pc, .bool on, .slice a1 n1 c1, .slice a2 n2 c2] 39) := by rw [← hW, ← hsz]; exact (box_of w _ _).alloc _
  have XH : Hid (Box W (sz + 1) #[.int .i64 (h 0), .int .i64 (h 1), .int .i64 (h 2), .int .i64 (h 3)] 60) := by rw [← hW, ← hsz]; exact box_two w _ _ _
  have HW : Hid _ := hW
  have HSZ : Hid (w.heap.size = sz) := hsz
  have HB0 : Hid (Below sz w W) := hb0
  have HWS : Hid (W.heap.size = sz + 2) := hWs
  have HK : Hid ((n0 ≤ 1048576 → KAt 3 w a0 n0 fs) ∧ (n1 ≤ 1048576 → KAt 2 w a1 n1 gs) ∧ (n2 ≤ 1048576 → KAt 4 w a2 n2 hs)) := ⟨k0, k1, k2⟩
  clear hW hb0 hWs hsz k0 k1 k2
  go_enter Try.func7, Try.ntmps7
  go_wp2_with fail
  rw [HW.out]
  (try rw [HSZ.out])
  refine (szThread_any a0 a1 a2 n0 c0 n1 c1 n2 c2 pc on _ h0 h1 h2).mono ?_
  rintro e w1 ⟨hb1, rfl | ⟨r, rfl, hr0, hsum⟩⟩
  · have hall : Below sz w w1 := HB0.out.trans (hb1.mono (by have := HWS.out; omega))
    clear hb1
    go_wp2
    go_ret
    exact ⟨rfl, by rw [HSZ.out]; exact hall⟩
  have hr2 : ¬ r < 0 := by omega
  have HB1 : Hid (Below W.heap.size W w1) := hb1
  have IN0 : Hid (ThIn w a0 a1 a2 ⟨n0, fs, pc, on, n1, gs, n2, hs⟩) := ⟨HK.out.1 (by omega), HK.out.2.1 (by omega), HK.out.2.2 (by omega)⟩
  have SM : Hid (TD.Small ⟨n0, fs, pc, on, n1, gs, n2, hs⟩) := ⟨by show n0 ≤ _; omega, by show n1 ≤ _; omega, by show n2 ≤ _; omega⟩
  have hn2 : n2 ≤ 1048576 := by omega
  have hsw : w.heap.size ≤ sz := by rw [HSZ.out]; exact Nat.le_refl _
  have HBW1 : Hid (Below sz w w1) := HB0.out.trans (hb1.mono (by have := HWS.out; omega))
  have INS : Hid (∀ y, Below sz w y → ThIn y a0 a1 a2 ⟨n0, fs, pc, on, n1, gs, n2, hs⟩) := fun y hb => IN0.out.below hb hsw
  have CA : Hid (∀ y, Below W.heap.size W y → y.cell? ⟨sz, 0, none⟩ = some (.slice a0 n0 c0) ∧ y.cell? ⟨sz, 1, none⟩ = some (.int .i64 pc) ∧ y.cell? ⟨sz, 2, none⟩ = some (.bool on) ∧ y.cell? ⟨sz, 3, none⟩ = some (.slice a1 n1 c1) ∧ y.cell? ⟨sz, 4, none⟩ = some (.slice a2 n2 c2)) := fun y hb => by
    obtain ⟨y0, y1, y2, y3, y4, -⟩ := (XA.out.below hb XA.out.lt).five
    exact ⟨y0, y1, y2, y3, y4⟩
  clear hb1 HK
  obtain ⟨T, hT⟩ : ∃ T, TD.push ⟨n0, fs, pc, on, n1, gs, n2, hs⟩ h = T := ⟨_, rfl⟩
  have SPEC : Hid (∀ v0 v1 v2 y, ThAt y v0 v1 v2 ⟨n0, fs, pc, on, n1, gs, n2, hs⟩ → Calls Try.prog 29 #[ThV v0 v1 v2 pc on, HelpV h] y (ThAns y T)) := fun v0 v1 v2 y hy => hT ▸ specPush_any v0 v1 v2 ⟨n0, fs, pc, on, n1, gs, n2, hs⟩ h y hy
  have IMPL : Hid (∀ v0 v1 v2 y, ThAt y v0 v1 v2 ⟨n0, fs, pc, on, n1, gs, n2, hs⟩ → Calls Try.prog 31 #[ThV v0 v1 v2 pc on, HelpV h] y (ThAns y T)) := fun v0 v1 v2 y hy => hT ▸ implPush_any v0 v1 v2 ⟨n0, fs, pc, on, n1, gs, n2, hs⟩ h y hn2 hy
  have SMT : Hid T.Small := by rw [← hT]; exact ⟨by show n0 ≤ _; omega, by show n1 ≤ _; omega, by show n2 + 1 ≤ _; omega⟩
  have CH : Hid (∀ y, Below W.heap.size W y → y.cell? ⟨sz + 1, 0, none⟩ = some (.int .i64 (h 0)) ∧ y.cell? ⟨sz + 1, 1, none⟩ = some (.int .i64 (h 1)) ∧ y.cell? ⟨sz + 1, 2, none⟩ = some (.int .i64 (h 2)) ∧ y.cell? ⟨sz + 1, 3, none⟩ = some (.int .i64 (h 3))) := fun y hb => by
    obtain ⟨y0, y1, y2, y3, -⟩ := (XH.out.below hb XH.out.lt).four
    exact ⟨y0, y1, y2, y3⟩
  have CAH : Hid (∀ y, Below w1.heap.size w1 y → (y.cell? ⟨sz, 0, none⟩ = some (.slice a0 n0 c0) ∧ y.cell? ⟨sz, 1, none⟩ = some (.int .i64 pc) ∧ y.cell? ⟨sz, 2, none⟩ = some (.bool on) ∧ y.cell? ⟨sz, 3, none⟩ = some (.slice a1 n1 c1) ∧ y.cell? ⟨sz, 4, none⟩ = some (.slice a2 n2 c2)) ∧ y.cell? ⟨sz + 1, 0, none⟩ = some (.int .i64 (h 0)) ∧ y.cell? ⟨sz + 1, 1, none⟩ = some (.int .i64 (h 1)) ∧ y.cell? ⟨sz + 1, 2, none⟩ = some (.int .i64 (h 2)) ∧ y.cell? ⟨sz + 1, 3, none⟩ = some (.int .i64 (h 3))) := fun y hb => ⟨CA.out y (HB1.out.trans (hb.mono HB1.out.size)), CH.out y (HB1.out.trans (hb.mono HB1.out.size))⟩
  have IN1 : Hid (∀ y, Below w1.heap.size w1 y → ThIn y a0 a1 a2 ⟨n0, fs, pc, on, n1, gs, n2, hs⟩) := fun y hb => INS.out y (HBW1.out.trans (hb.mono (by have := HBW1.out.size; have := HSZ.out; omega)))
  clear hT
  go_upto_region 5 with (fail)
  refine wp_cut (reg5_wp sz a0 a1 a2 c0 c1 c2 n0 n1 n2 fs gs hs pc on h T w1 SM.out CAH.out IN1.out SPEC.out) ?_
  rintro _ W4 ⟨s1, s3, x0, x1, x2, q4, rfl, bx4, xO4, nq4, lq4, hb4⟩
  obtain ⟨xp0, xd0, xp1, xd1, xp2, xd2, rfl, rfl, rfl⟩ := xO4.forms
  obtain ⟨B4, hB4⟩ : ∃ B4, w1.heap.size = B4 := ⟨_, rfl⟩
  rw [hB4] at xO4
  have X4 : Hid (Box W4 q4 #[Value.slice xp0 T.n0 xd0, .int .i64 T.pc, .bool T.on, Value.slice xp1 T.n1 xd1, Value.slice xp2 T.n2 xd2] 46) := bx4
  have XO : Hid (ThO W4 B4 (Value.slice xp0 T.n0 xd0) (Value.slice xp1 T.n1 xd1) (Value.slice xp2 T.n2 xd2) T) := xO4
  have HA4 : Hid (Below W.heap.size W W4) := HB1.out.trans (hb4.mono HB1.out.size)
  have HLT : Hid (sz < W4.heap.size) := by have h1 := HA4.out.size; have h2 := HWS.out; show _ < _; omega
  clear bx4 xO4 nq4 lq4 hb4 hB4 HB1 HBW1 CAH IN1
  go_upto_region 6 with (fail)
  obtain ⟨B5, hB5⟩ : ∃ B5, W4.heap.size = B5 := ⟨_, rfl⟩
  have HB5 : Hid (W4.heap.size = B5) := hB5
  clear hB5
  obtain ⟨y0, y1, y2, y3, y4⟩ := CA.out _ HA4.out
  go_wp2_with fail
  refine (toThread_any a0 a1 a2 c0 c1 c2 ⟨n0, fs, pc, on, n1, gs, n2, hs⟩ _ (INS.out _ (HB0.out.trans (HA4.out.mono (by have := HWS.out; omega))))).mono ?_
  rintro e w5 ⟨u0, u1, u2, rfl, uO, hb5⟩
  obtain ⟨up0, ud0, up1, ud1, up2, ud2, rfl, rfl, rfl⟩ := uO.forms
  have ULT : Hid (∀ k, In3 (Value.slice up0 n0 ud0) (Value.slice up1 n1 ud1) (Value.slice up2 n2 ud2) k → W4.heap.size ≤ k ∧ k < w5.heap.size) := fun k hk => uO.blk hk
  have S5 : Hid (W4.heap.size ≤ w5.heap.size) := hb5.size
  obtain ⟨q5, hq5⟩ : ∃ q5, w5.heap.size = q5 := ⟨_, rfl⟩
  obtain ⟨W5, hW5⟩ : ∃ W5, w5.alloc (.cells #[Value.slice up0 n0 ud0, .int .i64 pc, .bool on, Value.slice up1 n1 ud1, Value.slice up2 n2 ud2] 46) = W5 := ⟨_, rfl⟩
  have hxW5 : Below w5.heap.size w5 W5 := by rw [← hW5]; exact (Below.refl _ _).alloc (Nat.le_refl _) _
  have hsW5 : W5.heap.size = w5.heap.size + 1 := by rw [← hW5]; simp
  obtain ⟨B6, hB6⟩ : ∃ B6, W5.heap.size = B6 := ⟨_, rfl⟩
  have X5 : Hid (Box W5 q5 #[Value.slice up0 n0 ud0, .int .i64 pc, .bool on, Value.slice up1 n1 ud1, Value.slice up2 n2 ud2] 46) := by rw [← hW5, ← hq5]; exact box_of w5 _ _
  have UO : Hid (ThO W5 W4.heap.size (Value.slice up0 n0 ud0) (Value.slice up1 n1 ud1) (Value.slice up2 n2 ud2) ⟨n0, fs, pc, on, n1, gs, n2, hs⟩) := uO.below hxW5 (Nat.le_refl _)
  have HB45 : Hid (Below W4.heap.size W4 W5) := hb5.trans (hxW5.mono hb5.size)
  have HA5 : Hid (Below W.heap.size W W5) := HA4.out.trans (HB45.out.mono HA4.out.size)
  have HW5 : Hid _ := hW5
  have E5 : Hid (w5.heap.size = q5 ∧ W5.heap.size = w5.heap.size + 1 ∧ W5.heap.size = B6) := ⟨hq5, hsW5, hB6⟩
  have UA : Hid (ThAt W5 (Value.slice up0 n0 ud0) (Value.slice up1 n1 ud1) (Value.slice up2 n2 ud2) ⟨n0, fs, pc, on, n1, gs, n2, hs⟩) := UO.out.at SM.out
  clear uO hb5 hW5 hq5 hsW5 hB6 hxW5 y0 y1 y2 y3 y4
  go_upto_region 7 with (fail)
  rw [HW5.out]
  (try rw [E5.out.1])
  have CUH : Hid (∀ y, Below W5.heap.size W5 y → (y.cell? ⟨q5, 0, none⟩ = some (.slice up0 n0 ud0) ∧ y.cell? ⟨q5, 1, none⟩ = some (.int .i64 pc) ∧ y.cell? ⟨q5, 2, none⟩ = some (.bool on) ∧ y.cell? ⟨q5, 3, none⟩ = some (.slice up1 n1 ud1) ∧ y.cell? ⟨q5, 4, none⟩ = some (.slice up2 n2 ud2)) ∧ y.cell? ⟨sz + 1, 0, none⟩ = some (.int .i64 (h 0)) ∧ y.cell? ⟨sz + 1, 1, none⟩ = some (.int .i64 (h 1)) ∧ y.cell? ⟨sz + 1, 2, none⟩ = some (.int .i64 (h 2)) ∧ y.cell? ⟨sz + 1, 3, none⟩ = some (.int .i64 (h 3))) := fun y hb => by
    obtain ⟨y0, y1, y2, y3, y4, -⟩ := (X5.out.below hb X5.out.lt).five
    exact ⟨⟨y0, y1, y2, y3, y4⟩, CH.out y (HA5.out.trans (hb.mono HA5.out.size))⟩
  refine wp_cut (reg7_wp sz up0 up1 up2 ud0 ud1 ud2 q5 n0 n1 n2 fs gs hs pc on h T W5 CUH.out UA.out IMPL.out) ?_
  rintro _ W6 ⟨s3', g0, g1, g2, q6, rfl, bx6, gO6, nq6, lq6, hb6⟩
  obtain ⟨gp0, gd0, gp1, gd1, gp2, gd2, rfl, rfl, rfl⟩ := gO6.forms
  have X6 : Hid (Box W6 q6 #[Value.slice gp0 T.n0 gd0, .int .i64 T.pc, .bool T.on, Value.slice gp1 T.n1 gd1, Value.slice gp2 T.n2 gd2] 46) := bx6
  have GNE : Hid (¬ In3 (Value.slice gp0 T.n0 gd0) (Value.slice gp1 T.n1 gd1) (Value.slice gp2 T.n2 gd2) q6 ∧ W5.heap.size ≤ q6) := ⟨nq6, lq6⟩
  have GO : Hid (ThO W6 W5.heap.size (Value.slice gp0 T.n0 gd0) (Value.slice gp1 T.n1 gd1) (Value.slice gp2 T.n2 gd2) T) := gO6
  have HB56 : Hid (Below W5.heap.size W5 W6) := hb6
  clear bx6 gO6 nq6 lq6 hb6 CUH
  go_upto_region 8 with (fail)
  have HA6 : Hid (Below W.heap.size W W6) := HA5.out.trans (HB56.out.mono HA5.out.size)
  have eB5 := HB5.out
  obtain ⟨eq5, es5, eB6⟩ := E5.out
  have s45 := HB45.out.size
  have s56 := HB56.out.size
  have s5 := S5.out
  have hlt := HLT.out
  have x4l := X4.out.lt
  have LHH : Hid (LH sz B5 q4 q5 B6 q6 (Value.slice xp0 T.n0 xd0) (Value.slice xp1 T.n1 xd1) (Value.slice xp2 T.n2 xd2) (Value.slice up0 n0 ud0) (Value.slice up1 n1 ud1) (Value.slice up2 n2 ud2) (Value.slice gp0 T.n0 gd0) (Value.slice gp1 T.n1 gd1) (Value.slice gp2 T.n2 gd2)) := by
    refine ⟨by omega, by omega, fun k hk => ?_, fun k hk => ?_, by omega, fun k hk => ⟨?_, fun e => GNE.out.1 (e ▸ hk)⟩, ?_, by omega⟩
    · have := (XO.out.blk hk).2; omega
    · have := ULT.out k hk; omega
    · have := GO.out.blk hk; omega
    · have := GNE.out.2; omega
  have LC6 : Hid (LC w sz B4 B5 B6 q4 q5 q6 (Value.slice xp0 T.n0 xd0) (Value.slice xp1 T.n1 xd1) (Value.slice xp2 T.n2 xd2) (Value.slice up0 n0 ud0) (Value.slice up1 n1 ud1) (Value.slice up2 n2 ud2) (Value.slice gp0 T.n0 gd0) (Value.slice gp1 T.n1 gd1) (Value.slice gp2 T.n2 gd2) T ⟨n0, fs, pc, on, n1, gs, n2, hs⟩ T W6) := by
    have h1 := HWS.out
    have b46 : Below W4.heap.size W4 W6 := HB45.out.trans (HB56.out.mono HB45.out.size)
    refine ⟨HB0.out.trans (HA6.out.mono (by omega)), X4.out.below b46 X4.out.lt, XO.out.below b46 (Nat.le_refl _), X5.out.below HB56.out X5.out.lt, (UO.out.below HB56.out (Nat.le_refl _)).weaken (by omega), X6.out, GO.out.weaken (by omega)⟩
  have HWB : Hid (W.heap.size ≤ B5 ∧ W.heap.size ≤ B6) := by
    have h2 := HA4.out.size
    refine ⟨?_, ?_⟩ <;> (show _ ≤ _) <;> omega
  clear eB5 eq5 es5 eB6 s45 s56 s5 hlt x4l X4 X5 X6 XO UO GO UA HB45 HB56 E5 HB5 S5 HW5 HA4 HA5 HLT ULT GNE
  obtain ⟨y0, y1, y2, y3, y4, -⟩ := LC6.out.b6.five
  obtain ⟨z0, z1, z2, z3, z4, -⟩ := LC6.out.b4.five
  go_wp2_with fail
  refine (eqThread_same _ _ _ _ _ _ T _ (LC6.out.o6.at SMT.out) (LC6.out.o4.at SMT.out)).mono ?_
  rintro e w7 ⟨rfl, hb7⟩
  have LC7 : Hid (LC w sz B4 B5 B6 q4 q5 q6 (Value.slice xp0 T.n0 xd0) (Value.slice xp1 T.n1 xd1) (Value.slice xp2 T.n2 xd2) (Value.slice up0 n0 ud0) (Value.slice up1 n1 ud1) (Value.slice up2 n2 ud2) (Value.slice gp0 T.n0 gd0) (Value.slice gp1 T.n1 gd1) (Value.slice gp2 T.n2 gd2) T ⟨n0, fs, pc, on, n1, gs, n2, hs⟩ T w7) := LC6.out.on (LC6.out.size HSZ.out) hb7
  have HA7 : Hid (Below W.heap.size W w7) := HA6.out.trans (hb7.mono HA6.out.size)
  clear hb7 y0 y1 y2 y3 y4 z0 z1 z2 z3 z4
  have KS : Hid (∀ y, Below w7.heap.size w7 y → (y.cell? ⟨q5, 0, none⟩ = some (.slice up0 n0 ud0) ∧ y.cell? ⟨q5, 1, none⟩ = some (.int .i64 pc) ∧ y.cell? ⟨q5, 2, none⟩ = some (.bool on) ∧ y.cell? ⟨q5, 3, none⟩ = some (.slice up1 n1 ud1) ∧ y.cell? ⟨q5, 4, none⟩ = some (.slice up2 n2 ud2)) ∧ y.cell? ⟨sz, 0, none⟩ = some (.slice a0 n0 c0) ∧ y.cell? ⟨sz, 1, none⟩ = some (.int .i64 pc) ∧ y.cell? ⟨sz, 2, none⟩ = some (.bool on) ∧ y.cell? ⟨sz, 3, none⟩ = some (.slice a1 n1 c1) ∧ y.cell? ⟨sz, 4, none⟩ = some (.slice a2 n2 c2)) := fun y hb => by
    obtain ⟨y0, y1, y2, y3, y4, -⟩ := (LC7.out.b5.below hb LC7.out.b5.lt).five
    exact ⟨⟨y0, y1, y2, y3, y4⟩, CA.out y (HA7.out.trans (hb.mono HA7.out.size))⟩
  have K0 : Hid ((w7.drew.cell? ⟨q5, 0, none⟩ = some (.slice up0 n0 ud0) ∧ w7.drew.cell? ⟨q5, 1, none⟩ = some (.int .i64 pc) ∧ w7.drew.cell? ⟨q5, 2, none⟩ = some (.bool on) ∧ w7.drew.cell? ⟨q5, 3, none⟩ = some (.slice up1 n1 ud1) ∧ w7.drew.cell? ⟨q5, 4, none⟩ = some (.slice up2 n2 ud2)) ∧ w7.drew.cell? ⟨sz, 0, none⟩ = some (.slice a0 n0 c0) ∧ w7.drew.cell? ⟨sz, 1, none⟩ = some (.int .i64 pc) ∧ w7.drew.cell? ⟨sz, 2, none⟩ = some (.bool on) ∧ w7.drew.cell? ⟨sz, 3, none⟩ = some (.slice a1 n1 c1) ∧ w7.drew.cell? ⟨sz, 4, none⟩ = some (.slice a2 n2 c2)) := KS.out _ (Below.refl _ _).drew
  go_upto_region 10 with (fail)
  go_region_held3 (fun w' => (w'.cell? ⟨q5, 0, none⟩ = some (.slice up0 n0 ud0) ∧ w'.cell? ⟨q5, 1, none⟩ = some (.int .i64 pc) ∧ w'.cell? ⟨q5, 2, none⟩ = some (.bool on) ∧ w'.cell? ⟨q5, 3, none⟩ = some (.slice up1 n1 ud1) ∧ w'.cell? ⟨q5, 4, none⟩ = some (.slice up2 n2 ud2)) ∧ w'.cell? ⟨sz, 0, none⟩ = some (.slice a0 n0 c0) ∧ w'.cell? ⟨sz, 1, none⟩ = some (.int .i64 pc) ∧ w'.cell? ⟨sz, 2, none⟩ = some (.bool on) ∧ w'.cell? ⟨sz, 3, none⟩ = some (.slice a1 n1 c1) ∧ w'.cell? ⟨sz, 4, none⟩ = some (.slice a2 n2 c2))
    (first | (with_reducible exact K2.out) | (with_reducible exact K1.out) | (with_reducible exact K0.out) | go_keep)
    (first
    | (go_at_call 16
       refine (toThread_any a0 a1 a2 c0 c1 c2 ⟨n0, fs, pc, on, n1, gs, n2, hs⟩ _ (INS.out _ LC7.out.bel.drew)).mono ?_
       rintro e w8 ⟨s0, s1, s2, rfl, sO, hb8⟩
       have hb8' : Below w7.heap.size w7 w8 := (Below.refl w7.heap.size w7).drew.trans hb8
       have HB8 : Hid (Below w7.heap.size w7 w8) := hb8'
       have SA8 : Hid (ThAt w8 s0 s1 s2 ⟨n0, fs, pc, on, n1, gs, n2, hs⟩) := sO.at SM.out
       have K1 : Hid ((w8.cell? ⟨q5, 0, none⟩ = some (.slice up0 n0 ud0) ∧ w8.cell? ⟨q5, 1, none⟩ = some (.int .i64 pc) ∧ w8.cell? ⟨q5, 2, none⟩ = some (.bool on) ∧ w8.cell? ⟨q5, 3, none⟩ = some (.slice up1 n1 ud1) ∧ w8.cell? ⟨q5, 4, none⟩ = some (.slice up2 n2 ud2)) ∧ w8.cell? ⟨sz, 0, none⟩ = some (.slice a0 n0 c0) ∧ w8.cell? ⟨sz, 1, none⟩ = some (.int .i64 pc) ∧ w8.cell? ⟨sz, 2, none⟩ = some (.bool on) ∧ w8.cell? ⟨sz, 3, none⟩ = some (.slice a1 n1 c1) ∧ w8.cell? ⟨sz, 4, none⟩ = some (.slice a2 n2 c2)) := KS.out _ hb8'
       clear hb8 hb8' sO)
    | (go_at_call 18
       refine (eqThread_same _ _ _ s0 s1 s2 ⟨n0, fs, pc, on, n1, gs, n2, hs⟩ _ ((LC7.out.o5.below HB8.out (Nat.le_refl _)).at SM.out) SA8.out).mono ?_
       rintro e w9 ⟨rfl, hb9⟩
       have hb9' : Below w7.heap.size w7 w9 := HB8.out.trans (hb9.mono HB8.out.size)
       have HB9 : Hid (Below w7.heap.size w7 w9) := hb9'
       have K2 : Hid ((w9.cell? ⟨q5, 0, none⟩ = some (.slice up0 n0 ud0) ∧ w9.cell? ⟨q5, 1, none⟩ = some (.int .i64 pc) ∧ w9.cell? ⟨q5, 2, none⟩ = some (.bool on) ∧ w9.cell? ⟨q5, 3, none⟩ = some (.slice up1 n1 ud1) ∧ w9.cell? ⟨q5, 4, none⟩ = some (.slice up2 n2 ud2)) ∧ w9.cell? ⟨sz, 0, none⟩ = some (.slice a0 n0 c0) ∧ w9.cell? ⟨sz, 1, none⟩ = some (.int .i64 pc) ∧ w9.cell? ⟨sz, 2, none⟩ = some (.bool on) ∧ w9.cell? ⟨sz, 3, none⟩ = some (.slice a1 n1 c1) ∧ w9.cell? ⟨sz, 4, none⟩ = some (.slice a2 n2 c2)) := KS.out _ hb9'
       clear hb9 hb9'))
  have LC9 : Hid (LC w sz B4 B5 B6 q4 q5 q6 (Value.slice xp0 T.n0 xd0) (Value.slice xp1 T.n1 xd1) (Value.slice xp2 T.n2 xd2) (Value.slice up0 n0 ud0) (Value.slice up1 n1 ud1) (Value.slice up2 n2 ud2) (Value.slice gp0 T.n0 gd0) (Value.slice gp1 T.n1 gd1) (Value.slice gp2 T.n2 gd2) T ⟨n0, fs, pc, on, n1, gs, n2, hs⟩ T w9) := LC7.out.on (LC7.out.size HSZ.out) HB9.out
  have HA9 : Hid (Below W.heap.size W w9) := HA7.out.trans (HB9.out.mono HA7.out.size)
  clear K0 K1 K2 KS SA8 HB8 HB9 LC6 LC7 HA6 HA7
  obtain ⟨y0, y1, y2, y3, y4, -⟩ := LC9.out.b5.five
  go_wp2_with fail
  refine (markThread_o B5 _ _ _ ⟨n0, fs, pc, on, n1, gs, n2, hs⟩ _ SM.out LC9.out.o5).mono ?_
  rintro e w10 ⟨rfl, mo, mb, me⟩
  have LC10 : Hid (LC w sz B4 B5 B6 q4 q5 q6 (Value.slice xp0 T.n0 xd0) (Value.slice xp1 T.n1 xd1) (Value.slice xp2 T.n2 xd2) (Value.slice up0 n0 ud0) (Value.slice up1 n1 ud1) (Value.slice up2 n2 ud2) (Value.slice gp0 T.n0 gd0) (Value.slice gp1 T.n1 gd1) (Value.slice gp2 T.n2 gd2) T (TD.mark ⟨n0, fs, pc, on, n1, gs, n2, hs⟩ 1) T w10) := LC9.out.markU LHH.out _ (mark_pc _ _) mo mb me
  have HA10 : Hid (Below W.heap.size W w10) := HA9.out.trans (mb.mono (by have h1 := HA9.out.size; have h2 := HWB.out; omega))
  obtain ⟨ru, hru⟩ : ∃ ru : Int, 1 + TD.off ⟨n0, fs, pc, on, n1, gs, n2, hs⟩ = ru := ⟨_, rfl⟩
  have hru0 : ¬ ru < 0 := by have := off_nonneg ⟨n0, fs, pc, on, n1, gs, n2, hs⟩; omega
  rw [hru]
  clear mo mb me hru y0 y1 y2 y3 y4 LC9 HA9
  obtain ⟨y0, y1, y2, y3, y4, -⟩ := LC10.out.b6.five
  obtain ⟨z0, z1, z2, z3, z4, -⟩ := LC10.out.b4.five
  go_wp2_with fail
  refine (eqThread_same _ _ _ _ _ _ T _ (LC10.out.o6.at SMT.out) (LC10.out.o4.at SMT.out)).mono ?_
  rintro e w11 ⟨rfl, hb11⟩
  have LC11 : Hid (LC w sz B4 B5 B6 q4 q5 q6 (Value.slice xp0 T.n0 xd0) (Value.slice xp1 T.n1 xd1) (Value.slice xp2 T.n2 xd2) (Value.slice up0 n0 ud0) (Value.slice up1 n1 ud1) (Value.slice up2 n2 ud2) (Value.slice gp0 T.n0 gd0) (Value.slice gp1 T.n1 gd1) (Value.slice gp2 T.n2 gd2) T (TD.mark ⟨n0, fs, pc, on, n1, gs, n2, hs⟩ 1) T w11) := LC10.out.on (LC10.out.size HSZ.out) hb11
  have HA11 : Hid (Below W.heap.size W w11) := HA10.out.trans (hb11.mono HA10.out.size)
  clear hb11 y0 y1 y2 y3 y4 z0 z1 z2 z3 z4 LC10 HA10
  obtain ⟨y0, y1, y2, y3, y4, -⟩ := LC11.out.b6.five
  go_wp2_with fail
  refine (markThread_o B6 _ _ _ T _ SMT.out LC11.out.o6).mono ?_
  rintro e w12 ⟨rfl, mo, mb, me⟩
  have LC12 : Hid (LC w sz B4 B5 B6 q4 q5 q6 (Value.slice xp0 T.n0 xd0) (Value.slice xp1 T.n1 xd1) (Value.slice xp2 T.n2 xd2) (Value.slice up0 n0 ud0) (Value.slice up1 n1 ud1) (Value.slice up2 n2 ud2) (Value.slice gp0 T.n0 gd0) (Value.slice gp1 T.n1 gd1) (Value.slice gp2 T.n2 gd2) T (TD.mark ⟨n0, fs, pc, on, n1, gs, n2, hs⟩ 1) (T.mark 1) w12) := LC11.out.markG LHH.out _ (mark_pc _ _) mo mb me
  have HA12 : Hid (Below W.heap.size W w12) := HA11.out.trans (mb.mono (by have h1 := HA11.out.size; have h2 := HWB.out; omega))
  obtain ⟨rg, hrg⟩ : ∃ rg : Int, 1 + T.off = rg := ⟨_, rfl⟩
  have hrg0 : ¬ rg < 0 := by have := off_nonneg T; omega
  have hrg1 : (rg != rg) = false := by simp
  have HRG : Hid (1 + T.off = rg) := hrg
  rw [hrg]
  clear mo mb me hrg y0 y1 y2 y3 y4 LC11 HA11
  obtain ⟨y0, y1, y2, y3, y4, -⟩ := LC12.out.b6.five
  go_wp2_with fail
  refine (heldThread_o _ _ _ T _ SMT.out (LC12.out.o6.at (mark_small SMT.out))).mono ?_
  rintro e w13 ⟨rfl, hb13⟩
  rw [HRG.out]
  have LC13 : Hid (LC w sz B4 B5 B6 q4 q5 q6 (Value.slice xp0 T.n0 xd0) (Value.slice xp1 T.n1 xd1) (Value.slice xp2 T.n2 xd2) (Value.slice up0 n0 ud0) (Value.slice up1 n1 ud1) (Value.slice up2 n2 ud2) (Value.slice gp0 T.n0 gd0) (Value.slice gp1 T.n1 gd1) (Value.slice gp2 T.n2 gd2) T (TD.mark ⟨n0, fs, pc, on, n1, gs, n2, hs⟩ 1) (T.mark 1) w13) := LC12.out.on (LC12.out.size HSZ.out) hb13
  have HA13 : Hid (Below W.heap.size W w13) := HA12.out.trans (hb13.mono HA12.out.size)
  clear hb13 y0 y1 y2 y3 y4 LC12 HA12
  have CAH : Hid (∀ y, Below w13.heap.size w13 y → (y.cell? ⟨sz, 0, none⟩ = some (.slice a0 n0 c0) ∧ y.cell? ⟨sz, 1, none⟩ = some (.int .i64 pc) ∧ y.cell? ⟨sz, 2, none⟩ = some (.bool on) ∧ y.cell? ⟨sz, 3, none⟩ = some (.slice a1 n1 c1) ∧ y.cell? ⟨sz, 4, none⟩ = some (.slice a2 n2 c2)) ∧ y.cell? ⟨sz + 1, 0, none⟩ = some (.int .i64 (h 0)) ∧ y.cell? ⟨sz + 1, 1, none⟩ = some (.int .i64 (h 1)) ∧ y.cell? ⟨sz + 1, 2, none⟩ = some (.int .i64 (h 2)) ∧ y.cell? ⟨sz + 1, 3, none⟩ = some (.int .i64 (h 3))) := fun y hb => ⟨CA.out y (HA13.out.trans (hb.mono HA13.out.size)), CH.out y (HA13.out.trans (hb.mono HA13.out.size))⟩
  have IN1 : Hid (∀ y, Below w13.heap.size w13 y → ThIn y a0 a1 a2 ⟨n0, fs, pc, on, n1, gs, n2, hs⟩) := fun y hb => INS.out y (LC13.out.bel.trans (hb.mono (LC13.out.size HSZ.out)))
  go_upto_region 24 with (fail)
  refine wp_cut (reg24_wp sz a0 a1 a2 c0 c1 c2 n0 n1 n2 fs gs hs pc on h T w13 SM.out CAH.out IN1.out IMPL.out) ?_
  rintro _ W15 ⟨t1', t3', h0', h1', h2', q8, rfl, bx8, hO8, -, -, hb15⟩
  obtain ⟨hp0, hd0, hp1, hd1, hp2, hd2, rfl, rfl, rfl⟩ := hO8.forms
  have YH : Hid (Box W15 q8 #[Value.slice hp0 T.n0 hd0, .int .i64 T.pc, .bool T.on, Value.slice hp1 T.n1 hd1, Value.slice hp2 T.n2 hd2] 46) := bx8
  have HO : Hid (ThAt W15 (Value.slice hp0 T.n0 hd0) (Value.slice hp1 T.n1 hd1) (Value.slice hp2 T.n2 hd2) T) := hO8.at SMT.out
  have LC15 : Hid (LC w sz B4 B5 B6 q4 q5 q6 (Value.slice xp0 T.n0 xd0) (Value.slice xp1 T.n1 xd1) (Value.slice xp2 T.n2 xd2) (Value.slice up0 n0 ud0) (Value.slice up1 n1 ud1) (Value.slice up2 n2 ud2) (Value.slice gp0 T.n0 gd0) (Value.slice gp1 T.n1 gd1) (Value.slice gp2 T.n2 gd2) T (TD.mark ⟨n0, fs, pc, on, n1, gs, n2, hs⟩ 1) (T.mark 1) W15) := LC13.out.on (LC13.out.size HSZ.out) hb15
  clear bx8 hO8 hb15 CAH IN1 LC13 HA13
  go_upto_region 25 with (fail)
  obtain ⟨y0, y1, y2, y3, y4, -⟩ := YH.out.five
  obtain ⟨z0, z1, z2, z3, z4, -⟩ := LC15.out.b4.five
  go_wp2_with fail
  refine (eqThread_same _ _ _ _ _ _ T _ HO.out (LC15.out.o4.at SMT.out)).mono ?_
  rintro e w16 ⟨rfl, hb16⟩
  have LC16 : Hid (LC w sz B4 B5 B6 q4 q5 q6 (Value.slice xp0 T.n0 xd0) (Value.slice xp1 T.n1 xd1) (Value.slice xp2 T.n2 xd2) (Value.slice up0 n0 ud0) (Value.slice up1 n1 ud1) (Value.slice up2 n2 ud2) (Value.slice gp0 T.n0 gd0) (Value.slice gp1 T.n1 gd1) (Value.slice gp2 T.n2 gd2) T (TD.mark ⟨n0, fs, pc, on, n1, gs, n2, hs⟩ 1) (T.mark 1) w16) := LC15.out.on (LC15.out.size HSZ.out) hb16
  clear hb16 y0 y1 y2 y3 y4 z0 z1 z2 z3 z4 LC15 HO YH
  obtain ⟨y0, y1, y2, y3, y4, -⟩ := LC16.out.b6.five
  go_wp2_with fail
  refine (heldThread_o _ _ _ T _ SMT.out (LC16.out.o6.at (mark_small SMT.out))).mono ?_
  rintro e w17 ⟨rfl, hb17⟩
  rw [HRG.out]
  have hall : Below sz w w17 := LC16.out.bel.trans (hb17.mono (LC16.out.size HSZ.out))
  clear hb17 y0 y1 y2 y3 y4
  go_wp2
  go_ret
  exact ⟨rfl, by rw [HSZ.out]; exact hall⟩

set_option maxRecDepth 100000 in
theorem lifted (os : Os) (started : os.Started) (H : Type) (enc : TypeId × Value → H) :
    ReturnsInHanded {} Try.checked os 7 .any (Rows.fnExactPushSpec.pre6 enc Try.prog Try.f7 Rows.fnExactPushRow.domain false) (Rows.fnExactPushSpec.post enc Try.prog Try.f7 false true false false) := by
  refine returnsInHanded_of_change (C := Try.checked) own started (by kernel_rfl) Try.func7
    (ChangeSpec.witness6 (enc := enc) (C := Try.checked) false ⟨#[], #[.agg #[.slice none 0 0, .int .i64 0, .bool false, .slice none 0 0, .slice none 0 0], .agg #[.int .i64 0, .int .i64 0, .int .i64 0, .int .i64 0]], []⟩ 8 (by kernel_rfl) (by kernel_rfl) (by kernel_rfl) (by kernel_rfl)) ?_
  intro W base args ds gs before hval0 hW hcnd _
  have hval : ∀ (j : Nat) t v, Try.f7.params[j]? = some t → args[j]? = some v → Value.okWide Try.prog W .any base t v := hval0
  have hW' := hW
  obtain ⟨p, q, hA0, hV, rfl, hfz, hnd⟩ := hW
  have hA : DataW.TrodAll enc Try.prog W 0 (fun _ => true) true Try.f7.params.toList args.toList ds p := hA0
  rw [Try.params7] at hA hval
  obtain ⟨v0, v1, d0, d1, p0, p1, rfl, rfl, rfl, h0, h1⟩ := trodAll_two hA
  have k1 := h1
  have lt1 : ∀ x ∈ p1, x.block < W.heap.size := by obtain ⟨m, hm⟩ := k1; exact DataW.trod_lt m _ _ _ hm
  obtain ⟨rfl, rfl⟩ := trodVars_none hV
  have k0 := h0
  have lt0 : ∀ x ∈ p0, x.block < W.heap.size := by obtain ⟨m, hm⟩ := k0; exact DataW.trod_lt m _ _ _ hm
  obtain ⟨a0, a1, a2, n0, c0, n1, c1, n2, c2, fs, gs, hs, pc, on, rfl, m0, m1, m2, q0, q1, q2⟩ := open_thread (hval 0 39 v0 rfl rfl) h0
  obtain ⟨h, rfl⟩ := open_help (hval 1 60 v1 rfl rfl) h1
  refine (walk a0 a1 a2 n0 c0 n1 c1 n2 c2 fs gs hs pc on h W m0 m1 m2 q0 q1 q2).mono fun e W' ⟨he, bel⟩ => ?_
  subst he
  exact ⟨_, rfl, _, _, _, [], _, [], hW', trodAll_mk1 (shut_bool Try.underlying4 _), (trodAll_cons_mk (Below.trod laidOut (by kernel_rfl) (of_decide_eq_true (by kernel_rfl)) k0 bel lt0) (trodAll_cons_mk (Below.trod laidOut (by kernel_rfl) (of_decide_eq_true (by kernel_rfl)) k1 bel lt1) trodAll_mk0)), rfl, bel.frame _, fun h => by cases h⟩
end fnExactPush
theorem fnExactPush_holds : Rows.FnExactPushSaid :=
  OpenClaim.holds_of_wide 7 Try.f7 rfl rfl rfl rfl rfl rfl rfl ⟨rfl, rfl, rfl, rfl, rfl⟩ rfl rfl rfl rfl rfl (by kernel_rfl) Try.func7 (by kernel_rfl)
    (of_decide_eq_true (by kernel_rfl)) (by unfold Func.isWrapper; first | (rw [if_pos (by decide +kernel)]; kernel_rfl) | (rw [if_neg (by decide +kernel)]; exact ⟨rfl, rfl⟩))
    (fun os started H enc _ => fnExactPush.lifted os started H enc)
#print axioms fnExactPush_holds
end Go.Proofs.Ytemeklfkbjpnmar
