/- ThreadNew of the program answers as the specification's ThreadNew at all lists of ops, with memory of its own, and leaves what it was handed as it was: the law FnExactThreadNew holds, with no condition. -/
import Derived.Test.YtemeklfkbjpnmarRows
import Derived.Test.YtemeklfkbjpnmarLawT
import Derived.Test.YtemeklfkbjpnmarImpl8
import Derived.Test.YtemeklfkbjpnmarSpec8
import Derived.OpenShut
import Derived.ChangeOld
import Derived.Below
import Derived.Lib.SmallJoins
import Derived.Deep.RegionHeld3
namespace Go.Proofs.Ytemeklfkbjpnmar
open Go.ChangeShapes Go.WideShapes Go.ChangeAt Go.RowKit Go.Joins

namespace fnExactThreadNew
theorem own : ownKnob Try.prog.godebug = none := by kernel_rfl
theorem laidOut : laidOutB Try.prog = true := by kernel_rfl
structure NH (sz B5 q4 B6 q6 : Nat) (x0 x1 x2 u0 g0 g1 g2 : Value) : Prop where
  a : sz ≤ B5
  b : q4 < B5
  x : ∀ k, In3 x0 x1 x2 k → k < B5
  u : ∀ k, u0.ownBlock = some k → B5 ≤ k ∧ k < B6
  q : B5 ≤ B6
  g : ∀ k, In3 g0 g1 g2 k → B6 ≤ k ∧ k ≠ q6
  z : B6 ≤ q6
structure LN (w : World) (sz B4 B5 B6 q4 q6 n : Nat) (x0 x1 x2 u0 g0 g1 g2 : Value) (T : TD) (us : List Int) (tg : TD) (y : World) : Prop where
  bel : Below sz w y
  b4 : Box y q4 #[x0, .int .i64 T.pc, .bool T.on, x1, x2] 46
  o4 : ThO y B4 x0 x1 x2 T
  o5 : y.ownsRow B5 84 3 u0 n (us.map I)
  b6 : Box y q6 #[g0, .int .i64 tg.pc, .bool tg.on, g1, g2] 46
  o6 : ThO y B6 g0 g1 g2 tg
theorem LN.on {w : World} {sz B4 B5 B6 q4 q6 n : Nat} {x0 x1 x2 u0 g0 g1 g2 : Value} {T : TD} {us : List Int} {tg : TD} {y y' : World} (h : LN w sz B4 B5 B6 q4 q6 n x0 x1 x2 u0 g0 g1 g2 T us tg y) (hs : sz ≤ y.heap.size) (hb : Below y.heap.size y y') : LN w sz B4 B5 B6 q4 q6 n x0 x1 x2 u0 g0 g1 g2 T us tg y' :=
  ⟨h.bel.trans (hb.mono hs), h.b4.below hb h.b4.lt, h.o4.below hb (Nat.le_refl _), owns_below h.o5 hb (Nat.le_refl _), h.b6.below hb h.b6.lt, h.o6.below hb (Nat.le_refl _)⟩
theorem LN.size {w : World} {sz B4 B5 B6 q4 q6 n : Nat} {x0 x1 x2 u0 g0 g1 g2 : Value} {T : TD} {us : List Int} {tg : TD} {y : World} (h : LN w sz B4 B5 B6 q4 q6 n x0 x1 x2 u0 g0 g1 g2 T us tg y) (hw : w.heap.size = sz) : sz ≤ y.heap.size := by have := h.bel.size; omega
theorem LN.markU {w : World} {sz B4 B5 B6 q4 q6 n : Nat} {x0 x1 x2 u0 g0 g1 g2 : Value} {T : TD} {us : List Int} {tg : TD} {y y' : World} (h : LN w sz B4 B5 B6 q4 q6 n x0 x1 x2 u0 g0 g1 g2 T us tg y) (H : NH sz B5 q4 B6 q6 x0 x1 x2 u0 g0 g1 g2) (us' : List Int) (ho : y'.ownsRow B5 84 3 u0 n (us'.map I)) (o : OnlyV B5 u0 y y') : LN w sz B4 B5 B6 q4 q6 n x0 x1 x2 u0 g0 g1 g2 T us' tg y' :=
  ⟨h.bel.trans (o.bel.mono H.a), (o.oth q4 (fun e => by have := (H.u _ e).1; have := H.b; omega)).trans h.b4, h.o4.heap fun k hk => o.oth k (fun e => by have := H.x k hk; have := (H.u k e).1; omega), ho,
    (o.oth q6 (fun e => by have := (H.u _ e).2; have := H.z; omega)).trans h.b6, h.o6.heap fun k hk => o.oth k (fun e => by have := (H.g k hk).1; have := (H.u k e).2; omega)⟩
theorem LN.markG {w : World} {sz B4 B5 B6 q4 q6 n : Nat} {x0 x1 x2 u0 g0 g1 g2 : Value} {T : TD} {us : List Int} {tg : TD} {y y' : World} (h : LN w sz B4 B5 B6 q4 q6 n x0 x1 x2 u0 g0 g1 g2 T us tg y) (H : NH sz B5 q4 B6 q6 x0 x1 x2 u0 g0 g1 g2) (tg' : TD) (hpc : tg'.pc = tg.pc ∧ tg'.on = tg.on) (ho : ThO y' B6 g0 g1 g2 tg') (hb : Below (min B6 y.heap.size) y y') (he : ∀ b, b < y.heap.size → ¬ In3 g0 g1 g2 b → y'.heap[b]? = y.heap[b]?) : LN w sz B4 B5 B6 q4 q6 n x0 x1 x2 u0 g0 g1 g2 T us tg' y' := by
  have l6 := h.b6.lt
  have hle : sz ≤ min B6 y.heap.size := by have := H.a; have := H.q; have := H.z; omega
  have far : ∀ k, k < B6 → ¬ In3 g0 g1 g2 k := fun k hk hi => by have := (H.g k hi).1; omega
  refine ⟨h.bel.trans (hb.mono hle), (he q4 h.b4.lt (far _ (by have := H.b; have := H.q; omega))).trans h.b4, h.o4.heap fun k hk => he k (h.o4.blk hk).2 (far k (by have := H.x k hk; have := H.q; omega)), owns_heap h.o5 fun k hk => he k (h.o5.lt k hk).2 (far k (H.u k hk).2), ?_, ho⟩
  rw [hpc.1, hpc.2]
  exact (he q6 l6 (fun hk => (H.g _ hk).2 rfl)).trans h.b6
set_option maxHeartbeats 16000000 in
set_option maxRecDepth 100000 in
theorem walk (a : Option Addr) (n c : Nat) (fs : List Int) (w : World) (hm : n ≤ 9223372036854775807) (hk : n ≤ 1048576 → KAt 3 w a n fs) :
    Calls Try.prog 5 #[.slice a n c] w fun e w' => e = .returned (.bool true) ∧ Below w.heap.size w w' := by
  by_cases hn : (n : Int) ≤ 1048576
  case neg =>
    go_enter Try.func5, Try.ntmps5
    go_wp2_with fail
    refine (kSzOpS_big a n c 1048576 _ (by omega) (by omega) (by omega) hm).mono ?_
    rintro e w1 ⟨rfl, rfl⟩
    go_wp2
    go_ret
    exact ⟨rfl, Below.refl _ _⟩
  obtain ⟨sz, hsz⟩ : ∃ sz, w.heap.size = sz := ⟨_, rfl⟩
  have HK : Hid (KAt 3 w a n fs) := hk (by omega)
  have HSZ : Hid (w.heap.size = sz) := hsz
  have hsw : w.heap.size ≤ sz := by omega
  have INS : Hid (∀ y, Below sz w y → KAt 3 y a n fs) := fun y hb => HK.out.below hb hsw
  obtain ⟨T, hT⟩ : ∃ T : TD, ⟨n, fs, 0, false, 0, [], 0, []⟩ = T := ⟨_, rfl⟩
  have SPEC : Hid (∀ v y, LAt 3 y v n fs → Calls Try.prog 20 #[v] y (ThAns y T)) := fun v y hy => hT ▸ specNewT_any v n fs y hy
  have IMPL : Hid (∀ v y, LAt 3 y v n fs → Calls Try.prog 22 #[v] y (ThAns y T)) := fun v y hy => hT ▸ implNewT_any v n fs y hy
  have hn1 : n ≤ 1048576 := by omega
  have SMT : Hid T.Small := by rw [← hT]; exact ⟨by show n ≤ _; omega, by show 0 ≤ _; omega, by show 0 ≤ _; omega⟩
  have hn0 : ¬ (1048576 - (n : Int) < 0) := by omega
  have hnm : n ≤ 2097152 := by omega
  clear hk hsz hT
  go_enter Try.func5, Try.ntmps5
  go_wp2_with fail
  refine (kSzOpS a n c 1048576 _ (by omega) (by omega) hn).mono ?_
  rintro e w1 ⟨rfl, hw1⟩
  obtain rfl : w = w1 := hw1.symm
  clear hw1
  go_wp2_with fail
  refine (kToOpS a n c fs _ HK.out).mono ?_
  rintro e w2 ⟨rfl, own2, hb2⟩
  rw [HSZ.out] at own2 hb2 ⊢
  have SA : Hid (LAt 3 w2 (.slice (some ⟨sz, 0, none⟩) n n) n fs) := owns_lAt own2 hnm
  have HB2 : Hid (Below sz w w2) := hb2
  clear own2 hb2
  go_wp2_with fail
  refine (SPEC.out _ _ SA.out).mono ?_
  rintro e w3 ⟨x0, x1, x2, rfl, xO, hb3⟩
  obtain ⟨xp0, xd0, xp1, xd1, xp2, xd2, rfl, rfl, rfl⟩ := xO.forms
  obtain ⟨B4, hB4⟩ : ∃ B4, w2.heap.size = B4 := ⟨_, rfl⟩
  obtain ⟨q4, hq4⟩ : ∃ q4, w3.heap.size = q4 := ⟨_, rfl⟩
  obtain ⟨W4, hW4⟩ : ∃ W4, w3.alloc (.cells #[Value.slice xp0 T.n0 xd0, .int .i64 (T).pc, .bool (T).on, Value.slice xp1 T.n1 xd1, Value.slice xp2 T.n2 xd2] 46) = W4 := ⟨_, rfl⟩
  have hxW4 : Below w3.heap.size w3 W4 := by rw [← hW4]; exact (Below.refl _ _).alloc (Nat.le_refl _) _
  have hsW4 : W4.heap.size = w3.heap.size + 1 := by rw [← hW4]; simp
  have X4 : Hid (Box W4 q4 #[Value.slice xp0 T.n0 xd0, .int .i64 T.pc, .bool T.on, Value.slice xp1 T.n1 xd1, Value.slice xp2 T.n2 xd2] 46) := by rw [← hW4, ← hq4]; exact box_of w3 _ _
  have XO : Hid (ThO W4 B4 (Value.slice xp0 T.n0 xd0) (Value.slice xp1 T.n1 xd1) (Value.slice xp2 T.n2 xd2) T) := by rw [← hB4]; exact xO.below hxW4 (Nat.le_refl _)
  have hs2 : sz ≤ w2.heap.size := by have := HB2.out.size; have := HSZ.out; omega
  have HA4 : Hid (Below sz w W4) := HB2.out.trans ((hb3.trans (hxW4.mono hb3.size)).mono hs2)
  have HLT : Hid (sz ≤ W4.heap.size) := by have h1 := HA4.out.size; have h2 := HSZ.out; show _ ≤ _; omega
  have HW4 : Hid _ := hW4
  have Q4 : Hid (w3.heap.size = q4) := hq4
  clear xO hb3 hW4 hB4 hq4 hsW4 hxW4 SA
  go_upto_region 6 with (fail)
  rw [HW4.out]
  (try rw [Q4.out])
  clear HW4 Q4
  obtain ⟨B5, hB5⟩ : ∃ B5, W4.heap.size = B5 := ⟨_, rfl⟩
  have HB5 : Hid (W4.heap.size = B5) := hB5
  clear hB5
  go_wp2_with fail
  refine (kToOpS a n c fs _ (INS.out _ HA4.out)).mono ?_
  rintro e W5 ⟨rfl, own5, hb5⟩
  rw [HB5.out] at own5 hb5 ⊢
  have UO : Hid (W5.ownsRow B5 84 3 (Value.slice (some ⟨B5, 0, none⟩) n n) n (fs.map I)) := own5
  have HB45 : Hid (Below B5 W4 W5) := hb5
  have HA5 : Hid (Below sz w W5) := HA4.out.trans (hb5.mono (by have := HLT.out; have := HB5.out; omega))
  obtain ⟨B6, hB6⟩ : ∃ B6, W5.heap.size = B6 := ⟨_, rfl⟩
  have HB6 : Hid (W5.heap.size = B6) := hB6
  have UA : Hid (LAt 3 W5 (Value.slice (some ⟨B5, 0, none⟩) n n) n fs) := owns_lAt own5 hnm
  have lu : B5 < W5.heap.size := (own5.lt B5 rfl).2
  have HLU : Hid (B5 < W5.heap.size) := lu
  clear own5 hb5 hB6 lu
  go_wp2_with fail
  refine (IMPL.out _ _ UA.out).mono ?_
  rintro e w6 ⟨g0, g1, g2, rfl, gO, hb6⟩
  obtain ⟨gp0, gd0, gp1, gd1, gp2, gd2, rfl, rfl, rfl⟩ := gO.forms
  obtain ⟨q6, hq6⟩ : ∃ q6, w6.heap.size = q6 := ⟨_, rfl⟩
  obtain ⟨W6, hW6⟩ : ∃ W6, w6.alloc (.cells #[Value.slice gp0 T.n0 gd0, .int .i64 (T).pc, .bool (T).on, Value.slice gp1 T.n1 gd1, Value.slice gp2 T.n2 gd2] 46) = W6 := ⟨_, rfl⟩
  have hxW6 : Below w6.heap.size w6 W6 := by rw [← hW6]; exact (Below.refl _ _).alloc (Nat.le_refl _) _
  have hsW6 : W6.heap.size = w6.heap.size + 1 := by rw [← hW6]; simp
  have X6 : Box W6 q6 #[Value.slice gp0 T.n0 gd0, .int .i64 T.pc, .bool T.on, Value.slice gp1 T.n1 gd1, Value.slice gp2 T.n2 gd2] 46 := by rw [← hW6, ← hq6]; exact box_of w6 _ _
  have GNE : ¬ In3 (Value.slice gp0 T.n0 gd0) (Value.slice gp1 T.n1 gd1) (Value.slice gp2 T.n2 gd2) q6 ∧ W5.heap.size ≤ q6 := ⟨fun hk => by have := (gO.blk hk).2; omega, by have := hb6.size; omega⟩
  have GO : ThO W6 W5.heap.size (Value.slice gp0 T.n0 gd0) (Value.slice gp1 T.n1 gd1) (Value.slice gp2 T.n2 gd2) T := gO.below hxW6 (Nat.le_refl _)
  have HB56 : Below W5.heap.size W5 W6 := hb6.trans (hxW6.mono hb6.size)
  have eB5 := HB5.out
  have eB6 := HB6.out
  have s45 := HB45.out.size
  have hlt := HLT.out
  have hlu := HLU.out
  have x4l := X4.out.lt
  have s5z := HA5.out.size
  have esz := HSZ.out
  have NHH : Hid (NH sz B5 q4 B6 q6 (Value.slice xp0 T.n0 xd0) (Value.slice xp1 T.n1 xd1) (Value.slice xp2 T.n2 xd2) (Value.slice (some ⟨B5, 0, none⟩) n n) (Value.slice gp0 T.n0 gd0) (Value.slice gp1 T.n1 gd1) (Value.slice gp2 T.n2 gd2)) := by
    refine ⟨by omega, by omega, fun k hk => ?_, fun k hk => ?_, by omega, fun k hk => ⟨?_, fun e => GNE.1 (e ▸ hk)⟩, ?_⟩
    · have := (XO.out.blk hk).2; omega
    · have := sl_blk hk; omega
    · have := GO.blk hk; omega
    · have := GNE.2; omega
  have LN6 : Hid (LN w sz B4 B5 B6 q4 q6 n (Value.slice xp0 T.n0 xd0) (Value.slice xp1 T.n1 xd1) (Value.slice xp2 T.n2 xd2) (Value.slice (some ⟨B5, 0, none⟩) n n) (Value.slice gp0 T.n0 gd0) (Value.slice gp1 T.n1 gd1) (Value.slice gp2 T.n2 gd2) T fs T W6) := by
    have b4 : Below W4.heap.size W4 W5 := by rw [eB5]; exact HB45.out
    have b46 : Below W4.heap.size W4 W6 := b4.trans (HB56.mono b4.size)
    exact ⟨HA5.out.trans (HB56.mono (by omega)), X4.out.below b46 X4.out.lt, XO.out.below b46 (Nat.le_refl _), owns_below UO.out HB56 (Nat.le_refl _), X6, GO.weaken (by omega)⟩
  have HW6 : Hid _ := hW6
  have E6 : Hid (w6.heap.size = q6) := hq6
  clear gO hb6 hW6 hq6 hsW6 hxW6 X6 GNE GO HB56 eB5 eB6 s45 hlt hlu x4l s5z esz X4 XO UO HA4 HA5 HLT HLU UA HB45 HB5 HB6 HB2 hs2
  go_upto_region 8 with (fail)
  rw [HW6.out]
  (try rw [E6.out])
  clear HW6 E6
  obtain ⟨y0, y1, y2, y3, y4, -⟩ := LN6.out.b6.five
  obtain ⟨z0, z1, z2, z3, z4, -⟩ := LN6.out.b4.five
  go_wp2_with fail
  refine (eqThread_same _ _ _ _ _ _ T _ (LN6.out.o6.at SMT.out) (LN6.out.o4.at SMT.out)).mono ?_
  rintro e w7 ⟨rfl, hb7⟩
  have LN7 : Hid (LN w sz B4 B5 B6 q4 q6 n (Value.slice xp0 T.n0 xd0) (Value.slice xp1 T.n1 xd1) (Value.slice xp2 T.n2 xd2) (Value.slice (some ⟨B5, 0, none⟩) n n) (Value.slice gp0 T.n0 gd0) (Value.slice gp1 T.n1 gd1) (Value.slice gp2 T.n2 gd2) T fs T w7) := LN6.out.on (LN6.out.size HSZ.out) hb7
  clear hb7 y0 y1 y2 y3 y4 z0 z1 z2 z3 z4 LN6
  go_wp2_with fail
  refine (kToOpS a n c fs _ (INS.out _ LN7.out.bel)).mono ?_
  rintro e w8 ⟨rfl, own8, hb8⟩
  have LN8 : Hid (LN w sz B4 B5 B6 q4 q6 n (Value.slice xp0 T.n0 xd0) (Value.slice xp1 T.n1 xd1) (Value.slice xp2 T.n2 xd2) (Value.slice (some ⟨B5, 0, none⟩) n n) (Value.slice gp0 T.n0 gd0) (Value.slice gp1 T.n1 gd1) (Value.slice gp2 T.n2 gd2) T fs T w8) := LN7.out.on (LN7.out.size HSZ.out) hb8
  have A8 : Hid (KAt 3 w8 (some ⟨w7.heap.size, 0, none⟩) n fs) := own_kAt own8 hnm
  clear own8 hb8 LN7
  go_wp2_with fail
  refine (kEqOpS _ _ n n n fs _ (own_kAt LN8.out.o5 hnm) A8.out).mono ?_
  rintro e w9 ⟨rfl, hb9⟩
  have LN9 : Hid (LN w sz B4 B5 B6 q4 q6 n (Value.slice xp0 T.n0 xd0) (Value.slice xp1 T.n1 xd1) (Value.slice xp2 T.n2 xd2) (Value.slice (some ⟨B5, 0, none⟩) n n) (Value.slice gp0 T.n0 gd0) (Value.slice gp1 T.n1 gd1) (Value.slice gp2 T.n2 gd2) T fs T w9) := LN8.out.on (LN8.out.size HSZ.out) hb9
  clear hb9 LN8 A8
  go_wp2_with fail
  refine (kMarkOpS B5 _ n 1 fs _ hnm (by omega) (by omega) LN9.out.o5).mono ?_
  rintro e w10 ⟨rfl, mo, ov⟩
  have LN10 : Hid (LN w sz B4 B5 B6 q4 q6 n (Value.slice xp0 T.n0 xd0) (Value.slice xp1 T.n1 xd1) (Value.slice xp2 T.n2 xd2) (Value.slice (some ⟨B5, 0, none⟩) n n) (Value.slice gp0 T.n0 gd0) (Value.slice gp1 T.n1 gd1) (Value.slice gp2 T.n2 gd2) T (asc 1 (n * 3)) T w10) := LN9.out.markU NHH.out _ mo ov
  obtain ⟨ru, hru⟩ : ∃ ru : Int, 1 + (n : Int) * 3 = ru := ⟨_, rfl⟩
  have hru0 : ¬ ru < 0 := by omega
  rw [hru]
  clear mo ov hru LN9
  obtain ⟨y0, y1, y2, y3, y4, -⟩ := LN10.out.b6.five
  obtain ⟨z0, z1, z2, z3, z4, -⟩ := LN10.out.b4.five
  go_wp2_with fail
  refine (eqThread_same _ _ _ _ _ _ T _ (LN10.out.o6.at SMT.out) (LN10.out.o4.at SMT.out)).mono ?_
  rintro e w11 ⟨rfl, hb11⟩
  have LN11 : Hid (LN w sz B4 B5 B6 q4 q6 n (Value.slice xp0 T.n0 xd0) (Value.slice xp1 T.n1 xd1) (Value.slice xp2 T.n2 xd2) (Value.slice (some ⟨B5, 0, none⟩) n n) (Value.slice gp0 T.n0 gd0) (Value.slice gp1 T.n1 gd1) (Value.slice gp2 T.n2 gd2) T (asc 1 (n * 3)) T w11) := LN10.out.on (LN10.out.size HSZ.out) hb11
  clear hb11 y0 y1 y2 y3 y4 z0 z1 z2 z3 z4 LN10
  obtain ⟨y0, y1, y2, y3, y4, -⟩ := LN11.out.b6.five
  go_wp2_with fail
  refine (markThread_o B6 _ _ _ T _ SMT.out LN11.out.o6).mono ?_
  rintro e w12 ⟨rfl, mo, mb, me⟩
  have LN12 : Hid (LN w sz B4 B5 B6 q4 q6 n (Value.slice xp0 T.n0 xd0) (Value.slice xp1 T.n1 xd1) (Value.slice xp2 T.n2 xd2) (Value.slice (some ⟨B5, 0, none⟩) n n) (Value.slice gp0 T.n0 gd0) (Value.slice gp1 T.n1 gd1) (Value.slice gp2 T.n2 gd2) T (asc 1 (n * 3)) (T.mark 1) w12) := LN11.out.markG NHH.out _ (mark_pc _ _) mo mb me
  obtain ⟨rg, hrg⟩ : ∃ rg : Int, 1 + T.off = rg := ⟨_, rfl⟩
  have hrg0 : ¬ rg < 0 := by have := off_nonneg T; omega
  have hrg1 : (rg != rg) = false := by simp
  have HRG : Hid (1 + T.off = rg) := hrg
  rw [hrg]
  clear mo mb me hrg y0 y1 y2 y3 y4 LN11
  obtain ⟨y0, y1, y2, y3, y4, -⟩ := LN12.out.b6.five
  go_wp2_with fail
  refine (heldThread_o _ _ _ T _ SMT.out (LN12.out.o6.at (mark_small SMT.out))).mono ?_
  rintro e w13 ⟨rfl, hb13⟩
  rw [HRG.out]
  have LN13 : Hid (LN w sz B4 B5 B6 q4 q6 n (Value.slice xp0 T.n0 xd0) (Value.slice xp1 T.n1 xd1) (Value.slice xp2 T.n2 xd2) (Value.slice (some ⟨B5, 0, none⟩) n n) (Value.slice gp0 T.n0 gd0) (Value.slice gp1 T.n1 gd1) (Value.slice gp2 T.n2 gd2) T (asc 1 (n * 3)) (T.mark 1) w13) := LN12.out.on (LN12.out.size HSZ.out) hb13
  clear hb13 y0 y1 y2 y3 y4 LN12
  go_wp2_with fail
  refine (kToOpS a n c fs _ (INS.out _ LN13.out.bel)).mono ?_
  rintro e w14 ⟨rfl, own14, hb14⟩
  have LN14 : Hid (LN w sz B4 B5 B6 q4 q6 n (Value.slice xp0 T.n0 xd0) (Value.slice xp1 T.n1 xd1) (Value.slice xp2 T.n2 xd2) (Value.slice (some ⟨B5, 0, none⟩) n n) (Value.slice gp0 T.n0 gd0) (Value.slice gp1 T.n1 gd1) (Value.slice gp2 T.n2 gd2) T (asc 1 (n * 3)) (T.mark 1) w14) := LN13.out.on (LN13.out.size HSZ.out) hb14
  have A14 : Hid (LAt 3 w14 (.slice (some ⟨w13.heap.size, 0, none⟩) n n) n fs) := owns_lAt own14 hnm
  clear own14 hb14 LN13
  go_wp2_with fail
  refine (IMPL.out _ _ A14.out).mono ?_
  rintro e w15 ⟨h0', h1', h2', rfl, hO, hb15⟩
  obtain ⟨hp0, hd0, hp1, hd1, hp2, hd2, rfl, rfl, rfl⟩ := hO.forms
  obtain ⟨q8, hq8⟩ : ∃ q8, w15.heap.size = q8 := ⟨_, rfl⟩
  obtain ⟨W15, hW15⟩ : ∃ W15, w15.alloc (.cells #[Value.slice hp0 T.n0 hd0, .int .i64 (T).pc, .bool (T).on, Value.slice hp1 T.n1 hd1, Value.slice hp2 T.n2 hd2] 46) = W15 := ⟨_, rfl⟩
  have hxW15 : Below w15.heap.size w15 W15 := by rw [← hW15]; exact (Below.refl _ _).alloc (Nat.le_refl _) _
  have hsW15 : W15.heap.size = w15.heap.size + 1 := by rw [← hW15]; simp
  have YH : Hid (Box W15 q8 #[Value.slice hp0 T.n0 hd0, .int .i64 T.pc, .bool T.on, Value.slice hp1 T.n1 hd1, Value.slice hp2 T.n2 hd2] 46) := by rw [← hW15, ← hq8]; exact box_of w15 _ _
  have HO : Hid (ThAt W15 (Value.slice hp0 T.n0 hd0) (Value.slice hp1 T.n1 hd1) (Value.slice hp2 T.n2 hd2) T) := (hO.below hxW15 (Nat.le_refl _)).at SMT.out
  have LN15 : Hid (LN w sz B4 B5 B6 q4 q6 n (Value.slice xp0 T.n0 xd0) (Value.slice xp1 T.n1 xd1) (Value.slice xp2 T.n2 xd2) (Value.slice (some ⟨B5, 0, none⟩) n n) (Value.slice gp0 T.n0 gd0) (Value.slice gp1 T.n1 gd1) (Value.slice gp2 T.n2 gd2) T (asc 1 (n * 3)) (T.mark 1) W15) := LN14.out.on (LN14.out.size HSZ.out) (hb15.trans (hxW15.mono hb15.size))
  have HW15 : Hid _ := hW15
  have E15 : Hid (w15.heap.size = q8) := hq8
  clear hO hb15 hW15 hq8 hsW15 hxW15 LN14 A14
  go_upto_region 25 with (fail)
  rw [HW15.out]
  (try rw [E15.out])
  clear HW15 E15
  obtain ⟨y0, y1, y2, y3, y4, -⟩ := YH.out.five
  obtain ⟨z0, z1, z2, z3, z4, -⟩ := LN15.out.b4.five
  go_wp2_with fail
  refine (eqThread_same _ _ _ _ _ _ T _ HO.out (LN15.out.o4.at SMT.out)).mono ?_
  rintro e w16 ⟨rfl, hb16⟩
  have LN16 : Hid (LN w sz B4 B5 B6 q4 q6 n (Value.slice xp0 T.n0 xd0) (Value.slice xp1 T.n1 xd1) (Value.slice xp2 T.n2 xd2) (Value.slice (some ⟨B5, 0, none⟩) n n) (Value.slice gp0 T.n0 gd0) (Value.slice gp1 T.n1 gd1) (Value.slice gp2 T.n2 gd2) T (asc 1 (n * 3)) (T.mark 1) w16) := LN15.out.on (LN15.out.size HSZ.out) hb16
  clear hb16 y0 y1 y2 y3 y4 z0 z1 z2 z3 z4 LN15 HO YH
  obtain ⟨y0, y1, y2, y3, y4, -⟩ := LN16.out.b6.five
  go_wp2_with fail
  refine (heldThread_o _ _ _ T _ SMT.out (LN16.out.o6.at (mark_small SMT.out))).mono ?_
  rintro e w17 ⟨rfl, hb17⟩
  rw [HRG.out]
  have hall : Below sz w w17 := LN16.out.bel.trans (hb17.mono (LN16.out.size HSZ.out))
  clear hb17 y0 y1 y2 y3 y4
  go_wp2
  go_ret
  exact ⟨rfl, by rw [HSZ.out]; exact hall⟩

set_option maxRecDepth 100000 in
theorem lifted (os : Os) (started : os.Started) (H : Type) (enc : TypeId × Value → H) :
    ReturnsInHanded {} Try.checked os 5 .any (Rows.fnExactThreadNewSpec.pre6 enc Try.prog Try.f5 Rows.fnExactThreadNewRow.domain false) (Rows.fnExactThreadNewSpec.post enc Try.prog Try.f5 false true false false) := by
  refine returnsInHanded_of_change (C := Try.checked) own started (by kernel_rfl) Try.func5
    (ChangeSpec.witness6 (enc := enc) (C := Try.checked) false ⟨#[], #[.slice none 0 0], []⟩ 8 (by kernel_rfl) (by kernel_rfl) (by kernel_rfl) (by kernel_rfl)) ?_
  intro W base args ds gs before hval0 hW hcnd _
  have hval : ∀ (j : Nat) t v, Try.f5.params[j]? = some t → args[j]? = some v → Value.okWide Try.prog W .any base t v := hval0
  have hW' := hW
  obtain ⟨p, q, hA0, hV, rfl, hfz, hnd⟩ := hW
  have hA : DataW.TrodAll enc Try.prog W 0 (fun _ => true) true Try.f5.params.toList args.toList ds p := hA0
  rw [Try.params5] at hA hval
  obtain ⟨v0, d0, rfl, rfl, h0⟩ := trodAll_one hA
  obtain ⟨rfl, rfl⟩ := trodVars_none hV
  have k0 := h0
  have lt0 : ∀ x ∈ p, x.block < W.heap.size := by obtain ⟨m, hm⟩ := k0; exact DataW.trod_lt m _ _ _ hm
  obtain ⟨a, n, c, rfl⟩ := okWide_slice Try.underlying35 (hval 0 35 v0 rfl rfl)
  obtain ⟨fuel, hf⟩ := h0
  obtain ⟨a', n', c', fs, e', hm, _, hq⟩ := open_trips Try.underlying35 Try.underlying95 (by kernel_rfl) rfl rfl rfl (by kernel_rfl) (by kernel_rfl) (by kernel_rfl) Try.underlying3 Try.underlying3 Try.underlying3 (by simpa [Value.cells] using hf)
  cases e'
  refine (walk a n c fs W hm (fun h => .of_trip (hq h))).mono fun e W' ⟨he, bel⟩ => ?_
  subst he
  exact ⟨_, rfl, _, _, _, [], _, [], hW', trodAll_mk1 (shut_bool Try.underlying4 _), (trodAll_cons_mk (Below.trod laidOut (by kernel_rfl) (of_decide_eq_true (by kernel_rfl)) k0 bel lt0) trodAll_mk0), rfl, bel.frame _, fun h => by cases h⟩
end fnExactThreadNew
theorem fnExactThreadNew_holds : Rows.FnExactThreadNewSaid :=
  OpenClaim.holds_of_wide 5 Try.f5 rfl rfl rfl rfl rfl rfl rfl ⟨rfl, rfl, rfl, rfl, rfl⟩ rfl rfl rfl rfl rfl (by kernel_rfl) Try.func5 (by kernel_rfl)
    (of_decide_eq_true (by kernel_rfl)) (by unfold Func.isWrapper; first | (rw [if_pos (by decide +kernel)]; kernel_rfl) | (rw [if_neg (by decide +kernel)]; exact ⟨rfl, rfl⟩))
    (fun os started H enc _ => fnExactThreadNew.lifted os started H enc)
#print axioms fnExactThreadNew_holds
end Go.Proofs.Ytemeklfkbjpnmar
