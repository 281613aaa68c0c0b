/- The specification's Swap and Pop. -/
import Derived.Test.YtemeklfkbjpnmasSpec8
import Derived.Deep.Cut
namespace Go.Proofs.Ytemeklfkbjpnmas
open Go.ChangeShapes Go.WideShapes Go.ChangeAt Go.RowKit Go.Joins

theorem set4_end {hs : List Int} {k : Nat} (hl : hs.length = k + 4) (a b c d : Int) : (((hs.set k a).set (k + 1) b).set (k + 2) c).set (k + 3) d = hs.take k ++ [a, b, c, d] := by
  apply List.ext_getElem?
  intro i
  rcases Nat.lt_or_ge i k with h | h
  · rw [List.getElem?_set_ne (by omega), List.getElem?_set_ne (by omega), List.getElem?_set_ne (by omega), List.getElem?_set_ne (by omega), List.getElem?_append_left (by rw [List.length_take]; omega), List.getElem?_take_of_lt h]
  · rw [List.getElem?_append_right (by rw [List.length_take]; omega), List.length_take, Nat.min_eq_left (by omega)]
    rcases (show i = k ∨ i = k + 1 ∨ i = k + 2 ∨ i = k + 3 ∨ k + 4 ≤ i by omega) with rfl | rfl | rfl | rfl | h4
    · rw [List.getElem?_set_ne (by omega), List.getElem?_set_ne (by omega), List.getElem?_set_ne (by omega), List.getElem?_set_self (by omega)]; simp
    · rw [List.getElem?_set_ne (by omega), List.getElem?_set_ne (by omega), List.getElem?_set_self (by simp; omega), show k + 1 - k = 1 by omega]; rfl
    · rw [List.getElem?_set_ne (by omega), List.getElem?_set_self (by simp; omega), show k + 2 - k = 2 by omega]; rfl
    · rw [List.getElem?_set_self (by simp; omega), show k + 3 - k = 3 by omega]; rfl
    · rw [List.getElem?_eq_none (by simp; omega), List.getElem?_eq_none (by simp; omega)]
/-- Another Stack, which is new. -/
theorem ThO.stack {w w' : World} {base : Nat} {v0 v1 v2 v : Value} {n0 n1 n2 m : Nat} {fs gs hs zs : List Int} {pc : Int} {on : Bool} (T : ThO w base v0 v1 v2 ⟨n0, fs, pc, on, n1, gs, n2, hs⟩) (hb : Below w.heap.size w w') (hB : base ≤ w.heap.size) (ho : w'.ownsRow w.heap.size 37 4 v m (zs.map I)) :
    ThO w' base v0 v1 v ⟨n0, fs, pc, on, n1, gs, m, zs⟩ :=
  ⟨owns_below T.ops hb (Nat.le_refl _), owns_below T.got hb (Nat.le_refl _), own_weaken ho hB, T.sep.1, fun k e e' => by have h1 := (T.ops.lt k e).2; have h2 := (ho.lt k e').1; omega, fun k e e' => by have h1 := (T.got.lt k e).2; have h2 := (ho.lt k e').1; omega⟩
/-- The last one of Stack, written over. -/
theorem ThO.swapped {w : World} {base : Nat} {v0 v1 : Value} {g2 d n0 n1 k : Nat} {fs gs hs : List Int} {pc : Int} {on : Bool} (h : Nat → Int) (T : ThO w base v0 v1 (.slice (some ⟨g2, 0, none⟩) (k + 1) d) ⟨n0, fs, pc, on, n1, gs, k + 1, hs⟩) :
    ThO ((((w.setCell ⟨g2, k * 4, none⟩ (.int .i64 (h 0))).setCell ⟨g2, k * 4 + 1, none⟩ (.int .i64 (h 1))).setCell ⟨g2, k * 4 + 2, none⟩ (.int .i64 (h 2))).setCell ⟨g2, k * 4 + 3, none⟩ (.int .i64 (h 3))) base v0 v1 (.slice (some ⟨g2, 0, none⟩) (k + 1) d) (TD.swap ⟨n0, fs, pc, on, n1, gs, k + 1, hs⟩ h) := by
  have hl : hs.length = k * 4 + 4 := by have := T.stk.1; simp at this; omega
  have e : TD.swap ⟨n0, fs, pc, on, n1, gs, k + 1, hs⟩ h = ⟨n0, fs, pc, on, n1, gs, k + 1, hs.take (k * 4) ++ helpL h⟩ := rfl
  rw [e]
  have f0 : v0.ownBlock ≠ some g2 := fun e => T.sep.2.1 g2 e rfl
  have f1 : v1.ownBlock ≠ some g2 := fun e => T.sep.2.2 g2 e rfl
  have o := ((((T.stk.stored (k * 4) (I (h 0))).1.stored (k * 4 + 1) (I (h 1))).1.stored (k * 4 + 2) (I (h 2))).1.stored (k * 4 + 3) (I (h 3))).1
  rw [← List.map_set, ← List.map_set, ← List.map_set, ← List.map_set, set4_end hl] at o
  exact ⟨own_setCell_far (own_setCell_far (own_setCell_far (own_setCell_far T.ops f0 _) f0 _) f0 _) f0 _, own_setCell_far (own_setCell_far (own_setCell_far (own_setCell_far T.got f1 _) f1 _) f1 _) f1 _, o, T.sep⟩
theorem below_set4 {B : Nat} {w w' : World} (h : Below B w w') {b i0 i1 i2 i3 : Nat} (hb : B ≤ b) (x0 x1 x2 x3 : Value) :
    Below B w ((((w'.setCell ⟨b, i0, none⟩ x0).setCell ⟨b, i1, none⟩ x1).setCell ⟨b, i2, none⟩ x2).setCell ⟨b, i3, none⟩ x3) :=
  (((h.setCell hb x0).setCell hb x1).setCell hb x2).setCell hb x3
theorem Box.set4 {w : World} {q : Nat} {cs : Array Value} {T : TypeId} (h : Box w q cs T) {b i0 i1 i2 i3 : Nat} (hb : q ≠ b) (x0 x1 x2 x3 : Value) :
    Box ((((w.setCell ⟨b, i0, none⟩ x0).setCell ⟨b, i1, none⟩ x1).setCell ⟨b, i2, none⟩ x2).setCell ⟨b, i3, none⟩ x3) q cs T :=
  (((h.set (q := ⟨b, i0, none⟩) hb x0).set (q := ⟨b, i1, none⟩) hb x1).set (q := ⟨b, i2, none⟩) hb x2).set (q := ⟨b, i3, none⟩) hb x3
set_option maxHeartbeats 2000000 in
theorem specSwap_any (v0 v1 v2 : Value) (t : TD) (h : Nat → Int) (w : World) (hT : ThAt w v0 v1 v2 t) :
    Calls Try.prog 6 #[ThV v0 v1 v2 t.pc t.on, HelpV h] w (ThAns w (t.swap h)) := by
  obtain ⟨T', hT'⟩ : ∃ T', t.swap h = T' := ⟨_, rfl⟩
  rw [hT']
  have HT : Hid (t.swap h = T') := hT'
  clear hT'
  obtain ⟨⟨a0, c0, rfl, e0, h0⟩, ⟨a1, c1, rfl, e1, h1⟩, ⟨a2, c2, rfl, e2, h2⟩⟩ := hT
  obtain ⟨n0, fs, pc, on, n1, gs, n2, hs⟩ := t
  simp only at h0 h1 h2 ⊢
  have m2 := h2.2.1
  obtain ⟨i0, hi0, hz0, hz1, hz2⟩ := info_parts kInfoHelp
  obtain ⟨sz, hsz⟩ : ∃ sz, w.heap.size = sz := ⟨_, rfl⟩
  obtain ⟨W, hW⟩ : ∃ W, ((w.alloc (.cells #[.slice a0 n0 c0, .int .i64 pc, .bool on, .slice a1 n1 c1, .slice a2 n2 c2] 34)).alloc (.cells #[.int .i64 (h 0), .int .i64 (h 1), .int .i64 (h 2), .int .i64 (h 3)] 37)).alloc (.cells #[.slice none 0 0, .int .i64 0, .bool false, .slice none 0 0, .slice none 0 0] 34) = W := ⟨_, rfl⟩
  have hWs : W.heap.size = sz + 3 := by rw [← hW, ← hsz]; simp
  have hb0 : Below sz w W := by rw [← hW, ← hsz]; exact (((Below.refl _ w).alloc (Nat.le_refl _) _).alloc (by simp) _).alloc (by simp; omega) _
  have X0 : Hid (Box W sz #[.slice a0 n0 c0, .int .i64 pc, .bool on, .slice a1 n1 c1, .slice a2 n2 c2] 34) := by rw [← hW, ← hsz]; exact ((box_of w _ _).alloc _).alloc _
  have XH : Hid (Box W (sz + 1) #[.int .i64 (h 0), .int .i64 (h 1), .int .i64 (h 2), .int .i64 (h 3)] 37) := by rw [← hW, ← hsz]; exact (box_two w _ _ _).alloc _
  have XR : Hid (Box W (sz + 1 + 1) #[.slice none 0 0, .int .i64 0, .bool false, .slice none 0 0, .slice none 0 0] 34) := by rw [← hW, ← hsz]; exact box_three w _ _ _ _
  have HW : Hid _ := hW
  have HSZ : Hid (w.heap.size = sz) := hsz
  have HB0 : Hid (Below sz w W) := hb0
  have HWS : Hid (W.heap.size = sz + 3) := hWs
  have HK : Hid (ThAt W (.slice a0 n0 c0) (.slice a1 n1 c1) (.slice a2 n2 c2) ⟨n0, fs, pc, on, n1, gs, n2, hs⟩) := ⟨⟨a0, c0, rfl, e0, h0.below hb0 (by omega)⟩, ⟨a1, c1, rfl, e1, h1.below hb0 (by omega)⟩, ⟨a2, c2, rfl, e2, h2.below hb0 (by omega)⟩⟩
  have HE2 : Hid (a2 = none → c2 = 0) := e2.1
  have HM : Hid (KAt 4 W a2 n2 hs) := h2.below hb0 (by omega)
  clear h0 h1 h2 hW hb0 hsz hWs e0 e1 e2
  go_enter Try.func6, Try.ntmps6
  go_wp2_with fail
  rw [HW.out]
  (try rw [HSZ.out])
  refine (l8Copy_any _ _ _ ⟨n0, fs, pc, on, n1, gs, n2, hs⟩ W HK.out).mono ?_
  rintro e w1 ⟨v0, v1, v2, rfl, tO, hb1⟩
  obtain ⟨p0, d0, rfl, -⟩ := owns_slice tO.ops
  obtain ⟨p1, d1, rfl, -⟩ := owns_slice tO.got
  obtain ⟨p2, d2, rfl, -⟩ := owns_slice tO.stk
  simp only at tO ⊢
  obtain ⟨g, hg⟩ : ∃ g, w1.heap.size = g := ⟨_, rfl⟩
  obtain ⟨W1, hW1⟩ : ∃ W1, w1.alloc (.cells #[.slice p0 n0 d0, .int .i64 pc, .bool on, .slice p1 n1 d1, .slice p2 n2 d2] 34) = W1 := ⟨_, rfl⟩
  have hx1 : Below w1.heap.size w1 W1 := by rw [← hW1]; exact (Below.refl _ _).alloc (Nat.le_refl _) _
  have hW1s : W1.heap.size = g + 1 := by rw [← hW1, ← hg]; simp
  have hlg : W.heap.size ≤ g := by rw [← hg]; exact hb1.size
  have hb1' : Below W.heap.size W W1 := hb1.trans (hx1.mono hb1.size)
  have HB1 : Hid (Below W.heap.size W W1) := hb1'
  have Y0 : Hid (Box W1 sz _ _) := X0.out.below hb1' X0.out.lt
  have YH : Hid (Box W1 (sz + 1) _ _) := XH.out.below hb1' XH.out.lt
  have YR : Hid (Box W1 (sz + 1 + 1) _ _) := XR.out.below hb1' XR.out.lt
  have YO : Hid (Box W1 g #[.slice p0 n0 d0, .int .i64 pc, .bool on, .slice p1 n1 d1, .slice p2 n2 d2] 34) := by rw [← hW1, ← hg]; exact box_of w1 _ _
  have TO : Hid (ThO W1 W.heap.size (.slice p0 n0 d0) (.slice p1 n1 d1) (.slice p2 n2 d2) ⟨n0, fs, pc, on, n1, gs, n2, hs⟩) := tO.below hx1 (Nat.le_refl _)
  have BLK : Hid (∀ k, In3 (.slice p0 n0 d0) (.slice p1 n1 d1) (.slice p2 n2 d2) k → W.heap.size ≤ k ∧ k < g) := fun k hk => by rw [← hg]; exact tO.blk hk
  have HW1 : Hid _ := hW1
  have HG : Hid (w1.heap.size = g) := hg
  have hWz := HWS.out
  have HW1S : Hid (W1.heap.size = g + 1) := hW1s
  clear hb1 tO hx1 hW1 hb1' hg hW1s
  go_upto_region 2 with (fail)
  rw [HW1.out]
  (try rw [HG.out])
  obtain ⟨y0, y1, y2, y3, y4, -⟩ := YO.out.five
  obtain ⟨q0, q1, q2, q3, q4, -⟩ := Y0.out.five
  obtain ⟨j0, j1, j2, j3, -⟩ := YH.out.four
  obtain ⟨r0, r1, r2, r3, r4, f0, f1, f2, f3, f4⟩ := YR.out.five
  by_cases hn : n2 = 0
  · subst hn
    go_wp2
    (try simp only [Exit.inBlock, Exit.then])
    obtain ⟨z0, z1, z2, z3, z4, _⟩ := (((((YR.out.put 0 (Value.slice p0 n0 d0)).put 1 (.int .i64 pc)).put 2 (.bool on)).put 3 (Value.slice p1 n1 d1)).put 4 (Value.slice p2 0 d2)).five
    refine bodyPost_ret (by simp [results, Try.results6, go_sem, z0, z1, z2, z3, z4]; try rfl) rfl ?_
    have nr : ¬ In3 (Value.slice p0 n0 d0) (Value.slice p1 n1 d1) (Value.slice p2 0 d2) (sz + 1 + 1) := fun hk => by have h1 := (TO.out.blk hk).1; omega
    have hl : sz ≤ W.heap.size := by omega
    have hE : T' = ⟨n0, fs, pc, on, n1, gs, 0, hs⟩ := HT.out.symm
    subst hE
    refine ⟨_, _, _, rfl, ?_, ?_⟩
    · rw [HSZ.out]; exact (TO.out.set5 nr _ _ _ _ _).weaken hl
    · rw [HSZ.out]; exact below_set5 (HB0.out.trans (HB1.out.mono hl)) (by omega) _ _ _ _ _
  · obtain ⟨k, rfl⟩ : ∃ k, n2 = k + 1 := ⟨n2 - 1, by omega⟩
    rcases owns_forms TO.out.stk with ⟨-, hz⟩ | ⟨g2, cap2, hv⟩
    · exact absurd hz hn
    obtain rfl : p2 = some ⟨g2, 0, none⟩ := (Value.slice.inj hv).1
    have lg2 := BLK.out g2 (.inr (.inr rfl))
    have os := TO.out.stk
    simp only at os
    have hlen : hs.length = k * 4 + 4 := by have := os.1; simp at this; omega
    obtain ⟨u0, hu0⟩ : ∃ u, World.cell? _ ⟨g2, k * 4, none⟩ = some u := ⟨_, own_cellV os (List.getElem?_eq_getElem (by simp; omega))⟩
    obtain ⟨u1, hu1⟩ : ∃ u, World.cell? _ ⟨g2, k * 4 + 1, none⟩ = some u := ⟨_, own_cellV os (List.getElem?_eq_getElem (by simp; omega))⟩
    obtain ⟨u2, hu2⟩ : ∃ u, World.cell? _ ⟨g2, k * 4 + 2, none⟩ = some u := ⟨_, own_cellV os (List.getElem?_eq_getElem (by simp; omega))⟩
    obtain ⟨u3, hu3⟩ : ∃ u, World.cell? _ ⟨g2, k * 4 + 3, none⟩ = some u := ⟨_, own_cellV os (List.getElem?_eq_getElem (by simp; omega))⟩
    have z0 := os.frozenAt (k * 4)
    have z1 := os.frozenAt (k * 4 + 1)
    have z2 := os.frozenAt (k * 4 + 2)
    have z3 := os.frozenAt (k * 4 + 3)
    have hk0 : (0 : Int) ≤ (k : Int) := by omega
    have ne0 : g2 ≠ g := by omega
    have ne1 : g2 ≠ sz + 1 + 1 := by omega
    have ne2 : g2 ≠ sz + 1 := by omega
    clear os
    go_wp2
    have TS := TO.out.swapped h
    have YS := YR.out.set4 (b := g2) (i0 := k * 4) (i1 := k * 4 + 1) (i2 := k * 4 + 2) (i3 := k * 4 + 3) (Ne.symm ne1) (.int .i64 (h 0)) (.int .i64 (h 1)) (.int .i64 (h 2)) (.int .i64 (h 3))
    have BS := below_set4 (i0 := k * 4) (i1 := k * 4 + 1) (i2 := k * 4 + 2) (i3 := k * 4 + 3) HB1.out lg2.1 (.int .i64 (h 0)) (.int .i64 (h 1)) (.int .i64 (h 2)) (.int .i64 (h 3))
    (try simp only [Exit.inBlock, Exit.then])
    obtain ⟨z0, z1, z2, z3, z4, _⟩ := (((((YS.put 0 (Value.slice p0 n0 d0)).put 1 (.int .i64 pc)).put 2 (.bool on)).put 3 (Value.slice p1 n1 d1)).put 4 (Value.slice (some ⟨g2, 0, none⟩) (k + 1) d2)).five
    refine bodyPost_ret (by simp [results, Try.results6, go_sem, z0, z1, z2, z3, z4]; try rfl) rfl ?_
    have nr : ¬ In3 (Value.slice p0 n0 d0) (Value.slice p1 n1 d1) (Value.slice (some ⟨g2, 0, none⟩) (k + 1) d2) (sz + 1 + 1) := fun hk => by have h1 := (TS.blk hk).1; omega
    have hl : sz ≤ W.heap.size := by omega
    have hE : T' = _ := HT.out.symm
    subst hE
    refine ⟨_, _, _, rfl, ?_, ?_⟩
    · rw [HSZ.out]; exact (TS.set5 nr _ _ _ _ _).weaken hl
    · rw [HSZ.out]; exact below_set5 (HB0.out.trans (BS.mono hl)) (by omega) _ _ _ _ _
set_option maxHeartbeats 2000000 in
theorem specPop_any (v0 v1 v2 : Value) (t : TD) (w : World) (hT : ThAt w v0 v1 v2 t) :
    Calls Try.prog 13 #[ThV v0 v1 v2 t.pc t.on] w (ThAns w t.pop) := by
  obtain ⟨T', hT'⟩ : ∃ T', t.pop = T' := ⟨_, rfl⟩
  rw [hT']
  have HT : Hid (t.pop = T') := hT'
  clear hT'
  obtain ⟨⟨a0, c0, rfl, e0, h0⟩, ⟨a1, c1, rfl, e1, h1⟩, ⟨a2, c2, rfl, e2, h2⟩⟩ := hT
  obtain ⟨n0, fs, pc, on, n1, gs, n2, hs⟩ := t
  simp only at h0 h1 h2 ⊢
  have m2 := h2.2.1
  obtain ⟨i0, hi0, hz0, hz1, hz2⟩ := info_parts kInfoHelp
  obtain ⟨sz, hsz⟩ : ∃ sz, w.heap.size = sz := ⟨_, rfl⟩
  obtain ⟨W, hW⟩ : ∃ W, (w.alloc (.cells #[.slice a0 n0 c0, .int .i64 pc, .bool on, .slice a1 n1 c1, .slice a2 n2 c2] 34)).alloc (.cells #[.slice none 0 0, .int .i64 0, .bool false, .slice none 0 0, .slice none 0 0] 34) = W := ⟨_, rfl⟩
  have hWs : W.heap.size = sz + 2 := by rw [← hW, ← hsz]; simp
  have hb0 : Below sz w W := by rw [← hW, ← hsz]; exact ((Below.refl _ w).alloc (Nat.le_refl _) _).alloc (by simp) _
  have X0 : Hid (Box W sz #[.slice a0 n0 c0, .int .i64 pc, .bool on, .slice a1 n1 c1, .slice a2 n2 c2] 34) := by rw [← hW, ← hsz]; exact (box_of w _ _).alloc _
  have XR : Hid (Box W (sz + 1) #[.slice none 0 0, .int .i64 0, .bool false, .slice none 0 0, .slice none 0 0] 34) := by rw [← hW, ← hsz]; exact box_two w _ _ _
  have HW : Hid _ := hW
  have HSZ : Hid (w.heap.size = sz) := hsz
  have HB0 : Hid (Below sz w W) := hb0
  have HWS : Hid (W.heap.size = sz + 2) := hWs
  have HK : Hid (ThAt W (.slice a0 n0 c0) (.slice a1 n1 c1) (.slice a2 n2 c2) ⟨n0, fs, pc, on, n1, gs, n2, hs⟩) := ⟨⟨a0, c0, rfl, e0, h0.below hb0 (by omega)⟩, ⟨a1, c1, rfl, e1, h1.below hb0 (by omega)⟩, ⟨a2, c2, rfl, e2, h2.below hb0 (by omega)⟩⟩
  have HE2 : Hid (a2 = none → c2 = 0) := e2.1
  have HM : Hid (KAt 4 W a2 n2 hs) := h2.below hb0 (by omega)
  have HC : Hid (n2 ≤ c2) := e2.2
  clear h0 h1 h2 hW hb0 hsz hWs e0 e1 e2
  go_enter Try.func13, Try.ntmps13
  go_wp2_with fail
  rw [HW.out]
  (try rw [HSZ.out])
  refine (l8Copy_any _ _ _ ⟨n0, fs, pc, on, n1, gs, n2, hs⟩ W HK.out).mono ?_
  rintro e w1 ⟨v0, v1, v2, rfl, tO, hb1⟩
  obtain ⟨p0, d0, rfl, -⟩ := owns_slice tO.ops
  obtain ⟨p1, d1, rfl, -⟩ := owns_slice tO.got
  obtain ⟨p2, d2, rfl, -⟩ := owns_slice tO.stk
  simp only at tO ⊢
  obtain ⟨g, hg⟩ : ∃ g, w1.heap.size = g := ⟨_, rfl⟩
  obtain ⟨W1, hW1⟩ : ∃ W1, w1.alloc (.cells #[.slice p0 n0 d0, .int .i64 pc, .bool on, .slice p1 n1 d1, .slice p2 n2 d2] 34) = W1 := ⟨_, rfl⟩
  have hx1 : Below w1.heap.size w1 W1 := by rw [← hW1]; exact (Below.refl _ _).alloc (Nat.le_refl _) _
  have hW1s : W1.heap.size = g + 1 := by rw [← hW1, ← hg]; simp
  have hlg : W.heap.size ≤ g := by rw [← hg]; exact hb1.size
  have hb1' : Below W.heap.size W W1 := hb1.trans (hx1.mono hb1.size)
  have HB1 : Hid (Below W.heap.size W W1) := hb1'
  have Y0 : Hid (Box W1 sz _ _) := X0.out.below hb1' X0.out.lt
  have YR : Hid (Box W1 (sz + 1) _ _) := XR.out.below hb1' XR.out.lt
  have YO : Hid (Box W1 g #[.slice p0 n0 d0, .int .i64 pc, .bool on, .slice p1 n1 d1, .slice p2 n2 d2] 34) := by rw [← hW1, ← hg]; exact box_of w1 _ _
  have TO : Hid (ThO W1 W.heap.size (.slice p0 n0 d0) (.slice p1 n1 d1) (.slice p2 n2 d2) ⟨n0, fs, pc, on, n1, gs, n2, hs⟩) := tO.below hx1 (Nat.le_refl _)
  have BLK : Hid (∀ k, In3 (.slice p0 n0 d0) (.slice p1 n1 d1) (.slice p2 n2 d2) k → W.heap.size ≤ k ∧ k < g) := fun k hk => by rw [← hg]; exact tO.blk hk
  have HW1 : Hid _ := hW1
  have HG : Hid (w1.heap.size = g) := hg
  have hWz := HWS.out
  have HW1S : Hid (W1.heap.size = g + 1) := hW1s
  clear hb1 tO hx1 hW1 hb1' hg hW1s
  go_upto_region 2 with (fail)
  rw [HW1.out]
  (try rw [HG.out])
  obtain ⟨y0, y1, y2, y3, y4, -⟩ := YO.out.five
  obtain ⟨q0, q1, q2, q3, q4, -⟩ := Y0.out.five
  obtain ⟨r0, r1, r2, r3, r4, f0, f1, f2, f3, f4⟩ := YR.out.five
  by_cases hn : n2 = 0
  · subst hn
    have hs0 : hs = [] := List.length_eq_zero_iff.1 (by have := TO.out.stk.1; simpa using this)
    go_wp2
    (try simp only [Exit.inBlock, Exit.then])
    obtain ⟨z0, z1, z2, z3, z4, _⟩ := (((((YR.out.put 0 (Value.slice p0 n0 d0)).put 1 (.int .i64 pc)).put 2 (.bool on)).put 3 (Value.slice p1 n1 d1)).put 4 (Value.slice p2 0 d2)).five
    refine bodyPost_ret (by simp [results, Try.results13, go_sem, z0, z1, z2, z3, z4]; try rfl) rfl ?_
    have nr : ¬ In3 (Value.slice p0 n0 d0) (Value.slice p1 n1 d1) (Value.slice p2 0 d2) (sz + 1) := fun hk => by have h1 := (TO.out.blk hk).1; omega
    have hl : sz ≤ W.heap.size := by omega
    have hE : T' = ⟨n0, fs, pc, on, n1, gs, 0, hs⟩ := by rw [← HT.out, TD.pop, hs0]; rfl
    subst hE
    refine ⟨_, _, _, rfl, ?_, ?_⟩
    · rw [HSZ.out]; exact (TO.out.set5 nr _ _ _ _ _).weaken hl
    · rw [HSZ.out]; exact below_set5 (HB0.out.trans (HB1.out.mono hl)) (by omega) _ _ _ _ _
  · obtain ⟨k, rfl⟩ : ∃ k, n2 = k + 1 := ⟨n2 - 1, by omega⟩
    have hk0 : (0 : Int) ≤ (k : Int) := by omega
    have HA : Hid (KAt 4 (W1.alloc (.cells #[] 37)) a2 k (hs.take (k * 4))) := by
      have q := HM.out.below HB1.out (Nat.le_refl _)
      have q2 := q.below ((Below.refl W1.heap.size W1).alloc (Nat.le_refl _) (.cells #[] 37)) (Nat.le_refl _)
      exact q2.cut (by omega)
    have qa : (W1.alloc (.cells #[] 37)).cell? ⟨sz, 4, none⟩ = some (.slice a2 (k + 1) c2) := ((Y0.out.alloc _).five).2.2.2.2.1
    have hc2 : k ≤ c2 := by have := HC.out; omega
    go_wp2_with
      (at_builtin
       refine wpList_append_any _ rfl _ _ 32 rfl W1.heap.size 37 i0 (.agg #[.int .i64 0, .int .i64 0, .int .i64 0, .int .i64 0]) 4 32 Try.underlying32 hi0 hz0 hz1 hz2 rfl (by decide) (.slice (some ⟨W1.heap.size, 0, none⟩) 0 0) 0 [] rfl (own_emptyK (Nat.le_refl _)) a2 k c2 (hs.take (k * 4)) rfl HE2.out HA.out (by unfold maxLen; omega) (by omega) (by simp) ?_
       intro v' w2 own' gr at'
       rw [Nat.zero_add, List.nil_append] at own'
       obtain ⟨p, d, rfl, -⟩ := owns_slice own'
       have hb2 : Below W1.heap.size W1 w2 := ((Below.refl _ W1).alloc (Nat.le_refl _) _).grown gr (by simp only [World.size_alloc]; omega) (fun k e => by have := sl_blk e; omega)
       have HB2 : Hid (Below W1.heap.size W1 w2) := hb2
       have HO : Hid (w2.ownsRow W1.heap.size 37 4 (.slice p k d) k ((hs.take (k * 4)).map I)) := own'
       clear qa y0 y1 y2 y3 y4 q0 q1 q2 q3 q4 r0 r1 r2 r3 r4 f0 f1 f2 f3 f4
       obtain ⟨y0, y1, y2, y3, y4, m0, m1, m2, m3, m4⟩ := (YO.out.below hb2 YO.out.lt).five
       obtain ⟨r0, r1, r2, r3, r4, f0, f1, f2, f3, f4⟩ := (YR.out.below hb2 YR.out.lt).five
       clear own' gr at' hb2)
    have hs2 := HB2.out.size
    have hw1 := HW1S.out
    have TS0 := TO.out.stack HB2.out HB1.out.size HO.out
    have ng : ¬ In3 (.slice p0 n0 d0) (.slice p1 n1 d1) (.slice p k d) g := by
      rintro (e | e | e)
      · have := (BLK.out g (.inl e)).2; omega
      · have := (BLK.out g (.inr (.inl e))).2; omega
      · have := (HO.out.lt g e).1; omega
    have TS := TS0.set (q := ⟨g, 4, none⟩) ng (.slice p k d)
    have YS := (YR.out.below HB2.out YR.out.lt).set (q := ⟨g, 4, none⟩) (show sz + 1 ≠ g by omega) (.slice p k d)
    have BS : Below W.heap.size W (w2.setCell ⟨g, 4, none⟩ (.slice p k d)) := (HB1.out.trans (HB2.out.mono HB1.out.size)).setCell hlg _
    (try simp only [Exit.inBlock, Exit.then])
    obtain ⟨z0, z1, z2, z3, z4, _⟩ := (((((YS.put 0 (Value.slice p0 n0 d0)).put 1 (.int .i64 pc)).put 2 (.bool on)).put 3 (Value.slice p1 n1 d1)).put 4 (Value.slice p k d)).five
    refine bodyPost_ret (by simp [results, Try.results13, go_sem, z0, z1, z2, z3, z4]; try rfl) rfl ?_
    have nr : ¬ In3 (Value.slice p0 n0 d0) (Value.slice p1 n1 d1) (Value.slice p k d) (sz + 1) := fun hk => by have h1 := (TS.blk hk).1; omega
    have hl : sz ≤ W.heap.size := by omega
    have hE : T' = ⟨n0, fs, pc, on, n1, gs, k, hs.take (k * 4)⟩ := HT.out.symm
    subst hE
    refine ⟨_, _, _, rfl, ?_, ?_⟩
    · rw [HSZ.out]; exact (TS.set5 nr _ _ _ _ _).weaken hl
    · rw [HSZ.out]; exact below_set5 (HB0.out.trans (BS.mono hl)) (by omega) _ _ _ _ _
end Go.Proofs.Ytemeklfkbjpnmas
