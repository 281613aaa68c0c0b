/- The program's ThreadDone, ThreadNew, Push, Swap, Pop, Top. -/
import Derived.Test.YtemeklfkbjpnmasWork8b
namespace Go.Proofs.Ytemeklfkbjpnmas
open Go.ChangeShapes Go.WideShapes Go.ChangeAt Go.RowKit Go.Joins

set_option maxHeartbeats 2000000 in
set_option maxRecDepth 100000 in
theorem implSwap_any (v0 v1 v2 : Value) (t : TD) (h : Nat → Int) (w : World) (hn2 : t.n2 ≤ 1048576) (hT : ThAt w v0 v1 v2 t) :
    Calls Try.prog 9 #[ThV v0 v1 v2 t.pc t.on, HelpV h] w (ThAns w (t.swap h)) := by
  obtain ⟨T', hT'⟩ : ∃ T', t.swap h = T' := ⟨_, rfl⟩
  rw [hT']
  have HT : Hid (t.swap h = T') := hT'
  clear hT'
  obtain ⟨⟨a0, c0, rfl, e0, h0⟩, ⟨a1, c1, rfl, e1, h1⟩, ⟨a2, c2, rfl, e2, h2⟩⟩ := hT
  obtain ⟨n0, fs, pc, on, n1, gs, n2, hs⟩ := t
  simp only at h0 h1 h2 hn2 ⊢
  obtain ⟨sz, hsz⟩ : ∃ sz, w.heap.size = sz := ⟨_, rfl⟩
  obtain ⟨W, hW⟩ : ∃ W, ((w.alloc (.cells #[.slice a0 n0 c0, .int .i64 pc, .bool on, .slice a1 n1 c1, .slice a2 n2 c2] 34)).alloc (.cells #[.int .i64 (h 0), .int .i64 (h 1), .int .i64 (h 2), .int .i64 (h 3)] 37)).alloc (.cells #[.slice none 0 0, .int .i64 0, .bool false, .slice none 0 0, .slice none 0 0] 34) = W := ⟨_, rfl⟩
  have hWs : W.heap.size = sz + 3 := by rw [← hW, ← hsz]; simp
  have hb0 : Below sz w W := by rw [← hW, ← hsz]; exact (((Below.refl _ w).alloc (Nat.le_refl _) _).alloc (by simp) _).alloc (by simp; omega) _
  have XH : Hid (Box W (sz + 1) #[.int .i64 (h 0), .int .i64 (h 1), .int .i64 (h 2), .int .i64 (h 3)] 37) := by rw [← hW, ← hsz]; exact (box_two w _ _ _).alloc _
  have XR : Hid (Box W (sz + 1 + 1) #[.slice none 0 0, .int .i64 0, .bool false, .slice none 0 0, .slice none 0 0] 34) := by rw [← hW, ← hsz]; exact box_three w _ _ _ _
  have HW : Hid _ := hW
  have HSZ : Hid (w.heap.size = sz) := hsz
  have HB0 : Hid (Below sz w W) := hb0
  have HWS : Hid (W.heap.size = sz + 3) := hWs
  have HK : Hid (ThAt W (.slice a0 n0 c0) (.slice a1 n1 c1) (.slice a2 n2 c2) ⟨n0, fs, pc, on, n1, gs, n2, hs⟩) := ⟨⟨a0, c0, rfl, e0, h0.below hb0 (by omega)⟩, ⟨a1, c1, rfl, e1, h1.below hb0 (by omega)⟩, ⟨a2, c2, rfl, e2, h2.below hb0 (by omega)⟩⟩
  clear h0 h1 h2 hW hb0 hsz hWs e0 e1 e2
  go_enter Try.func9, Try.ntmps9
  go_wp2_with fail
  rw [HW.out]
  (try rw [HSZ.out])
  refine (workerOf_any _ _ _ ⟨n0, fs, pc, on, n1, gs, n2, hs⟩ W HK.out).mono ?_
  rintro e w1 ⟨v0, v1, v2, g, rfl, wk, hb1⟩
  have WK : Hid (WkO w1 W.heap.size g v0 v1 v2 ⟨n0, fs, pc, on, n1, gs, n2, hs⟩) := wk
  have HB1 : Hid (Below W.heap.size W w1) := hb1
  clear wk hb1
  have BOX : Hid (∀ w', Below W.heap.size W w' → w'.cell? ⟨sz + 1, 0, none⟩ = some (.int .i64 (h 0)) ∧ w'.cell? ⟨sz + 1, 1, none⟩ = some (.int .i64 (h 1)) ∧ w'.cell? ⟨sz + 1, 2, none⟩ = some (.int .i64 (h 2)) ∧ w'.cell? ⟨sz + 1, 3, none⟩ = some (.int .i64 (h 3))) := fun w' hb => by
    obtain ⟨y0, y1, y2, y3, _⟩ := (XH.out.below hb XH.out.lt).four
    exact ⟨y0, y1, y2, y3⟩
  obtain ⟨j0, j1, j2, j3⟩ := BOX.out _ HB1.out
  have K0 : Hid (w1.drew.cell? ⟨sz + 1, 0, none⟩ = some (.int .i64 (h 0)) ∧ w1.drew.cell? ⟨sz + 1, 1, none⟩ = some (.int .i64 (h 1)) ∧ w1.drew.cell? ⟨sz + 1, 2, none⟩ = some (.int .i64 (h 2)) ∧ w1.drew.cell? ⟨sz + 1, 3, none⟩ = some (.int .i64 (h 3))) := BOX.out _ HB1.out.drew
  go_upto_region 2 with (fail)
  go_region_held3 (fun w' => w'.cell? ⟨sz + 1, 0, none⟩ = some (.int .i64 (h 0)) ∧ w'.cell? ⟨sz + 1, 1, none⟩ = some (.int .i64 (h 1)) ∧ w'.cell? ⟨sz + 1, 2, none⟩ = some (.int .i64 (h 2)) ∧ w'.cell? ⟨sz + 1, 3, none⟩ = some (.int .i64 (h 3)))
    (first | (with_reducible exact K2.out) | (with_reducible exact K0.out) | go_keep)
    (first
    | (go_at_call 23
       refine (swapW_any W.heap.size g v0 v1 v2 ⟨n0, fs, pc, on, n1, gs, n2, hs⟩ h _ hn2 (WK.out.below (Below.refl w1.heap.size w1).drew)).mono ?_
       rintro e w2 ⟨rfl, wk2, hb2⟩
       have hb2' : Below W.heap.size W w2 := HB1.out.trans ((Below.refl _ w1).drew.trans hb2)
       have HB2 : Hid (Below W.heap.size W w2) := hb2'
       have WK2 : Hid (WkO w2 W.heap.size g v0 v1 v2 (TD.swap ⟨n0, fs, pc, on, n1, gs, n2, hs⟩ h)) := wk2
       have K2 : Hid (w2.cell? ⟨sz + 1, 0, none⟩ = some (.int .i64 (h 0)) ∧ w2.cell? ⟨sz + 1, 1, none⟩ = some (.int .i64 (h 1)) ∧ w2.cell? ⟨sz + 1, 2, none⟩ = some (.int .i64 (h 2)) ∧ w2.cell? ⟨sz + 1, 3, none⟩ = some (.int .i64 (h 3))) := BOX.out _ hb2'
       clear hb2 hb2' wk2))
  clear K0 K2 j0 j1 j2 j3
  have hd : TD.swap ⟨n0, fs, pc, on, n1, gs, n2, hs⟩ h = T' := HT.out
  rw [hd] at WK2
  go_wp2_with fail
  refine (thread_any W.heap.size g v0 v1 v2 T' _ WK2.out).mono ?_
  rintro e w3 ⟨rfl, hb3⟩
  have TO : Hid (ThO w3 W.heap.size v0 v1 v2 T') := WK2.out.thr.below hb3 (Nat.le_refl _)
  have HB3 : Hid (Below W.heap.size W w3) := HB2.out.trans (hb3.mono HB2.out.size)
  have YR : Hid (Box w3 (sz + 1 + 1) _ _) := XR.out.below HB3.out XR.out.lt
  obtain ⟨p0, d0, rfl, -⟩ := owns_slice TO.out.ops
  obtain ⟨p1, d1, rfl, -⟩ := owns_slice TO.out.got
  obtain ⟨p2, d2, rfl, -⟩ := owns_slice TO.out.stk
  obtain ⟨r0, r1, r2, r3, r4, f0, f1, f2, f3, f4⟩ := YR.out.five
  clear hb3
  go_wp2
  (try simp only [Exit.inBlock, Exit.then])
  obtain ⟨z0, z1, z2, z3, z4, _⟩ := (((((YR.out.put 0 (.slice p0 T'.n0 d0)).put 1 (.int .i64 T'.pc)).put 2 (.bool T'.on)).put 3 (.slice p1 T'.n1 d1)).put 4 (.slice p2 T'.n2 d2)).five
  refine bodyPost_ret (by simp [results, Try.results9, go_sem, z0, z1, z2, z3, z4]; try rfl) rfl ?_
  have hz := HWS.out
  have nr : ¬ In3 (.slice p0 T'.n0 d0) (.slice p1 T'.n1 d1) (.slice p2 T'.n2 d2) (sz + 1 + 1) := fun hk => by have h1 := (TO.out.blk hk).1; omega
  have hl : sz ≤ W.heap.size := by omega
  refine ⟨_, _, _, rfl, ?_, ?_⟩
  · rw [HSZ.out]; exact (TO.out.set5 nr _ _ _ _ _).weaken hl
  · rw [HSZ.out]; exact below_set5 (HB0.out.trans (HB3.out.mono hl)) (by omega) _ _ _ _ _
set_option maxHeartbeats 2000000 in
set_option maxRecDepth 100000 in
theorem implPop_any (v0 v1 v2 : Value) (t : TD) (w : World) (hn2 : t.n2 ≤ 1048576) (hT : ThAt w v0 v1 v2 t) :
    Calls Try.prog 14 #[ThV v0 v1 v2 t.pc t.on] w (ThAns w (t.pop)) := by
  obtain ⟨T', hT'⟩ : ∃ T', t.pop = T' := ⟨_, rfl⟩
  rw [hT']
  have HT : Hid (t.pop = T') := hT'
  clear hT'
  obtain ⟨⟨a0, c0, rfl, e0, h0⟩, ⟨a1, c1, rfl, e1, h1⟩, ⟨a2, c2, rfl, e2, h2⟩⟩ := hT
  obtain ⟨n0, fs, pc, on, n1, gs, n2, hs⟩ := t
  simp only at h0 h1 h2 hn2 ⊢
  obtain ⟨sz, hsz⟩ : ∃ sz, w.heap.size = sz := ⟨_, rfl⟩
  obtain ⟨W, hW⟩ : ∃ W, (w.alloc (.cells #[.slice a0 n0 c0, .int .i64 pc, .bool on, .slice a1 n1 c1, .slice a2 n2 c2] 34)).alloc (.cells #[.slice none 0 0, .int .i64 0, .bool false, .slice none 0 0, .slice none 0 0] 34) = W := ⟨_, rfl⟩
  have hWs : W.heap.size = sz + 2 := by rw [← hW, ← hsz]; simp
  have hb0 : Below sz w W := by rw [← hW, ← hsz]; exact ((Below.refl _ w).alloc (Nat.le_refl _) _).alloc (by simp) _
  have XR : Hid (Box W (sz + 1) #[.slice none 0 0, .int .i64 0, .bool false, .slice none 0 0, .slice none 0 0] 34) := by rw [← hW, ← hsz]; exact box_two w _ _ _
  have HW : Hid _ := hW
  have HSZ : Hid (w.heap.size = sz) := hsz
  have HB0 : Hid (Below sz w W) := hb0
  have HWS : Hid (W.heap.size = sz + 2) := hWs
  have HK : Hid (ThAt W (.slice a0 n0 c0) (.slice a1 n1 c1) (.slice a2 n2 c2) ⟨n0, fs, pc, on, n1, gs, n2, hs⟩) := ⟨⟨a0, c0, rfl, e0, h0.below hb0 (by omega)⟩, ⟨a1, c1, rfl, e1, h1.below hb0 (by omega)⟩, ⟨a2, c2, rfl, e2, h2.below hb0 (by omega)⟩⟩
  clear h0 h1 h2 hW hb0 hsz hWs e0 e1 e2
  go_enter Try.func14, Try.ntmps14
  go_wp2_with fail
  rw [HW.out]
  (try rw [HSZ.out])
  refine (workerOf_any _ _ _ ⟨n0, fs, pc, on, n1, gs, n2, hs⟩ W HK.out).mono ?_
  rintro e w1 ⟨v0, v1, v2, g, rfl, wk, hb1⟩
  have WK : Hid (WkO w1 W.heap.size g v0 v1 v2 ⟨n0, fs, pc, on, n1, gs, n2, hs⟩) := wk
  have HB1 : Hid (Below W.heap.size W w1) := hb1
  clear wk hb1
  go_wp2_with fail
  refine (popW_any W.heap.size g v0 v1 v2 ⟨n0, fs, pc, on, n1, gs, n2, hs⟩ _ hn2 WK.out).mono ?_
  rintro e w2 ⟨rfl, hb2, u, wk2⟩
  have HB2 : Hid (Below W.heap.size W w2) := HB1.out.trans hb2
  have hd : TD.pop ⟨n0, fs, pc, on, n1, gs, n2, hs⟩ = T' := HT.out
  rw [hd] at wk2
  have WK2 : Hid (WkO w2 W.heap.size g v0 v1 u T') := wk2
  clear hb2 wk2
  go_wp2_with fail
  refine (thread_any W.heap.size g v0 v1 u T' _ WK2.out).mono ?_
  rintro e w3 ⟨rfl, hb3⟩
  have TO : Hid (ThO w3 W.heap.size v0 v1 u T') := WK2.out.thr.below hb3 (Nat.le_refl _)
  have HB3 : Hid (Below W.heap.size W w3) := HB2.out.trans (hb3.mono HB2.out.size)
  have YR : Hid (Box w3 (sz + 1) _ _) := XR.out.below HB3.out XR.out.lt
  obtain ⟨p0, d0, rfl, -⟩ := owns_slice TO.out.ops
  obtain ⟨p1, d1, rfl, -⟩ := owns_slice TO.out.got
  obtain ⟨p2, d2, rfl, -⟩ := owns_slice TO.out.stk
  obtain ⟨r0, r1, r2, r3, r4, f0, f1, f2, f3, f4⟩ := YR.out.five
  clear hb3
  go_wp2
  (try simp only [Exit.inBlock, Exit.then])
  obtain ⟨z0, z1, z2, z3, z4, _⟩ := (((((YR.out.put 0 (.slice p0 T'.n0 d0)).put 1 (.int .i64 T'.pc)).put 2 (.bool T'.on)).put 3 (.slice p1 T'.n1 d1)).put 4 (.slice p2 T'.n2 d2)).five
  refine bodyPost_ret (by simp [results, Try.results14, go_sem, z0, z1, z2, z3, z4]; try rfl) rfl ?_
  have hz := HWS.out
  have nr : ¬ In3 (.slice p0 T'.n0 d0) (.slice p1 T'.n1 d1) (.slice p2 T'.n2 d2) (sz + 1) := fun hk => by have h1 := (TO.out.blk hk).1; omega
  have hl : sz ≤ W.heap.size := by omega
  refine ⟨_, _, _, rfl, ?_, ?_⟩
  · rw [HSZ.out]; exact (TO.out.set5 nr _ _ _ _ _).weaken hl
  · rw [HSZ.out]; exact below_set5 (HB0.out.trans (HB3.out.mono hl)) (by omega) _ _ _ _ _
end Go.Proofs.Ytemeklfkbjpnmas
