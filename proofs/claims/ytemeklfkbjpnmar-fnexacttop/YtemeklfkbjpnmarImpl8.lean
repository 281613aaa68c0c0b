/- The program's ThreadDone, ThreadNew, Push, Swap, Pop, Top. -/
import Derived.Test.YtemeklfkbjpnmarWork8b
namespace Go.Proofs.Ytemeklfkbjpnmar
open Go.ChangeShapes Go.WideShapes Go.ChangeAt Go.RowKit Go.Joins

set_option maxHeartbeats 1000000 in
theorem implDone_any (v0 v1 v2 : Value) (t : TD) (w : World) (h : ThAt w v0 v1 v2 t) :
    Calls Try.prog 28 #[ThV v0 v1 v2 t.pc t.on] w fun e w' => e = .returned (.bool (decide (t.pc = (t.n0 : Int)))) ∧ Below w.heap.size w w' := by
  obtain ⟨⟨a0, c0, rfl, -⟩, ⟨a1, c1, rfl, -⟩, ⟨a2, c2, rfl, -⟩⟩ := h
  obtain ⟨B, hB⟩ : ∃ B, decide (t.pc = (t.n0 : Int)) = B := ⟨_, rfl⟩
  rw [hB]
  have hq : (t.pc == (t.n0 : Int)) = B := by rw [← hB]; rfl
  clear hB
  go_enter Try.func28, Try.ntmps28
  go_wp2
  go_ret
  exact ⟨rfl, (Below.refl _ _).alloc (Nat.le_refl _) _⟩

set_option maxHeartbeats 1000000 in
theorem implNewT_any (v : Value) (n : Nat) (fs : List Int) (w : World) (h : LAt 3 w v n fs) :
    Calls Try.prog 22 #[v] w (ThAns w ⟨n, fs, 0, false, 0, [], 0, []⟩) := by
  obtain ⟨sz, hsz⟩ : ∃ sz, w.heap.size = sz := ⟨_, rfl⟩
  obtain ⟨W, hW⟩ : ∃ W, w.alloc (.cells #[.slice none 0 0, .int .i64 0, .bool false, .slice none 0 0, .slice none 0 0] 46) = W := ⟨_, rfl⟩
  have hWs : W.heap.size = sz + 1 := by rw [← hW, ← hsz]; simp
  have hb0 : Below sz w W := by rw [← hW, ← hsz]; exact (Below.refl _ w).alloc (Nat.le_refl _) _
  have R0 : Hid (Box W sz #[.slice none 0 0, .int .i64 0, .bool false, .slice none 0 0, .slice none 0 0] 46) := by rw [← hW, ← hsz]; exact box_of w _ _
  have HL : Hid (LAt 3 W v n fs) := h.below hb0 (by omega)
  have HW : Hid _ := hW
  have HSZ : Hid (w.heap.size = sz) := hsz
  have HB0 : Hid (Below sz w W) := hb0
  have HWS : Hid (W.heap.size = sz + 1) := hWs
  clear h hW hb0 hsz hWs
  go_enter Try.func22, Try.ntmps22
  go_wp2_with fail
  rw [HW.out]
  (try rw [HSZ.out])
  refine (cloneOp v n fs _ HL.out).mono ?_
  rintro e w1 ⟨v', rfl, own1, hb1⟩
  obtain ⟨p, d, rfl, -⟩ := owns_slice own1
  have HO : Hid (w1.ownsRow W.heap.size 84 3 (.slice p n d) n (fs.map I)) := own1
  have HB1 : Hid (Below W.heap.size W w1) := hb1
  have X : Hid (Box w1 sz #[.slice none 0 0, .int .i64 0, .bool false, .slice none 0 0, .slice none 0 0] 46) := R0.out.below hb1 R0.out.lt
  obtain ⟨u0, u1, u2, u3, u4, f0, f1, f2, f3, f4⟩ := X.out.five
  clear own1 hb1
  go_wp2
  (try simp only [Exit.inBlock, Exit.then])
  obtain ⟨z0, z1, z2, z3, z4, _⟩ := (((((X.out.put 0 (.slice p n d)).put 1 (.int .i64 0)).put 2 (.bool false)).put 3 (.slice none 0 0)).put 4 (.slice none 0 0)).five
  refine bodyPost_ret (by simp [results, Try.results22, go_sem, z0, z1, z2, z3, z4]; try rfl) rfl ?_
  have hz := HWS.out
  have nin : ¬ In3 (.slice p n d) (.slice none 0 0) (.slice none 0 0) sz := by
    rintro (e | e | e)
    · have := (HO.out.lt _ e).1; omega
    · cases e
    · cases e
  have tO : ThO w1 sz (.slice p n d) (.slice none 0 0) (.slice none 0 0) ⟨n, fs, 0, false, 0, [], 0, []⟩ := ⟨own_weaken HO.out (by omega), World.ownsRow_nil _ _ _ _, World.ownsRow_nil _ _ _ _, (fun _ _ e => by cases e), (fun _ _ e => by cases e), (fun _ e => by cases e)⟩
  refine ⟨_, _, _, rfl, ?_, ?_⟩
  · rw [HSZ.out]; exact tO.set5 nin _ _ _ _ _
  · rw [HSZ.out]; exact below_set5 (HB0.out.trans (HB1.out.mono (by omega))) (Nat.le_refl _) _ _ _ _ _

set_option maxHeartbeats 2000000 in
set_option maxRecDepth 100000 in
theorem implTop_any (v0 v1 v2 : Value) (t : TD) (w : World) (hn2 : t.n2 ≤ 1048576) (hT : ThAt w v0 v1 v2 t) :
    Calls Try.prog 33 #[ThV v0 v1 v2 t.pc t.on] w fun e w' => e = .returned (.tuple #[t.topV, .bool (decide (t.n2 ≠ 0))]) ∧ Below w.heap.size w w' := by
  obtain ⟨V, hV⟩ : ∃ V, t.topV = V := ⟨_, rfl⟩
  obtain ⟨t0, t1, t2, t3, hform⟩ : ∃ t0 t1 t2 t3, V = .agg #[.int .i64 t0, .int .i64 t1, .int .i64 t2, .int .i64 t3] := by
    rw [← hV, TD.topV]
    split
    · exact ⟨0, 0, 0, 0, rfl⟩
    · exact ⟨_, _, _, _, rfl⟩
  subst hform
  obtain ⟨B, hB⟩ : ∃ B, decide (t.n2 ≠ 0) = B := ⟨_, rfl⟩
  rw [hV, hB]
  have HV : Hid (t.topV = .agg #[.int .i64 t0, .int .i64 t1, .int .i64 t2, .int .i64 t3] ∧ decide (t.n2 ≠ 0) = B) := ⟨hV, hB⟩
  clear hV hB
  obtain ⟨⟨a0, c0, rfl, e0, h0⟩, ⟨a1, c1, rfl, e1, h1⟩, ⟨a2, c2, rfl, e2, h2⟩⟩ := hT
  obtain ⟨n0, fs, pc, on, n1, gs, n2, hs⟩ := t
  simp only at h0 h1 h2 hn2 ⊢
  obtain ⟨sz, hsz⟩ : ∃ sz, w.heap.size = sz := ⟨_, rfl⟩
  obtain ⟨W, hW⟩ : ∃ W, (w.alloc (.cells #[.slice a0 n0 c0, .int .i64 pc, .bool on, .slice a1 n1 c1, .slice a2 n2 c2] 46)).alloc (.cells #[.int .i64 0, .int .i64 0, .int .i64 0, .int .i64 0] 62) = W := ⟨_, rfl⟩
  have hWs : W.heap.size = sz + 2 := by rw [← hW, ← hsz]; simp
  have hb0 : Below sz w W := by rw [← hW, ← hsz]; exact ((Below.refl _ w).alloc (Nat.le_refl _) _).alloc (by simp) _
  have XR : Hid (Box W (sz + 1) #[.int .i64 0, .int .i64 0, .int .i64 0, .int .i64 0] 62) := by rw [← hW, ← hsz]; exact box_two w _ _ _
  have HW : Hid _ := hW
  have HSZ : Hid (w.heap.size = sz) := hsz
  have HB0 : Hid (Below sz w W) := hb0
  have HWS : Hid (W.heap.size = sz + 2) := hWs
  have HK : Hid (ThAt W (.slice a0 n0 c0) (.slice a1 n1 c1) (.slice a2 n2 c2) ⟨n0, fs, pc, on, n1, gs, n2, hs⟩) := ⟨⟨a0, c0, rfl, e0, h0.below hb0 (by omega)⟩, ⟨a1, c1, rfl, e1, h1.below hb0 (by omega)⟩, ⟨a2, c2, rfl, e2, h2.below hb0 (by omega)⟩⟩
  clear h0 h1 h2 hW hb0 hsz hWs e0 e1 e2
  go_enter Try.func33, Try.ntmps33
  go_wp2_with fail
  rw [HW.out]
  (try rw [HSZ.out])
  refine (workerOf_any _ _ _ ⟨n0, fs, pc, on, n1, gs, n2, hs⟩ W HK.out).mono ?_
  rintro e w1 ⟨v0, v1, v2, g, rfl, wk, hb1⟩
  have WK : Hid (WkO w1 W.heap.size g v0 v1 v2 ⟨n0, fs, pc, on, n1, gs, n2, hs⟩) := wk
  have HB1 : Hid (Below W.heap.size W w1) := hb1
  clear wk hb1
  go_wp2_with fail
  refine (topW_any W.heap.size g v0 v1 v2 ⟨n0, fs, pc, on, n1, gs, n2, hs⟩ _ hn2 WK.out).mono ?_
  rintro e w2 ⟨rfl, hb2⟩
  rw [HV.out.1, HV.out.2]
  have HB2 : Hid (Below W.heap.size W w2) := HB1.out.trans (hb2.mono HB1.out.size)
  have YR : Hid (Box w2 (sz + 1) _ _) := XR.out.below HB2.out XR.out.lt
  obtain ⟨r0, r1, r2, r3, f0, f1, f2, f3⟩ := YR.out.four
  clear hb2
  go_wp2
  (try simp only [Exit.inBlock, Exit.then])
  obtain ⟨z0, z1, z2, z3, _⟩ := ((((YR.out.put 0 (.int .i64 t0)).put 1 (.int .i64 t1)).put 2 (.int .i64 t2)).put 3 (.int .i64 t3)).four
  refine bodyPost_ret (by simp [results, Try.results33, go_sem, z0, z1, z2, z3]; try rfl) rfl ?_
  have hz := HWS.out
  refine ⟨rfl, ?_⟩
  rw [HSZ.out]
  exact below_set4 (HB0.out.trans (HB2.out.mono (by omega))) (by omega) _ _ _ _
set_option maxHeartbeats 2000000 in
set_option maxRecDepth 100000 in
theorem implPush_any (v0 v1 v2 : Value) (t : TD) (h : Nat → Int) (w : World) (hn2 : t.n2 ≤ 1048576) (hT : ThAt w v0 v1 v2 t) :
    Calls Try.prog 31 #[ThV v0 v1 v2 t.pc t.on, HelpV h] w (ThAns w (t.push h)) := by
  obtain ⟨T', hT'⟩ : ∃ T', t.push h = T' := ⟨_, rfl⟩
  rw [hT']
  have HT : Hid (t.push h = T') := hT'
  clear hT'
  obtain ⟨⟨a0, c0, rfl, e0, h0⟩, ⟨a1, c1, rfl, e1, h1⟩, ⟨a2, c2, rfl, e2, h2⟩⟩ := hT
  obtain ⟨n0, fs, pc, on, n1, gs, n2, hs⟩ := t
  simp only at h0 h1 h2 hn2 ⊢
  obtain ⟨sz, hsz⟩ : ∃ sz, w.heap.size = sz := ⟨_, rfl⟩
  obtain ⟨W, hW⟩ : ∃ W, ((w.alloc (.cells #[.slice a0 n0 c0, .int .i64 pc, .bool on, .slice a1 n1 c1, .slice a2 n2 c2] 46)).alloc (.cells #[.int .i64 (h 0), .int .i64 (h 1), .int .i64 (h 2), .int .i64 (h 3)] 62)).alloc (.cells #[.slice none 0 0, .int .i64 0, .bool false, .slice none 0 0, .slice none 0 0] 46) = W := ⟨_, rfl⟩
  have hWs : W.heap.size = sz + 3 := by rw [← hW, ← hsz]; simp
  have hb0 : Below sz w W := by rw [← hW, ← hsz]; exact (((Below.refl _ w).alloc (Nat.le_refl _) _).alloc (by simp) _).alloc (by simp; omega) _
  have XH : Hid (Box W (sz + 1) #[.int .i64 (h 0), .int .i64 (h 1), .int .i64 (h 2), .int .i64 (h 3)] 62) := by rw [← hW, ← hsz]; exact (box_two w _ _ _).alloc _
  have XR : Hid (Box W (sz + 1 + 1) #[.slice none 0 0, .int .i64 0, .bool false, .slice none 0 0, .slice none 0 0] 46) := by rw [← hW, ← hsz]; exact box_three w _ _ _ _
  have HW : Hid _ := hW
  have HSZ : Hid (w.heap.size = sz) := hsz
  have HB0 : Hid (Below sz w W) := hb0
  have HWS : Hid (W.heap.size = sz + 3) := hWs
  have HK : Hid (ThAt W (.slice a0 n0 c0) (.slice a1 n1 c1) (.slice a2 n2 c2) ⟨n0, fs, pc, on, n1, gs, n2, hs⟩) := ⟨⟨a0, c0, rfl, e0, h0.below hb0 (by omega)⟩, ⟨a1, c1, rfl, e1, h1.below hb0 (by omega)⟩, ⟨a2, c2, rfl, e2, h2.below hb0 (by omega)⟩⟩
  clear h0 h1 h2 hW hb0 hsz hWs e0 e1 e2
  go_enter Try.func31, Try.ntmps31
  go_wp2_with fail
  rw [HW.out]
  (try rw [HSZ.out])
  refine (workerOf_any _ _ _ ⟨n0, fs, pc, on, n1, gs, n2, hs⟩ W HK.out).mono ?_
  rintro e w1 ⟨v0, v1, v2, g, rfl, wk, hb1⟩
  have WK : Hid (WkO w1 W.heap.size g v0 v1 v2 ⟨n0, fs, pc, on, n1, gs, n2, hs⟩) := wk
  have HB1 : Hid (Below W.heap.size W w1) := hb1
  clear wk hb1
  have BOX : Hid (∀ w', Below W.heap.size W w' → w'.cell? ⟨sz + 1, 0, none⟩ = some (.int .i64 (h 0)) ∧ w'.cell? ⟨sz + 1, 1, none⟩ = some (.int .i64 (h 1)) ∧ w'.cell? ⟨sz + 1, 2, none⟩ = some (.int .i64 (h 2)) ∧ w'.cell? ⟨sz + 1, 3, none⟩ = some (.int .i64 (h 3))) := fun w' hb => by
    obtain ⟨y0, y1, y2, y3, _⟩ := (XH.out.below hb XH.out.lt).four
    exact ⟨y0, y1, y2, y3⟩
  obtain ⟨j0, j1, j2, j3⟩ := BOX.out _ HB1.out
  have K0 : Hid (w1.drew.cell? ⟨sz + 1, 0, none⟩ = some (.int .i64 (h 0)) ∧ w1.drew.cell? ⟨sz + 1, 1, none⟩ = some (.int .i64 (h 1)) ∧ w1.drew.cell? ⟨sz + 1, 2, none⟩ = some (.int .i64 (h 2)) ∧ w1.drew.cell? ⟨sz + 1, 3, none⟩ = some (.int .i64 (h 3))) := BOX.out _ HB1.out.drew
  go_upto_region 2 with (fail)
  go_region_held3 (fun w' => w'.cell? ⟨sz + 1, 0, none⟩ = some (.int .i64 (h 0)) ∧ w'.cell? ⟨sz + 1, 1, none⟩ = some (.int .i64 (h 1)) ∧ w'.cell? ⟨sz + 1, 2, none⟩ = some (.int .i64 (h 2)) ∧ w'.cell? ⟨sz + 1, 3, none⟩ = some (.int .i64 (h 3)))
    (first | (with_reducible exact K2.out) | (with_reducible exact K0.out) | go_keep)
    (first
    | (go_at_call 69
       refine (pushW_any W.heap.size g v0 v1 v2 ⟨n0, fs, pc, on, n1, gs, n2, hs⟩ h _ hn2 (WK.out.below (Below.refl w1.heap.size w1).drew)).mono ?_
       rintro e w2 ⟨rfl, hb2, u, wk2⟩
       have hb2' : Below W.heap.size W w2 := HB1.out.trans ((Below.refl _ w1).drew.trans hb2)
       have HB2 : Hid (Below W.heap.size W w2) := hb2'
       have WK2 : Hid (WkO w2 W.heap.size g v0 v1 u (TD.push ⟨n0, fs, pc, on, n1, gs, n2, hs⟩ h)) := wk2
       have K2 : Hid (w2.cell? ⟨sz + 1, 0, none⟩ = some (.int .i64 (h 0)) ∧ w2.cell? ⟨sz + 1, 1, none⟩ = some (.int .i64 (h 1)) ∧ w2.cell? ⟨sz + 1, 2, none⟩ = some (.int .i64 (h 2)) ∧ w2.cell? ⟨sz + 1, 3, none⟩ = some (.int .i64 (h 3))) := BOX.out _ hb2'
       clear hb2 hb2' wk2))
  clear K0 K2 j0 j1 j2 j3
  have hd : TD.push ⟨n0, fs, pc, on, n1, gs, n2, hs⟩ h = T' := HT.out
  rw [hd] at WK2
  go_wp2_with fail
  refine (thread_any W.heap.size g v0 v1 u T' _ WK2.out).mono ?_
  rintro e w3 ⟨rfl, hb3⟩
  have TO : Hid (ThO w3 W.heap.size v0 v1 u T') := WK2.out.thr.below hb3 (Nat.le_refl _)
  have HB3 : Hid (Below W.heap.size W w3) := HB2.out.trans (hb3.mono HB2.out.size)
  have YR : Hid (Box w3 (sz + 1 + 1) _ _) := XR.out.below HB3.out XR.out.lt
  obtain ⟨p0, d0, rfl, -⟩ := owns_slice TO.out.ops
  obtain ⟨p1, d1, rfl, -⟩ := owns_slice TO.out.got
  obtain ⟨p2, d2, rfl, -⟩ := owns_slice TO.out.stk
  obtain ⟨r0, r1, r2, r3, r4, f0, f1, f2, f3, f4⟩ := YR.out.five
  clear hb3
  go_wp2
  (try simp only [Exit.inBlock, Exit.then])
  obtain ⟨z0, z1, z2, z3, z4, _⟩ := (((((YR.out.put 0 (.slice p0 T'.n0 d0)).put 1 (.int .i64 T'.pc)).put 2 (.bool T'.on)).put 3 (.slice p1 T'.n1 d1)).put 4 (.slice p2 T'.n2 d2)).five
  refine bodyPost_ret (by simp [results, Try.results31, go_sem, z0, z1, z2, z3, z4]; try rfl) rfl ?_
  have hz := HWS.out
  have nr : ¬ In3 (.slice p0 T'.n0 d0) (.slice p1 T'.n1 d1) (.slice p2 T'.n2 d2) (sz + 1 + 1) := fun hk => by have h1 := (TO.out.blk hk).1; omega
  have hl : sz ≤ W.heap.size := by omega
  refine ⟨_, _, _, rfl, ?_, ?_⟩
  · rw [HSZ.out]; exact (TO.out.set5 nr _ _ _ _ _).weaken hl
  · rw [HSZ.out]; exact below_set5 (HB0.out.trans (HB3.out.mono hl)) (by omega) _ _ _ _ _
end Go.Proofs.Ytemeklfkbjpnmar
