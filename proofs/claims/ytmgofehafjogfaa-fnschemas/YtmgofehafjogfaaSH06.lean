/- Texts joined: DrawSc. -/
import Derived.Test.YtmgofehafjogfaaSH05
import Derived.Deep.Cut
set_option maxHeartbeats 16000000
set_option maxRecDepth 100000
namespace Go.Proofs.Ytmgofehafjogfaa
section
open Go.ChangeShapes Go.WideShapes Go.ChangeAt Go.RowKit Go.Joins
theorem own_s19 {w : World} {base : Nat} {y : ByteArray} (v : Value) (Sj : Nat → Prop) (h : Own w base v (.s y) Sj) : ∀ x, ¬ Sj x := by cases h; assumption
theorem Own.putS19 {w : World} {base : Nat} {g n cap : Nat} {T : TypeId} {k : Nat} {cs : List Cel} {S : Nat → Prop} (h : Own w base (.slice (some ⟨g, 0, none⟩) n cap) (.l T k n cs) S) {j : Nat} {y : ByteArray} (hc : cs[j]? = some (.s y)) (z : ByteArray) :
    Own (w.setCell ⟨g, j, none⟩ (.string z)) base (.slice (some ⟨g, 0, none⟩) n cap) (.l T k n (cs.set j (.s z))) S := h.put hc own_s19 fun _ _ hS => .s z _ hS
theorem l19Draw_any (p : Nat) (a : Option Addr) (n c : Nat) (w : World) (hC : Cur 102 w p a n c) :
    Calls Try.prog 43 #[.pointer (some ⟨p, 0, none⟩)] w (DrSc 2 3 w p a n c) := by
  obtain ⟨g, hg⟩ : ∃ g, w.heap.size = g := ⟨_, rfl⟩
  have HG : Hid (w.heap.size = g) := hg
  have HPG : Hid (p < g) := by show _ < _; rw [← hg]; exact hC.lt
  obtain ⟨W, hW⟩ : ∃ W, w.alloc (.cells #[.slice none 0 0, .slice none 0 0, .slice none 0 0] 28) = W := ⟨_, rfl⟩
  have HW : Hid (w.alloc (.cells #[.slice none 0 0, .slice none 0 0, .slice none 0 0] 28) = W) := hW
  have XR : Hid (Box W g #[.slice none 0 0, .slice none 0 0, .slice none 0 0] 28) := by rw [← hW, ← hg]; exact box_of w _ _
  have CW : Hid (Cur 102 W p a n c) := by rw [← hW]; exact cur_alloc hC _
  have FW : Hid (w.grownBy W (some p)) := by rw [← hW]; exact World.grownBy_alloc _ _ _
  obtain ⟨b, hb⟩ : ∃ b, W.heap.size = b := ⟨_, rfl⟩
  have HB : Hid (W.heap.size = b) := hb
  have HGB : Hid (g < b) := by show _ < _; rw [← hb, ← hW, World.size_alloc, hg]; exact Nat.lt_succ_self g
  clear hW hC hg
  go_enter Try.func43, Try.ntmps43
  go_upto_region 1 with (fail)
  rw [HW.out, HG.out]
  go_wp2_with fail
  refine (l19DrawRight_any p a n c W CW.out).mono ?_
  rintro e w1 ⟨⟨L, xs, X⟩, us, T, rfl, hdr, ho, hc, hf⟩
  rw [hb] at ho
  have HDS : Hid ((2 ≤ L.length ∧ L.length ≤ 4) ∧ (xs.length ≤ 1 ∧ X.length ≤ 2) ∧ (∀ x ∈ L, x.1.size ≤ 13) ∧ ∀ x ∈ X, x.1.size ≤ 13 ∧ x.2.1.length ≤ 2) := hdr
  obtain ⟨x1, m1, d1, x2, m2, d2, x3, m3, d3, rfl, -⟩ := own_sch ho
  obtain ⟨q, hq⟩ : ∃ q, w1.heap.size = q := ⟨_, rfl⟩
  have HQ : Hid (w1.heap.size = q) := hq
  have HGQ : Hid (g ≠ q) := by have := hf.size; have := HGB.out; show _ ≠ _; omega
  obtain ⟨T1, T2, T3, hI⟩ := scIn_of (w := w) ho hb hq hc hf FW.out (by rw [HG.out]; exact HPG.out)
  rcases hI.o1.forms with ⟨_, h0, _⟩ | ⟨bb, _, he, _, _⟩
  · have h1 := hdr.1
    dsimp only at h0 h1
    omega
  cases he
  obtain ⟨W1, hW1⟩ : ∃ W1, w1.alloc (.cells #[(.slice (some ⟨bb, 0, none⟩) L.length d1), (.slice x2 m2 d2), (.slice x3 m3 d3)] 28) = W1 := ⟨_, rfl⟩
  have HW1 : Hid (w1.alloc (.cells #[(.slice (some ⟨bb, 0, none⟩) L.length d1), (.slice x2 m2 d2), (.slice x3 m3 d3)] 28) = W1) := hW1
  have I1 : Hid (ScIn w W b q p a n c L xs X (.slice (some ⟨bb, 0, none⟩) L.length d1) (.slice x2 m2 d2) (.slice x3 m3 d3) T1 T2 T3 W1) := by rw [← hW1]; exact hI
  clear hI ho hb hq hc hf hW1 hdr
  go_upto_region 2 with (fail)
  rw [HW1.out, HQ.out]
  go_wp2_with fail
  refine (l1Below_any p a n c 12 (by omega) (by omega) _ I1.out.cur).mono ?_
  rintro e w4 ⟨x, hx, rfl, hC1, hO1⟩
  have I4 : Hid (ScIn w W b q p a n c L xs X (.slice (some ⟨bb, 0, none⟩) L.length d1) (.slice x2 m2 d2) (.slice x3 m3 d3) T1 T2 T3 w4) := I1.out.only hO1 hC1
  clear hC1 hO1
  rcases (show x = 0 ∨ x = 1 ∨ x = 2 ∨ x = 3 ∨ x = 4 ∨ ((¬ (x : Int) = 0) ∧ (¬ (x : Int) = 1) ∧ (¬ (x : Int) = 2) ∧ (¬ (x : Int) = 3) ∧ ¬ (x : Int) = 4) by omega) with rfl | rfl | rfl | rfl | rfl | ⟨h0, h1, h2, h3, h4⟩
  · go_upto_region 4 with (fail)
    have Iz0 : Hid (ScIn w W b q p a n c L xs X (.slice (some ⟨bb, 0, none⟩) L.length d1) (.slice x2 m2 d2) (.slice x3 m3 d3) T1 T2 T3 w4.drew) := I4.out.drew
    obtain ⟨z0, hz0⟩ : ∃ z, w4.drew = z := ⟨_, rfl⟩
    have HZ0 : Hid (w4.drew = z0) := hz0
    rw [hz0] at Iz0
    clear hz0
    refine wp_region_held_drew (S := fun z => z.cell? ⟨q, 0, none⟩ = some (.slice (some ⟨bb, 0, none⟩) L.length d1)) (by kernel_rfl) (by rw [HZ0.out]; exact Iz0.out.box.cell 0) (fun hHeld => ?_)
    rw [HZ0.out] at hHeld ⊢
    refine wpAnyH_take (i := 0) (oi := _) (v := .pointer (some ⟨q, 0, none⟩)) (by rw [List.getElem?_toArray]; exact rfl) (by kernel_rfl) (by kernel_rfl) (by kernel_rfl) (by intro _ _ _ h; exact h) (Or.inl ⟨by kernel_rfl, ?y104_0⟩) hHeld ?_
    case y104_0 =>
      intro w hSw
      clear hSw
      go_simp
      (try with_reducible rfl)
    (try simp only [Act.put, List.setIfInBounds_toArray, List.set_cons_zero, List.set_cons_succ])
    refine wpAnyH_take (i := 1) (oi := _) (v := .slice (some ⟨bb, 0, none⟩) L.length d1) (by rw [List.getElem?_toArray]; exact rfl) (by kernel_rfl) (by kernel_rfl) (by kernel_rfl) (by intro _ _ _ h; exact h) (Or.inl ⟨by kernel_rfl, ?y105_1⟩) hHeld ?_
    case y105_1 =>
      intro w hSw
      obtain hq0 := hSw
      go_simp
      (try with_reducible rfl)
    (try simp only [Act.put, List.setIfInBounds_toArray, List.set_cons_zero, List.set_cons_succ])
    refine wpAnyH_take (i := 2) (oi := _) (v := .pointer (some ⟨p, 0, none⟩)) (by rw [List.getElem?_toArray]; exact rfl) (by kernel_rfl) (by kernel_rfl) (by kernel_rfl) (by intro _ _ _ h; exact h) (Or.inl ⟨by kernel_rfl, ?y106_2⟩) hHeld ?_
    case y106_2 =>
      intro w hSw
      clear hSw
      go_simp
      (try with_reducible rfl)
    (try simp only [Act.put, List.setIfInBounds_toArray, List.set_cons_zero, List.set_cons_succ])
    refine wpAnyH_ready (rs := [3]) (by kernel_rfl) (by simp) ?_
    refine AllReadyH.cons (o := _) (by rw [List.getElem?_toArray]; exact rfl) (fun K hK => ?_) AllReadyH.nil
    rw [if_pos (by kernel_rfl)]
    go_simp
    obtain ⟨gi, z1, Gz1, Wz1, Bz1, Iz1, Yz1, Az1⟩ := Iz0.out.laid #[.string (⟨#[]⟩ : ByteArray), .string (⟨#[105, 100]⟩ : ByteArray), .string (⟨#[65]⟩ : ByteArray), .string (⟨#[97, 98, 99, 100, 101, 102, 103, 104, 105, 106, 107, 108, 109]⟩ : ByteArray)] 9
    rw [Wz1.out, Gz1.out]
    refine hK.out _ _ (Iz1.out.box.cell 0) (fun hHeld => ?_)
    clear hK K
    (try simp only [Act.put, List.setIfInBounds_toArray, List.set_cons_zero, List.set_cons_succ])
    refine wpAnyH_ready (rs := [4]) (by kernel_rfl) (by simp) ?_
    refine AllReadyH.cons (o := _) (by rw [List.getElem?_toArray]; exact rfl) (fun K hK => ?_) AllReadyH.nil
    rw [if_pos (by kernel_rfl)]
    go_simp
    refine (l1Pick_any p a n c gi 4 4 [[], [105, 100], [65], [97, 98, 99, 100, 101, 102, 103, 104, 105, 106, 107, 108, 109]] (by omega) (by omega) z1 Iz1.out.cur (by have := Az1.out.ge; have := Iz1.out.hp; have := Iz1.out.hw; omega) (fun i hi => by
      rcases (show i = 0 ∨ i = 1 ∨ i = 2 ∨ i = 3 by omega) with rfl | rfl | rfl | rfl
      · exact Yz1.out.cell 0
      · exact Yz1.out.cell 1
      · exact Yz1.out.cell 2
      · exact Yz1.out.cell 3)).mono ?_
    rintro e z2 ⟨y8, hy8, rfl, hC1, hO1⟩
    obtain ⟨ps, hps, hpz⟩ : ∃ s : ByteArray, S (([[], [105, 100], [65], [97, 98, 99, 100, 101, 102, 103, 104, 105, 106, 107, 108, 109]] : List (List UInt8)).getD y8 []) = .string s ∧ s.size ≤ 13 := by
      rcases (show y8 = 0 ∨ y8 = 1 ∨ y8 = 2 ∨ y8 = 3 by omega) with rfl | rfl | rfl | rfl <;> exact ⟨_, rfl, by decide⟩
    have HPZ : Hid (ps.size ≤ 13) := hpz
    rw [hps]
    clear hps hpz hy8
    have Iz2 : Hid (ScIn w W b q p a n c L xs X (.slice (some ⟨bb, 0, none⟩) L.length d1) (.slice x2 m2 d2) (.slice x3 m3 d3) T1 T2 T3 z2) := Iz1.out.only hO1 hC1
    clear hC1 hO1
    refine hK.out _ _ (Iz2.out.box.cell 0) (fun hHeld => ?_)
    clear hK K
    (try simp only [Act.put, List.setIfInBounds_toArray, List.set_cons_zero, List.set_cons_succ])
    have hL1 : (1 : Int) < (L.length : Int) := by have := HDS.out.1; show _ < _; omega
    refine wpAnyH_take (i := 5) (oi := _) (v := .pointer (some ⟨bb, 3, none⟩)) (by rw [List.getElem?_toArray]; exact rfl) (by kernel_rfl) (by kernel_rfl) (by kernel_rfl) (by intro _ _ _ h; exact h) (Or.inl ⟨by kernel_rfl, ?y107_5⟩) hHeld ?_
    case y107_5 =>
      intro w hSw
      clear hSw
      go_simp
      (try with_reducible rfl)
    (try simp only [Act.put, List.setIfInBounds_toArray, List.set_cons_zero, List.set_cons_succ])
    refine wpAnyH_take (i := 6) (oi := _) (v := .pointer (some ⟨bb, 3, none⟩)) (by rw [List.getElem?_toArray]; exact rfl) (by kernel_rfl) (by kernel_rfl) (by kernel_rfl) (by intro _ _ _ h; exact h) (Or.inl ⟨by kernel_rfl, ?y108_6⟩) hHeld ?_
    case y108_6 =>
      intro w hSw
      clear hSw
      go_simp
      (try with_reducible rfl)
    (try simp only [Act.put, List.setIfInBounds_toArray, List.set_cons_zero, List.set_cons_succ])
    obtain ⟨xi, hxi⟩ : ∃ x, L[1]? = some x := ⟨_, List.getElem?_eq_getElem (by have := HDS.out.1; omega)⟩
    have hci := (clsE_at hxi).1
    have ho1 := Iz2.out.o1
    obtain ⟨uo, _, f0, f1, _⟩ := ho1.cell hci
    have hop := ho1.putS19 hci ps
    have hT1 : T1 bb := own_inT ho1 bb rfl
    have Iz3 : Hid (ScIn w W b q p a n c (L.set 1 (ps, xi.2)) xs X (.slice (some ⟨bb, 0, none⟩) L.length d1) (.slice x2 m2 d2) (.slice x3 m3 d3) T1 T2 T3 (z2.setCell ⟨bb, 3, none⟩ (.string ps))) := Iz2.out.turn1 hT1 (by rw [List.length_set, clsE_set0 _ hxi]; exact hop)
    have HXI : Hid (L[1]? = some xi) := hxi
    clear hci ho1 hop hT1 hxi
    refine wpAnyH_ready (rs := [7]) (by kernel_rfl) (by simp) ?_
    refine AllReadyH.cons (o := _) (by rw [List.getElem?_toArray]; exact rfl) (fun K hK => ?_) AllReadyH.nil
    rw [if_pos (by kernel_rfl)]
    go_simp
    refine hK.out _ _ (Iz3.out.box.cell 0) (fun hHeld => ?_)
    clear hK K
    (try simp only [Act.put, List.setIfInBounds_toArray, List.set_cons_zero, List.set_cons_succ])
    refine wpAnyH_done (by kernel_rfl) ?_ _
    (try simp only [Exit.then])
    obtain ⟨z4, hz4⟩ : ∃ z, z2.setCell ⟨bb, 3, none⟩ (.string ps) = z := ⟨_, rfl⟩
    rw [hz4] at Iz3 ⊢
    clear hz4 f0 f1 hL1
    have HDR : Hid (ScDr 2 3 ⟨L.set 1 (ps, xi.2), xs, X⟩) := ⟨by show 2 ≤ (L.set 1 _).length ∧ (L.set 1 _).length ≤ 4; rw [List.length_set]; exact HDS.out.1, ⟨Nat.le_succ_of_le HDS.out.2.1.1, Nat.le_succ_of_le HDS.out.2.1.2⟩, fun x hx => (List.mem_or_eq_of_mem_set hx).elim (HDS.out.2.2.1 x) (fun e => by rw [e]; exact HPZ.out), HDS.out.2.2.2⟩
    obtain ⟨r0, r1, r2⟩ := Iz3.out.box.triV
    have XG := (Iz3.out.lib XR.out HGB.out (by have := HPG.out; omega) HGQ.out)
    obtain ⟨y0, y1, y2'⟩ := XG.triV
    have fy0 := XG.frozen 0
    have fy1 := XG.frozen 1
    have fy2 := XG.frozen 2
    have XF := ((XG.put 0 (.slice (some ⟨bb, 0, none⟩) L.length d1)).put 1 (.slice x2 m2 d2)).put 2 (.slice x3 m3 d3)
    go_wp2
    exact bodyPost_ret (results_cell_row Try.results43 _ _ g 28 _ _ _ rfl XF Try.underlying28 rfl (by kernel_rfl)) rfl (Iz3.out.out HG.out HGB.out HDR.out)
  · go_upto_region 6 with (fail)
    have Iz0 : Hid (ScIn w W b q p a n c L xs X (.slice (some ⟨bb, 0, none⟩) L.length d1) (.slice x2 m2 d2) (.slice x3 m3 d3) T1 T2 T3 w4.drew) := I4.out.drew
    obtain ⟨z0, hz0⟩ : ∃ z, w4.drew = z := ⟨_, rfl⟩
    have HZ0 : Hid (w4.drew = z0) := hz0
    rw [hz0] at Iz0
    clear hz0
    refine wp_region_held_drew (S := fun z => z.cell? ⟨q, 0, none⟩ = some (.slice (some ⟨bb, 0, none⟩) L.length d1)) (by kernel_rfl) (by rw [HZ0.out]; exact Iz0.out.box.cell 0) (fun hHeld => ?_)
    rw [HZ0.out] at hHeld ⊢
    refine wpAnyH_take (i := 0) (oi := _) (v := .pointer (some ⟨q, 0, none⟩)) (by rw [List.getElem?_toArray]; exact rfl) (by kernel_rfl) (by kernel_rfl) (by kernel_rfl) (by intro _ _ _ h; exact h) (Or.inl ⟨by kernel_rfl, ?y110_0⟩) hHeld ?_
    case y110_0 =>
      intro w hSw
      clear hSw
      go_simp
      (try with_reducible rfl)
    (try simp only [Act.put, List.setIfInBounds_toArray, List.set_cons_zero, List.set_cons_succ])
    refine wpAnyH_take (i := 1) (oi := _) (v := .slice (some ⟨bb, 0, none⟩) L.length d1) (by rw [List.getElem?_toArray]; exact rfl) (by kernel_rfl) (by kernel_rfl) (by kernel_rfl) (by intro _ _ _ h; exact h) (Or.inl ⟨by kernel_rfl, ?y111_1⟩) hHeld ?_
    case y111_1 =>
      intro w hSw
      obtain hq0 := hSw
      go_simp
      (try with_reducible rfl)
    (try simp only [Act.put, List.setIfInBounds_toArray, List.set_cons_zero, List.set_cons_succ])
    refine wpAnyH_take (i := 2) (oi := _) (v := .pointer (some ⟨p, 0, none⟩)) (by rw [List.getElem?_toArray]; exact rfl) (by kernel_rfl) (by kernel_rfl) (by kernel_rfl) (by intro _ _ _ h; exact h) (Or.inl ⟨by kernel_rfl, ?y112_2⟩) hHeld ?_
    case y112_2 =>
      intro w hSw
      clear hSw
      go_simp
      (try with_reducible rfl)
    (try simp only [Act.put, List.setIfInBounds_toArray, List.set_cons_zero, List.set_cons_succ])
    refine wpAnyH_ready (rs := [3]) (by kernel_rfl) (by simp) ?_
    refine AllReadyH.cons (o := _) (by rw [List.getElem?_toArray]; exact rfl) (fun K hK => ?_) AllReadyH.nil
    rw [if_pos (by kernel_rfl)]
    go_simp
    obtain ⟨gi, z1, Gz1, Wz1, Bz1, Iz1, Yz1, Az1⟩ := Iz0.out.laid #[.int .i64 0, .int .i64 3, .int .i64 4] 3
    rw [Wz1.out, Gz1.out]
    refine hK.out _ _ (Iz1.out.box.cell 0) (fun hHeld => ?_)
    clear hK K
    (try simp only [Act.put, List.setIfInBounds_toArray, List.set_cons_zero, List.set_cons_succ])
    refine wpAnyH_ready (rs := [4]) (by kernel_rfl) (by simp) ?_
    refine AllReadyH.cons (o := _) (by rw [List.getElem?_toArray]; exact rfl) (fun K hK => ?_) AllReadyH.nil
    rw [if_pos (by kernel_rfl)]
    go_simp
    refine (l1PickInt_any p a n c gi 3 3 [0, 3, 4] (by omega) (by omega) z1 Iz1.out.cur (by have := Az1.out.ge; have := Iz1.out.hp; have := Iz1.out.hw; omega) (fun i hi => by
      rcases (show i = 0 ∨ i = 1 ∨ i = 2 by omega) with rfl | rfl | rfl
      · exact Yz1.out.cell 0
      · exact Yz1.out.cell 1
      · exact Yz1.out.cell 2)).mono ?_
    rintro e z2 ⟨y8, hy8, rfl, hC1, hO1⟩
    obtain ⟨kd, hkd⟩ : ∃ k, ([0, 3, 4] : List Int).getD y8 0 = k := ⟨_, rfl⟩
    rw [hkd]
    clear hkd hy8
    have Iz2 : Hid (ScIn w W b q p a n c L xs X (.slice (some ⟨bb, 0, none⟩) L.length d1) (.slice x2 m2 d2) (.slice x3 m3 d3) T1 T2 T3 z2) := Iz1.out.only hO1 hC1
    clear hC1 hO1
    refine hK.out _ _ (Iz2.out.box.cell 0) (fun hHeld => ?_)
    clear hK K
    (try simp only [Act.put, List.setIfInBounds_toArray, List.set_cons_zero, List.set_cons_succ])
    have hL1 : (1 : Int) < (L.length : Int) := by have := HDS.out.1; show _ < _; omega
    refine wpAnyH_take (i := 5) (oi := _) (v := .pointer (some ⟨bb, 3, none⟩)) (by rw [List.getElem?_toArray]; exact rfl) (by kernel_rfl) (by kernel_rfl) (by kernel_rfl) (by intro _ _ _ h; exact h) (Or.inl ⟨by kernel_rfl, ?y113_5⟩) hHeld ?_
    case y113_5 =>
      intro w hSw
      clear hSw
      go_simp
      (try with_reducible rfl)
    (try simp only [Act.put, List.setIfInBounds_toArray, List.set_cons_zero, List.set_cons_succ])
    refine wpAnyH_take (i := 6) (oi := _) (v := .pointer (some ⟨bb, 4, none⟩)) (by rw [List.getElem?_toArray]; exact rfl) (by kernel_rfl) (by kernel_rfl) (by kernel_rfl) (by intro _ _ _ h; exact h) (Or.inl ⟨by kernel_rfl, ?y114_6⟩) hHeld ?_
    case y114_6 =>
      intro w hSw
      clear hSw
      go_simp
      (try with_reducible rfl)
    (try simp only [Act.put, List.setIfInBounds_toArray, List.set_cons_zero, List.set_cons_succ])
    obtain ⟨xi, hxi⟩ : ∃ x, L[1]? = some x := ⟨_, List.getElem?_eq_getElem (by have := HDS.out.1; omega)⟩
    have hci := (clsE_at hxi).2.1
    have ho1 := Iz2.out.o1
    obtain ⟨uo, _, f0, f1, _⟩ := ho1.cell hci
    have hop := ho1.putI hci kd
    have hT1 : T1 bb := own_inT ho1 bb rfl
    have Iz3 : Hid (ScIn w W b q p a n c (L.set 1 (xi.1, kd, xi.2.2)) xs X (.slice (some ⟨bb, 0, none⟩) L.length d1) (.slice x2 m2 d2) (.slice x3 m3 d3) T1 T2 T3 (z2.setCell ⟨bb, 4, none⟩ (.int .i64 kd))) := Iz2.out.turn1 hT1 (by rw [List.length_set, clsE_set1 _ hxi]; exact hop)
    have HXI : Hid (L[1]? = some xi) := hxi
    clear hci ho1 hop hT1 hxi
    refine wpAnyH_ready (rs := [7]) (by kernel_rfl) (by simp) ?_
    refine AllReadyH.cons (o := _) (by rw [List.getElem?_toArray]; exact rfl) (fun K hK => ?_) AllReadyH.nil
    rw [if_pos (by kernel_rfl)]
    go_simp
    refine hK.out _ _ (Iz3.out.box.cell 0) (fun hHeld => ?_)
    clear hK K
    (try simp only [Act.put, List.setIfInBounds_toArray, List.set_cons_zero, List.set_cons_succ])
    refine wpAnyH_done (by kernel_rfl) ?_ _
    (try simp only [Exit.then])
    obtain ⟨z4, hz4⟩ : ∃ z, z2.setCell ⟨bb, 4, none⟩ (.int .i64 kd) = z := ⟨_, rfl⟩
    rw [hz4] at Iz3 ⊢
    clear hz4 f0 f1 hL1
    have HDR : Hid (ScDr 2 3 ⟨L.set 1 (xi.1, kd, xi.2.2), xs, X⟩) := ⟨by show 2 ≤ (L.set 1 _).length ∧ (L.set 1 _).length ≤ 4; rw [List.length_set]; exact HDS.out.1, ⟨Nat.le_succ_of_le HDS.out.2.1.1, Nat.le_succ_of_le HDS.out.2.1.2⟩, fun x hx => (List.mem_or_eq_of_mem_set hx).elim (HDS.out.2.2.1 x) (fun e => by rw [e]; exact HDS.out.2.2.1 xi (List.mem_of_getElem? HXI.out)), HDS.out.2.2.2⟩
    obtain ⟨r0, r1, r2⟩ := Iz3.out.box.triV
    have XG := (Iz3.out.lib XR.out HGB.out (by have := HPG.out; omega) HGQ.out)
    obtain ⟨y0, y1, y2'⟩ := XG.triV
    have fy0 := XG.frozen 0
    have fy1 := XG.frozen 1
    have fy2 := XG.frozen 2
    have XF := ((XG.put 0 (.slice (some ⟨bb, 0, none⟩) L.length d1)).put 1 (.slice x2 m2 d2)).put 2 (.slice x3 m3 d3)
    go_wp2
    exact bodyPost_ret (results_cell_row Try.results43 _ _ g 28 _ _ _ rfl XF Try.underlying28 rfl (by kernel_rfl)) rfl (Iz3.out.out HG.out HGB.out HDR.out)
  · go_upto_region 8 with (fail)
    have Iz0 : Hid (ScIn w W b q p a n c L xs X (.slice (some ⟨bb, 0, none⟩) L.length d1) (.slice x2 m2 d2) (.slice x3 m3 d3) T1 T2 T3 w4.drew) := I4.out.drew
    obtain ⟨z0, hz0⟩ : ∃ z, w4.drew = z := ⟨_, rfl⟩
    have HZ0 : Hid (w4.drew = z0) := hz0
    rw [hz0] at Iz0
    clear hz0
    have rqz0 : z0.cell? ⟨q, 1, none⟩ = some (.slice x2 m2 d2) := Iz0.out.box.cell 1
    refine wp_region_held_drew (S := fun _ => True) (by kernel_rfl) trivial (fun hHeld => ?_)
    rw [HZ0.out]
    refine wpAnyH_take (i := 0) (oi := _) (v := .pointer (some ⟨q, 1, none⟩)) (by rw [List.getElem?_toArray]; exact rfl) (by kernel_rfl) (by kernel_rfl) (by kernel_rfl) (by intro _ _ _ h; exact h) (Or.inl ⟨by kernel_rfl, ?y117_0⟩) hHeld ?_
    case y117_0 =>
      intro w hSw
      clear hSw
      go_simp
      (try with_reducible rfl)
    (try simp only [Act.put, List.setIfInBounds_toArray, List.set_cons_zero, List.set_cons_succ])
    refine wpAnyH_take (i := 2) (oi := _) (v := .pointer (some ⟨p, 0, none⟩)) (by rw [List.getElem?_toArray]; exact rfl) (by kernel_rfl) (by kernel_rfl) (by kernel_rfl) (by intro _ _ _ h; exact h) (Or.inl ⟨by kernel_rfl, ?y118_2⟩) hHeld ?_
    case y118_2 =>
      intro w hSw
      clear hSw
      go_simp
      (try with_reducible rfl)
    (try simp only [Act.put, List.setIfInBounds_toArray, List.set_cons_zero, List.set_cons_succ])
    refine wpAnyH_ready (rs := [1, 3]) (by kernel_rfl) (by simp) ?_
    refine AllReadyH.cons (o := _) (by rw [List.getElem?_toArray]; exact rfl) (fun K hK => ?_) (AllReadyH.cons (o := _) (by rw [List.getElem?_toArray]; exact rfl) (fun K hK => ?_) AllReadyH.nil)
    · rw [if_pos (by kernel_rfl)]
      go_simp
      refine hK.out _ _ trivial (fun hHeld => ?_)
      clear hK K
      (try simp only [Act.put, List.setIfInBounds_toArray, List.set_cons_zero, List.set_cons_succ])
      refine wpAnyH_ready (rs := [3]) (by kernel_rfl) (by simp) ?_
      refine AllReadyH.cons (o := _) (by rw [List.getElem?_toArray]; exact rfl) (fun K hK => ?_) AllReadyH.nil
      rw [if_pos (by kernel_rfl)]
      go_simp
      refine (l1Below_any p a n c 6 (by omega) (by omega) z0 Iz0.out.cur).mono ?_
      rintro e z1 ⟨y, hy, rfl, hC1, hO1⟩
      have Iz1 : Hid (ScIn w W b q p a n c L xs X (.slice (some ⟨bb, 0, none⟩) L.length d1) (.slice x2 m2 d2) (.slice x3 m3 d3) T1 T2 T3 z1) := Iz0.out.only hO1 hC1
      have Hy : Hid ((y : Int) < 6) := hy
      have rqz1 : z1.cell? ⟨q, 1, none⟩ = some (.slice x2 m2 d2) := Iz1.out.box.cell 1
      clear hC1 hO1
      refine hK.out _ _ trivial (fun hHeld => ?_)
      clear hK K
      (try simp only [Act.put, List.setIfInBounds_toArray, List.set_cons_zero, List.set_cons_succ])
      refine wpAnyH_take (i := 4) (oi := _) (v := .int .i64 (IntKind.i64.wrap ((y : Int) - 1))) (by rw [List.getElem?_toArray]; exact rfl) (by kernel_rfl) (by kernel_rfl) (by kernel_rfl) (by intro _ _ _ h; exact h) (Or.inl ⟨by kernel_rfl, ?y115_4⟩) hHeld ?_
      case y115_4 =>
        intro w hSw
        clear hSw
        go_simp
        (try with_reducible rfl)
      (try simp only [Act.put, List.setIfInBounds_toArray, List.set_cons_zero, List.set_cons_succ])
      obtain ⟨kd, hkd⟩ : ∃ k, IntKind.i64.wrap ((y : Int) - 1) = k := ⟨_, rfl⟩
      rw [hkd]
      clear hkd
      refine wpAnyH_ready (rs := [5]) (by kernel_rfl) (by simp) ?_
      refine AllReadyH.cons (o := _) (by rw [List.getElem?_toArray]; exact rfl) (fun K hK => ?_) AllReadyH.nil
      rw [if_pos (by kernel_rfl)]
      go_simp
      obtain ⟨gi, z2, Gz2, Wz2, Bz2, Iz2, Yz2, Az2⟩ := Iz1.out.laid #[.int .i64 kd] 3
      have rqz2 : z2.cell? ⟨q, 1, none⟩ = some (.slice x2 m2 d2) := Iz2.out.box.cell 1
      have NI : Hid (z2.cell? ((⟨gi, 0, none⟩ : Addr).add 0) = some (.int .i64 kd)) := by rw [add_plain]; exact Yz2.out.cell 0
      rw [Wz2.out, Gz2.out]
      refine hK.out _ _ trivial (fun hHeld => ?_)
      clear hK K
      (try simp only [Act.put, List.setIfInBounds_toArray, List.set_cons_zero, List.set_cons_succ])
      refine wpAnyH_ready (rs := [6]) (by kernel_rfl) (by simp) ?_
      refine AllReadyH.cons (o := _) (by rw [List.getElem?_toArray]; exact rfl) (fun K hK => ?_) AllReadyH.nil
      refine step_appIn z2 rfl _ _ rfl b (.slice x2 m2 d2) xs.length (iE xs) T2 rfl Iz2.out.o2 ⟨gi, 0, none⟩ 1 rfl kd NI.out (by have := HDS.out.2.1.1; omega) Iz2.out.hs ?_
      intro vv z3 T' hown hT hgrow
      obtain ⟨va, vc, rfl, -⟩ := hown.slice
      have XQ : Hid (Box z3 q #[(.slice (some ⟨bb, 0, none⟩) L.length d1), (.slice x2 m2 d2), (.slice x3 m3 d3)] 28) := Iz2.out.boxG hgrow (own_inT Iz2.out.o2) Iz2.out.n2
      have I5 : Hid (ScIn w W b q p a n c L (xs ++ [kd]) X (.slice (some ⟨bb, 0, none⟩) L.length d1) (.slice va (xs.length + 1) vc) (.slice x3 m3 d3) T1 T' T3 (z3.setCell ⟨q, 1, none⟩ (.slice va (xs.length + 1) vc))) := Iz2.out.put2 hgrow (own_inT Iz2.out.o2) (by rw [List.length_append, iE_app]; exact hown) (fun x hx => (hT x hx).elim .inl (fun h => h.elim False.elim (fun h => .inr (Iz2.out.fresh (Nat.le_of_eq h.symm)))))
      have q4 := XQ.out.cell 1
      have f4 := XQ.out.frozen 1
      clear hown hT hgrow
      refine hK.out _ _ trivial (fun hHeld => ?_)
      clear hK K
      (try simp only [Act.put, List.setIfInBounds_toArray, List.set_cons_zero, List.set_cons_succ])
      refine wpAnyH_take (i := 7) (oi := _) (v := .pointer (some ⟨q, 1, none⟩)) (by rw [List.getElem?_toArray]; exact rfl) (by kernel_rfl) (by kernel_rfl) (by kernel_rfl) (by intro _ _ _ h; exact h) (Or.inl ⟨by kernel_rfl, ?y119_7⟩) hHeld ?_
      case y119_7 =>
        intro w hSw
        clear hSw
        go_simp
        (try with_reducible rfl)
      (try simp only [Act.put, List.setIfInBounds_toArray, List.set_cons_zero, List.set_cons_succ])
      refine wpAnyH_ready (rs := [8]) (by kernel_rfl) (by simp) ?_
      refine AllReadyH.cons (o := _) (by rw [List.getElem?_toArray]; exact rfl) (fun K hK => ?_) AllReadyH.nil
      rw [if_pos (by kernel_rfl)]
      go_simp
      refine hK.out _ _ trivial (fun hHeld => ?_)
      clear hK K
      (try simp only [Act.put, List.setIfInBounds_toArray, List.set_cons_zero, List.set_cons_succ])
      refine wpAnyH_done (by kernel_rfl) ?_ _
      (try simp only [Exit.then])
      obtain ⟨z4, hz4⟩ : ∃ z, z3.setCell ⟨q, 1, none⟩ (.slice va (xs.length + 1) vc) = z := ⟨_, rfl⟩
      rw [hz4] at I5 ⊢
      clear hz4 q4 f4
      have HDR : Hid (ScDr 2 3 ⟨L, xs ++ [kd], X⟩) := ⟨HDS.out.1, ⟨by show (xs ++ [kd]).length ≤ 2; rw [List.length_append]; have := HDS.out.2.1.1; show xs.length + 1 ≤ 2; omega, Nat.le_succ_of_le HDS.out.2.1.2⟩, HDS.out.2.2⟩
      obtain ⟨r0, r1, r2⟩ := I5.out.box.triV
      have XG := (I5.out.lib XR.out HGB.out (by have := HPG.out; omega) HGQ.out)
      obtain ⟨y0, y1, y2'⟩ := XG.triV
      have fy0 := XG.frozen 0
      have fy1 := XG.frozen 1
      have fy2 := XG.frozen 2
      have XF := ((XG.put 0 (.slice (some ⟨bb, 0, none⟩) L.length d1)).put 1 (.slice va (xs.length + 1) vc)).put 2 (.slice x3 m3 d3)
      go_wp2
      exact bodyPost_ret (results_cell_row Try.results43 _ _ g 28 _ _ _ rfl XF Try.underlying28 rfl (by kernel_rfl)) rfl (I5.out.out HG.out HGB.out HDR.out)
    · rw [if_pos (by kernel_rfl)]
      go_simp
      refine (l1Below_any p a n c 6 (by omega) (by omega) z0 Iz0.out.cur).mono ?_
      rintro e z1 ⟨y, hy, rfl, hC1, hO1⟩
      have Iz1 : Hid (ScIn w W b q p a n c L xs X (.slice (some ⟨bb, 0, none⟩) L.length d1) (.slice x2 m2 d2) (.slice x3 m3 d3) T1 T2 T3 z1) := Iz0.out.only hO1 hC1
      have Hy : Hid ((y : Int) < 6) := hy
      have rqz1 : z1.cell? ⟨q, 1, none⟩ = some (.slice x2 m2 d2) := Iz1.out.box.cell 1
      clear hC1 hO1
      refine hK.out _ _ trivial (fun hHeld => ?_)
      clear hK K
      (try simp only [Act.put, List.setIfInBounds_toArray, List.set_cons_zero, List.set_cons_succ])
      refine wpAnyH_take (i := 4) (oi := _) (v := .int .i64 (IntKind.i64.wrap ((y : Int) - 1))) (by rw [List.getElem?_toArray]; exact rfl) (by kernel_rfl) (by kernel_rfl) (by kernel_rfl) (by intro _ _ _ h; exact h) (Or.inl ⟨by kernel_rfl, ?y115_4⟩) hHeld ?_
      case y115_4 =>
        intro w hSw
        clear hSw
        go_simp
        (try with_reducible rfl)
      (try simp only [Act.put, List.setIfInBounds_toArray, List.set_cons_zero, List.set_cons_succ])
      obtain ⟨kd, hkd⟩ : ∃ k, IntKind.i64.wrap ((y : Int) - 1) = k := ⟨_, rfl⟩
      rw [hkd]
      clear hkd
      refine wpAnyH_ready (rs := [1, 5]) (by kernel_rfl) (by simp) ?_
      refine AllReadyH.cons (o := _) (by rw [List.getElem?_toArray]; exact rfl) (fun K hK => ?_) (AllReadyH.cons (o := _) (by rw [List.getElem?_toArray]; exact rfl) (fun K hK => ?_) AllReadyH.nil)
      · rw [if_pos (by kernel_rfl)]
        go_simp
        refine hK.out _ _ trivial (fun hHeld => ?_)
        clear hK K
        (try simp only [Act.put, List.setIfInBounds_toArray, List.set_cons_zero, List.set_cons_succ])
        refine wpAnyH_ready (rs := [5]) (by kernel_rfl) (by simp) ?_
        refine AllReadyH.cons (o := _) (by rw [List.getElem?_toArray]; exact rfl) (fun K hK => ?_) AllReadyH.nil
        rw [if_pos (by kernel_rfl)]
        go_simp
        obtain ⟨gi, z2, Gz2, Wz2, Bz2, Iz2, Yz2, Az2⟩ := Iz1.out.laid #[.int .i64 kd] 3
        have rqz2 : z2.cell? ⟨q, 1, none⟩ = some (.slice x2 m2 d2) := Iz2.out.box.cell 1
        have NI : Hid (z2.cell? ((⟨gi, 0, none⟩ : Addr).add 0) = some (.int .i64 kd)) := by rw [add_plain]; exact Yz2.out.cell 0
        rw [Wz2.out, Gz2.out]
        refine hK.out _ _ trivial (fun hHeld => ?_)
        clear hK K
        (try simp only [Act.put, List.setIfInBounds_toArray, List.set_cons_zero, List.set_cons_succ])
        refine wpAnyH_ready (rs := [6]) (by kernel_rfl) (by simp) ?_
        refine AllReadyH.cons (o := _) (by rw [List.getElem?_toArray]; exact rfl) (fun K hK => ?_) AllReadyH.nil
        refine step_appIn z2 rfl _ _ rfl b (.slice x2 m2 d2) xs.length (iE xs) T2 rfl Iz2.out.o2 ⟨gi, 0, none⟩ 1 rfl kd NI.out (by have := HDS.out.2.1.1; omega) Iz2.out.hs ?_
        intro vv z3 T' hown hT hgrow
        obtain ⟨va, vc, rfl, -⟩ := hown.slice
        have XQ : Hid (Box z3 q #[(.slice (some ⟨bb, 0, none⟩) L.length d1), (.slice x2 m2 d2), (.slice x3 m3 d3)] 28) := Iz2.out.boxG hgrow (own_inT Iz2.out.o2) Iz2.out.n2
        have I5 : Hid (ScIn w W b q p a n c L (xs ++ [kd]) X (.slice (some ⟨bb, 0, none⟩) L.length d1) (.slice va (xs.length + 1) vc) (.slice x3 m3 d3) T1 T' T3 (z3.setCell ⟨q, 1, none⟩ (.slice va (xs.length + 1) vc))) := Iz2.out.put2 hgrow (own_inT Iz2.out.o2) (by rw [List.length_append, iE_app]; exact hown) (fun x hx => (hT x hx).elim .inl (fun h => h.elim False.elim (fun h => .inr (Iz2.out.fresh (Nat.le_of_eq h.symm)))))
        have q4 := XQ.out.cell 1
        have f4 := XQ.out.frozen 1
        clear hown hT hgrow
        refine hK.out _ _ trivial (fun hHeld => ?_)
        clear hK K
        (try simp only [Act.put, List.setIfInBounds_toArray, List.set_cons_zero, List.set_cons_succ])
        refine wpAnyH_take (i := 7) (oi := _) (v := .pointer (some ⟨q, 1, none⟩)) (by rw [List.getElem?_toArray]; exact rfl) (by kernel_rfl) (by kernel_rfl) (by kernel_rfl) (by intro _ _ _ h; exact h) (Or.inl ⟨by kernel_rfl, ?y120_7⟩) hHeld ?_
        case y120_7 =>
          intro w hSw
          clear hSw
          go_simp
          (try with_reducible rfl)
        (try simp only [Act.put, List.setIfInBounds_toArray, List.set_cons_zero, List.set_cons_succ])
        refine wpAnyH_ready (rs := [8]) (by kernel_rfl) (by simp) ?_
        refine AllReadyH.cons (o := _) (by rw [List.getElem?_toArray]; exact rfl) (fun K hK => ?_) AllReadyH.nil
        rw [if_pos (by kernel_rfl)]
        go_simp
        refine hK.out _ _ trivial (fun hHeld => ?_)
        clear hK K
        (try simp only [Act.put, List.setIfInBounds_toArray, List.set_cons_zero, List.set_cons_succ])
        refine wpAnyH_done (by kernel_rfl) ?_ _
        (try simp only [Exit.then])
        obtain ⟨z4, hz4⟩ : ∃ z, z3.setCell ⟨q, 1, none⟩ (.slice va (xs.length + 1) vc) = z := ⟨_, rfl⟩
        rw [hz4] at I5 ⊢
        clear hz4 q4 f4
        have HDR : Hid (ScDr 2 3 ⟨L, xs ++ [kd], X⟩) := ⟨HDS.out.1, ⟨by show (xs ++ [kd]).length ≤ 2; rw [List.length_append]; have := HDS.out.2.1.1; show xs.length + 1 ≤ 2; omega, Nat.le_succ_of_le HDS.out.2.1.2⟩, HDS.out.2.2⟩
        obtain ⟨r0, r1, r2⟩ := I5.out.box.triV
        have XG := (I5.out.lib XR.out HGB.out (by have := HPG.out; omega) HGQ.out)
        obtain ⟨y0, y1, y2'⟩ := XG.triV
        have fy0 := XG.frozen 0
        have fy1 := XG.frozen 1
        have fy2 := XG.frozen 2
        have XF := ((XG.put 0 (.slice (some ⟨bb, 0, none⟩) L.length d1)).put 1 (.slice va (xs.length + 1) vc)).put 2 (.slice x3 m3 d3)
        go_wp2
        exact bodyPost_ret (results_cell_row Try.results43 _ _ g 28 _ _ _ rfl XF Try.underlying28 rfl (by kernel_rfl)) rfl (I5.out.out HG.out HGB.out HDR.out)
      · rw [if_pos (by kernel_rfl)]
        go_simp
        obtain ⟨gi, z2, Gz2, Wz2, Bz2, Iz2, Yz2, Az2⟩ := Iz1.out.laid #[.int .i64 kd] 3
        have rqz2 : z2.cell? ⟨q, 1, none⟩ = some (.slice x2 m2 d2) := Iz2.out.box.cell 1
        have NI : Hid (z2.cell? ((⟨gi, 0, none⟩ : Addr).add 0) = some (.int .i64 kd)) := by rw [add_plain]; exact Yz2.out.cell 0
        rw [Wz2.out, Gz2.out]
        refine hK.out _ _ trivial (fun hHeld => ?_)
        clear hK K
        (try simp only [Act.put, List.setIfInBounds_toArray, List.set_cons_zero, List.set_cons_succ])
        refine wpAnyH_ready (rs := [1]) (by kernel_rfl) (by simp) ?_
        refine AllReadyH.cons (o := _) (by rw [List.getElem?_toArray]; exact rfl) (fun K hK => ?_) AllReadyH.nil
        rw [if_pos (by kernel_rfl)]
        go_simp
        refine hK.out _ _ trivial (fun hHeld => ?_)
        clear hK K
        (try simp only [Act.put, List.setIfInBounds_toArray, List.set_cons_zero, List.set_cons_succ])
        refine wpAnyH_ready (rs := [6]) (by kernel_rfl) (by simp) ?_
        refine AllReadyH.cons (o := _) (by rw [List.getElem?_toArray]; exact rfl) (fun K hK => ?_) AllReadyH.nil
        refine step_appIn z2 rfl _ _ rfl b (.slice x2 m2 d2) xs.length (iE xs) T2 rfl Iz2.out.o2 ⟨gi, 0, none⟩ 1 rfl kd NI.out (by have := HDS.out.2.1.1; omega) Iz2.out.hs ?_
        intro vv z3 T' hown hT hgrow
        obtain ⟨va, vc, rfl, -⟩ := hown.slice
        have XQ : Hid (Box z3 q #[(.slice (some ⟨bb, 0, none⟩) L.length d1), (.slice x2 m2 d2), (.slice x3 m3 d3)] 28) := Iz2.out.boxG hgrow (own_inT Iz2.out.o2) Iz2.out.n2
        have I5 : Hid (ScIn w W b q p a n c L (xs ++ [kd]) X (.slice (some ⟨bb, 0, none⟩) L.length d1) (.slice va (xs.length + 1) vc) (.slice x3 m3 d3) T1 T' T3 (z3.setCell ⟨q, 1, none⟩ (.slice va (xs.length + 1) vc))) := Iz2.out.put2 hgrow (own_inT Iz2.out.o2) (by rw [List.length_append, iE_app]; exact hown) (fun x hx => (hT x hx).elim .inl (fun h => h.elim False.elim (fun h => .inr (Iz2.out.fresh (Nat.le_of_eq h.symm)))))
        have q4 := XQ.out.cell 1
        have f4 := XQ.out.frozen 1
        clear hown hT hgrow
        refine hK.out _ _ trivial (fun hHeld => ?_)
        clear hK K
        (try simp only [Act.put, List.setIfInBounds_toArray, List.set_cons_zero, List.set_cons_succ])
        refine wpAnyH_take (i := 7) (oi := _) (v := .pointer (some ⟨q, 1, none⟩)) (by rw [List.getElem?_toArray]; exact rfl) (by kernel_rfl) (by kernel_rfl) (by kernel_rfl) (by intro _ _ _ h; exact h) (Or.inl ⟨by kernel_rfl, ?y121_7⟩) hHeld ?_
        case y121_7 =>
          intro w hSw
          clear hSw
          go_simp
          (try with_reducible rfl)
        (try simp only [Act.put, List.setIfInBounds_toArray, List.set_cons_zero, List.set_cons_succ])
        refine wpAnyH_ready (rs := [8]) (by kernel_rfl) (by simp) ?_
        refine AllReadyH.cons (o := _) (by rw [List.getElem?_toArray]; exact rfl) (fun K hK => ?_) AllReadyH.nil
        rw [if_pos (by kernel_rfl)]
        go_simp
        refine hK.out _ _ trivial (fun hHeld => ?_)
        clear hK K
        (try simp only [Act.put, List.setIfInBounds_toArray, List.set_cons_zero, List.set_cons_succ])
        refine wpAnyH_done (by kernel_rfl) ?_ _
        (try simp only [Exit.then])
        obtain ⟨z4, hz4⟩ : ∃ z, z3.setCell ⟨q, 1, none⟩ (.slice va (xs.length + 1) vc) = z := ⟨_, rfl⟩
        rw [hz4] at I5 ⊢
        clear hz4 q4 f4
        have HDR : Hid (ScDr 2 3 ⟨L, xs ++ [kd], X⟩) := ⟨HDS.out.1, ⟨by show (xs ++ [kd]).length ≤ 2; rw [List.length_append]; have := HDS.out.2.1.1; show xs.length + 1 ≤ 2; omega, Nat.le_succ_of_le HDS.out.2.1.2⟩, HDS.out.2.2⟩
        obtain ⟨r0, r1, r2⟩ := I5.out.box.triV
        have XG := (I5.out.lib XR.out HGB.out (by have := HPG.out; omega) HGQ.out)
        obtain ⟨y0, y1, y2'⟩ := XG.triV
        have fy0 := XG.frozen 0
        have fy1 := XG.frozen 1
        have fy2 := XG.frozen 2
        have XF := ((XG.put 0 (.slice (some ⟨bb, 0, none⟩) L.length d1)).put 1 (.slice va (xs.length + 1) vc)).put 2 (.slice x3 m3 d3)
        go_wp2
        exact bodyPost_ret (results_cell_row Try.results43 _ _ g 28 _ _ _ rfl XF Try.underlying28 rfl (by kernel_rfl)) rfl (I5.out.out HG.out HGB.out HDR.out)
  · have hL0 : (0 : Int) < (L.length : Int) := by have := HDS.out.1; show _ < _; omega
    have hLn : ¬ L = [] := fun e => by have h1 := HDS.out.1.1; rw [e] at h1; exact absurd h1 (by simp)
    have c0 := I4.out.box.cell 0
    obtain ⟨z2, hz2⟩ : ∃ z, w4 = z := ⟨_, rfl⟩
    have Iz2 : Hid (ScIn w W b q p a n c L xs X (.slice (some ⟨bb, 0, none⟩) L.length d1) (.slice x2 m2 d2) (.slice x3 m3 d3) T1 T2 T3 w4) := I4.out
    obtain ⟨xi, hxi⟩ : ∃ x, L[0]? = some x := ⟨_, List.getElem?_eq_getElem (by have := HDS.out.1; omega)⟩
    have hci := (clsE_at hxi).2.2
    have ho1 := Iz2.out.o1
    obtain ⟨uo, _, f0, f1, _⟩ := ho1.cell hci
    have hop := ho1.putB hci true
    have hT1 : T1 bb := own_inT ho1 bb rfl
    have Iz3 : Hid (ScIn w W b q p a n c (L.set 0 (xi.1, xi.2.1, true)) xs X (.slice (some ⟨bb, 0, none⟩) L.length d1) (.slice x2 m2 d2) (.slice x3 m3 d3) T1 T2 T3 (w4.setCell ⟨bb, 2, none⟩ (.bool true))) := Iz2.out.turn1 hT1 (by rw [List.length_set, clsE_set2 _ hxi]; exact hop)
    have HXI : Hid (L[0]? = some xi) := hxi
    clear hci ho1 hop hT1 hxi
    clear hz2
    go_upto_region 13 with (fail)
    obtain ⟨z4, hz4⟩ : ∃ z, w4.setCell ⟨bb, 2, none⟩ (.bool true) = z := ⟨_, rfl⟩
    rw [hz4] at Iz3 ⊢
    clear hz4 f0 f1 hL0 hLn c0
    have HDR : Hid (ScDr 2 3 ⟨L.set 0 (xi.1, xi.2.1, true), xs, X⟩) := ⟨by show 2 ≤ (L.set 0 _).length ∧ (L.set 0 _).length ≤ 4; rw [List.length_set]; exact HDS.out.1, ⟨Nat.le_succ_of_le HDS.out.2.1.1, Nat.le_succ_of_le HDS.out.2.1.2⟩, fun x hx => (List.mem_or_eq_of_mem_set hx).elim (HDS.out.2.2.1 x) (fun e => by rw [e]; exact HDS.out.2.2.1 xi (List.mem_of_getElem? HXI.out)), HDS.out.2.2.2⟩
    obtain ⟨r0, r1, r2⟩ := Iz3.out.box.triV
    have XG := (Iz3.out.lib XR.out HGB.out (by have := HPG.out; omega) HGQ.out)
    obtain ⟨y0, y1, y2'⟩ := XG.triV
    have fy0 := XG.frozen 0
    have fy1 := XG.frozen 1
    have fy2 := XG.frozen 2
    have XF := ((XG.put 0 (.slice (some ⟨bb, 0, none⟩) L.length d1)).put 1 (.slice x2 m2 d2)).put 2 (.slice x3 m3 d3)
    go_wp2
    exact bodyPost_ret (results_cell_row Try.results43 _ _ g 28 _ _ _ rfl XF Try.underlying28 rfl (by kernel_rfl)) rfl (Iz3.out.out HG.out HGB.out HDR.out)
  · go_upto_region 12 with (fail)
    have Iz0 : Hid (ScIn w W b q p a n c L xs X (.slice (some ⟨bb, 0, none⟩) L.length d1) (.slice x2 m2 d2) (.slice x3 m3 d3) T1 T2 T3 w4.drew) := I4.out.drew
    obtain ⟨z0, hz0⟩ : ∃ z, w4.drew = z := ⟨_, rfl⟩
    have HZ0 : Hid (w4.drew = z0) := hz0
    rw [hz0] at Iz0
    clear hz0
    have rqz0 : z0.cell? ⟨q, 2, none⟩ = some (.slice x3 m3 d3) := Iz0.out.box.cell 2
    refine wp_region_held_drew (S := fun _ => True) (by kernel_rfl) trivial (fun hHeld => ?_)
    rw [HZ0.out]
    refine wpAnyH_take (i := 0) (oi := _) (v := .pointer (some ⟨q, 2, none⟩)) (by rw [List.getElem?_toArray]; exact rfl) (by kernel_rfl) (by kernel_rfl) (by kernel_rfl) (by intro _ _ _ h; exact h) (Or.inl ⟨by kernel_rfl, ?y124_0⟩) hHeld ?_
    case y124_0 =>
      intro w hSw
      clear hSw
      go_simp
      (try with_reducible rfl)
    (try simp only [Act.put, List.setIfInBounds_toArray, List.set_cons_zero, List.set_cons_succ])
    refine wpAnyH_take (i := 2) (oi := _) (v := .pointer (some ⟨p, 0, none⟩)) (by rw [List.getElem?_toArray]; exact rfl) (by kernel_rfl) (by kernel_rfl) (by kernel_rfl) (by intro _ _ _ h; exact h) (Or.inl ⟨by kernel_rfl, ?y125_2⟩) hHeld ?_
    case y125_2 =>
      intro w hSw
      clear hSw
      go_simp
      (try with_reducible rfl)
    (try simp only [Act.put, List.setIfInBounds_toArray, List.set_cons_zero, List.set_cons_succ])
    refine wpAnyH_ready (rs := [1, 3]) (by kernel_rfl) (by simp) ?_
    refine AllReadyH.cons (o := _) (by rw [List.getElem?_toArray]; exact rfl) (fun K hK => ?_) (AllReadyH.cons (o := _) (by rw [List.getElem?_toArray]; exact rfl) (fun K hK => ?_) AllReadyH.nil)
    · rw [if_pos (by kernel_rfl)]
      go_simp
      refine hK.out _ _ trivial (fun hHeld => ?_)
      clear hK K
      (try simp only [Act.put, List.setIfInBounds_toArray, List.set_cons_zero, List.set_cons_succ])
      refine wpAnyH_ready (rs := [3]) (by kernel_rfl) (by simp) ?_
      refine AllReadyH.cons (o := _) (by rw [List.getElem?_toArray]; exact rfl) (fun K hK => ?_) AllReadyH.nil
      rw [if_pos (by kernel_rfl)]
      go_simp
      refine (l1Below_any p a n c 6 (by omega) (by omega) z0 Iz0.out.cur).mono ?_
      rintro e z1 ⟨y, hy, rfl, hC1, hO1⟩
      have Iz1 : Hid (ScIn w W b q p a n c L xs X (.slice (some ⟨bb, 0, none⟩) L.length d1) (.slice x2 m2 d2) (.slice x3 m3 d3) T1 T2 T3 z1) := Iz0.out.only hO1 hC1
      have Hy : Hid ((y : Int) < 6) := hy
      have rqz1 : z1.cell? ⟨q, 2, none⟩ = some (.slice x3 m3 d3) := Iz1.out.box.cell 2
      clear hC1 hO1
      refine hK.out _ _ trivial (fun hHeld => ?_)
      clear hK K
      (try simp only [Act.put, List.setIfInBounds_toArray, List.set_cons_zero, List.set_cons_succ])
      refine wpAnyH_take (i := 4) (oi := _) (v := .int .i64 (IntKind.i64.wrap ((y : Int) - 1))) (by rw [List.getElem?_toArray]; exact rfl) (by kernel_rfl) (by kernel_rfl) (by kernel_rfl) (by intro _ _ _ h; exact h) (Or.inl ⟨by kernel_rfl, ?y122_4⟩) hHeld ?_
      case y122_4 =>
        intro w hSw
        clear hSw
        go_simp
        (try with_reducible rfl)
      (try simp only [Act.put, List.setIfInBounds_toArray, List.set_cons_zero, List.set_cons_succ])
      obtain ⟨kd, hkd⟩ : ∃ k, IntKind.i64.wrap ((y : Int) - 1) = k := ⟨_, rfl⟩
      rw [hkd]
      clear hkd
      refine wpAnyH_ready (rs := [5]) (by kernel_rfl) (by simp) ?_
      refine AllReadyH.cons (o := _) (by rw [List.getElem?_toArray]; exact rfl) (fun K hK => ?_) AllReadyH.nil
      rw [if_pos (by kernel_rfl)]
      go_simp
      obtain ⟨gi, z2, Gz2, Wz2, Bz2, Iz2, Yz2, Az2⟩ := Iz1.out.laid #[.int .i64 kd] 3
      have rqz2 : z2.cell? ⟨q, 2, none⟩ = some (.slice x3 m3 d3) := Iz2.out.box.cell 2
      rw [Wz2.out, Gz2.out]
      refine hK.out _ _ trivial (fun hHeld => ?_)
      clear hK K
      (try simp only [Act.put, List.setIfInBounds_toArray, List.set_cons_zero, List.set_cons_succ])
      refine wpAnyH_take (i := 6) (oi := _) (v := .agg #[.string ⟨#[120]⟩, (.slice (some ⟨gi, 0, none⟩) 1 1), .bool false]) (by rw [List.getElem?_toArray]; exact rfl) (by kernel_rfl) (by kernel_rfl) (by kernel_rfl) (by intro _ _ _ h; exact h) (Or.inl ⟨by kernel_rfl, ?y126_6⟩) hHeld ?_
      case y126_6 =>
        intro w hSw
        clear hSw
        go_simp
        (try with_reducible rfl)
      (try simp only [Act.put, List.setIfInBounds_toArray, List.set_cons_zero, List.set_cons_succ])
      refine wpAnyH_ready (rs := [7]) (by kernel_rfl) (by simp) ?_
      refine AllReadyH.cons (o := _) (by rw [List.getElem?_toArray]; exact rfl) (fun K hK => ?_) AllReadyH.nil
      rw [if_pos (by kernel_rfl)]
      go_simp
      obtain ⟨gy, z3, Gz3, Wz3, Bz3, Iz3, Yz3, Az3⟩ := Iz2.out.laid #[.string ⟨#[120]⟩, (.slice (some ⟨gi, 0, none⟩) 1 1), .bool false] 105
      have rqz3 : z3.cell? ⟨q, 2, none⟩ = some (.slice x3 m3 d3) := Iz3.out.box.cell 2
      have N0 : Hid (z3.cell? ((⟨gy, 0, none⟩ : Addr).add 0) = some (.string ⟨#[120]⟩)) := by rw [add_plain]; exact Yz3.out.cell 0
      have N1 : Hid (z3.cell? ((⟨gy, 0, none⟩ : Addr).add 1) = some (.slice (some ⟨gi, 0, none⟩) 1 1)) := by rw [add_plain]; exact Yz3.out.cell 1
      have N2 : Hid (z3.cell? ((⟨gy, 0, none⟩ : Addr).add 2) = some (.bool false)) := by rw [add_plain]; exact Yz3.out.cell 2
      have UY : Hid (Own z3 b (.slice (some ⟨gi, 0, none⟩) 1 1) (.l 3 1 ([kd] : List Int).length (iE [kd])) (fun x => ((.slice (some ⟨gi, 0, none⟩) 1 1) : Value).ownBlock = some x)) := own_intsE (own_box1 (Yz2.out.below Bz3.out Yz2.out.lt) Az2.out.ge) (by simp)
      rw [Wz3.out, Gz3.out]
      refine hK.out _ _ trivial (fun hHeld => ?_)
      clear hK K
      (try simp only [Act.put, List.setIfInBounds_toArray, List.set_cons_zero, List.set_cons_succ])
      refine wpAnyH_ready (rs := [8]) (by kernel_rfl) (by simp) ?_
      refine AllReadyH.cons (o := _) (by rw [List.getElem?_toArray]; exact rfl) (fun K hK => ?_) AllReadyH.nil
      refine step_appIx z3 rfl _ _ rfl b (.slice x3 m3 d3) X.length (idsE X) T3 rfl Iz3.out.o3 ⟨gy, 0, none⟩ 1 rfl ⟨#[120]⟩ (.slice (some ⟨gi, 0, none⟩) 1 1) false [kd] (fun x => ((.slice (some ⟨gi, 0, none⟩) 1 1) : Value).ownBlock = some x) N0.out N1.out N2.out UY.out (fun x e => by have e1 : gi = x := Option.some.inj e; rw [← e1]; exact Az2.out.n3) rfl (by have := HDS.out.2.1.2; omega) Iz3.out.hs ?_
      intro vv z4 T' hown hT hgrow
      obtain ⟨va, vc, rfl, -⟩ := hown.slice
      have XQ : Hid (Box z4 q #[(.slice (some ⟨bb, 0, none⟩) L.length d1), (.slice x2 m2 d2), (.slice x3 m3 d3)] 28) := Iz3.out.boxG hgrow (own_inT Iz3.out.o3) Iz3.out.n3
      have I5 : Hid (ScIn w W b q p a n c L xs (X ++ [(⟨#[120]⟩, [kd], false)]) (.slice (some ⟨bb, 0, none⟩) L.length d1) (.slice x2 m2 d2) (.slice va (X.length + 1) vc) T1 T2 T' (z4.setCell ⟨q, 2, none⟩ (.slice va (X.length + 1) vc))) := Iz3.out.put3 hgrow (own_inT Iz3.out.o3) (by rw [List.length_append, idsE_app]; exact hown) (fun x hx => (hT x hx).elim .inl (fun h => .inr (h.elim (fun e => by have e1 : gi = x := Option.some.inj e; rw [← e1]; exact Az2.out) (fun h => Iz3.out.fresh (Nat.le_of_eq h.symm)))))
      have q4 := XQ.out.cell 2
      have f4 := XQ.out.frozen 2
      clear hown hT hgrow
      refine hK.out _ _ trivial (fun hHeld => ?_)
      clear hK K
      (try simp only [Act.put, List.setIfInBounds_toArray, List.set_cons_zero, List.set_cons_succ])
      refine wpAnyH_take (i := 9) (oi := _) (v := .pointer (some ⟨q, 2, none⟩)) (by rw [List.getElem?_toArray]; exact rfl) (by kernel_rfl) (by kernel_rfl) (by kernel_rfl) (by intro _ _ _ h; exact h) (Or.inl ⟨by kernel_rfl, ?y127_9⟩) hHeld ?_
      case y127_9 =>
        intro w hSw
        clear hSw
        go_simp
        (try with_reducible rfl)
      (try simp only [Act.put, List.setIfInBounds_toArray, List.set_cons_zero, List.set_cons_succ])
      refine wpAnyH_ready (rs := [10]) (by kernel_rfl) (by simp) ?_
      refine AllReadyH.cons (o := _) (by rw [List.getElem?_toArray]; exact rfl) (fun K hK => ?_) AllReadyH.nil
      rw [if_pos (by kernel_rfl)]
      go_simp
      refine hK.out _ _ trivial (fun hHeld => ?_)
      clear hK K
      (try simp only [Act.put, List.setIfInBounds_toArray, List.set_cons_zero, List.set_cons_succ])
      refine wpAnyH_done (by kernel_rfl) ?_ _
      (try simp only [Exit.then])
      obtain ⟨z5, hz5⟩ : ∃ z, z4.setCell ⟨q, 2, none⟩ (.slice va (X.length + 1) vc) = z := ⟨_, rfl⟩
      rw [hz5] at I5 ⊢
      clear hz5 q4 f4
      have HDR : Hid (ScDr 2 3 ⟨L, xs, X ++ [(⟨#[120]⟩, [kd], false)]⟩) := ⟨HDS.out.1, ⟨Nat.le_succ_of_le HDS.out.2.1.1, by show (X ++ _).length ≤ 3; rw [List.length_append]; have := HDS.out.2.1.2; show X.length + 1 ≤ 3; omega⟩, HDS.out.2.2.1, fun x hx => (List.mem_append.1 hx).elim (HDS.out.2.2.2 x) (fun h1 => by rw [List.mem_singleton.1 h1]; exact ⟨by show (ByteArray.size ⟨#[120]⟩) ≤ 13; decide, by simp⟩)⟩
      obtain ⟨r0, r1, r2⟩ := I5.out.box.triV
      have XG := (I5.out.lib XR.out HGB.out (by have := HPG.out; omega) HGQ.out)
      obtain ⟨y0, y1, y2'⟩ := XG.triV
      have fy0 := XG.frozen 0
      have fy1 := XG.frozen 1
      have fy2 := XG.frozen 2
      have XF := ((XG.put 0 (.slice (some ⟨bb, 0, none⟩) L.length d1)).put 1 (.slice x2 m2 d2)).put 2 (.slice va (X.length + 1) vc)
      go_wp2
      exact bodyPost_ret (results_cell_row Try.results43 _ _ g 28 _ _ _ rfl XF Try.underlying28 rfl (by kernel_rfl)) rfl (I5.out.out HG.out HGB.out HDR.out)
    · rw [if_pos (by kernel_rfl)]
      go_simp
      refine (l1Below_any p a n c 6 (by omega) (by omega) z0 Iz0.out.cur).mono ?_
      rintro e z1 ⟨y, hy, rfl, hC1, hO1⟩
      have Iz1 : Hid (ScIn w W b q p a n c L xs X (.slice (some ⟨bb, 0, none⟩) L.length d1) (.slice x2 m2 d2) (.slice x3 m3 d3) T1 T2 T3 z1) := Iz0.out.only hO1 hC1
      have Hy : Hid ((y : Int) < 6) := hy
      have rqz1 : z1.cell? ⟨q, 2, none⟩ = some (.slice x3 m3 d3) := Iz1.out.box.cell 2
      clear hC1 hO1
      refine hK.out _ _ trivial (fun hHeld => ?_)
      clear hK K
      (try simp only [Act.put, List.setIfInBounds_toArray, List.set_cons_zero, List.set_cons_succ])
      refine wpAnyH_take (i := 4) (oi := _) (v := .int .i64 (IntKind.i64.wrap ((y : Int) - 1))) (by rw [List.getElem?_toArray]; exact rfl) (by kernel_rfl) (by kernel_rfl) (by kernel_rfl) (by intro _ _ _ h; exact h) (Or.inl ⟨by kernel_rfl, ?y122_4⟩) hHeld ?_
      case y122_4 =>
        intro w hSw
        clear hSw
        go_simp
        (try with_reducible rfl)
      (try simp only [Act.put, List.setIfInBounds_toArray, List.set_cons_zero, List.set_cons_succ])
      obtain ⟨kd, hkd⟩ : ∃ k, IntKind.i64.wrap ((y : Int) - 1) = k := ⟨_, rfl⟩
      rw [hkd]
      clear hkd
      refine wpAnyH_ready (rs := [1, 5]) (by kernel_rfl) (by simp) ?_
      refine AllReadyH.cons (o := _) (by rw [List.getElem?_toArray]; exact rfl) (fun K hK => ?_) (AllReadyH.cons (o := _) (by rw [List.getElem?_toArray]; exact rfl) (fun K hK => ?_) AllReadyH.nil)
      · rw [if_pos (by kernel_rfl)]
        go_simp
        refine hK.out _ _ trivial (fun hHeld => ?_)
        clear hK K
        (try simp only [Act.put, List.setIfInBounds_toArray, List.set_cons_zero, List.set_cons_succ])
        refine wpAnyH_ready (rs := [5]) (by kernel_rfl) (by simp) ?_
        refine AllReadyH.cons (o := _) (by rw [List.getElem?_toArray]; exact rfl) (fun K hK => ?_) AllReadyH.nil
        rw [if_pos (by kernel_rfl)]
        go_simp
        obtain ⟨gi, z2, Gz2, Wz2, Bz2, Iz2, Yz2, Az2⟩ := Iz1.out.laid #[.int .i64 kd] 3
        have rqz2 : z2.cell? ⟨q, 2, none⟩ = some (.slice x3 m3 d3) := Iz2.out.box.cell 2
        rw [Wz2.out, Gz2.out]
        refine hK.out _ _ trivial (fun hHeld => ?_)
        clear hK K
        (try simp only [Act.put, List.setIfInBounds_toArray, List.set_cons_zero, List.set_cons_succ])
        refine wpAnyH_take (i := 6) (oi := _) (v := .agg #[.string ⟨#[120]⟩, (.slice (some ⟨gi, 0, none⟩) 1 1), .bool false]) (by rw [List.getElem?_toArray]; exact rfl) (by kernel_rfl) (by kernel_rfl) (by kernel_rfl) (by intro _ _ _ h; exact h) (Or.inl ⟨by kernel_rfl, ?y128_6⟩) hHeld ?_
        case y128_6 =>
          intro w hSw
          clear hSw
          go_simp
          (try with_reducible rfl)
        (try simp only [Act.put, List.setIfInBounds_toArray, List.set_cons_zero, List.set_cons_succ])
        refine wpAnyH_ready (rs := [7]) (by kernel_rfl) (by simp) ?_
        refine AllReadyH.cons (o := _) (by rw [List.getElem?_toArray]; exact rfl) (fun K hK => ?_) AllReadyH.nil
        rw [if_pos (by kernel_rfl)]
        go_simp
        obtain ⟨gy, z3, Gz3, Wz3, Bz3, Iz3, Yz3, Az3⟩ := Iz2.out.laid #[.string ⟨#[120]⟩, (.slice (some ⟨gi, 0, none⟩) 1 1), .bool false] 105
        have rqz3 : z3.cell? ⟨q, 2, none⟩ = some (.slice x3 m3 d3) := Iz3.out.box.cell 2
        have N0 : Hid (z3.cell? ((⟨gy, 0, none⟩ : Addr).add 0) = some (.string ⟨#[120]⟩)) := by rw [add_plain]; exact Yz3.out.cell 0
        have N1 : Hid (z3.cell? ((⟨gy, 0, none⟩ : Addr).add 1) = some (.slice (some ⟨gi, 0, none⟩) 1 1)) := by rw [add_plain]; exact Yz3.out.cell 1
        have N2 : Hid (z3.cell? ((⟨gy, 0, none⟩ : Addr).add 2) = some (.bool false)) := by rw [add_plain]; exact Yz3.out.cell 2
        have UY : Hid (Own z3 b (.slice (some ⟨gi, 0, none⟩) 1 1) (.l 3 1 ([kd] : List Int).length (iE [kd])) (fun x => ((.slice (some ⟨gi, 0, none⟩) 1 1) : Value).ownBlock = some x)) := own_intsE (own_box1 (Yz2.out.below Bz3.out Yz2.out.lt) Az2.out.ge) (by simp)
        rw [Wz3.out, Gz3.out]
        refine hK.out _ _ trivial (fun hHeld => ?_)
        clear hK K
        (try simp only [Act.put, List.setIfInBounds_toArray, List.set_cons_zero, List.set_cons_succ])
        refine wpAnyH_ready (rs := [8]) (by kernel_rfl) (by simp) ?_
        refine AllReadyH.cons (o := _) (by rw [List.getElem?_toArray]; exact rfl) (fun K hK => ?_) AllReadyH.nil
        refine step_appIx z3 rfl _ _ rfl b (.slice x3 m3 d3) X.length (idsE X) T3 rfl Iz3.out.o3 ⟨gy, 0, none⟩ 1 rfl ⟨#[120]⟩ (.slice (some ⟨gi, 0, none⟩) 1 1) false [kd] (fun x => ((.slice (some ⟨gi, 0, none⟩) 1 1) : Value).ownBlock = some x) N0.out N1.out N2.out UY.out (fun x e => by have e1 : gi = x := Option.some.inj e; rw [← e1]; exact Az2.out.n3) rfl (by have := HDS.out.2.1.2; omega) Iz3.out.hs ?_
        intro vv z4 T' hown hT hgrow
        obtain ⟨va, vc, rfl, -⟩ := hown.slice
        have XQ : Hid (Box z4 q #[(.slice (some ⟨bb, 0, none⟩) L.length d1), (.slice x2 m2 d2), (.slice x3 m3 d3)] 28) := Iz3.out.boxG hgrow (own_inT Iz3.out.o3) Iz3.out.n3
        have I5 : Hid (ScIn w W b q p a n c L xs (X ++ [(⟨#[120]⟩, [kd], false)]) (.slice (some ⟨bb, 0, none⟩) L.length d1) (.slice x2 m2 d2) (.slice va (X.length + 1) vc) T1 T2 T' (z4.setCell ⟨q, 2, none⟩ (.slice va (X.length + 1) vc))) := Iz3.out.put3 hgrow (own_inT Iz3.out.o3) (by rw [List.length_append, idsE_app]; exact hown) (fun x hx => (hT x hx).elim .inl (fun h => .inr (h.elim (fun e => by have e1 : gi = x := Option.some.inj e; rw [← e1]; exact Az2.out) (fun h => Iz3.out.fresh (Nat.le_of_eq h.symm)))))
        have q4 := XQ.out.cell 2
        have f4 := XQ.out.frozen 2
        clear hown hT hgrow
        refine hK.out _ _ trivial (fun hHeld => ?_)
        clear hK K
        (try simp only [Act.put, List.setIfInBounds_toArray, List.set_cons_zero, List.set_cons_succ])
        refine wpAnyH_take (i := 9) (oi := _) (v := .pointer (some ⟨q, 2, none⟩)) (by rw [List.getElem?_toArray]; exact rfl) (by kernel_rfl) (by kernel_rfl) (by kernel_rfl) (by intro _ _ _ h; exact h) (Or.inl ⟨by kernel_rfl, ?y129_9⟩) hHeld ?_
        case y129_9 =>
          intro w hSw
          clear hSw
          go_simp
          (try with_reducible rfl)
        (try simp only [Act.put, List.setIfInBounds_toArray, List.set_cons_zero, List.set_cons_succ])
        refine wpAnyH_ready (rs := [10]) (by kernel_rfl) (by simp) ?_
        refine AllReadyH.cons (o := _) (by rw [List.getElem?_toArray]; exact rfl) (fun K hK => ?_) AllReadyH.nil
        rw [if_pos (by kernel_rfl)]
        go_simp
        refine hK.out _ _ trivial (fun hHeld => ?_)
        clear hK K
        (try simp only [Act.put, List.setIfInBounds_toArray, List.set_cons_zero, List.set_cons_succ])
        refine wpAnyH_done (by kernel_rfl) ?_ _
        (try simp only [Exit.then])
        obtain ⟨z5, hz5⟩ : ∃ z, z4.setCell ⟨q, 2, none⟩ (.slice va (X.length + 1) vc) = z := ⟨_, rfl⟩
        rw [hz5] at I5 ⊢
        clear hz5 q4 f4
        have HDR : Hid (ScDr 2 3 ⟨L, xs, X ++ [(⟨#[120]⟩, [kd], false)]⟩) := ⟨HDS.out.1, ⟨Nat.le_succ_of_le HDS.out.2.1.1, by show (X ++ _).length ≤ 3; rw [List.length_append]; have := HDS.out.2.1.2; show X.length + 1 ≤ 3; omega⟩, HDS.out.2.2.1, fun x hx => (List.mem_append.1 hx).elim (HDS.out.2.2.2 x) (fun h1 => by rw [List.mem_singleton.1 h1]; exact ⟨by show (ByteArray.size ⟨#[120]⟩) ≤ 13; decide, by simp⟩)⟩
        obtain ⟨r0, r1, r2⟩ := I5.out.box.triV
        have XG := (I5.out.lib XR.out HGB.out (by have := HPG.out; omega) HGQ.out)
        obtain ⟨y0, y1, y2'⟩ := XG.triV
        have fy0 := XG.frozen 0
        have fy1 := XG.frozen 1
        have fy2 := XG.frozen 2
        have XF := ((XG.put 0 (.slice (some ⟨bb, 0, none⟩) L.length d1)).put 1 (.slice x2 m2 d2)).put 2 (.slice va (X.length + 1) vc)
        go_wp2
        exact bodyPost_ret (results_cell_row Try.results43 _ _ g 28 _ _ _ rfl XF Try.underlying28 rfl (by kernel_rfl)) rfl (I5.out.out HG.out HGB.out HDR.out)
      · rw [if_pos (by kernel_rfl)]
        go_simp
        obtain ⟨gi, z2, Gz2, Wz2, Bz2, Iz2, Yz2, Az2⟩ := Iz1.out.laid #[.int .i64 kd] 3
        have rqz2 : z2.cell? ⟨q, 2, none⟩ = some (.slice x3 m3 d3) := Iz2.out.box.cell 2
        rw [Wz2.out, Gz2.out]
        refine hK.out _ _ trivial (fun hHeld => ?_)
        clear hK K
        (try simp only [Act.put, List.setIfInBounds_toArray, List.set_cons_zero, List.set_cons_succ])
        refine wpAnyH_take (i := 6) (oi := _) (v := .agg #[.string ⟨#[120]⟩, (.slice (some ⟨gi, 0, none⟩) 1 1), .bool false]) (by rw [List.getElem?_toArray]; exact rfl) (by kernel_rfl) (by kernel_rfl) (by kernel_rfl) (by intro _ _ _ h; exact h) (Or.inl ⟨by kernel_rfl, ?y130_6⟩) hHeld ?_
        case y130_6 =>
          intro w hSw
          clear hSw
          go_simp
          (try with_reducible rfl)
        (try simp only [Act.put, List.setIfInBounds_toArray, List.set_cons_zero, List.set_cons_succ])
        refine wpAnyH_ready (rs := [1, 7]) (by kernel_rfl) (by simp) ?_
        refine AllReadyH.cons (o := _) (by rw [List.getElem?_toArray]; exact rfl) (fun K hK => ?_) (AllReadyH.cons (o := _) (by rw [List.getElem?_toArray]; exact rfl) (fun K hK => ?_) AllReadyH.nil)
        · rw [if_pos (by kernel_rfl)]
          go_simp
          refine hK.out _ _ trivial (fun hHeld => ?_)
          clear hK K
          (try simp only [Act.put, List.setIfInBounds_toArray, List.set_cons_zero, List.set_cons_succ])
          refine wpAnyH_ready (rs := [7]) (by kernel_rfl) (by simp) ?_
          refine AllReadyH.cons (o := _) (by rw [List.getElem?_toArray]; exact rfl) (fun K hK => ?_) AllReadyH.nil
          rw [if_pos (by kernel_rfl)]
          go_simp
          obtain ⟨gy, z3, Gz3, Wz3, Bz3, Iz3, Yz3, Az3⟩ := Iz2.out.laid #[.string ⟨#[120]⟩, (.slice (some ⟨gi, 0, none⟩) 1 1), .bool false] 105
          have rqz3 : z3.cell? ⟨q, 2, none⟩ = some (.slice x3 m3 d3) := Iz3.out.box.cell 2
          have N0 : Hid (z3.cell? ((⟨gy, 0, none⟩ : Addr).add 0) = some (.string ⟨#[120]⟩)) := by rw [add_plain]; exact Yz3.out.cell 0
          have N1 : Hid (z3.cell? ((⟨gy, 0, none⟩ : Addr).add 1) = some (.slice (some ⟨gi, 0, none⟩) 1 1)) := by rw [add_plain]; exact Yz3.out.cell 1
          have N2 : Hid (z3.cell? ((⟨gy, 0, none⟩ : Addr).add 2) = some (.bool false)) := by rw [add_plain]; exact Yz3.out.cell 2
          have UY : Hid (Own z3 b (.slice (some ⟨gi, 0, none⟩) 1 1) (.l 3 1 ([kd] : List Int).length (iE [kd])) (fun x => ((.slice (some ⟨gi, 0, none⟩) 1 1) : Value).ownBlock = some x)) := own_intsE (own_box1 (Yz2.out.below Bz3.out Yz2.out.lt) Az2.out.ge) (by simp)
          rw [Wz3.out, Gz3.out]
          refine hK.out _ _ trivial (fun hHeld => ?_)
          clear hK K
          (try simp only [Act.put, List.setIfInBounds_toArray, List.set_cons_zero, List.set_cons_succ])
          refine wpAnyH_ready (rs := [8]) (by kernel_rfl) (by simp) ?_
          refine AllReadyH.cons (o := _) (by rw [List.getElem?_toArray]; exact rfl) (fun K hK => ?_) AllReadyH.nil
          refine step_appIx z3 rfl _ _ rfl b (.slice x3 m3 d3) X.length (idsE X) T3 rfl Iz3.out.o3 ⟨gy, 0, none⟩ 1 rfl ⟨#[120]⟩ (.slice (some ⟨gi, 0, none⟩) 1 1) false [kd] (fun x => ((.slice (some ⟨gi, 0, none⟩) 1 1) : Value).ownBlock = some x) N0.out N1.out N2.out UY.out (fun x e => by have e1 : gi = x := Option.some.inj e; rw [← e1]; exact Az2.out.n3) rfl (by have := HDS.out.2.1.2; omega) Iz3.out.hs ?_
          intro vv z4 T' hown hT hgrow
          obtain ⟨va, vc, rfl, -⟩ := hown.slice
          have XQ : Hid (Box z4 q #[(.slice (some ⟨bb, 0, none⟩) L.length d1), (.slice x2 m2 d2), (.slice x3 m3 d3)] 28) := Iz3.out.boxG hgrow (own_inT Iz3.out.o3) Iz3.out.n3
          have I5 : Hid (ScIn w W b q p a n c L xs (X ++ [(⟨#[120]⟩, [kd], false)]) (.slice (some ⟨bb, 0, none⟩) L.length d1) (.slice x2 m2 d2) (.slice va (X.length + 1) vc) T1 T2 T' (z4.setCell ⟨q, 2, none⟩ (.slice va (X.length + 1) vc))) := Iz3.out.put3 hgrow (own_inT Iz3.out.o3) (by rw [List.length_append, idsE_app]; exact hown) (fun x hx => (hT x hx).elim .inl (fun h => .inr (h.elim (fun e => by have e1 : gi = x := Option.some.inj e; rw [← e1]; exact Az2.out) (fun h => Iz3.out.fresh (Nat.le_of_eq h.symm)))))
          have q4 := XQ.out.cell 2
          have f4 := XQ.out.frozen 2
          clear hown hT hgrow
          refine hK.out _ _ trivial (fun hHeld => ?_)
          clear hK K
          (try simp only [Act.put, List.setIfInBounds_toArray, List.set_cons_zero, List.set_cons_succ])
          refine wpAnyH_take (i := 9) (oi := _) (v := .pointer (some ⟨q, 2, none⟩)) (by rw [List.getElem?_toArray]; exact rfl) (by kernel_rfl) (by kernel_rfl) (by kernel_rfl) (by intro _ _ _ h; exact h) (Or.inl ⟨by kernel_rfl, ?y131_9⟩) hHeld ?_
          case y131_9 =>
            intro w hSw
            clear hSw
            go_simp
            (try with_reducible rfl)
          (try simp only [Act.put, List.setIfInBounds_toArray, List.set_cons_zero, List.set_cons_succ])
          refine wpAnyH_ready (rs := [10]) (by kernel_rfl) (by simp) ?_
          refine AllReadyH.cons (o := _) (by rw [List.getElem?_toArray]; exact rfl) (fun K hK => ?_) AllReadyH.nil
          rw [if_pos (by kernel_rfl)]
          go_simp
          refine hK.out _ _ trivial (fun hHeld => ?_)
          clear hK K
          (try simp only [Act.put, List.setIfInBounds_toArray, List.set_cons_zero, List.set_cons_succ])
          refine wpAnyH_done (by kernel_rfl) ?_ _
          (try simp only [Exit.then])
          obtain ⟨z5, hz5⟩ : ∃ z, z4.setCell ⟨q, 2, none⟩ (.slice va (X.length + 1) vc) = z := ⟨_, rfl⟩
          rw [hz5] at I5 ⊢
          clear hz5 q4 f4
          have HDR : Hid (ScDr 2 3 ⟨L, xs, X ++ [(⟨#[120]⟩, [kd], false)]⟩) := ⟨HDS.out.1, ⟨Nat.le_succ_of_le HDS.out.2.1.1, by show (X ++ _).length ≤ 3; rw [List.length_append]; have := HDS.out.2.1.2; show X.length + 1 ≤ 3; omega⟩, HDS.out.2.2.1, fun x hx => (List.mem_append.1 hx).elim (HDS.out.2.2.2 x) (fun h1 => by rw [List.mem_singleton.1 h1]; exact ⟨by show (ByteArray.size ⟨#[120]⟩) ≤ 13; decide, by simp⟩)⟩
          obtain ⟨r0, r1, r2⟩ := I5.out.box.triV
          have XG := (I5.out.lib XR.out HGB.out (by have := HPG.out; omega) HGQ.out)
          obtain ⟨y0, y1, y2'⟩ := XG.triV
          have fy0 := XG.frozen 0
          have fy1 := XG.frozen 1
          have fy2 := XG.frozen 2
          have XF := ((XG.put 0 (.slice (some ⟨bb, 0, none⟩) L.length d1)).put 1 (.slice x2 m2 d2)).put 2 (.slice va (X.length + 1) vc)
          go_wp2
          exact bodyPost_ret (results_cell_row Try.results43 _ _ g 28 _ _ _ rfl XF Try.underlying28 rfl (by kernel_rfl)) rfl (I5.out.out HG.out HGB.out HDR.out)
        · rw [if_pos (by kernel_rfl)]
          go_simp
          obtain ⟨gy, z3, Gz3, Wz3, Bz3, Iz3, Yz3, Az3⟩ := Iz2.out.laid #[.string ⟨#[120]⟩, (.slice (some ⟨gi, 0, none⟩) 1 1), .bool false] 105
          have rqz3 : z3.cell? ⟨q, 2, none⟩ = some (.slice x3 m3 d3) := Iz3.out.box.cell 2
          have N0 : Hid (z3.cell? ((⟨gy, 0, none⟩ : Addr).add 0) = some (.string ⟨#[120]⟩)) := by rw [add_plain]; exact Yz3.out.cell 0
          have N1 : Hid (z3.cell? ((⟨gy, 0, none⟩ : Addr).add 1) = some (.slice (some ⟨gi, 0, none⟩) 1 1)) := by rw [add_plain]; exact Yz3.out.cell 1
          have N2 : Hid (z3.cell? ((⟨gy, 0, none⟩ : Addr).add 2) = some (.bool false)) := by rw [add_plain]; exact Yz3.out.cell 2
          have UY : Hid (Own z3 b (.slice (some ⟨gi, 0, none⟩) 1 1) (.l 3 1 ([kd] : List Int).length (iE [kd])) (fun x => ((.slice (some ⟨gi, 0, none⟩) 1 1) : Value).ownBlock = some x)) := own_intsE (own_box1 (Yz2.out.below Bz3.out Yz2.out.lt) Az2.out.ge) (by simp)
          rw [Wz3.out, Gz3.out]
          refine hK.out _ _ trivial (fun hHeld => ?_)
          clear hK K
          (try simp only [Act.put, List.setIfInBounds_toArray, List.set_cons_zero, List.set_cons_succ])
          refine wpAnyH_ready (rs := [1]) (by kernel_rfl) (by simp) ?_
          refine AllReadyH.cons (o := _) (by rw [List.getElem?_toArray]; exact rfl) (fun K hK => ?_) AllReadyH.nil
          rw [if_pos (by kernel_rfl)]
          go_simp
          refine hK.out _ _ trivial (fun hHeld => ?_)
          clear hK K
          (try simp only [Act.put, List.setIfInBounds_toArray, List.set_cons_zero, List.set_cons_succ])
          refine wpAnyH_ready (rs := [8]) (by kernel_rfl) (by simp) ?_
          refine AllReadyH.cons (o := _) (by rw [List.getElem?_toArray]; exact rfl) (fun K hK => ?_) AllReadyH.nil
          refine step_appIx z3 rfl _ _ rfl b (.slice x3 m3 d3) X.length (idsE X) T3 rfl Iz3.out.o3 ⟨gy, 0, none⟩ 1 rfl ⟨#[120]⟩ (.slice (some ⟨gi, 0, none⟩) 1 1) false [kd] (fun x => ((.slice (some ⟨gi, 0, none⟩) 1 1) : Value).ownBlock = some x) N0.out N1.out N2.out UY.out (fun x e => by have e1 : gi = x := Option.some.inj e; rw [← e1]; exact Az2.out.n3) rfl (by have := HDS.out.2.1.2; omega) Iz3.out.hs ?_
          intro vv z4 T' hown hT hgrow
          obtain ⟨va, vc, rfl, -⟩ := hown.slice
          have XQ : Hid (Box z4 q #[(.slice (some ⟨bb, 0, none⟩) L.length d1), (.slice x2 m2 d2), (.slice x3 m3 d3)] 28) := Iz3.out.boxG hgrow (own_inT Iz3.out.o3) Iz3.out.n3
          have I5 : Hid (ScIn w W b q p a n c L xs (X ++ [(⟨#[120]⟩, [kd], false)]) (.slice (some ⟨bb, 0, none⟩) L.length d1) (.slice x2 m2 d2) (.slice va (X.length + 1) vc) T1 T2 T' (z4.setCell ⟨q, 2, none⟩ (.slice va (X.length + 1) vc))) := Iz3.out.put3 hgrow (own_inT Iz3.out.o3) (by rw [List.length_append, idsE_app]; exact hown) (fun x hx => (hT x hx).elim .inl (fun h => .inr (h.elim (fun e => by have e1 : gi = x := Option.some.inj e; rw [← e1]; exact Az2.out) (fun h => Iz3.out.fresh (Nat.le_of_eq h.symm)))))
          have q4 := XQ.out.cell 2
          have f4 := XQ.out.frozen 2
          clear hown hT hgrow
          refine hK.out _ _ trivial (fun hHeld => ?_)
          clear hK K
          (try simp only [Act.put, List.setIfInBounds_toArray, List.set_cons_zero, List.set_cons_succ])
          refine wpAnyH_take (i := 9) (oi := _) (v := .pointer (some ⟨q, 2, none⟩)) (by rw [List.getElem?_toArray]; exact rfl) (by kernel_rfl) (by kernel_rfl) (by kernel_rfl) (by intro _ _ _ h; exact h) (Or.inl ⟨by kernel_rfl, ?y132_9⟩) hHeld ?_
          case y132_9 =>
            intro w hSw
            clear hSw
            go_simp
            (try with_reducible rfl)
          (try simp only [Act.put, List.setIfInBounds_toArray, List.set_cons_zero, List.set_cons_succ])
          refine wpAnyH_ready (rs := [10]) (by kernel_rfl) (by simp) ?_
          refine AllReadyH.cons (o := _) (by rw [List.getElem?_toArray]; exact rfl) (fun K hK => ?_) AllReadyH.nil
          rw [if_pos (by kernel_rfl)]
          go_simp
          refine hK.out _ _ trivial (fun hHeld => ?_)
          clear hK K
          (try simp only [Act.put, List.setIfInBounds_toArray, List.set_cons_zero, List.set_cons_succ])
          refine wpAnyH_done (by kernel_rfl) ?_ _
          (try simp only [Exit.then])
          obtain ⟨z5, hz5⟩ : ∃ z, z4.setCell ⟨q, 2, none⟩ (.slice va (X.length + 1) vc) = z := ⟨_, rfl⟩
          rw [hz5] at I5 ⊢
          clear hz5 q4 f4
          have HDR : Hid (ScDr 2 3 ⟨L, xs, X ++ [(⟨#[120]⟩, [kd], false)]⟩) := ⟨HDS.out.1, ⟨Nat.le_succ_of_le HDS.out.2.1.1, by show (X ++ _).length ≤ 3; rw [List.length_append]; have := HDS.out.2.1.2; show X.length + 1 ≤ 3; omega⟩, HDS.out.2.2.1, fun x hx => (List.mem_append.1 hx).elim (HDS.out.2.2.2 x) (fun h1 => by rw [List.mem_singleton.1 h1]; exact ⟨by show (ByteArray.size ⟨#[120]⟩) ≤ 13; decide, by simp⟩)⟩
          obtain ⟨r0, r1, r2⟩ := I5.out.box.triV
          have XG := (I5.out.lib XR.out HGB.out (by have := HPG.out; omega) HGQ.out)
          obtain ⟨y0, y1, y2'⟩ := XG.triV
          have fy0 := XG.frozen 0
          have fy1 := XG.frozen 1
          have fy2 := XG.frozen 2
          have XF := ((XG.put 0 (.slice (some ⟨bb, 0, none⟩) L.length d1)).put 1 (.slice x2 m2 d2)).put 2 (.slice va (X.length + 1) vc)
          go_wp2
          exact bodyPost_ret (results_cell_row Try.results43 _ _ g 28 _ _ _ rfl XF Try.underlying28 rfl (by kernel_rfl)) rfl (I5.out.out HG.out HGB.out HDR.out)
  · go_upto_region 13 with (fail)
    have HDR : Hid (ScDr 2 3 ⟨L, xs, X⟩) := ⟨HDS.out.1, ⟨Nat.le_succ_of_le HDS.out.2.1.1, Nat.le_succ_of_le HDS.out.2.1.2⟩, HDS.out.2.2⟩
    obtain ⟨r0, r1, r2⟩ := I4.out.box.triV
    have XG := (I4.out.lib XR.out HGB.out (by have := HPG.out; omega) HGQ.out)
    obtain ⟨y0, y1, y2'⟩ := XG.triV
    have fy0 := XG.frozen 0
    have fy1 := XG.frozen 1
    have fy2 := XG.frozen 2
    have XF := ((XG.put 0 (.slice (some ⟨bb, 0, none⟩) L.length d1)).put 1 (.slice x2 m2 d2)).put 2 (.slice x3 m3 d3)
    go_wp2
    exact bodyPost_ret (results_cell_row Try.results43 _ _ g 28 _ _ _ rfl XF Try.underlying28 rfl (by kernel_rfl)) rfl (I4.out.out HG.out HGB.out HDR.out)
end
end Go.Proofs.Ytmgofehafjogfaa
