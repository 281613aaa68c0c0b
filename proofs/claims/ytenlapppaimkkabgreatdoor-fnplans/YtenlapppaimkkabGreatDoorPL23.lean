/- Texts joined: DrawRight. -/
import Derived.Test.YtenlapppaimkkabGreatDoorPL21
import Derived.Test.YtenlapppaimkkabGreatDoorPL22
set_option maxHeartbeats 2000000
set_option maxRecDepth 100000
namespace Go.Proofs.YtenlapppaimkkabGreatDoor
section
open Go.ChangeShapes Go.WideShapes Go.ChangeAt Go.RowKit
def OkTo (xs : List Int) (k : Nat) : Prop := ∃ y0 y1 y2 y3 : Int, xs = [y0, y1, y2, y3] ∧ OkFour y0 y1 y2 y3 ∧ (k ≤ 0 → y0 = 0) ∧ (k ≤ 1 → y1 = 0) ∧ (k ≤ 2 → y2 = 0) ∧ (k ≤ 3 → y3 = 0)
theorem okTo_zero : OkTo [0, 0, 0, 0] 0 := ⟨0, 0, 0, 0, rfl, by unfold OkFour; omega, fun _ => rfl, fun _ => rfl, fun _ => rfl, fun _ => rfl⟩
theorem okTo_step {xs : List Int} {k : Nat} (h : OkTo xs k) : OkTo xs (k + 1) := by
  obtain ⟨y0, y1, y2, y3, e, h, h0, h1, h2, h3⟩ := h
  exact ⟨y0, y1, y2, y3, e, h, fun _ => by omega, fun _ => h1 (by omega), fun _ => h2 (by omega), fun _ => h3 (by omega)⟩
theorem KeyIs.none {xs : List Int} {n : Nat} {v r : Int} (h : KeyIs xs n v r) (hr : r < 0) : ∀ i, i < n → xs.getD i 0 ≠ v := by
  rcases h with ⟨_, h⟩ | ⟨i, _, rfl, _⟩
  · exact h
  · omega
theorem okTo_set {xs : List Int} {k x : Nat} (h : OkTo xs k) (hk : k < 4) (hx : (x : Int) < 7) (hn : ∀ i, i < 4 → xs.getD i 0 ≠ (x : Int)) : OkTo (xs.set k (x : Int)) (k + 1) := by
  obtain ⟨y0, y1, y2, y3, rfl, h, h0, h1, h2, h3⟩ := h
  have n0 := hn 0 (by omega)
  have n1 := hn 1 (by omega)
  have n2 := hn 2 (by omega)
  have n3 := hn 3 (by omega)
  simp only [List.getD_cons_zero, List.getD_cons_succ] at n0 n1 n2 n3
  unfold OkFour at h
  rcases k with _ | _ | _ | _ | k
  · refine ⟨(x : Int), y1, y2, y3, rfl, ?_, fun h => by omega, fun _ => h1 (by omega), fun _ => h2 (by omega), fun _ => h3 (by omega)⟩; unfold OkFour; omega
  · refine ⟨y0, (x : Int), y2, y3, rfl, ?_, fun h => by omega, fun h => by omega, fun _ => h2 (by omega), fun _ => h3 (by omega)⟩; unfold OkFour; omega
  · refine ⟨y0, y1, (x : Int), y3, rfl, ?_, fun h => by omega, fun h => by omega, fun h => by omega, fun _ => h3 (by omega)⟩; unfold OkFour; omega
  · refine ⟨y0, y1, y2, (x : Int), rfl, ?_, fun h => by omega, fun h => by omega, fun h => by omega, fun h => by omega⟩; unfold OkFour; omega
  · omega
theorem okTo_rows {xs : List Int} {k : Nat} {st : Int} (h : OkTo xs k) (hs : 0 ≤ st ∧ st ≤ 5) : OkRows xs st := by
  obtain ⟨y0, y1, y2, y3, rfl, h, _⟩ := h
  exact (okFour_iff y0 y1 y2 y3 st).2 ⟨hs, h⟩

theorem l3DrawRight_ok (p : Nat) (a : Option Addr) (n c : Nat) (w : World) (hC : Cur 84 w p a n c) :
    Calls Tryz.prog 18 #[.pointer (some ⟨p, 0, none⟩)] w fun e w' => ∃ (g : Nat) (xs : List Int) (st : Int), e = .returned (.agg #[.slice (some ⟨g, 0, none⟩) 4 4, .int .i64 st]) ∧ w.heap.size < g ∧ w'.ownsRow g 3 1 (.slice (some ⟨g, 0, none⟩) 4 4) 4 (xs.map I) ∧ OkRows xs st ∧ Cur 84 w' p a n c ∧ w.grownBy w' (some p) := by
  have HC : Hid (Cur 84 w p a n c) := hC
  have hpw := hC.lt
  clear hC
  go_enter Tryz.func18, Tryz.ntmps18
  go_wp2_with fail
  refine (specRowsNew_own _).mono ?_
  rintro e w1 ⟨rfl, own1, hb1⟩
  simp only [World.size_alloc] at own1 hb1
  have hs1 : w.heap.size + 1 + 1 < w1.heap.size := (own1.lt _ rfl).2
  have hbw : Below w.heap.size w w1 := ((Below.refl _ w).alloc (Nat.le_refl _) _).trans (hb1.mono (by omega))
  have S0 : DrawSt w p a n c (w.heap.size + 1 + 1) w1.heap.size (w1.alloc (.cells #[.slice (some ⟨w.heap.size + 1 + 1, 0, none⟩) 4 4, .int .i64 0] 26)) [0, 0, 0, 0] 0 :=
    ⟨cur_alloc (cur_below HC.out hbw) _, (far_below hbw _).trans (World.grownBy_alloc _ _ _), own1.alloc _, by intro x hx; simp at hx; omega, rbox_new _ _ _ _ _, ((rbox_new w none 0 0 0).far (p := p) (far_below (hb1.mono (by simp)) _) (by omega)).far (p := p) (World.grownBy_alloc _ _ _) (by omega)⟩
  obtain ⟨g, hg⟩ : ∃ g, g = w.heap.size + 1 + 1 := ⟨_, rfl⟩
  obtain ⟨b, hb⟩ : ∃ b, b = w1.heap.size := ⟨_, rfl⟩
  have HS0 : Hid (DrawSt w p a n c g b (w1.alloc (.cells #[.slice (some ⟨g, 0, none⟩) 4 4, .int .i64 0] 26)) [0, 0, 0, 0] 0) := by rw [hg, hb]; exact S0
  have hgw : w.heap.size < g := by omega
  have hgb : g < b := by omega
  clear S0 own1 hb1 hbw
  go_wp2_with fail
  rw [← hg, ← hb]
  clear hg hb hs1
  go_loopw [4] (fun i wr => ∃ (k : Nat) (xs : List Int), k ≤ 4 ∧ i = .int .i64 k ∧ DrawSt w p a n c g b wr xs 0 ∧ OkTo xs k) (fun i _ => 4 - (intOf i).toNat)
  case atStart => exact ⟨0, _, by omega, rfl, HS0.out, okTo_zero⟩
  case round =>
    obtain ⟨k, xs, hk, rfl, hS, hok⟩ := hrel
    have HO : Hid (OkTo xs k) := hok
    clear hok
    have HS : Hid (DrawSt w p a n c g b wr xs 0) := hS
    clear hS
    by_cases hlt : k < 4
    · have hk0 : (0 : Int) ≤ (k : Int) := by omega
      have hk1 : (k : Int) < 4 := by omega
      go_wp2_with fail
      refine (l1Below_any p a n c 7 (by omega) (by omega) _ HS.out.cur).mono ?_
      rintro e w2 ⟨x, hx, rfl, hC2, hO2⟩
      have hS2 := HS.out.only hpw hgw hgb hC2 hO2
      obtain ⟨b0, b1, _⟩ := hS2.box.facts
      have HS2 : Hid (DrawSt w p a n c g b w2 xs 0) := hS2
      clear hC2 hO2 hS2
      go_wp2_with fail
      refine (specKeyOf_any _ 4 4 0 x xs _ HS2.out.at).mono ?_
      rintro e w3 ⟨⟨r, rfl, hkey⟩, hb3⟩
      have HK : Hid (KeyIs xs 4 (x : Int) r ∧ (x : Int) < 7) := ⟨hkey, hx⟩
      clear hkey
      have hS3 := HS2.out.below hpw hgw hgb hb3
      clear b0 b1
      obtain ⟨b0, b1, _⟩ := hS3.box.facts
      obtain ⟨u0, hu⟩ := own_cell hS3.own hlt
      have hz := hS3.own.frozenAt k
      have HS3 : Hid (DrawSt w p a n c g b w3 xs 0) := hS3
      clear hb3 hS3
      by_cases hr : r < 0
      · go_wp2
        exact ⟨⟨k + 1, _, by omega, by go_num, HS3.out.store hpw hgw hgb k (v := (x : Int)) (by omega), okTo_set HO.out hlt HK.out.2 (HK.out.1.none hr)⟩, by simp [intOf]; omega⟩
      · go_wp2
        exact ⟨⟨k + 1, _, by omega, by go_num, HS3.out, okTo_step HO.out⟩, by simp [intOf]; omega⟩
    · obtain rfl : k = 4 := by omega
      go_wp2_with fail
      have hSa : DrawSt w p a n c g b (wr.alloc (.cells #[.int .i64 0, .int .i64 0, .int .i64 1, .int .i64 3, .int .i64 5] 3)) xs 0 := HS.out.below hpw hgw hgb ((Below.refl _ _).alloc (Nat.le_refl _) _)
      have hpr : p < wr.heap.size := HS.out.cur.lt
      refine (l1PickInt_any p a n c wr.heap.size 5 5 [0, 0, 1, 3, 5] (by omega) (by omega) _ hSa.cur (by omega) (fun i hi => by rcases i with _ | _ | _ | _ | _ | i <;> first | (simp; done) | omega)).mono ?_
      rintro e w2 ⟨x, hx, rfl, hC2, hO2⟩
      have hS2 := hSa.only hpw hgw hgb hC2 hO2
      obtain ⟨b0, b1, z0, z1, bl⟩ := hS2.box.facts
      obtain ⟨r0, r1, y0, y1, rl⟩ := hS2.res.facts
      have hst := pick5 x hx
      obtain ⟨st, hst1⟩ : ∃ st, ([0, 0, 1, 3, 5] : List Int).getD x 0 = st := ⟨_, rfl⟩
      rw [hst1] at hst
      rw [hst1]
      have HS2 : Hid (DrawSt w p a n c g b w2 xs 0) := hS2
      clear hC2 hO2 hS2 hst1 hSa
      go_wp2
      (try simp only [Exit.inBlock, Exit.then])
      have q := stored_box2 (w := w2.setCell ⟨b, 1, none⟩ (.int .i64 st)) (b := w.heap.size) (by rw [World.cell?_setCell_far _ _ _ _ (show b ≠ w.heap.size by omega)]; exact r0) (by rw [World.cell?_setCell_far _ _ _ _ (show b ≠ w.heap.size by omega)]; exact r1) (.slice (some ⟨g, 0, none⟩) 4 4) (.int .i64 st)
      refine bodyPost_ret (by simp [results, Tryz.results18, go_sem, q.1, q.2]; try rfl) rfl ?_
      exact ⟨g, xs, st, rfl, hgw, own_setCell_far (own_setCell_far (own_setCell_far HS2.out.own (by simp [Value.ownBlock]; omega) _) (by simp [Value.ownBlock]; omega) _) (by simp [Value.ownBlock]; omega) _, okTo_rows HO.out hst, cur_set (cur_set (cur_set HS2.out.cur (show p < b by omega) _) (show p < w.heap.size by omega) _) (show p < w.heap.size by omega) _, far_set (far_set (far_set HS2.out.far (show w.heap.size ≤ b by omega) _) (show w.heap.size ≤ w.heap.size by omega) _) (show w.heap.size ≤ w.heap.size by omega) _⟩

theorem l4Val_is (k : Int) (w : World) : Calls Tryz.prog 59 #[.int .i64 k] w fun e w' => e = .returned (.bool (decide (k = 1 ∨ k = 2 ∨ k = 5 ∨ k = 10))) ∧ w' = w := by
  by_cases hv : k = 1 ∨ k = 2 ∨ k = 5 ∨ k = 10
  · rw [decide_eq_true hv]
    rcases eqb k 1 with ⟨h1, g1⟩ | ⟨h1, g1⟩ <;> rcases eqb k 2 with ⟨h2, g2⟩ | ⟨h2, g2⟩ <;> rcases eqb k 5 with ⟨h5, g5⟩ | ⟨h5, g5⟩ <;> rcases eqb k 10 with ⟨h9, g9⟩ | ⟨h9, g9⟩
    all_goals first
      | (exfalso; omega)
      | (clear h1 h2 h5 h9 hv
         go_enter Tryz.func59, Tryz.ntmps59
         go_wp2
         go_ret
         exact ⟨rfl, rfl⟩)
  · rw [decide_eq_false hv]
    rcases eqb k 1 with ⟨h1, g1⟩ | ⟨h1, g1⟩ <;> rcases eqb k 2 with ⟨h2, g2⟩ | ⟨h2, g2⟩ <;> rcases eqb k 5 with ⟨h5, g5⟩ | ⟨h5, g5⟩ <;> rcases eqb k 10 with ⟨h9, g9⟩ | ⟨h9, g9⟩
    all_goals first
      | (exfalso; omega)
      | (clear h1 h2 h5 h9 hv
         go_enter Tryz.func59, Tryz.ntmps59
         go_wp2
         go_ret
         exact ⟨rfl, rfl⟩)
theorem pick14 (x : Nat) (_ : x < 14) : 1 ≤ ([1, 1, 1, 2, 2, 3, 4, 5, 6, 7, 8, 9, 9, 10] : List Int).getD x 0 ∧ ([1, 1, 1, 2, 2, 3, 4, 5, 6, 7, 8, 9, 9, 10] : List Int).getD x 0 ≤ 10 := by
  rcases x with _ | _ | _ | _ | _ | _ | _ | _ | _ | _ | _ | _ | _ | _ | x <;> first | decide | omega
theorem opGood_key {kind : Int} {x : Nat} (h : 1 ≤ kind ∧ kind ≤ 10) (hK : 1 ≤ kind ∧ kind ≤ 4) (hx : (x : Int) < 4) (hb : decide (kind = 1 ∨ kind = 2 ∨ kind = 5 ∨ kind = 10) = false) : OpGood kind (x : Int) 0 := by
  have hb := of_decide_eq_false hb
  unfold OpGood KeyGood ValGood; omega
theorem opGood_keyV {kind : Int} {x y : Nat} (h : 1 ≤ kind ∧ kind ≤ 10) (hK : 1 ≤ kind ∧ kind ≤ 4) (hx : (x : Int) < 4) (hy : (y : Int) < 4) (hb : decide (kind = 1 ∨ kind = 2 ∨ kind = 5 ∨ kind = 10) = true) : OpGood kind (x : Int) (1 + (y : Int)) := by
  have hb := of_decide_eq_true hb
  unfold OpGood KeyGood ValGood; omega
theorem opGood_cnt {kind : Int} {x : Nat} (h : kind = 6) (hx : (x : Int) < 3) (hb : decide (kind = 1 ∨ kind = 2 ∨ kind = 5 ∨ kind = 10) = false) : OpGood kind (x : Int) 0 := by
  have hb := of_decide_eq_false hb
  unfold OpGood KeyGood ValGood; omega
theorem opGood_no {kind : Int} (h : 1 ≤ kind ∧ kind ≤ 10) (hb : decide (kind = 1 ∨ kind = 2 ∨ kind = 5 ∨ kind = 10) = false) : OpGood kind 0 0 := by
  have hb := of_decide_eq_false hb
  unfold OpGood KeyGood ValGood; omega
theorem opGood_val {kind : Int} {y : Nat} (h : 1 ≤ kind ∧ kind ≤ 10) (hy : (y : Int) < 4) (hb : decide (kind = 1 ∨ kind = 2 ∨ kind = 5 ∨ kind = 10) = true) : OpGood kind 0 (1 + (y : Int)) := by
  have hb := of_decide_eq_true hb
  unfold OpGood KeyGood ValGood; omega

theorem l4DrawRight_ok (p : Nat) (a : Option Addr) (n c : Nat) (w : World) (hC : Cur 84 w p a n c) :
    Calls Tryz.prog 19 #[.pointer (some ⟨p, 0, none⟩)] w fun e w' => ∃ kind k v : Int, e = .returned (OpV kind k v) ∧ OpGood kind k v ∧ Cur 84 w' p a n c ∧ w.grownBy w' (some p) := by
  have HC : Hid (Cur 84 w p a n c) := hC
  have hpw := hC.lt
  clear hC
  go_enter Tryz.func19, Tryz.ntmps19
  go_wp2_with fail
  refine (l1PickInt_any p a n c (w.heap.size + 1) 14 14 [1, 1, 1, 2, 2, 3, 4, 5, 6, 7, 8, 9, 9, 10] (by omega) (by omega) _ (cur_alloc (cur_alloc HC.out _) _) (by omega) (by intro i hi; exact list_at _ [1, 1, 1, 2, 2, 3, 4, 5, 6, 7, 8, 9, 9, 10] _ (by simp) rfl i hi)).mono ?_
  rintro e w1 ⟨x, hx, rfl, hC1, hO1⟩
  obtain ⟨kind, hk1⟩ : ∃ kind, ([1, 1, 1, 2, 2, 3, 4, 5, 6, 7, 8, 9, 9, 10] : List Int).getD x 0 = kind := ⟨_, rfl⟩
  rw [hk1]
  have hsz : w1.heap.size = w.heap.size + 1 + 1 := by rw [hO1.size]; simp
  have S0 : OpSt w p a n c w1.heap.size (w1.alloc (.cells #[.int .i64 kind, .int .i64 0, .int .i64 0] 28)) kind 0 0 :=
    ⟨cur_alloc hC1 _, (((World.grownBy_alloc w _ _).trans (World.grownBy_alloc _ _ _)).trans (far_only hO1)).trans (World.grownBy_alloc _ _ _), obox_new _ _ _ _, (((obox_new w 0 0 0).far (p := p) (World.grownBy_alloc _ _ _) (by omega)).far (far_only hO1) (by omega)).far (p := p) (World.grownBy_alloc _ _ _) (by omega)⟩
  obtain ⟨b, hb⟩ : ∃ b, b = w.heap.size + 1 + 1 := ⟨_, rfl⟩
  obtain ⟨w2, hw2⟩ : ∃ w2, w2 = w1.alloc (.cells #[.int .i64 kind, .int .i64 0, .int .i64 0] 28) := ⟨_, rfl⟩
  rw [← hw2, hsz, ← hb] at S0
  have HS : Hid (OpSt w p a n c b w2 kind 0 0) := S0
  have hbw : w.heap.size < b := by omega
  have HKD : Hid (1 ≤ kind ∧ kind ≤ 10) := by rw [← hk1]; exact pick14 x hx
  clear S0 hC1 hO1 hk1 hx
  obtain ⟨b0, b1, b2, z0, z1, z2, bl⟩ := HS.out.box.facts
  obtain ⟨r0, r1, r2, y0, y1, y2, rl⟩ := HS.out.res.facts
  go_wp2_with fail
  rw [← hw2, ← hb]
  clear hw2 hb
  refine (l4Key_any kind _).mono ?_
  rintro e w3 ⟨rfl, rfl⟩
  by_cases hK : 1 ≤ kind ∧ kind ≤ 4
  · rw [show decide (1 ≤ kind ∧ kind ≤ 4) = true from decide_eq_true hK]
    have h6 : (kind == 6) = false := by simp; omega
    go_wp2_with fail
    refine (l1Below_any p a n c 4 (by omega) (by omega) _ HS.out.cur).mono ?_
    rintro e w4 ⟨x4, hx4, rfl, hC4, hO4⟩
    have hS4 := HS.out.only hpw hbw hC4 hO4
    clear b0 b1 b2 z0 z1 z2 bl r0 r1 r2 y0 y1 y2 rl
    obtain ⟨b0, b1, b2, z0, z1, z2, bl⟩ := hS4.box.facts
    obtain ⟨r0, r1, r2, y0, y1, y2, rl⟩ := hS4.res.facts
    have HS4 : Hid (OpSt w p a n c b w4 kind 0 0) := hS4
    clear hS4 hC4 hO4
    go_wp2_with fail
    refine (l4Val_is kind _).mono ?_
    rintro e w8 ⟨rfl, rfl⟩
    obtain ⟨bv, hbv⟩ : ∃ b, decide (kind = 1 ∨ kind = 2 ∨ kind = 5 ∨ kind = 10) = b := ⟨_, rfl⟩
    rw [hbv]
    have HBV : Hid (decide (kind = 1 ∨ kind = 2 ∨ kind = 5 ∨ kind = 10) = bv) := hbv
    clear hbv
    cases bv
    · go_wp2
      have E := (HS4.out.put1 hpw hbw (x4 : Int)).fin hpw kind (x4 : Int) 0
      obtain ⟨q0, q1, q2, _⟩ := E.1.facts
      (try simp only [Exit.inBlock, Exit.then])
      refine bodyPost_ret (by simp [results, Tryz.results19, go_sem, q0, q1, q2]; try rfl) rfl ?_
      exact ⟨_, _, _, rfl, opGood_key HKD.out hK (x := x4) hx4 HBV.out, E.2.1, E.2.2⟩
    · go_wp2_with fail
      refine (l1Below_any p a n c 4 (by omega) (by omega) _ (HS4.out.put1 hpw hbw (x4 : Int)).cur).mono ?_
      rintro e w9 ⟨y, hy, rfl, hC9, hO9⟩
      have hS9 := (HS4.out.put1 hpw hbw (x4 : Int)).only hpw hbw hC9 hO9
      clear b0 b1 b2 z0 z1 z2 bl r0 r1 r2 y0 y1 y2 rl
      obtain ⟨b0, b1, b2, z0, z1, z2, bl⟩ := hS9.box.facts
      obtain ⟨r0, r1, r2, y0, y1, y2, rl⟩ := hS9.res.facts
      have HS9 : Hid (OpSt w p a n c b w9 kind (x4 : Int) 0) := hS9
      clear hS9 hC9 hO9
      go_wp2
      have E := (HS9.out.put2 hpw hbw (1 + (y : Int))).fin hpw kind (x4 : Int) (1 + (y : Int))
      obtain ⟨q0, q1, q2, _⟩ := E.1.facts
      (try simp only [Exit.inBlock, Exit.then])
      refine bodyPost_ret (by simp [results, Tryz.results19, go_sem, q0, q1, q2]; try rfl) rfl ?_
      exact ⟨_, _, _, rfl, opGood_keyV HKD.out hK hx4 hy HBV.out, E.2.1, E.2.2⟩
  · rw [show decide (1 ≤ kind ∧ kind ≤ 4) = false from decide_eq_false hK]
    rcases eqb kind 6 with ⟨h6, h6'⟩ | ⟨h6, h6'⟩
    · have H6 : Hid (kind = 6) := h6
      clear h6
      go_wp2_with fail
      refine (l1Below_any p a n c 3 (by omega) (by omega) _ HS.out.cur).mono ?_
      rintro e w4 ⟨x4, hx4, rfl, hC4, hO4⟩
      have hS4 := HS.out.only hpw hbw hC4 hO4
      clear b0 b1 b2 z0 z1 z2 bl r0 r1 r2 y0 y1 y2 rl
      obtain ⟨b0, b1, b2, z0, z1, z2, bl⟩ := hS4.box.facts
      obtain ⟨r0, r1, r2, y0, y1, y2, rl⟩ := hS4.res.facts
      have HS4 : Hid (OpSt w p a n c b w4 kind 0 0) := hS4
      clear hS4 hC4 hO4
      go_wp2_with fail
      refine (l4Val_is kind _).mono ?_
      rintro e w8 ⟨rfl, rfl⟩
      obtain ⟨bv, hbv⟩ : ∃ b, decide (kind = 1 ∨ kind = 2 ∨ kind = 5 ∨ kind = 10) = b := ⟨_, rfl⟩
      rw [hbv]
      have HBV : Hid (decide (kind = 1 ∨ kind = 2 ∨ kind = 5 ∨ kind = 10) = bv) := hbv
      clear hbv
      cases bv
      · go_wp2
        have E := (HS4.out.put1 hpw hbw (x4 : Int)).fin hpw kind (x4 : Int) 0
        obtain ⟨q0, q1, q2, _⟩ := E.1.facts
        (try simp only [Exit.inBlock, Exit.then])
        refine bodyPost_ret (by simp [results, Tryz.results19, go_sem, q0, q1, q2]; try rfl) rfl ?_
        exact ⟨_, _, _, rfl, opGood_cnt H6.out hx4 HBV.out, E.2.1, E.2.2⟩
      · go_wp2_with fail
        refine (l1Below_any p a n c 4 (by omega) (by omega) _ (HS4.out.put1 hpw hbw (x4 : Int)).cur).mono ?_
        rintro e w9 ⟨y, hy, rfl, hC9, hO9⟩
        have hS9 := (HS4.out.put1 hpw hbw (x4 : Int)).only hpw hbw hC9 hO9
        clear b0 b1 b2 z0 z1 z2 bl r0 r1 r2 y0 y1 y2 rl
        obtain ⟨b0, b1, b2, z0, z1, z2, bl⟩ := hS9.box.facts
        obtain ⟨r0, r1, r2, y0, y1, y2, rl⟩ := hS9.res.facts
        have HS9 : Hid (OpSt w p a n c b w9 kind (x4 : Int) 0) := hS9
        clear hS9 hC9 hO9
        go_wp2
        have E := (HS9.out.put2 hpw hbw (1 + (y : Int))).fin hpw kind (x4 : Int) (1 + (y : Int))
        obtain ⟨q0, q1, q2, _⟩ := E.1.facts
        (try simp only [Exit.inBlock, Exit.then])
        refine bodyPost_ret (by simp [results, Tryz.results19, go_sem, q0, q1, q2]; try rfl) rfl ?_
        exact absurd HBV.out (by rw [H6.out]; decide)
    · have H6 : Hid (¬ kind = 6) := h6
      clear h6
      go_wp2_with fail
      refine (l4Val_is kind _).mono ?_
      rintro e w8 ⟨rfl, rfl⟩
      obtain ⟨bv, hbv⟩ : ∃ b, decide (kind = 1 ∨ kind = 2 ∨ kind = 5 ∨ kind = 10) = b := ⟨_, rfl⟩
      rw [hbv]
      have HBV : Hid (decide (kind = 1 ∨ kind = 2 ∨ kind = 5 ∨ kind = 10) = bv) := hbv
      clear hbv
      cases bv
      · go_wp2
        have E := HS.out.fin hpw kind 0 0
        obtain ⟨q0, q1, q2, _⟩ := E.1.facts
        (try simp only [Exit.inBlock, Exit.then])
        refine bodyPost_ret (by simp [results, Tryz.results19, go_sem, q0, q1, q2]; try rfl) rfl ?_
        exact ⟨_, _, _, rfl, opGood_no HKD.out HBV.out, E.2.1, E.2.2⟩
      · go_wp2_with fail
        refine (l1Below_any p a n c 4 (by omega) (by omega) _ HS.out.cur).mono ?_
        rintro e w9 ⟨y, hy, rfl, hC9, hO9⟩
        have hS9 := HS.out.only hpw hbw hC9 hO9
        clear b0 b1 b2 z0 z1 z2 bl r0 r1 r2 y0 y1 y2 rl
        obtain ⟨b0, b1, b2, z0, z1, z2, bl⟩ := hS9.box.facts
        obtain ⟨r0, r1, r2, y0, y1, y2, rl⟩ := hS9.res.facts
        have HS9 : Hid (OpSt w p a n c b w9 kind 0 0) := hS9
        clear hS9 hC9 hO9
        go_wp2
        have E := (HS9.out.put2 hpw hbw (1 + (y : Int))).fin hpw kind 0 (1 + (y : Int))
        obtain ⟨q0, q1, q2, _⟩ := E.1.facts
        (try simp only [Exit.inBlock, Exit.then])
        refine bodyPost_ret (by simp [results, Tryz.results19, go_sem, q0, q1, q2]; try rfl) rfl ?_
        exact ⟨_, _, _, rfl, opGood_val HKD.out hy HBV.out, E.2.1, E.2.2⟩
end
end Go.Proofs.YtenlapppaimkkabGreatDoor
