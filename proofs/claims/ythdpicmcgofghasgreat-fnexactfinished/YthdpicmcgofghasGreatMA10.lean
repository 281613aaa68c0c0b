/- Texts joined: SpecCa. -/
import Derived.Test.YthdpicmcgofghasGreatMA07
/- spec.l9Call, spec.l1Bit, spec.l9Last, walked. -/
namespace Go.Proofs.YthdpicmcgofghasGreat
open Go.ChangeShapes Go.WideShapes Go.ChangeAt Go.RowKit

theorem eight_of {w : World} {b : Nat} {x0 x1 x2 x3 x4 x5 x6 x7 : Value} {T : TypeId} (h : Box w b #[x0, x1, x2, x3, x4, x5, x6, x7] T) :
    w.cell? ⟨b, 0, none⟩ = some x0 ∧ w.cell? ⟨b, 1, none⟩ = some x1 ∧ w.cell? ⟨b, 2, none⟩ = some x2 ∧ w.cell? ⟨b, 3, none⟩ = some x3 ∧ w.cell? ⟨b, 4, none⟩ = some x4 ∧ w.cell? ⟨b, 5, none⟩ = some x5 ∧ w.cell? ⟨b, 6, none⟩ = some x6 ∧ w.cell? ⟨b, 7, none⟩ = some x7 :=
  ⟨h.cell 0, h.cell 1, h.cell 2, h.cell 3, h.cell 4, h.cell 5, h.cell 6, h.cell 7⟩
theorem nine_of {w : World} {b : Nat} {x0 x1 x2 x3 x4 x5 x6 x7 x8 : Value} {T : TypeId} (h : Box w b #[x0, x1, x2, x3, x4, x5, x6, x7, x8] T) :
    w.cell? ⟨b, 0, none⟩ = some x0 ∧ w.cell? ⟨b, 1, none⟩ = some x1 ∧ w.cell? ⟨b, 2, none⟩ = some x2 ∧ w.cell? ⟨b, 3, none⟩ = some x3 ∧ w.cell? ⟨b, 4, none⟩ = some x4 ∧ w.cell? ⟨b, 5, none⟩ = some x5 ∧ w.cell? ⟨b, 6, none⟩ = some x6 ∧ w.cell? ⟨b, 7, none⟩ = some x7 ∧ w.cell? ⟨b, 8, none⟩ = some x8 :=
  ⟨h.cell 0, h.cell 1, h.cell 2, h.cell 3, h.cell 4, h.cell 5, h.cell 6, h.cell 7, h.cell 8⟩
theorem l1Bit9 (x : Bool) (w : World) : Calls Tryz.prog 53 #[.bool x] w fun e w' => e = .returned (.int .i64 (if x = true then 1 else 0)) ∧ w' = w := by
  rcases x with _ | _
  · go_enter Tryz.func53, Tryz.ntmps53
    go_wp2
    go_ret
    exact ⟨rfl, rfl⟩
  · go_enter Tryz.func53, Tryz.ntmps53
    go_wp2
    go_ret
    exact ⟨rfl, rfl⟩

set_option maxHeartbeats 8000000 in
set_option maxRecDepth 100000 in
theorem specCall_any (v0 v1 v4 v5 v6 v7 : Value) (ta : Option Addr) (nt tc : Nat) (hn : nt ≤ 2097152) (tm : Int) (c : CaD) (v : Value) (w : World) :
    Calls Tryz.prog 52 #[.agg #[v0, v1, .slice ta nt tc, .int .i64 tm, v4, v5, v6, v7], CaV c v] w fun e w' => e = .returned (.bool (CaGood nt tm c)) ∧ Below w.heap.size w w' := by
  obtain ⟨R, hR⟩ : ∃ R, CaGood nt tm c = R := ⟨_, rfl⟩
  obtain ⟨t, kd, k, vv, st, ln, en, cd⟩ := c
  rw [hR]
  have HR : Hid ((inB t 0 ((nt : Int) - 1) && (decide (OpGood kd k vv) && (inB st 0 tm && (MomGood ln st tm && MomGood en st tm)))) = R) := hR
  show Calls Tryz.prog 52 #[.agg #[v0, v1, .slice ta nt tc, .int .i64 tm, v4, v5, v6, v7], .agg #[.int .i64 t, .int .i64 kd, .int .i64 k, .int .i64 vv, .int .i64 st, .int .i64 ln, .int .i64 en, .int .i64 cd, v]] w fun e w' => e = .returned (.bool R) ∧ Below w.heap.size w w'
  obtain ⟨W, hW⟩ : ∃ W, (w.alloc (.cells #[v0, v1, .slice ta nt tc, .int .i64 tm, v4, v5, v6, v7] 43)).alloc (.cells #[.int .i64 t, .int .i64 kd, .int .i64 k, .int .i64 vv, .int .i64 st, .int .i64 ln, .int .i64 en, .int .i64 cd, v] 106) = W := ⟨_, rfl⟩
  have hb1 : Below w.heap.size w (w.alloc (.cells #[v0, v1, .slice ta nt tc, .int .i64 tm, v4, v5, v6, v7] 43)) := (Below.refl _ w).alloc (Nat.le_refl _) _
  have hb0 : Below w.heap.size w W := by rw [← hW]; exact hb1.alloc (by simp) _
  have BM : Hid (Box W w.heap.size #[v0, v1, .slice ta nt tc, .int .i64 tm, v4, v5, v6, v7] 43) := by rw [← hW]; exact (box_of w _ _).alloc _
  have BC : Hid (Box W (w.heap.size + 1) #[.int .i64 t, .int .i64 kd, .int .i64 k, .int .i64 vv, .int .i64 st, .int .i64 ln, .int .i64 en, .int .i64 cd, v] 106) := by
    rw [← hW]
    have := box_of (w.alloc (.cells #[v0, v1, .slice ta nt tc, .int .i64 tm, v4, v5, v6, v7] 43)) #[.int .i64 t, .int .i64 kd, .int .i64 k, .int .i64 vv, .int .i64 st, .int .i64 ln, .int .i64 en, .int .i64 cd, v] 106
    rwa [World.size_alloc] at this
  have HB0 : Hid (Below w.heap.size w W) := hb0
  have HW : Hid ((w.alloc (.cells #[v0, v1, .slice ta nt tc, .int .i64 tm, v4, v5, v6, v7] 43)).alloc (.cells #[.int .i64 t, .int .i64 kd, .int .i64 k, .int .i64 vv, .int .i64 st, .int .i64 ln, .int .i64 en, .int .i64 cd, v] 106) = W) := hW
  clear hb0 hb1 hW hR
  obtain ⟨z0, z1, z2, z3, z4, z5, z6, z7⟩ := eight_of BM.out
  obtain ⟨y0, y1, y2, y3, y4, y5, y6, y7, y8⟩ := nine_of BC.out
  have L0 : w.heap.size < W.heap.size := BM.out.lt
  have L1 : w.heap.size + 1 < W.heap.size := BC.out.lt
  go_enter Tryz.func52, Tryz.ntmps52
  go_wp2_with fail
  refine (l1In_g _ _ _ _).mono ?_
  rintro e w1 ⟨rfl, hw1⟩
  obtain rfl : W = w1 := by rw [hw1]; exact HW.out.symm
  clear hw1
  rcases hI0 : inB t 0 ((nt : Int) - 1) with _ | _
  · have HF : Hid (false = R) := by show _ = _; rw [← HR.out, hI0]; rfl
    clear HR
    go_wp2
    go_ret
    exact ⟨by rw [← HF.out]; rfl, HB0.out⟩
  have HI0 : Hid (inB t 0 ((nt : Int) - 1) = true) := hI0
  clear hI0
  go_wp2_with fail
  refine (specOpOk_any kd k vv _).mono ?_
  rintro e w2 ⟨rfl, hb2⟩
  have HB2 : Hid (Below w.heap.size w w2) := HB0.out.trans (hb2.mono HB0.out.size)
  have BM2 : Hid (Box w2 w.heap.size #[v0, v1, .slice ta nt tc, .int .i64 tm, v4, v5, v6, v7] 43) := BM.out.below hb2 BM.out.lt
  have BC2 : Hid (Box w2 (w.heap.size + 1) #[.int .i64 t, .int .i64 kd, .int .i64 k, .int .i64 vv, .int .i64 st, .int .i64 ln, .int .i64 en, .int .i64 cd, v] 106) := BC.out.below hb2 BC.out.lt
  clear z0 z1 z2 z3 z4 z5 z6 z7 y0 y1 y2 y3 y4 y5 y6 y7 y8 L0 L1 hb2
  obtain ⟨z0, z1, z2, z3, z4, z5, z6, z7⟩ := eight_of BM2.out
  obtain ⟨y0, y1, y2, y3, y4, y5, y6, y7, y8⟩ := nine_of BC2.out
  have L0 : w.heap.size < w2.heap.size := BM2.out.lt
  have L1 : w.heap.size + 1 < w2.heap.size := BC2.out.lt
  by_cases hop : OpGood kd k vv
  case neg =>
    rw [show decide (OpGood kd k vv) = false from decide_eq_false hop]
    have HF : Hid (false = R) := by show _ = _; rw [← HR.out, HI0.out, decide_eq_false hop]; rfl
    clear HR hop
    go_wp2
    go_ret
    exact ⟨by rw [← HF.out]; rfl, HB2.out⟩
  rw [show decide (OpGood kd k vv) = true from decide_eq_true hop]
  have HR : Hid ((inB st 0 tm && (MomGood ln st tm && MomGood en st tm)) = R) := by show _ = _; rw [← HR.out, HI0.out, decide_eq_true hop]; rfl
  clear hop
  go_wp2_with fail
  refine (l1In_g _ _ _ _).mono ?_
  rintro e w1 ⟨rfl, rfl⟩
  rcases hI1 : inB st 0 tm with _ | _
  · have HF : Hid (false = R) := by show _ = _; rw [← HR.out, hI1]; rfl
    clear HR
    go_wp2
    go_ret
    exact ⟨by rw [← HF.out]; rfl, HB2.out⟩
  have HR : Hid ((MomGood ln st tm && MomGood en st tm) = R) := by show _ = _; rw [← HR.out, hI1]; rfl
  clear hI1
  by_cases hl : ln = -1
  · have hl1 : (ln == -1) = true := by simp [hl]
    have HR : Hid (MomGood en st tm = R) := by show _ = _; rw [← HR.out]; unfold MomGood; rw [hl1]; rfl
    clear hl
    by_cases he : en = -1
    · have he1 : (en == -1) = true := by simp [he]
      have HF : Hid (true = R) := by show _ = _; rw [← HR.out]; unfold MomGood; rw [he1]; rfl
      clear HR he
      go_wp2
      go_ret
      exact ⟨by rw [← HF.out]; rfl, HB2.out⟩
    · have he1 : (en == -1) = false := by simp [he]
      have HF : Hid (inB en st tm = R) := by show _ = _; rw [← HR.out]; unfold MomGood; rw [he1]; rfl
      clear HR he
      go_wp2_with fail
      refine (l1In_g _ _ _ _).mono ?_
      rintro e w1 ⟨rfl, rfl⟩
      rw [HF.out]
      go_wp2
      go_ret
      exact ⟨rfl, HB2.out⟩
  · have hl1 : (ln == -1) = false := by simp [hl]
    have HR : Hid ((inB ln st tm && MomGood en st tm) = R) := by show _ = _; rw [← HR.out]; unfold MomGood; rw [hl1]; rfl
    clear hl
    go_wp2_with fail
    refine (l1In_g _ _ _ _).mono ?_
    rintro e w1 ⟨rfl, rfl⟩
    rcases hI2 : inB ln st tm with _ | _
    · have HF : Hid (false = R) := by show _ = _; rw [← HR.out, hI2]; rfl
      clear HR
      go_wp2
      go_ret
      exact ⟨by rw [← HF.out]; rfl, HB2.out⟩
    have HR : Hid (MomGood en st tm = R) := by show _ = _; rw [← HR.out, hI2]; rfl
    clear hI2
    by_cases he : en = -1
    · have he1 : (en == -1) = true := by simp [he]
      have HF : Hid (true = R) := by show _ = _; rw [← HR.out]; unfold MomGood; rw [he1]; rfl
      clear HR he
      go_wp2
      go_ret
      exact ⟨by rw [← HF.out]; rfl, HB2.out⟩
    · have he1 : (en == -1) = false := by simp [he]
      have HF : Hid (inB en st tm = R) := by show _ = _; rw [← HR.out]; unfold MomGood; rw [he1]; rfl
      clear HR he
      go_wp2_with fail
      refine (l1In_g _ _ _ _).mono ?_
      rintro e w1 ⟨rfl, rfl⟩
      rw [HF.out]
      go_wp2
      go_ret
      exact ⟨rfl, HB2.out⟩

set_option maxHeartbeats 4000000 in
set_option maxRecDepth 100000 in
theorem specLast_any (v0 v1 v2 v3 v5 v6 v7 : Value) (ca : Option Addr) (nc cc : Nat) (f : Nat → CaD) (t : Int) (w : World) (h : CasAt w ca nc f) :
    Calls Tryz.prog 55 #[.agg #[v0, v1, v2, v3, .slice ca nc cc, v5, v6, v7], .int .i64 t] w fun e w' => e = .returned (.int .i64 (lastN f t nc)) ∧ Below w.heap.size w w' := by
  have hn := h.1
  have H : Hid (CasAt w ca nc f) := h
  obtain ⟨R, hR⟩ : ∃ R, lastN f t nc = R := ⟨_, rfl⟩
  have HR : Hid (lastN f t nc = R) := hR
  rw [hR]
  obtain ⟨W, hW⟩ : ∃ W, w.alloc (.cells #[v0, v1, v2, v3, .slice ca nc cc, v5, v6, v7] 43) = W := ⟨_, rfl⟩
  have hb0 : Below w.heap.size w W := by rw [← hW]; exact (Below.refl _ w).alloc (Nat.le_refl _) _
  have BM : Hid (Box W w.heap.size #[v0, v1, v2, v3, .slice ca nc cc, v5, v6, v7] 43) := by rw [← hW]; exact box_of w _ _
  have HB0 : Hid (Below w.heap.size w W) := hb0
  have HW : Hid (w.alloc (.cells #[v0, v1, v2, v3, .slice ca nc cc, v5, v6, v7] 43) = W) := hW
  clear hb0 hR h hW
  obtain ⟨z0, z1, z2, z3, z4, z5, z6, z7⟩ := eight_of BM.out
  have L0 : w.heap.size < W.heap.size := BM.out.lt
  go_enter Tryz.func55, Tryz.ntmps55
  go_wp2
  rw [HW.out]
  go_loopw [5] (fun i wr => ∃ k : Nat, k ≤ nc ∧ i = .int .i64 ((k : Int) - 1) ∧ lastN f t k = R ∧ wr = W) (fun i _ => (intOf i + 1).toNat)
  case atStart => exact ⟨nc, Nat.le_refl _, rfl, HR.out, rfl⟩
  case round =>
    obtain ⟨k, hk, rfl, hr, rfl⟩ := hrel
    rcases Nat.eq_zero_or_pos k with rfl | hpos
    · have HF : Hid (-1 = R) := hr
      clear hr
      go_wp2
      go_ret
      exact ⟨by rw [← HF.out]; rfl, HB0.out⟩
    · obtain ⟨k, rfl⟩ : ∃ j, k = j + 1 := ⟨k - 1, by omega⟩
      have hke : ((k + 1 : Nat) : Int) - 1 = (k : Int) := by omega
      rw [hke]
      have hk0 : (0 : Int) ≤ (k : Int) := by omega
      have hk1 : (k : Int) < (nc : Int) := by omega
      rcases (H.out.below HB0.out (Nat.le_refl _)).2 with h0 | ⟨p1, o1, rfl, g1⟩
      · omega
      obtain ⟨ra, rn, rc, e0, e1, e2, e3, e4, e5, e6, e7, e8⟩ := g1 k (by omega)
      obtain ⟨x, hx⟩ : ∃ x, (f k).t = x := ⟨_, rfl⟩
      rw [hx] at e0
      have HX : Hid ((f k).t = x) := hx
      have HRR : Hid (lastN f t (k + 1) = R) := hr
      clear g1 hr hx hke
      by_cases hxt : x = t
      · have hxt1 : (x == t) = true := by simp [hxt]
        have HF : Hid ((k : Int) = R) := by show _ = _; rw [← HRR.out, lastN, if_pos (by rw [HX.out]; exact hxt)]
        clear HRR hxt
        go_wp2
        go_ret
        exact ⟨by rw [← HF.out]; rfl, HB0.out⟩
      · have hxt1 : (x == t) = false := by simp [hxt]
        have HF : Hid (lastN f t k = R) := by show _ = _; rw [← HRR.out]; conv => rhs; rw [lastN]; rw [if_neg (by rw [HX.out]; exact hxt)]
        clear HRR hxt
        go_wp2
        exact ⟨⟨k, by omega, rfl, HF.out, trivial⟩, by first | (simp [intOf]; done) | (simp [intOf]; omega)⟩
end Go.Proofs.YthdpicmcgofghasGreat
