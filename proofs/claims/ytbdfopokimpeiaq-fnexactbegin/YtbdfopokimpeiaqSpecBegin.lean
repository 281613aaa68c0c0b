/- spec.Begin, walked (of lists that are there). -/
import Derived.Test.YtbdfopokimpeiaqImplBegin
import Derived.Test.YtbdfopokimpeiaqCopyM
namespace Go.Proofs.Ytbdfopokimpeiaq
open Go.ChangeShapes Go.WideShapes Go.ChangeAt Go.RowKit Go.Joins

theorem BegSt.far {w0 W : World} {b0 : Nat} {mv sv : Array Value} {bb : Nat} {F : Nat → Value} {m : Nat} {fs : List Int} {n : Nat} {ds : List DK} {wr w' : World} (h : BegSt w0 W b0 mv sv bb F m fs n ds wr) (hb : Below W.heap.size W w') (he : ∀ b, (b = bb ∨ ∃ a, a < 2 + 2 * n ∧ (F a).ownBlock = some b) → w'.heap[b]? = wr.heap[b]?) : BegSt w0 W b0 mv sv bb F m fs n ds w' :=
  ⟨hb, (he bb (.inl rfl)).trans h.box, h.bbW, h.own.heap fun a ha k hk => he k (.inr ⟨a, ha, hk⟩), h.nbb, h.m0, h.s0, h.r0, h.h0, h.sz, h.w0⟩
noncomputable def sbegL : List Oper := match Try.f36.body with
  | some (.seq _ (.seq _ (.seq _ (.seq _ (.seq _ (.seq (.region _ ops _) _)))))) => ops.toList
  | _ => []
set_option maxHeartbeats 8000000 in
set_option maxRecDepth 100000 in
theorem specBegin_any (wa : Addr) (m wc : Nat) (fs : List Int) (da : Option Addr) (n dc : Nat) (ds : List DK) (t : Int) (la : Addr) (en lc : Nat) (es : List Int) (cd : Int) (ra : Addr) (rn rc : Nat) (rs : List Int) (w : World) (h1 : TripAt w (some wa) m fs) (h2 : DescAt w da n ds) (h4 : SomeAt w da n ds) (hs : Small n ds) (h5 : TripAt w (some la) en es) (h6 : IntAt w (some ra) rn rs) (hrn' : rn ≤ 1048576) :
    Calls Try.prog 36 #[MemV (some wa) m wc da n dc, .int .i64 t, .slice (some la) en lc, ResV cd (some ra) rn rc] w fun e w' => (∃ F ds' hT hS ok, e = .returned (.tuple #[MemF F, .agg #[.int .i64 hT, .int .i64 hS, .int .i64 0, .int .i64 0], .bool ok]) ∧ BeginSays fs m ds t en es cd rn rs ds' hT hS ok ∧ MemO w' w.heap.size F m fs n ds') ∧ Below w.heap.size w w' := by
  obtain ⟨i0, hi0, hz0, hz1, hz2⟩ := info_parts infoEntry
  have hm := h1.2.1
  have hn := h2.2.1
  have hen := h5.2.1
  have HL : Hid (ds.length = n) := h2.1
  obtain ⟨W, hW⟩ : ∃ W, ((((w.alloc (.cells #[.slice (some wa) m wc, .slice da n dc] 46)).alloc (.cells #[.int .i64 cd, .slice (some ra) rn rc] 68)).alloc (.cells #[.slice none 0 0, .slice none 0 0] 46)).alloc (.cells #[.int .i64 0, .int .i64 0, .int .i64 0, .int .i64 0] 52)) = W := ⟨_, rfl⟩
  have hb0 : Below w.heap.size w W := by rw [← hW]; exact ((((Below.refl _ w).alloc (Nat.le_refl _) _).alloc (by simp) _).alloc (by simp; omega) _).alloc (by simp; omega) _
  have hsz : W.heap.size = w.heap.size + 4 := by rw [← hW]; simp
  have M0 : Box W w.heap.size #[.slice (some wa) m wc, .slice da n dc] 46 := by rw [← hW]; exact (((box_of w _ _).alloc _).alloc _).alloc _
  have S0 : Box W (w.heap.size + 1) #[.int .i64 cd, .slice (some ra) rn rc] 68 := by
    have := ((box_of (w.alloc (.cells #[.slice (some wa) m wc, .slice da n dc] 46)) #[.int .i64 cd, .slice (some ra) rn rc] 68).alloc (.cells #[.slice none 0 0, .slice none 0 0] 46)).alloc (.cells #[.int .i64 0, .int .i64 0, .int .i64 0, .int .i64 0] 52)
    rw [hW] at this
    simpa using this
  have R0 : Box W (w.heap.size + 2) #[.slice none 0 0, .slice none 0 0] 46 := by
    have := (box_of ((w.alloc (.cells #[.slice (some wa) m wc, .slice da n dc] 46)).alloc (.cells #[.int .i64 cd, .slice (some ra) rn rc] 68)) #[.slice none 0 0, .slice none 0 0] 46).alloc (.cells #[.int .i64 0, .int .i64 0, .int .i64 0, .int .i64 0] 52)
    rw [hW] at this
    simpa using this
  have Q0 : Box W (w.heap.size + 3) #[.int .i64 0, .int .i64 0, .int .i64 0, .int .i64 0] 52 := by
    have := box_of (((w.alloc (.cells #[.slice (some wa) m wc, .slice da n dc] 46)).alloc (.cells #[.int .i64 cd, .slice (some ra) rn rc] 68)).alloc (.cells #[.slice none 0 0, .slice none 0 0] 46)) #[.int .i64 0, .int .i64 0, .int .i64 0, .int .i64 0] 52
    rw [hW] at this
    simpa using this
  have H1 : Hid (TripAt W (some wa) m fs) := h1.below hb0 (Nat.le_refl _)
  have H2 : Hid (DescAt W da n ds) := h2.below hb0 (Nat.le_refl _)
  have H4 : Hid (SomeAt W da n ds) := h4.below hb0 (Nat.le_refl _)
  have H5 : Hid (TripAt W (some la) en es) := h5.below hb0 (Nat.le_refl _)
  have H6 : Hid (IntAt W (some ra) rn rs) := h6.below hb0 (Nat.le_refl _)
  have HS : Hid (Small n ds) := hs
  have ALLB : Hid ((Box W w.heap.size #[.slice (some wa) m wc, .slice da n dc] 46 ∧ Box W (w.heap.size + 1) #[.int .i64 cd, .slice (some ra) rn rc] 68) ∧ (Box W (w.heap.size + 2) #[.slice none 0 0, .slice none 0 0] 46 ∧ Box W (w.heap.size + 3) #[.int .i64 0, .int .i64 0, .int .i64 0, .int .i64 0] 52) ∧ W.heap.size = w.heap.size + 4 ∧ Below w.heap.size w W) := ⟨⟨M0, S0⟩, ⟨R0, Q0⟩, hsz, hb0⟩
  have HW : Hid (((((w.alloc (.cells #[.slice (some wa) m wc, .slice da n dc] 46)).alloc (.cells #[.int .i64 cd, .slice (some ra) rn rc] 68)).alloc (.cells #[.slice none 0 0, .slice none 0 0] 46)).alloc (.cells #[.int .i64 0, .int .i64 0, .int .i64 0, .int .i64 0] 52)) = W) := hW
  clear h1 h2 h4 h5 h6 hs hW hb0 hsz M0 S0 R0 Q0
  go_enter Try.func36, Try.ntmps36
  go_wp2_with fail
  rw [HW.out]
  refine (l7Copy_o wa m wc fs da n dc ds _ (H1.out.below (Below.refl W.heap.size W) (Nat.le_refl _)) (H2.out.below (Below.refl W.heap.size W) (Nat.le_refl _)) (H4.out.below (Below.refl W.heap.size W) (Nat.le_refl _)) HS.out).mono ?_
  rintro e w1 ⟨F, rfl, mo, hbc⟩
  obtain ⟨ga, gc, e0, _⟩ := owns_slice mo.words
  obtain ⟨gvs, gd, _⟩ := mo.descO.descs
  obtain ⟨ha, hc, e1, _⟩ := owns_slice gd
  have HF0 : Hid (F 0 = .slice ga m gc) := e0
  have HF1 : Hid (F 1 = .slice ha n hc) := e1
  rw [show MemF F = MemV ga m gc ha n hc by rw [MemF, e0, e1]]
  obtain ⟨W1, hW1⟩ : ∃ W1, w1.alloc (.cells #[.slice ga m gc, .slice ha n hc] 46) = W1 := ⟨_, rfl⟩
  have hx : Below w1.heap.size w1 W1 := by rw [← hW1]; exact (Below.refl _ _).alloc (Nat.le_refl _) _
  have hbn : Below W.heap.size W w1 := (Below.refl W.heap.size W).trans (hbc.mono (Below.refl W.heap.size W).size)
  have ST1 : Hid (BegSt w W w.heap.size #[.slice (some wa) m wc, .slice da n dc] #[.int .i64 cd, .slice (some ra) rn rc] w1.heap.size F m fs n ds W1) := by
    refine ⟨hbn.trans (hx.mono hbn.size), ?_, hbn.size, (mo.weaken (Below.refl W.heap.size W).size).below hx (Nat.le_refl _), fun a ha e => by have := (mo.blk a ha _ e).2; omega, ALLB.out.1.1, ALLB.out.1.2, ALLB.out.2.1.1, ALLB.out.2.1.2, ALLB.out.2.2.1, rfl, ALLB.out.2.2.2⟩
    rw [e0, e1, ← hW1]
    exact box_of w1 _ _
  have HW1 : Hid (w1.alloc (.cells #[.slice ga m gc, .slice ha n hc] 46) = W1) := hW1
  obtain ⟨bb, hbb⟩ : ∃ b, w1.heap.size = b := ⟨_, rfl⟩
  have Hbb : Hid (w1.heap.size = bb) := hbb
  rw [hbb] at ST1
  obtain ⟨x0, x1, _, _⟩ := (ALLB.out.1.1.below hbn ALLB.out.1.1.lt).two
  have l1 := (ALLB.out.1.1.below hbn ALLB.out.1.1.lt).lt
  clear mo gd e0 e1 hW1 hx hbb hbc hbn
  go_wp2_with fail
  rw [HW1.out]
  (try rw [Hbb.out])
  refine (specMemOk_any (some wa) m wc fs da n dc ds _ (H1.out.below ST1.out.bel (Nat.le_refl _)) (H2.out.below ST1.out.bel (Nat.le_refl _))).mono ?_
  rintro e w2 ⟨ok1, ⟨rfl, hok1⟩, hb2⟩
  have ST2 : Hid (BegSt w W w.heap.size #[.slice (some wa) m wc, .slice da n dc] #[.int .i64 cd, .slice (some ra) rn rc] bb F m fs n ds w2) := ST1.out.on hb2
  clear hb2 x0 x1 l1 ST1 HW1
  rcases ok1 with _ | _
  · have HNO : Hid (¬ BeginGood fs m ds t en es cd rn rs) := fun h => by have := hok1.2 h.1; cases this
    clear hok1
    have bx2 := ST2.out.box
    rw [HF0.out, HF1.out] at bx2
    obtain ⟨p0, p1, _, _⟩ := bx2.two
    obtain ⟨r0, r1, zr0, zr1⟩ := (ST2.out.r0.below ST2.out.bel (by have := ST2.out.sz; omega)).two
    obtain ⟨⟨hq0, hq1, hq2, hq3⟩, zq0, zq1, zq2, zq3⟩ := (ST2.out.h0.below ST2.out.bel (by have := ST2.out.sz; omega)).four
    obtain ⟨x0, x1, _, _⟩ := (ST2.out.m0.below ST2.out.bel (by have := ST2.out.sz; omega)).two
    obtain ⟨oMem, oBel, oR, oH⟩ := ST2.out.out (.slice ga m gc) (.slice ha n hc) (.int .i64 0) (.int .i64 0) (.int .i64 0) (.int .i64 0)
    obtain ⟨e0, e1, _, _⟩ := oR.two
    obtain ⟨⟨g0, g1, g2, g3⟩, _⟩ := oH.four
    have OM : Hid _ := oMem
    have OB : Hid _ := oBel
    clear oMem oBel oR oH
    go_wp2
    (try simp only [Exit.inBlock, Exit.then])
    refine bodyPost_ret (by simp [results, Try.results36, go_sem, e0, e1, g0, g1, g2, g3]; try rfl) rfl ?_
    exact ⟨⟨F, ds, 0, 0, false, by rw [MemF, HF0.out, HF1.out], .inr ⟨rfl, HNO.out, rfl, rfl, rfl⟩, OM.out⟩, OB.out⟩
  have HG : Hid (MemGood fs m ds) := hok1.1 rfl
  clear hok1
  have bx2 := ST2.out.box
  rw [HF0.out, HF1.out] at bx2
  obtain ⟨p0, p1, _, _⟩ := bx2.two
  obtain ⟨r0, r1, zr0, zr1⟩ := (ST2.out.r0.below ST2.out.bel (by have := ST2.out.sz; omega)).two
  obtain ⟨⟨hq0, hq1, hq2, hq3⟩, zq0, zq1, zq2, zq3⟩ := (ST2.out.h0.below ST2.out.bel (by have := ST2.out.sz; omega)).four
  obtain ⟨x0, x1, _, _⟩ := (ST2.out.m0.below ST2.out.bel (by have := ST2.out.sz; omega)).two
  have hn1 : 1 ≤ n ∧ n ≤ 4 := by have := HG.out.2.1; rw [HL.out] at this; exact this
  have wsub : IntKind.i64.wrap ((n : Int) - 1) = (n : Int) - 1 := by rw [IntKind.wrap_i64]; omega
  rcases hI : inB t 0 ((n : Int) - 1) with _ | _
  · have HIN : Hid (inB t 0 ((n : Int) - 1) = false) := hI
    have HNO : Hid (¬ BeginGood fs m ds t en es cd rn rs) := fun h => by have h2 := h.2.1; rw [HL.out] at h2; rw [inB_yes (by omega)] at hI; cases hI
    clear hI
    go_wp2_with fail
    refine (l1In_g t 0 _ _).mono ?_
    rintro e w3 ⟨rfl, hw3⟩
    obtain rfl : w2 = w3 := hw3.symm
    clear hw3
    rw [HIN.out]
    obtain ⟨oMem, oBel, oR, oH⟩ := ST2.out.out (.slice ga m gc) (.slice ha n hc) (.int .i64 0) (.int .i64 0) (.int .i64 0) (.int .i64 0)
    obtain ⟨e0, e1, _, _⟩ := oR.two
    obtain ⟨⟨g0, g1, g2, g3⟩, _⟩ := oH.four
    have OM : Hid _ := oMem
    have OB : Hid _ := oBel
    clear oMem oBel oR oH
    go_wp2
    (try simp only [Exit.inBlock, Exit.then])
    refine bodyPost_ret (by simp [results, Try.results36, go_sem, e0, e1, g0, g1, g2, g3]; try rfl) rfl ?_
    exact ⟨⟨F, ds, 0, 0, false, by rw [MemF, HF0.out, HF1.out], .inr ⟨rfl, HNO.out, rfl, rfl, rfl⟩, OM.out⟩, OB.out⟩
  have hv := inB_val hI
  have HIN : Hid (inB t 0 ((n : Int) - 1) = true) := hI
  obtain ⟨tn, rfl⟩ : ∃ tn : Nat, t = (tn : Int) := ⟨t.toNat, by omega⟩
  have htn : tn < n := by omega
  clear hI
  go_wp2_with fail
  refine (l1In_g _ 0 _ _).mono ?_
  rintro e w3 ⟨rfl, hw3⟩
  obtain rfl : w2 = w3 := hw3.symm
  clear hw3
  rw [HIN.out]
  go_wp2_with fail
  refine (l7Marks_any (some wa) m wc fs da n dc (tn : Int) _ (H1.out.below ST2.out.bel (Nat.le_refl _)) (by omega)).mono ?_
  rintro e w3 ⟨ok2, ⟨rfl, hok3⟩, hb3⟩
  have ST3 : Hid (BegSt w W w.heap.size #[.slice (some wa) m wc, .slice da n dc] #[.int .i64 cd, .slice (some ra) rn rc] bb F m fs n ds w3) := ST2.out.on hb3
  clear hb3 ST2
  clear p0 p1 r0 r1 zr0 zr1 hq0 hq1 hq2 hq3 zq0 zq1 zq2 zq3 x0 x1 bx2
  have bx3 := ST3.out.box
  rw [HF0.out, HF1.out] at bx3
  obtain ⟨p0, p1, _, _⟩ := bx3.two
  obtain ⟨r0, r1, zr0, zr1⟩ := (ST3.out.r0.below ST3.out.bel (by have := ST3.out.sz; omega)).two
  obtain ⟨⟨hq0, hq1, hq2, hq3⟩, zq0, zq1, zq2, zq3⟩ := (ST3.out.h0.below ST3.out.bel (by have := ST3.out.sz; omega)).four
  obtain ⟨x0, x1, _, _⟩ := (ST3.out.m0.below ST3.out.bel (by have := ST3.out.sz; omega)).two
  rcases ok2 with _ | _
  case true =>
    have HNO : Hid (¬ BeginGood fs m ds (tn : Int) en es cd rn rs) := fun h => h.2.2.1 (hok3.1 rfl)
    clear hok3
    obtain ⟨oMem, oBel, oR, oH⟩ := ST3.out.out (.slice ga m gc) (.slice ha n hc) (.int .i64 0) (.int .i64 0) (.int .i64 0) (.int .i64 0)
    obtain ⟨e0, e1, _, _⟩ := oR.two
    obtain ⟨⟨g0, g1, g2, g3⟩, _⟩ := oH.four
    have OM : Hid _ := oMem
    have OB : Hid _ := oBel
    clear oMem oBel oR oH
    go_wp2
    (try simp only [Exit.inBlock, Exit.then])
    refine bodyPost_ret (by simp [results, Try.results36, go_sem, e0, e1, g0, g1, g2, g3]; try rfl) rfl ?_
    exact ⟨⟨F, ds, 0, 0, false, by rw [MemF, HF0.out, HF1.out], .inr ⟨rfl, HNO.out, rfl, rfl, rfl⟩, OM.out⟩, OB.out⟩
  have HNM : Hid (¬ Marked fs m (tn : Int)) := fun h => by have := hok3.2 h; cases this
  clear hok3
  go_wp2_with fail
  refine (l7Copy_o wa m wc fs da n dc ds _ (H1.out.below (ST3.out.bel) (Nat.le_refl _)) (H2.out.below (ST3.out.bel) (Nat.le_refl _)) (H4.out.below (ST3.out.bel) (Nat.le_refl _)) HS.out).mono ?_
  rintro e w4 ⟨G, rfl, mo, hbc⟩
  obtain ⟨ka, kc, e0, _⟩ := owns_slice mo.words
  obtain ⟨gvs, gd, _⟩ := mo.descO.descs
  obtain ⟨la2, lc2, e1, _⟩ := owns_slice gd
  have HG0 : Hid (G 0 = .slice ka m kc) := e0
  have HG1 : Hid (G 1 = .slice la2 n lc2) := e1
  rw [show MemF G = MemV ka m kc la2 n lc2 by rw [MemF, e0, e1]]
  obtain ⟨W4, hW4⟩ : ∃ W4, w4.alloc (.cells #[.slice ka m kc, .slice la2 n lc2] 46) = W4 := ⟨_, rfl⟩
  have hx : Below w4.heap.size w4 W4 := by rw [← hW4]; exact (Below.refl _ _).alloc (Nat.le_refl _) _
  have hbn : Below W.heap.size W w4 := (ST3.out.bel).trans (hbc.mono (ST3.out.bel).size)
  have SO4 : Hid (BegSt w W w.heap.size #[.slice (some wa) m wc, .slice da n dc] #[.int .i64 cd, .slice (some ra) rn rc] w4.heap.size G m fs n ds W4) := by
    refine ⟨hbn.trans (hx.mono hbn.size), ?_, hbn.size, (mo.weaken (ST3.out.bel).size).below hx (Nat.le_refl _), fun a ha e => by have := (mo.blk a ha _ e).2; omega, ALLB.out.1.1, ALLB.out.1.2, ALLB.out.2.1.1, ALLB.out.2.1.2, ALLB.out.2.2.1, rfl, ALLB.out.2.2.2⟩
    rw [e0, e1, ← hW4]
    exact box_of w4 _ _
  have HW4 : Hid (w4.alloc (.cells #[.slice ka m kc, .slice la2 n lc2] 46) = W4) := hW4
  obtain ⟨bo, hbo⟩ : ∃ b, w4.heap.size = b := ⟨_, rfl⟩
  have Hbo : Hid (w4.heap.size = bo) := hbo
  rw [hbo] at SO4
  have ST4 : Hid (BegSt w W w.heap.size #[.slice (some wa) m wc, .slice da n dc] #[.int .i64 cd, .slice (some ra) rn rc] bb F m fs n ds W4) := ST3.out.on (hbc.trans (hx.mono hbc.size))
  have APG : Hid (∀ a, a < 2 + 2 * n → ∀ b, (G a).ownBlock = some b → w3.heap.size ≤ b) := fun a ha b hb => (mo.blk a ha b hb).1
  have hbow : w3.heap.size ≤ bo := by rw [← hbo]; exact hbc.size
  have l4 : w.heap.size < w4.heap.size := by have h1 := hbn.size; have h2 := ALLB.out.2.2.1; omega
  obtain ⟨x04, x14, _, _⟩ := (ALLB.out.1.1.below hbn ALLB.out.1.1.lt).two
  rcases H2.out.2.2 with hz | ⟨q1, o2, rfl, g2⟩
  · omega
  obtain ⟨eA, eC, rA, rC, f5, f6, f7⟩ := g2 tn htn
  have F5 : Hid (W.cell? ⟨q1, o2 + tn * 5, none⟩ = some (I (dk ds tn).sq)) := f5.1
  have hdg : DescGood (dk ds tn) := HG.out.2.2.1 tn (by rw [HL.out]; exact htn)
  obtain ⟨sq, hsq⟩ : ∃ sq, (dk ds tn).sq = sq := ⟨_, rfl⟩
  have HSQ : Hid ((dk ds tn).sq = sq) := hsq
  have hsq2 : 0 ≤ sq ∧ sq ≤ 1000000 := by rw [← hsq]; exact descGood_sq hdg
  have wsq : IntKind.i64.wrap (sq + 1) = sq + 1 := by rw [IntKind.wrap_i64]; omega
  rw [hsq] at F5
  have htn0 : (0 : Int) ≤ (tn : Int) := by omega
  have htn1 : (tn : Int) < (n : Int) := by omega
  have y4 : w4.cell? ⟨q1, o2 + tn * 5, none⟩ = some (I sq) := (hbn.cell (World.block_lt_of_cell? W _ F5.out)).trans F5.out
  have ly4 : q1 < w4.heap.size := World.block_lt_of_cell? w4 _ y4
  clear mo gd e0 e1 hW4 hx hbo hbc hbn f5 f6 f7 g2 hsq hdg
  clear p0 p1 r0 r1 zr0 zr1 hq0 hq1 hq2 hq3 zq0 zq1 zq2 zq3 x0 x1 bx3
  go_wp2_with fail
  rw [HW4.out]
  (try rw [Hbo.out])
  obtain ⟨g, cap, hcap, hg4⟩ : ∃ g cap, G 1 = .slice (some ⟨g, 0, none⟩) n cap ∧ g < W4.heap.size := by
    obtain ⟨vs, hd, _⟩ := SO4.out.own.descO.descs
    rcases owns_forms hd with ⟨_, h0⟩ | ⟨g, cap, h0⟩
    · omega
    · exact ⟨g, cap, h0, (hd.lt g (by rw [h0]; rfl)).2⟩
  have hcc := HG1.out.symm.trans hcap
  cases hcc
  have hg3 : w3.heap.size ≤ g := APG.out 1 (by omega) g (by rw [HG1.out]; rfl)
  have nog : bo ≠ g := fun e => SO4.out.nbb 1 (by omega) (by rw [HG1.out, e]; rfl)
  have hW3 : W.heap.size ≤ w3.heap.size := ST3.out.bel.size
  have hW4 : W.heap.size ≤ W4.heap.size := SO4.out.bel.size
  have hszW := ALLB.out.2.2.1
  have CEL : Hid (∀ w', Below W4.heap.size W4 w' → w'.cell? ⟨bo, 1, none⟩ = some (.slice (some ⟨g, 0, none⟩) n lc2) ∧ w'.cell? ⟨w.heap.size + 1, 0, none⟩ = some (.int .i64 cd) ∧ w'.cell? ⟨w.heap.size + 1, 1, none⟩ = some (.slice (some ra) rn rc)) := fun w' hb => by
    have hb' : Below W.heap.size W w' := SO4.out.bel.trans (hb.mono hW4)
    have bx := SO4.out.box.below hb SO4.out.box.lt
    rw [HG0.out, HG1.out] at bx
    exact ⟨bx.two.2.1, (SO4.out.s0.below hb' SO4.out.s0.lt).two.1, (SO4.out.s0.below hb' SO4.out.s0.lt).two.2.1⟩
  have SRC : Hid ((es.map I).length = en * 3 ∧ ∀ j u, (es.map I)[j]? = some u → (W4.alloc (.cells #[] 84)).cell? (la.add j) = some u) := ⟨by rw [List.length_map]; exact H5.out.1, fun j u hj => trip_cell (H5.out.below SO4.out.bel (Nat.le_refl _)) hj⟩
  clear x04 x14 y4 ly4 l4 hcap
  change (Code.region _ (List.toArray sbegL) true).wp _ _ _ _
  refine wp_region_held_drew (S := fun w' => w'.cell? ⟨bo, 1, none⟩ = some (.slice (some ⟨g, 0, none⟩) n lc2) ∧ w'.cell? ⟨w.heap.size + 1, 0, none⟩ = some (.int .i64 cd) ∧ w'.cell? ⟨w.heap.size + 1, 1, none⟩ = some (.slice (some ra) rn rc)) (by kernel_rfl) ?_ (fun hHeld => ?_)
  · exact CEL.out _ (Below.refl _ _).drew
  refine wpAnyH_take (i := 0) (oi := _) (v := .pointer (some ⟨bo, 1, none⟩)) (by rw [List.getElem?_toArray]; exact rfl) (by kernel_rfl) (by kernel_rfl) (by kernel_rfl) (by intro _ _ _ h; exact h) (Or.inl ⟨by kernel_rfl, ?_⟩) hHeld ?_
  · intro w hSw; obtain ⟨s1, s2, s3⟩ := hSw; go_simp
  (try simp only [Act.put, List.setIfInBounds_toArray, List.set_cons_zero, List.set_cons_succ])
  refine wpAnyH_take (i := 1) (oi := _) (v := .slice (some ⟨g, 0, none⟩) n lc2) (by rw [List.getElem?_toArray]; exact rfl) (by kernel_rfl) (by kernel_rfl) (by kernel_rfl) (by intro _ _ _ h; exact h) (Or.inl ⟨by kernel_rfl, ?_⟩) hHeld ?_
  · intro w hSw; obtain ⟨s1, s2, s3⟩ := hSw; go_simp
  (try simp only [Act.put, List.setIfInBounds_toArray, List.set_cons_zero, List.set_cons_succ])
  refine wpAnyH_take (i := 2) (oi := _) (v := .int .i64 (tn : Int)) (by rw [List.getElem?_toArray]; exact rfl) (by kernel_rfl) (by kernel_rfl) (by kernel_rfl) (by intro _ _ _ h; exact h) (Or.inl ⟨by kernel_rfl, ?_⟩) hHeld ?_
  · intro w hSw; obtain ⟨s1, s2, s3⟩ := hSw; go_simp
  (try simp only [Act.put, List.setIfInBounds_toArray, List.set_cons_zero, List.set_cons_succ])
  refine wpAnyH_take (i := 3) (oi := _) (v := .int .i64 (sq + 1)) (by rw [List.getElem?_toArray]; exact rfl) (by kernel_rfl) (by kernel_rfl) (by kernel_rfl) (by intro _ _ _ h; exact h) (Or.inl ⟨by kernel_rfl, ?_⟩) hHeld ?_
  · intro w hSw; obtain ⟨s1, s2, s3⟩ := hSw; go_simp
  (try simp only [Act.put, List.setIfInBounds_toArray, List.set_cons_zero, List.set_cons_succ])
  refine wpAnyH_take (i := 5) (oi := _) (v := .slice (some la) en lc) (by rw [List.getElem?_toArray]; exact rfl) (by kernel_rfl) (by kernel_rfl) (by kernel_rfl) (by intro _ _ _ h; exact h) (Or.inl ⟨by kernel_rfl, ?_⟩) hHeld ?_
  · intro w hSw; obtain ⟨s1, s2, s3⟩ := hSw; go_simp
  (try simp only [Act.put, List.setIfInBounds_toArray, List.set_cons_zero, List.set_cons_succ])
  refine wpAnyH_take (i := 7) (oi := _) (v := ResV cd (some ra) rn rc) (by rw [List.getElem?_toArray]; exact rfl) (by kernel_rfl) (by kernel_rfl) (by kernel_rfl) (by intro _ _ _ h; exact h) (Or.inl ⟨by kernel_rfl, ?_⟩) hHeld ?_
  · intro w hSw; obtain ⟨s1, s2, s3⟩ := hSw; go_simp
  (try simp only [Act.put, List.setIfInBounds_toArray, List.set_cons_zero, List.set_cons_succ])
  refine wpAnyH_ready (rs := [4]) (by kernel_rfl) (by simp) ?_
  refine AllReadyH.cons (o := _) (by rw [List.getElem?_toArray]; exact rfl) (fun K hK => ?_) AllReadyH.nil
  rw [if_pos (by kernel_rfl)]
  go_simp
  have hBa : Below W4.heap.size W4 (W4.alloc (.cells #[] 84)).drew := ((Below.refl W4.heap.size W4).alloc (Nat.le_refl _) _).drew
  refine hK.out _ _ (CEL.out _ hBa) (fun hHeld => ?_)
  clear hK K
  (try simp only [Act.put, List.setIfInBounds_toArray, List.set_cons_zero, List.set_cons_succ])
  refine wpAnyH_ready (rs := [6]) (by kernel_rfl) (by simp) ?_
  refine AllReadyH.cons (o := _) (by rw [List.getElem?_toArray]; exact rfl) (fun K hK => ?_) AllReadyH.nil
  refine step_append_own _ (by rfl) _ _ 66 (by rfl) W4.heap.size 84 i0 (.agg #[.int .i64 0, .int .i64 0, .int .i64 0]) 3 24 Try.underlying66 hi0 hz0 hz1 hz2 (by rfl) (by decide) (.slice (some ⟨W4.heap.size, 0, none⟩) 0 0) 0 [] (by rfl) (own_emptyD (Nat.le_refl _)) la en lc (es.map I) (by rfl) SRC.out.1 SRC.out.2 news3 (by unfold maxLen; omega) (by omega) (by show W4.heap.size ≤ (W4.alloc _).heap.size; simp) ?_
  intro v' w5 own5 grow5 _
  rw [Nat.zero_add, List.nil_append] at own5
  have hB5 : Below W4.heap.size W4 w5 := hBa.grown grow5 (by show W4.heap.size ≤ (W4.alloc _).heap.size; simp) (fun k e => own_ge e)
  obtain ⟨Va, Vc, rfl, _⟩ := owns_slice own5
  refine hK.out _ _ (CEL.out _ hB5) (fun hHeld => ?_)
  clear hK K
  (try simp only [Act.put, List.setIfInBounds_toArray, List.set_cons_zero, List.set_cons_succ])
  refine wpAnyH_ready (rs := [8]) (by kernel_rfl) (by simp) ?_
  refine AllReadyH.cons (o := _) (by rw [List.getElem?_toArray]; exact rfl) (fun K hK => ?_) AllReadyH.nil
  rw [if_pos (by kernel_rfl)]
  go_simp
  refine (l6Res_o cd ra rn rc rs _ ((H6.out.below SO4.out.bel (Nat.le_refl _)).below hB5 (Nat.le_refl _)) hrn').mono ?_
  rintro e w6 ⟨U, rfl, own6, hb6⟩
  obtain ⟨Ua, Uc, rfl, _⟩ := owns_slice own6
  have hB6 : Below W4.heap.size W4 w6 := hB5.trans (hb6.mono hB5.size)
  refine hK.out _ _ (CEL.out _ hB6) (fun hHeld => ?_)
  clear hK K
  (try simp only [Act.put, List.setIfInBounds_toArray, List.set_cons_zero, List.set_cons_succ])
  refine wpAnyH_take (i := 9) (oi := _) (v := DescV (sq + 1) 1 Va en Vc cd Ua rn Uc) (by rw [List.getElem?_toArray]; exact rfl) (by kernel_rfl) (by kernel_rfl) (by kernel_rfl) (by intro _ _ _ h; exact h) (Or.inl ⟨by kernel_rfl, ?_⟩) hHeld ?_
  · intro w hSw; go_simp
  (try simp only [Act.put, List.setIfInBounds_toArray, List.set_cons_zero, List.set_cons_succ])
  refine wpAnyH_take (i := 10) (oi := _) (v := .pointer (some ⟨g, tn * 5, none⟩)) (by rw [List.getElem?_toArray]; exact rfl) (by kernel_rfl) (by kernel_rfl) (by kernel_rfl) (by intro _ _ _ h; exact h) (Or.inl ⟨by kernel_rfl, ?_⟩) hHeld ?_
  · intro w hSw; go_simp
  (try simp only [Act.put, List.setIfInBounds_toArray, List.set_cons_zero, List.set_cons_succ])
  have SO6 : Hid (BegSt w W w.heap.size #[.slice (some wa) m wc, .slice (some ⟨q1, o2, none⟩) n dc] #[.int .i64 cd, .slice (some ra) rn rc] bo G m fs n ds w6) := SO4.out.on hB6
  have ST6 : Hid (BegSt w W w.heap.size #[.slice (some wa) m wc, .slice (some ⟨q1, o2, none⟩) n dc] #[.int .i64 cd, .slice (some ra) rn rc] bb F m fs n ds w6) := ST4.out.on hB6
  obtain ⟨vs, hd⟩ : ∃ vs, w6.ownsRow W.heap.size 82 5 (.slice (some ⟨g, 0, none⟩) n lc2) n vs := by
    obtain ⟨vs, hd, _⟩ := SO6.out.own.descO.descs
    rw [HG1.out] at hd
    exact ⟨vs, hd⟩
  have hvl : vs.length = n * 5 := hd.1
  have zg0 := hd.frozenAt (tn * 5)
  obtain ⟨ug0, hug0⟩ : ∃ u, w6.cell? ⟨g, tn * 5, none⟩ = some u := ⟨_, own_cellV hd (List.getElem?_eq_getElem (by omega))⟩
  have zg1 := hd.frozenAt (tn * 5 + 1)
  obtain ⟨ug1, hug1⟩ : ∃ u, w6.cell? ⟨g, tn * 5 + 1, none⟩ = some u := ⟨_, own_cellV hd (List.getElem?_eq_getElem (by omega))⟩
  have zg2 := hd.frozenAt (tn * 5 + 2)
  obtain ⟨ug2, hug2⟩ : ∃ u, w6.cell? ⟨g, tn * 5 + 2, none⟩ = some u := ⟨_, own_cellV hd (List.getElem?_eq_getElem (by omega))⟩
  have zg3 := hd.frozenAt (tn * 5 + 3)
  obtain ⟨ug3, hug3⟩ : ∃ u, w6.cell? ⟨g, tn * 5 + 3, none⟩ = some u := ⟨_, own_cellV hd (List.getElem?_eq_getElem (by omega))⟩
  have zg4 := hd.frozenAt (tn * 5 + 4)
  obtain ⟨ug4, hug4⟩ : ∃ u, w6.cell? ⟨g, tn * 5 + 4, none⟩ = some u := ⟨_, own_cellV hd (List.getElem?_eq_getElem (by omega))⟩
  obtain ⟨w7, hw7⟩ : ∃ w7, (((((w6.setCell ⟨g, tn * 5, none⟩ (.int .i64 (sq + 1))).setCell ⟨g, tn * 5 + 1, none⟩ (.int .i64 1)).setCell ⟨g, tn * 5 + 2, none⟩ (.slice Va en Vc)).setCell ⟨g, tn * 5 + 3, none⟩ (.int .i64 cd)).setCell ⟨g, tn * 5 + 4, none⟩ (.slice Ua rn Uc)) = w7 := ⟨_, rfl⟩
  have HW7 : Hid ((((((w6.setCell ⟨g, tn * 5, none⟩ (.int .i64 (sq + 1))).setCell ⟨g, tn * 5 + 1, none⟩ (.int .i64 1)).setCell ⟨g, tn * 5 + 2, none⟩ (.slice Va en Vc)).setCell ⟨g, tn * 5 + 3, none⟩ (.int .i64 cd)).setCell ⟨g, tn * 5 + 4, none⟩ (.slice Ua rn Uc)) = w7) := hw7
  have hw7' : put5 w6 g tn (newDK sq en es cd rn rs) (.slice Va en Vc) (.slice Ua rn Uc) = w7 := hw7
  have hb7 : Below W.heap.size W w7 := by
    have hWg : W.heap.size ≤ g := by omega
    rw [← hw7']
    exact ((((SO6.out.bel.setCell hWg _).setCell hWg _).setCell hWg _).setCell hWg _).setCell hWg _
  have h7b : ∀ b, b ≠ g → w7.heap[b]? = w6.heap[b]? := fun b hb => by rw [← hw7', put5_heap hb]
  have ST7 : Hid (BegSt w W w.heap.size #[.slice (some wa) m wc, .slice (some ⟨q1, o2, none⟩) n dc] #[.int .i64 cd, .slice (some ra) rn rc] bb F m fs n ds w7) := ST6.out.far hb7 (fun b hb => h7b b (by
    rcases hb with rfl | ⟨a, ha', e⟩
    · have := ST3.out.box.lt; omega
    · have := (ST3.out.own.blk a ha' b e).2; omega))
  have s5 := hB5.size
  have SO7 : Hid (BegSt w W w.heap.size #[.slice (some wa) m wc, .slice (some ⟨q1, o2, none⟩) n dc] #[.int .i64 cd, .slice (some ra) rn rc] bo (putF G tn (.slice Va en Vc) (.slice Ua rn Uc)) m fs n (ds.set tn (newDK sq en es cd rn rs)) w7) := by
    refine ⟨hb7, ?_, SO6.out.bbW, ?_, fun a ha' => ?_, SO6.out.m0, SO6.out.s0, SO6.out.r0, SO6.out.h0, SO6.out.sz, SO6.out.w0⟩
    · rw [putF_ne (by omega) (by omega), putF_ne (by omega) (by omega)]
      exact (h7b bo nog).trans SO6.out.box
    · rw [← hw7']
      exact SO6.out.own.put htn HG1.out (own_weaken (owns_below own5 hb6 (Nat.le_refl _)) hW4) (own_weaken own6 (by omega)) (lo := W4.heap.size) (mid := w5.heap.size) (fun a ha' b hb => (SO4.out.own.blk a ha' b hb).2) (fun b e => own5.lt b e) (fun b e => (own6.lt b e).1) s5
    · by_cases e1 : a = 2 + 2 * tn
      · subst e1
        rw [putF_V]
        exact fun e => by have h1 := (own5.lt _ e).1; have h2 := SO4.out.box.lt; omega
      by_cases e2 : a = 3 + 2 * tn
      · subst e2
        rw [putF_U]
        exact fun e => by have h1 := (own6.lt _ e).1; have h2 := SO4.out.box.lt; omega
      · rw [putF_ne e1 e2]
        exact SO6.out.nbb a ha'
  have HP0 : Hid (putF G tn (.slice Va en Vc) (.slice Ua rn Uc) 0 = .slice ka m kc ∧ putF G tn (.slice Va en Vc) (.slice Ua rn Uc) 1 = .slice (some ⟨g, 0, none⟩) n lc2) := ⟨by rw [putF_ne (by omega) (by omega)]; exact HG0.out, by rw [putF_ne (by omega) (by omega)]; exact HG1.out⟩
  have C7 : w7.cell? ⟨bo, 1, none⟩ = some (.slice (some ⟨g, 0, none⟩) n lc2) ∧ w7.cell? ⟨w.heap.size + 1, 0, none⟩ = some (.int .i64 cd) ∧ w7.cell? ⟨w.heap.size + 1, 1, none⟩ = some (.slice (some ra) rn rc) := by
    have bx := SO7.out.box
    rw [HP0.out.1, HP0.out.2] at bx
    exact ⟨bx.two.2.1, (SO7.out.s0.below hb7 SO7.out.s0.lt).two.1, (SO7.out.s0.below hb7 SO7.out.s0.lt).two.2.1⟩
  refine wpAnyH_ready (rs := [11]) (by kernel_rfl) (by simp) ?_
  refine AllReadyH.cons (o := _) (by rw [List.getElem?_toArray]; exact rfl) (fun K hK => ?_) AllReadyH.nil
  rw [if_pos (by kernel_rfl)]
  go_simp
  (try rw [HW7.out])
  refine hK.out _ _ C7 (fun hHeld => ?_)
  clear hK K
  (try simp only [Act.put, List.setIfInBounds_toArray, List.set_cons_zero, List.set_cons_succ])
  refine wpAnyH_done (by kernel_rfl) ?_ _
  have DSM : Hid (Small n (ds.set tn (newDK sq en es cd rn rs))) := fun i hi => by
    rw [dk_set (by rw [HL.out]; exact htn)]
    split
    · exact ⟨hen, hrn'⟩
    · exact HS.out i hi
  obtain ⟨wx, cx, dx, cy, _, ex0, ex1, tx, dx2, _⟩ := SO7.out.own.open hm hn DSM.out
  rw [HP0.out.1] at ex0
  rw [HP0.out.2] at ex1
  cases ex0
  cases ex1
  have TX : Hid (TripAt w7 ka m fs ∧ DescAt w7 (some ⟨g, 0, none⟩) n (ds.set tn (newDK sq en es cd rn rs))) := ⟨tx, dx2⟩
  have bo7 := SO7.out.box
  rw [HP0.out.1, HP0.out.2] at bo7
  obtain ⟨u0, u1, _, _⟩ := bo7.two
  clear zg0 zg1 zg2 zg3 zg4 hug0 hug1 hug2 hug3 hug4 hw7 hw7' C7 tx dx2 hHeld
  go_wp2_with fail
  refine (specMemOk_any ka m kc fs (some ⟨g, 0, none⟩) n lc2 (ds.set tn (newDK sq en es cd rn rs)) _ TX.out.1 TX.out.2).mono ?_
  rintro e w8 ⟨ok3, ⟨rfl, hok4⟩, hb8⟩
  have hok5 := hok4.trans (memGood_put (D := newDK sq en es cd rn rs) HG.out (by rw [HL.out]; exact htn) HNM.out)
  have ST8 : Hid (BegSt w W w.heap.size #[.slice (some wa) m wc, .slice (some ⟨q1, o2, none⟩) n dc] #[.int .i64 cd, .slice (some ra) rn rc] bb F m fs n ds w8) := ST7.out.on hb8
  have SO8 : Hid (BegSt w W w.heap.size #[.slice (some wa) m wc, .slice (some ⟨q1, o2, none⟩) n dc] #[.int .i64 cd, .slice (some ra) rn rc] bo (putF G tn (.slice Va en Vc) (.slice Ua rn Uc)) m fs n (ds.set tn (newDK sq en es cd rn rs)) w8) := SO7.out.on hb8
  clear hb8 hok4 u0 u1 bo7
  rcases ok3 with _ | _
  · have HNO : Hid (¬ BeginGood fs m ds (tn : Int) en es cd rn rs) := fun h => by
      have h4 := h.2.2.2
      rw [Int.toNat_natCast, HSQ.out] at h4
      have := hok5.2 h4
      cases this
    clear hok5
    have bx8 := ST8.out.box
    rw [HF0.out, HF1.out] at bx8
    obtain ⟨p0, p1, _, _⟩ := bx8.two
    obtain ⟨r0, r1, zr0, zr1⟩ := (ST8.out.r0.below ST8.out.bel (by have := ST8.out.sz; omega)).two
    obtain ⟨⟨hq0, hq1, hq2, hq3⟩, zq0, zq1, zq2, zq3⟩ := (ST8.out.h0.below ST8.out.bel (by have := ST8.out.sz; omega)).four
    obtain ⟨x0, x1, _, _⟩ := (ST8.out.m0.below ST8.out.bel (by have := ST8.out.sz; omega)).two
    obtain ⟨oMem, oBel, oR, oH⟩ := ST8.out.out (.slice ga m gc) (.slice ha n hc) (.int .i64 0) (.int .i64 0) (.int .i64 0) (.int .i64 0)
    obtain ⟨e0, e1, _, _⟩ := oR.two
    obtain ⟨⟨g0, g1, g2, g3⟩, _⟩ := oH.four
    have OM : Hid _ := oMem
    have OB : Hid _ := oBel
    clear oMem oBel oR oH
    go_wp2
    (try simp only [Exit.inBlock, Exit.then])
    refine bodyPost_ret (by simp [results, Try.results36, go_sem, e0, e1, g0, g1, g2, g3]; try rfl) rfl ?_
    exact ⟨⟨F, ds, 0, 0, false, by rw [MemF, HF0.out, HF1.out], .inr ⟨rfl, HNO.out, rfl, rfl, rfl⟩, OM.out⟩, OB.out⟩
  have HBG : Hid (BeginGood fs m ds (tn : Int) en es cd rn rs) := ⟨HG.out, ⟨by omega, by rw [HL.out]; exact htn1⟩, HNM.out, by rw [Int.toNat_natCast, HSQ.out]; exact hok5.1 rfl⟩
  clear hok5
  have bx8 := SO8.out.box
  rw [HP0.out.1, HP0.out.2] at bx8
  obtain ⟨p0, p1, _, _⟩ := bx8.two
  obtain ⟨r0, r1, zr0, zr1⟩ := (SO8.out.r0.below SO8.out.bel (by have := SO8.out.sz; omega)).two
  obtain ⟨⟨hq0, hq1, hq2, hq3⟩, zq0, zq1, zq2, zq3⟩ := (SO8.out.h0.below SO8.out.bel (by have := SO8.out.sz; omega)).four
  obtain ⟨oMem, oBel, oR, oH⟩ := SO8.out.out (.slice ka m kc) (.slice (some ⟨g, 0, none⟩) n lc2) (.int .i64 (tn : Int)) (.int .i64 (sq + 1)) (.int .i64 0) (.int .i64 0)
  obtain ⟨e0, e1, _, _⟩ := oR.two
  obtain ⟨⟨g0, g1, g2, g3⟩, _⟩ := oH.four
  have OM : Hid _ := oMem
  have OB : Hid _ := oBel
  clear oMem oBel oR oH
  go_wp2
  (try simp only [Exit.inBlock, Exit.then])
  refine bodyPost_ret (by simp [results, Try.results36, go_sem, e0, e1, g0, g1, g2, g3]; try rfl) rfl ?_
  exact ⟨⟨putF G tn (.slice Va en Vc) (.slice Ua rn Uc), ds.set tn (newDK sq en es cd rn rs), (tn : Int), sq + 1, true, by rw [MemF, HP0.out.1, HP0.out.2], .inl ⟨rfl, HBG.out, by rw [Int.toNat_natCast, HSQ.out], rfl, by rw [Int.toNat_natCast, HSQ.out]⟩, OM.out⟩, OB.out⟩
end Go.Proofs.Ytbdfopokimpeiaq
