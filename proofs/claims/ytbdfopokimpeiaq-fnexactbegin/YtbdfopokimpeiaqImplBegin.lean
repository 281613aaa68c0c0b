/- impl.Begin, walked. -/
import Derived.Test.YtbdfopokimpeiaqBeginO
import Derived.Test.YtbdfopokimpeiaqImplMem
namespace Go.Proofs.Ytbdfopokimpeiaq
open Go.ChangeShapes Go.WideShapes Go.ChangeAt Go.RowKit Go.Joins

theorem Box.four {w : World} {b : Nat} {T : TypeId} {x y z u : Value} (h : Box w b #[x, y, z, u] T) : (w.cell? ⟨b, 0, none⟩ = some x ∧ w.cell? ⟨b, 1, none⟩ = some y ∧ w.cell? ⟨b, 2, none⟩ = some z ∧ w.cell? ⟨b, 3, none⟩ = some u) ∧ w.frozen? ⟨b, 0, none⟩ = false ∧ w.frozen? ⟨b, 1, none⟩ = false ∧ w.frozen? ⟨b, 2, none⟩ = false ∧ w.frozen? ⟨b, 3, none⟩ = false :=
  ⟨⟨h.cell 0, h.cell 1, h.cell 2, h.cell 3⟩, h.frozen 0, h.frozen 1, h.frozen 2, h.frozen 3⟩
/-- What lies where Begin works: the boxes of its arguments, of its answer, and of what it has made. -/
structure BegSt (w0 W : World) (b0 : Nat) (mv sv : Array Value) (bb : Nat) (F : Nat → Value) (m : Nat) (fs : List Int) (n : Nat) (ds : List DK) (wr : World) : Prop where
  bel : Below W.heap.size W wr
  box : Box wr bb #[F 0, F 1] 46
  bbW : W.heap.size ≤ bb
  own : MemO wr W.heap.size F m fs n ds
  nbb : ∀ a, a < 2 + 2 * n → (F a).ownBlock ≠ some bb
  m0 : Box W b0 mv 46
  s0 : Box W (b0 + 1) sv 68
  r0 : Box W (b0 + 2) #[.slice none 0 0, .slice none 0 0] 46
  h0 : Box W (b0 + 3) #[.int .i64 0, .int .i64 0, .int .i64 0, .int .i64 0] 52
  sz : W.heap.size = b0 + 4
  w0 : b0 = w0.heap.size ∧ Below w0.heap.size w0 W
theorem BegSt.on {w0 W : World} {b0 : Nat} {mv sv : Array Value} {bb : Nat} {F : Nat → Value} {m : Nat} {fs : List Int} {n : Nat} {ds : List DK} {wr w' : World} (h : BegSt w0 W b0 mv sv bb F m fs n ds wr) (hb : Below wr.heap.size wr w') : BegSt w0 W b0 mv sv bb F m fs n ds w' :=
  ⟨h.bel.trans (hb.mono h.bel.size), h.box.below hb h.box.lt, h.bbW, h.own.below hb (Nat.le_refl _), h.nbb, h.m0, h.s0, h.r0, h.h0, h.sz, h.w0⟩
/-- The answer that is laid where answers are. -/
theorem BegSt.out {w0 W : World} {b0 : Nat} {mv sv : Array Value} {bb : Nat} {F : Nat → Value} {m : Nat} {fs : List Int} {n : Nat} {ds : List DK} {wr : World} (h : BegSt w0 W b0 mv sv bb F m fs n ds wr) (x y : Value) (p q r s : Value) :
    MemO ((((((wr.setCell ⟨b0 + 2, 0, none⟩ x).setCell ⟨b0 + 2, 1, none⟩ y).setCell ⟨b0 + 3, 0, none⟩ p).setCell ⟨b0 + 3, 1, none⟩ q).setCell ⟨b0 + 3, 2, none⟩ r).setCell ⟨b0 + 3, 3, none⟩ s) w0.heap.size F m fs n ds ∧
    Below w0.heap.size w0 ((((((wr.setCell ⟨b0 + 2, 0, none⟩ x).setCell ⟨b0 + 2, 1, none⟩ y).setCell ⟨b0 + 3, 0, none⟩ p).setCell ⟨b0 + 3, 1, none⟩ q).setCell ⟨b0 + 3, 2, none⟩ r).setCell ⟨b0 + 3, 3, none⟩ s) ∧
    Box ((((((wr.setCell ⟨b0 + 2, 0, none⟩ x).setCell ⟨b0 + 2, 1, none⟩ y).setCell ⟨b0 + 3, 0, none⟩ p).setCell ⟨b0 + 3, 1, none⟩ q).setCell ⟨b0 + 3, 2, none⟩ r).setCell ⟨b0 + 3, 3, none⟩ s) (b0 + 2) #[x, y] 46 ∧
    Box ((((((wr.setCell ⟨b0 + 2, 0, none⟩ x).setCell ⟨b0 + 2, 1, none⟩ y).setCell ⟨b0 + 3, 0, none⟩ p).setCell ⟨b0 + 3, 1, none⟩ q).setCell ⟨b0 + 3, 2, none⟩ r).setCell ⟨b0 + 3, 3, none⟩ s) (b0 + 3) #[p, q, r, s] 52 := by
  have hs := h.sz
  have e0 := h.w0.1
  have hbw := h.w0.2.size
  have R := h.r0.below h.bel (by omega)
  have H := h.h0.below h.bel (by omega)
  refine ⟨(h.own.heap fun a ha b hb => ?_).weaken hbw, ?_, ?_, ?_⟩
  · have h1 := (h.own.blk a ha b hb).1
    rw [Below.heap_setCell _ _ _ _ (show b ≠ b0 + 3 by omega), Below.heap_setCell _ _ _ _ (show b ≠ b0 + 3 by omega), Below.heap_setCell _ _ _ _ (show b ≠ b0 + 3 by omega), Below.heap_setCell _ _ _ _ (show b ≠ b0 + 3 by omega), Below.heap_setCell _ _ _ _ (show b ≠ b0 + 2 by omega), Below.heap_setCell _ _ _ _ (show b ≠ b0 + 2 by omega)]
  · exact ((((((h.w0.2.trans (h.bel.mono hbw)).setCell (by show w0.heap.size ≤ b0 + 2; omega) _).setCell (by show w0.heap.size ≤ b0 + 2; omega) _).setCell (by show w0.heap.size ≤ b0 + 3; omega) _).setCell (by show w0.heap.size ≤ b0 + 3; omega) _).setCell (by show w0.heap.size ≤ b0 + 3; omega) _).setCell (by show w0.heap.size ≤ b0 + 3; omega) _
  · exact (((((R.put 0 x).put 1 y).set (show b0 + 2 ≠ b0 + 3 by omega) _).set (show b0 + 2 ≠ b0 + 3 by omega) _).set (show b0 + 2 ≠ b0 + 3 by omega) _).set (show b0 + 2 ≠ b0 + 3 by omega) _
  · exact (((((H.set (show b0 + 3 ≠ b0 + 2 by omega) _).set (show b0 + 3 ≠ b0 + 2 by omega) _).put 0 p).put 1 q).put 2 r).put 3 s
theorem MemO.drew {w : World} {base : Nat} {F : Nat → Value} {m : Nat} {fs : List Int} {n : Nat} {ds : List DK} (h : MemO w base F m fs n ds) : MemO w.drew base F m fs n ds := h.below (Below.refl w.heap.size w).drew (Nat.le_refl _)
/-- The try that is begun, in memory of its own. -/
structure NewD (w3 : World) (bd : Nat) (sq : Int) (Va : Option Addr) (en Vc : Nat) (es : List Int) (cd : Int) (Ua : Option Addr) (rn Uc : Nat) (rs : List Int) (w' : World) : Prop where
  box : Box w' bd (DescC sq 1 Va en Vc cd Ua rn Uc) 82
  bdW : w3.heap.size ≤ bd
  ents : w'.ownsRow w3.heap.size 84 3 (.slice Va en Vc) en (es.map I)
  ints : w'.ownsRow w3.heap.size 3 1 (.slice Ua rn Uc) rn (rs.map I)
  mid : ∃ mid, w3.heap.size ≤ mid ∧ (∀ b, (Value.slice Va en Vc).ownBlock = some b → w3.heap.size ≤ b ∧ b < mid) ∧ ∀ b, (Value.slice Ua rn Uc).ownBlock = some b → mid ≤ b
  nV : (Value.slice Va en Vc).ownBlock ≠ some bd
  nU : (Value.slice Ua rn Uc).ownBlock ≠ some bd
  bel : Below w3.heap.size w3 w'
theorem descGood_sq {d : DK} (h : DescGood d) : 0 ≤ d.sq ∧ d.sq ≤ 1000000 := by
  unfold DescGood descOkM at h
  split at h
  · omega
  · simp only [Bool.and_eq_true] at h
    have := inB_val h.1
    omega
/-- The operations of the region that makes the try. -/
noncomputable def begL : List Oper := match Try.f39.body with
  | some (.seq _ (.seq _ (.seq _ (.seq (.region _ ops _) _)))) => ops.toList
  | _ => []
/-- The operations of the region that answers. -/
noncomputable def begL8 : List Oper := match Try.f39.body with
  | some (.seq _ (.seq _ (.seq _ (.seq _ (.seq _ (.seq _ (.seq (.region _ ops _) _))))))) => ops.toList
  | _ => []
set_option maxHeartbeats 8000000 in
set_option maxRecDepth 100000 in
theorem implBegin_any (wa : Option Addr) (m wc : Nat) (fs : List Int) (da : Option Addr) (n dc : Nat) (ds : List DK) (t : Int) (la : Option Addr) (en lc : Nat) (es : List Int) (cd : Int) (ra : Option Addr) (rn rc : Nat) (rs : List Int) (w : World) (h1 : TripAt w wa m fs) (h2 : DescAt w da n ds) (h3 : CapAt w da n ds) (h4 : NilAt w da n ds) (hwn : wa = none → wc = 0) (hdn : da = none → dc = 0) (hs : Small n ds) (h5 : TripAt w la en es) (h6 : IntAt w ra rn rs) (hln : la = none → lc = 0) (hrn : ra = none → rc = 0) (hrn' : rn ≤ 1048576) :
    Calls Try.prog 39 #[MemV wa m wc da n dc, .int .i64 t, .slice la en lc, ResV cd ra rn rc] w fun e w' => (∃ F ds' hT hS ok, e = .returned (.tuple #[MemF F, .agg #[.int .i64 hT, .int .i64 hS, .int .i64 0, .int .i64 0], .bool ok]) ∧ BeginSays fs m ds t en es cd rn rs ds' hT hS ok ∧ MemO w' w.heap.size F m fs n ds') ∧ Below w.heap.size w w' := by
  have hm := h1.2.1
  have hn := h2.2.1
  have hen := h5.2.1
  have HL : Hid (ds.length = n) := h2.1
  obtain ⟨W, hW⟩ : ∃ W, ((((w.alloc (.cells #[.slice wa m wc, .slice da n dc] 46)).alloc (.cells #[.int .i64 cd, .slice ra rn rc] 68)).alloc (.cells #[.slice none 0 0, .slice none 0 0] 46)).alloc (.cells #[.int .i64 0, .int .i64 0, .int .i64 0, .int .i64 0] 52)) = W := ⟨_, rfl⟩
  have hb0 : Below w.heap.size w W := by rw [← hW]; exact ((((Below.refl _ w).alloc (Nat.le_refl _) _).alloc (by simp) _).alloc (by simp; omega) _).alloc (by simp; omega) _
  have hsz : W.heap.size = w.heap.size + 4 := by rw [← hW]; simp
  have M0 : Box W w.heap.size #[.slice wa m wc, .slice da n dc] 46 := by rw [← hW]; exact (((box_of w _ _).alloc _).alloc _).alloc _
  have S0 : Box W (w.heap.size + 1) #[.int .i64 cd, .slice ra rn rc] 68 := by
    have := ((box_of (w.alloc (.cells #[.slice wa m wc, .slice da n dc] 46)) #[.int .i64 cd, .slice ra rn rc] 68).alloc (.cells #[.slice none 0 0, .slice none 0 0] 46)).alloc (.cells #[.int .i64 0, .int .i64 0, .int .i64 0, .int .i64 0] 52)
    rw [hW] at this
    simpa using this
  have R0 : Box W (w.heap.size + 2) #[.slice none 0 0, .slice none 0 0] 46 := by
    have := (box_of ((w.alloc (.cells #[.slice wa m wc, .slice da n dc] 46)).alloc (.cells #[.int .i64 cd, .slice ra rn rc] 68)) #[.slice none 0 0, .slice none 0 0] 46).alloc (.cells #[.int .i64 0, .int .i64 0, .int .i64 0, .int .i64 0] 52)
    rw [hW] at this
    simpa using this
  have Q0 : Box W (w.heap.size + 3) #[.int .i64 0, .int .i64 0, .int .i64 0, .int .i64 0] 52 := by
    have := box_of (((w.alloc (.cells #[.slice wa m wc, .slice da n dc] 46)).alloc (.cells #[.int .i64 cd, .slice ra rn rc] 68)).alloc (.cells #[.slice none 0 0, .slice none 0 0] 46)) #[.int .i64 0, .int .i64 0, .int .i64 0, .int .i64 0] 52
    rw [hW] at this
    simpa using this
  have H1 : Hid (TripAt W wa m fs) := h1.below hb0 (Nat.le_refl _)
  have H2 : Hid (DescAt W da n ds) := h2.below hb0 (Nat.le_refl _)
  have H3 : Hid (CapAt W da n ds) := h3.below hb0 (Nat.le_refl _)
  have H4 : Hid (NilAt W da n ds) := h4.below hb0 (Nat.le_refl _)
  have H5 : Hid (TripAt W la en es) := h5.below hb0 (Nat.le_refl _)
  have H6 : Hid (IntAt W ra rn rs) := h6.below hb0 (Nat.le_refl _)
  have HN : Hid ((wa = none → wc = 0) ∧ (da = none → dc = 0) ∧ (la = none → lc = 0) ∧ (ra = none → rc = 0)) := ⟨hwn, hdn, hln, hrn⟩
  have HS : Hid (Small n ds) := hs
  have ALLB : Hid ((Box W w.heap.size #[.slice wa m wc, .slice da n dc] 46 ∧ Box W (w.heap.size + 1) #[.int .i64 cd, .slice ra rn rc] 68) ∧ (Box W (w.heap.size + 2) #[.slice none 0 0, .slice none 0 0] 46 ∧ Box W (w.heap.size + 3) #[.int .i64 0, .int .i64 0, .int .i64 0, .int .i64 0] 52) ∧ W.heap.size = w.heap.size + 4 ∧ Below w.heap.size w W) := ⟨⟨M0, S0⟩, ⟨R0, Q0⟩, hsz, hb0⟩
  have HW : Hid (((((w.alloc (.cells #[.slice wa m wc, .slice da n dc] 46)).alloc (.cells #[.int .i64 cd, .slice ra rn rc] 68)).alloc (.cells #[.slice none 0 0, .slice none 0 0] 46)).alloc (.cells #[.int .i64 0, .int .i64 0, .int .i64 0, .int .i64 0] 52)) = W) := hW
  clear h1 h2 h3 h4 h5 h6 hwn hdn hln hrn hs hW hb0 hsz M0 S0 R0 Q0
  go_enter Try.func39, Try.ntmps39
  go_wp2_with fail
  rw [HW.out]
  refine (memAnew_o wa m wc fs da n dc ds _ H1.out H2.out H4.out HN.out.1 HN.out.2.1).mono ?_
  rintro e w1 ⟨F, rfl, mo1, hb1⟩
  obtain ⟨ga, gc, e0, _⟩ := owns_slice mo1.words
  obtain ⟨gvs, gd, _⟩ := mo1.descO.descs
  obtain ⟨ha, hc, e1, _⟩ := owns_slice gd
  have HF0 : Hid (F 0 = .slice ga m gc) := e0
  have HF1 : Hid (F 1 = .slice ha n hc) := e1
  rw [show MemF F = MemV ga m gc ha n hc by rw [MemF, e0, e1]]
  obtain ⟨W1, hW1⟩ : ∃ W1, w1.alloc (.cells #[.slice ga m gc, .slice ha n hc] 46) = W1 := ⟨_, rfl⟩
  have hx1 : Below w1.heap.size w1 W1 := by rw [← hW1]; exact (Below.refl _ _).alloc (Nat.le_refl _) _
  have ST1 : Hid (BegSt w W w.heap.size #[.slice wa m wc, .slice da n dc] #[.int .i64 cd, .slice ra rn rc] w1.heap.size F m fs n ds W1) := by
    refine ⟨hb1.trans (hx1.mono hb1.size), ?_, hb1.size, mo1.below hx1 (Nat.le_refl _), fun a ha e => by have := (mo1.blk a ha _ e).2; omega, ALLB.out.1.1, ALLB.out.1.2, ALLB.out.2.1.1, ALLB.out.2.1.2, ALLB.out.2.2.1, rfl, ALLB.out.2.2.2⟩
    rw [e0, e1, ← hW1]
    exact box_of w1 _ _
  have HW1 : Hid (w1.alloc (.cells #[.slice ga m gc, .slice ha n hc] 46) = W1) := hW1
  obtain ⟨bb, hbb⟩ : ∃ b, w1.heap.size = b := ⟨_, rfl⟩
  have HBB : Hid (w1.heap.size = bb) := hbb
  rw [hbb] at ST1
  obtain ⟨x0, x1, _, _⟩ := (ALLB.out.1.1.below hb1 ALLB.out.1.1.lt).two
  have l1 := (ALLB.out.1.1.below hb1 ALLB.out.1.1.lt).lt
  clear mo1 gd e0 e1 hW1 hx1 hbb hb1
  go_wp2_with fail
  rw [HW1.out]
  (try rw [HBB.out])
  refine (implMemOk_any wa m wc fs da n dc ds _ (H1.out.below ST1.out.bel (Nat.le_refl _)) (H2.out.below ST1.out.bel (Nat.le_refl _)) (H3.out.below ST1.out.bel (Nat.le_refl _))).mono ?_
  rintro e w2 ⟨ok1, ⟨rfl, hok1⟩, hb2⟩
  have ST2 : Hid (BegSt w W w.heap.size #[.slice wa m wc, .slice da n dc] #[.int .i64 cd, .slice ra rn rc] bb F m fs n ds w2) := ST1.out.on hb2
  clear hb2 x0 x1 l1 ST1 HW1
  rcases ok1 with _ | _
  · have HNO : Hid (¬ BeginGood fs m ds t en es cd rn rs) := fun h => by have := hok1.2 h.1; cases this
    clear hok1
    have bx2 := ST2.out.box
    rw [HF0.out, HF1.out] at bx2
    obtain ⟨p0, p1, _, _⟩ := bx2.two
    obtain ⟨r0, r1, zr0, zr1⟩ := (ST2.out.r0.below ST2.out.bel (by have := ST2.out.sz; omega)).two
    obtain ⟨⟨hq0, hq1, hq2, hq3⟩, zq0, zq1, zq2, zq3⟩ := (ST2.out.h0.below ST2.out.bel (by have := ST2.out.sz; omega)).four
    obtain ⟨x0, x1, _, _⟩ := (ST2.out.m0.below ST2.out.bel (by have := ST2.out.sz; omega)).two
    obtain ⟨oMem, oBel, oR, oH⟩ := ST2.out.out (.slice ga m gc) (.slice ha n hc) (.int .i64 0) (.int .i64 0) (.int .i64 0) (.int .i64 0)
    obtain ⟨e0, e1, _, _⟩ := oR.two
    obtain ⟨⟨g0, g1, g2, g3⟩, _⟩ := oH.four
    have OM : Hid _ := oMem
    have OB : Hid _ := oBel
    clear oMem oBel oR oH
    go_wp2
    (try simp only [Exit.inBlock, Exit.then])
    refine bodyPost_ret (by simp [results, Try.results39, go_sem, e0, e1, g0, g1, g2, g3]; try rfl) rfl ?_
    exact ⟨⟨F, ds, 0, 0, false, by rw [MemF, HF0.out, HF1.out], .inr ⟨rfl, HNO.out, rfl, rfl, rfl⟩, OM.out⟩, OB.out⟩
  have HG : Hid (MemGood fs m ds) := hok1.1 rfl
  clear hok1
  have bx2 := ST2.out.box
  rw [HF0.out, HF1.out] at bx2
  obtain ⟨p0, p1, _, _⟩ := bx2.two
  obtain ⟨r0, r1, zr0, zr1⟩ := (ST2.out.r0.below ST2.out.bel (by have := ST2.out.sz; omega)).two
  obtain ⟨⟨hq0, hq1, hq2, hq3⟩, zq0, zq1, zq2, zq3⟩ := (ST2.out.h0.below ST2.out.bel (by have := ST2.out.sz; omega)).four
  obtain ⟨x0, x1, _, _⟩ := (ST2.out.m0.below ST2.out.bel (by have := ST2.out.sz; omega)).two
  have hn1 : 1 ≤ n ∧ n ≤ 4 := by have := HG.out.2.1; rw [HL.out] at this; exact this
  have wsub : IntKind.i64.wrap ((n : Int) - 1) = (n : Int) - 1 := by rw [IntKind.wrap_i64]; omega
  rcases hI : inB t 0 ((n : Int) - 1) with _ | _
  · have HIN : Hid (inB t 0 ((n : Int) - 1) = false) := hI
    have HNO : Hid (¬ BeginGood fs m ds t en es cd rn rs) := fun h => by have h2 := h.2.1; rw [HL.out] at h2; rw [inB_yes (by omega)] at hI; cases hI
    clear hI
    go_wp2_with fail
    refine (within_g t 0 _ _).mono ?_
    rintro e w3 ⟨rfl, hw3⟩
    obtain rfl : w2 = w3 := hw3.symm
    clear hw3
    rw [HIN.out]
    obtain ⟨oMem, oBel, oR, oH⟩ := ST2.out.out (.slice ga m gc) (.slice ha n hc) (.int .i64 0) (.int .i64 0) (.int .i64 0) (.int .i64 0)
    obtain ⟨e0, e1, _, _⟩ := oR.two
    obtain ⟨⟨g0, g1, g2, g3⟩, _⟩ := oH.four
    have OM : Hid _ := oMem
    have OB : Hid _ := oBel
    clear oMem oBel oR oH
    go_wp2
    (try simp only [Exit.inBlock, Exit.then])
    refine bodyPost_ret (by simp [results, Try.results39, go_sem, e0, e1, g0, g1, g2, g3]; try rfl) rfl ?_
    exact ⟨⟨F, ds, 0, 0, false, by rw [MemF, HF0.out, HF1.out], .inr ⟨rfl, HNO.out, rfl, rfl, rfl⟩, OM.out⟩, OB.out⟩
  have hv := inB_val hI
  have HIN : Hid (inB t 0 ((n : Int) - 1) = true) := hI
  obtain ⟨tn, rfl⟩ : ∃ tn : Nat, t = (tn : Int) := ⟨t.toNat, by omega⟩
  have htn : tn < n := by omega
  clear hI
  go_wp2_with fail
  refine (within_g _ 0 _ _).mono ?_
  rintro e w3 ⟨rfl, hw3⟩
  obtain rfl : w2 = w3 := hw3.symm
  clear hw3
  rw [HIN.out]
  go_wp2_with fail
  refine (hasMarkOf_any wa m wc fs (tn : Int) _ (H1.out.below ST2.out.bel (Nat.le_refl _))).mono ?_
  rintro e w3 ⟨ok2, ⟨rfl, hok2⟩, hb3⟩
  have hok3 := hok2.trans (marked_t HG.out hv.1)
  have ST3 : Hid (BegSt w W w.heap.size #[.slice wa m wc, .slice da n dc] #[.int .i64 cd, .slice ra rn rc] bb F m fs n ds w3) := ST2.out.on hb3
  clear hb3 hok2 p0 p1 r0 r1 zr0 zr1 hq0 hq1 hq2 hq3 zq0 zq1 zq2 zq3 x0 x1 bx2 ST2
  have bx3 := ST3.out.box
  rw [HF0.out, HF1.out] at bx3
  obtain ⟨p0, p1, _, _⟩ := bx3.two
  obtain ⟨r0, r1, zr0, zr1⟩ := (ST3.out.r0.below ST3.out.bel (by have := ST3.out.sz; omega)).two
  obtain ⟨⟨hq0, hq1, hq2, hq3⟩, zq0, zq1, zq2, zq3⟩ := (ST3.out.h0.below ST3.out.bel (by have := ST3.out.sz; omega)).four
  obtain ⟨x0, x1, _, _⟩ := (ST3.out.m0.below ST3.out.bel (by have := ST3.out.sz; omega)).two
  rcases ok2 with _ | _
  case true =>
    have HNO : Hid (¬ BeginGood fs m ds (tn : Int) en es cd rn rs) := fun h => h.2.2.1 (hok3.1 rfl)
    clear hok3
    obtain ⟨oMem, oBel, oR, oH⟩ := ST3.out.out (.slice ga m gc) (.slice ha n hc) (.int .i64 0) (.int .i64 0) (.int .i64 0) (.int .i64 0)
    obtain ⟨e0, e1, _, _⟩ := oR.two
    obtain ⟨⟨g0, g1, g2, g3⟩, _⟩ := oH.four
    have OM : Hid _ := oMem
    have OB : Hid _ := oBel
    clear oMem oBel oR oH
    go_wp2
    (try simp only [Exit.inBlock, Exit.then])
    refine bodyPost_ret (by simp [results, Try.results39, go_sem, e0, e1, g0, g1, g2, g3]; try rfl) rfl ?_
    exact ⟨⟨F, ds, 0, 0, false, by rw [MemF, HF0.out, HF1.out], .inr ⟨rfl, HNO.out, rfl, rfl, rfl⟩, OM.out⟩, OB.out⟩
  have HNM : Hid (¬ Marked fs m (tn : Int)) := fun h => by have := hok3.2 h; cases this
  clear hok3
  rcases H2.out.2.2 with hz | ⟨q1, o2, rfl, g2⟩
  · omega
  obtain ⟨eA, eC, rA, rC, f5, f6, f7⟩ := g2 tn htn
  have F5 : Hid (W.cell? ⟨q1, o2 + tn * 5, none⟩ = some (I (dk ds tn).sq)) := f5.1
  have hdg : DescGood (dk ds tn) := HG.out.2.2.1 tn (by rw [HL.out]; exact htn)
  obtain ⟨sq, hsq⟩ : ∃ sq, (dk ds tn).sq = sq := ⟨_, rfl⟩
  have HSQ : Hid ((dk ds tn).sq = sq) := hsq
  have hsq2 : 0 ≤ sq ∧ sq ≤ 1000000 := by rw [← hsq]; exact descGood_sq hdg
  have wsq : IntKind.i64.wrap (sq + 1) = sq + 1 := by rw [IntKind.wrap_i64]; omega
  rw [hsq] at F5
  have htn0 : (0 : Int) ≤ (tn : Int) := by omega
  have htn1 : (tn : Int) < (n : Int) := by omega
  have CEL : Hid (∀ w', Below w3.heap.size w3 w' → w'.cell? ⟨w.heap.size, 1, none⟩ = some (.slice (some ⟨q1, o2, none⟩) n dc) ∧ w'.cell? ⟨w.heap.size + 1, 0, none⟩ = some (.int .i64 cd) ∧ w'.cell? ⟨w.heap.size + 1, 1, none⟩ = some (.slice ra rn rc) ∧ w'.cell? ⟨q1, o2 + tn * 5, none⟩ = some (I sq)) := fun w' hb => by
    have hb' : Below W.heap.size W w' := ST3.out.bel.trans (hb.mono ST3.out.bel.size)
    exact ⟨(ST3.out.m0.below hb' ST3.out.m0.lt).two.2.1, (ST3.out.s0.below hb' ST3.out.s0.lt).two.1, (ST3.out.s0.below hb' ST3.out.s0.lt).two.2.1, (hb'.cell (World.block_lt_of_cell? W _ F5.out)).trans F5.out⟩
  clear f5 f6 f7 g2 hsq p0 p1 r0 r1 zr0 zr1 hq0 hq1 hq2 hq3 zq0 zq1 zq2 zq3 x0 x1 bx3 hdg
  go_wp2_with fail
  refine Code.wp_mono (Q := Exit.then (fun a' w' => ∃ (bd : Nat) (Va : Option Addr) (Vc : Nat) (Ua : Option Addr) (Uc : Nat), a' = ⟨List.toArray (MemV wa m wc (some ⟨q1, o2, none⟩) n dc :: .int .i64 (tn : Int) :: .slice la en lc :: ResV cd ra rn rc :: .pointer (some ⟨w.heap.size, 0, none⟩) :: undef :: undef :: .pointer (some ⟨w.heap.size + 1, 0, none⟩) :: .pointer (some ⟨w.heap.size + 1 + 1, 0, none⟩) :: .pointer (some ⟨w.heap.size + 1 + 1 + 1, 0, none⟩) :: .bool false :: .pointer (some ⟨bb, 0, none⟩) :: .pointer (some ⟨bd, 0, none⟩) :: .agg #[.slice wa m wc, .slice (some ⟨q1, o2, none⟩) n dc] :: MemV ga m gc ha n hc :: .agg #[.slice wa m wc, .slice (some ⟨q1, o2, none⟩) n dc] :: .bool true :: .bool false :: .bool false :: .int .i64 (tn : Int) :: .pointer (some ⟨w.heap.size, 1, none⟩) :: .slice (some ⟨q1, o2, none⟩) n dc :: .int .i64 (n : Int) :: .int .i64 ((n : Int) - 1) :: .bool true :: .bool false :: .bool false :: .bool false :: .pointer (some ⟨w.heap.size, 0, none⟩) :: .slice wa m wc :: .int .i64 (tn : Int) :: .bool false :: .bool false :: undef :: undef :: .pointer (some ⟨w.heap.size, 1, none⟩) :: .slice (some ⟨q1, o2, none⟩) n dc :: .int .i64 (tn : Int) :: .pointer (some ⟨q1, o2 + tn * 5, none⟩) :: .pointer (some ⟨q1, o2 + tn * 5, none⟩) :: I sq :: .int .i64 (sq + 1) :: .slice la en lc :: .slice Va en Vc :: .agg #[.int .i64 cd, .slice ra rn rc] :: .agg #[.int .i64 cd, .slice Ua rn Uc] :: DescV (sq + 1) 1 Va en Vc cd Ua rn Uc :: undef :: undef :: undef :: undef :: undef :: undef :: undef :: undef :: undef :: undef :: undef :: undef :: undef :: undef :: undef :: []), []⟩ ∧ NewD w3 bd (sq + 1) Va en Vc es cd Ua rn Uc rs w') (fun _ _ _ => False)) ?rest ?reg
  case reg =>
    change (Code.region _ (List.toArray begL) true).wp _ _ _ _
    refine wp_region_held_drew (S := fun w' => w'.cell? ⟨w.heap.size, 1, none⟩ = some (.slice (some ⟨q1, o2, none⟩) n dc) ∧ w'.cell? ⟨w.heap.size + 1, 0, none⟩ = some (.int .i64 cd) ∧ w'.cell? ⟨w.heap.size + 1, 1, none⟩ = some (.slice ra rn rc) ∧ w'.cell? ⟨q1, o2 + tn * 5, none⟩ = some (I sq)) (by kernel_rfl) ?_ (fun hHeld => ?_)
    · exact CEL.out _ (Below.refl _ _).drew
    refine wpAnyH_take (i := 0) (oi := _) (v := .pointer (some ⟨w.heap.size, 1, none⟩)) (by rw [List.getElem?_toArray]; exact rfl) (by kernel_rfl) (by kernel_rfl) (by kernel_rfl) (by intro _ _ _ h; exact h) (Or.inl ⟨by kernel_rfl, ?_⟩) hHeld ?_
    · intro w hSw; obtain ⟨s1, s2, s3, s4⟩ := hSw; go_simp
    (try simp only [Act.put, List.setIfInBounds_toArray, List.set_cons_zero, List.set_cons_succ])
    refine wpAnyH_take (i := 1) (oi := _) (v := .slice (some ⟨q1, o2, none⟩) n dc) (by rw [List.getElem?_toArray]; exact rfl) (by kernel_rfl) (by kernel_rfl) (by kernel_rfl) (by intro _ _ _ h; exact h) (Or.inl ⟨by kernel_rfl, ?_⟩) hHeld ?_
    · intro w hSw; obtain ⟨s1, s2, s3, s4⟩ := hSw; go_simp
    (try simp only [Act.put, List.setIfInBounds_toArray, List.set_cons_zero, List.set_cons_succ])
    refine wpAnyH_take (i := 2) (oi := _) (v := .int .i64 (tn : Int)) (by rw [List.getElem?_toArray]; exact rfl) (by kernel_rfl) (by kernel_rfl) (by kernel_rfl) (by intro _ _ _ h; exact h) (Or.inl ⟨by kernel_rfl, ?_⟩) hHeld ?_
    · intro w hSw; obtain ⟨s1, s2, s3, s4⟩ := hSw; go_simp
    (try simp only [Act.put, List.setIfInBounds_toArray, List.set_cons_zero, List.set_cons_succ])
    refine wpAnyH_take (i := 3) (oi := _) (v := .pointer (some ⟨q1, o2 + tn * 5, none⟩)) (by rw [List.getElem?_toArray]; exact rfl) (by kernel_rfl) (by kernel_rfl) (by kernel_rfl) (by intro _ _ _ h; exact h) (Or.inl ⟨by kernel_rfl, ?_⟩) hHeld ?_
    · intro w hSw; obtain ⟨s1, s2, s3, s4⟩ := hSw; go_simp
    (try simp only [Act.put, List.setIfInBounds_toArray, List.set_cons_zero, List.set_cons_succ])
    refine wpAnyH_take (i := 4) (oi := _) (v := .pointer (some ⟨q1, o2 + tn * 5, none⟩)) (by rw [List.getElem?_toArray]; exact rfl) (by kernel_rfl) (by kernel_rfl) (by kernel_rfl) (by intro _ _ _ h; exact h) (Or.inl ⟨by kernel_rfl, ?_⟩) hHeld ?_
    · intro w hSw; obtain ⟨s1, s2, s3, s4⟩ := hSw; go_simp
    (try simp only [Act.put, List.setIfInBounds_toArray, List.set_cons_zero, List.set_cons_succ])
    refine wpAnyH_take (i := 5) (oi := _) (v := I sq) (by rw [List.getElem?_toArray]; exact rfl) (by kernel_rfl) (by kernel_rfl) (by kernel_rfl) (by intro _ _ _ h; exact h) (Or.inl ⟨by kernel_rfl, ?_⟩) hHeld ?_
    · intro w hSw; obtain ⟨s1, s2, s3, s4⟩ := hSw; go_simp
    (try simp only [Act.put, List.setIfInBounds_toArray, List.set_cons_zero, List.set_cons_succ])
    refine wpAnyH_take (i := 6) (oi := _) (v := .int .i64 (sq + 1)) (by rw [List.getElem?_toArray]; exact rfl) (by kernel_rfl) (by kernel_rfl) (by kernel_rfl) (by intro _ _ _ h; exact h) (Or.inl ⟨by kernel_rfl, ?_⟩) hHeld ?_
    · intro w hSw; obtain ⟨s1, s2, s3, s4⟩ := hSw; go_simp
    (try simp only [Act.put, List.setIfInBounds_toArray, List.set_cons_zero, List.set_cons_succ])
    refine wpAnyH_take (i := 7) (oi := _) (v := .slice la en lc) (by rw [List.getElem?_toArray]; exact rfl) (by kernel_rfl) (by kernel_rfl) (by kernel_rfl) (by intro _ _ _ h; exact h) (Or.inl ⟨by kernel_rfl, ?_⟩) hHeld ?_
    · intro w hSw; obtain ⟨s1, s2, s3, s4⟩ := hSw; go_simp
    (try simp only [Act.put, List.setIfInBounds_toArray, List.set_cons_zero, List.set_cons_succ])
    refine wpAnyH_take (i := 9) (oi := _) (v := .agg #[.int .i64 cd, .slice ra rn rc]) (by rw [List.getElem?_toArray]; exact rfl) (by kernel_rfl) (by kernel_rfl) (by kernel_rfl) (by intro _ _ _ h; exact h) (Or.inl ⟨by kernel_rfl, ?_⟩) hHeld ?_
    · intro w hSw; obtain ⟨s1, s2, s3, s4⟩ := hSw; go_simp
    (try simp only [Act.put, List.setIfInBounds_toArray, List.set_cons_zero, List.set_cons_succ])
    refine wpAnyH_ready (rs := [8, 12]) (by kernel_rfl) (by simp) ?_
    refine AllReadyH.cons (o := _) (by rw [List.getElem?_toArray]; exact rfl) (fun K hK => ?_) (AllReadyH.cons (o := _) (by rw [List.getElem?_toArray]; exact rfl) (fun K hK => ?_) AllReadyH.nil)
    · rw [if_pos (by kernel_rfl)]
      go_simp
      refine (cloneE_o la en lc es _ ((H5.out.below ST3.out.bel (Nat.le_refl _)).below ((Below.refl w3.heap.size w3).drew) (Nat.le_refl _)) HN.out.2.2.1).mono ?_
      rintro e w4 ⟨V, rfl, ownV, hb4⟩
      obtain ⟨Va, Vc, rfl, _⟩ := owns_slice ownV
      have hB4 : Below w3.heap.size w3 w4 := (Below.refl w3.heap.size w3).drew.trans hb4
      refine hK.out _ _ (CEL.out _ hB4) (fun hHeld => ?_)
      clear hK K
      (try simp only [Act.put, List.setIfInBounds_toArray, List.set_cons_zero, List.set_cons_succ])
      refine wpAnyH_ready (rs := [10, 12]) (by kernel_rfl) (by simp) ?_
      refine AllReadyH.cons (o := _) (by rw [List.getElem?_toArray]; exact rfl) (fun K hK => ?_) (AllReadyH.cons (o := _) (by rw [List.getElem?_toArray]; exact rfl) (fun K hK => ?_) AllReadyH.nil)
      · rw [if_pos (by kernel_rfl)]
        go_simp
        refine (resAnew_o cd ra rn rc rs _ ((H6.out.below ST3.out.bel (Nat.le_refl _)).below (hB4) (Nat.le_refl _)) HN.out.2.2.2).mono ?_
        rintro e w5 ⟨U, rfl, ownU, hb5⟩
        obtain ⟨Ua, Uc, rfl, _⟩ := owns_slice ownU
        have hB5 : Below w3.heap.size w3 w5 := hB4.trans (hb5.mono hB4.size)
        refine hK.out _ _ (CEL.out _ hB5) (fun hHeld => ?_)
        clear hK K
        (try simp only [Act.put, List.setIfInBounds_toArray, List.set_cons_zero, List.set_cons_succ])
        refine wpAnyH_take (i := 11) (oi := _) (v := DescV (sq + 1) 1 Va en Vc cd Ua rn Uc) (by rw [List.getElem?_toArray]; exact rfl) (by kernel_rfl) (by kernel_rfl) (by kernel_rfl) (by intro _ _ _ h; exact h) (Or.inl ⟨by kernel_rfl, ?_⟩) hHeld ?_
        · intro w hSw; go_simp
        (try simp only [Act.put, List.setIfInBounds_toArray, List.set_cons_zero, List.set_cons_succ])
        refine wpAnyH_ready (rs := [12]) (by kernel_rfl) (by simp) ?_
        refine AllReadyH.cons (o := _) (by rw [List.getElem?_toArray]; exact rfl) (fun K hK => ?_) AllReadyH.nil
        rw [if_pos (by kernel_rfl)]
        go_simp
        refine hK.out _ _ (CEL.out _ (hB5.alloc hB5.size _)) (fun hHeld => ?_)
        clear hK K
        (try simp only [Act.put, List.setIfInBounds_toArray, List.set_cons_zero, List.set_cons_succ])
        refine wpAnyH_ready (rs := [13]) (by kernel_rfl) (by simp) ?_
        refine AllReadyH.cons (o := _) (by rw [List.getElem?_toArray]; exact rfl) (fun K hK => ?_) AllReadyH.nil
        rw [if_pos (by kernel_rfl)]
        go_simp
        refine hK.out _ _ ?_ (fun hHeld => ?_)
        · exact CEL.out _ (hB5.alloc hB5.size _)
        clear hK K
        (try simp only [Act.put, List.setIfInBounds_toArray, List.set_cons_zero, List.set_cons_succ])
        refine wpAnyH_done (by kernel_rfl) ?_ _
        exact ⟨_, Va, Vc, Ua, Uc, rfl, box_of w5 _ _, hB5.size, (owns_below ownV hb5 (Nat.le_refl _)).alloc _, (own_weaken ownU hB4.size).alloc _, ⟨w4.heap.size, hB4.size, fun b e => ownV.lt b e, fun b e => (ownU.lt b e).1⟩, (fun e => by have := ((owns_below ownV hb5 (Nat.le_refl _)).lt _ e).2; omega), (fun e => by have := (ownU.lt _ e).2; omega), hB5.alloc hB5.size _⟩
      · rw [if_pos (by kernel_rfl)]
        go_simp
        have hBa : Below w3.heap.size w3 (w4.alloc (.cells (DescC 0 0 none 0 0 0 none 0 0) 82)) := hB4.alloc hB4.size _
        refine hK.out _ _ (CEL.out _ hBa) (fun hHeld => ?_)
        clear hK K
        (try simp only [Act.put, List.setIfInBounds_toArray, List.set_cons_zero, List.set_cons_succ])
        refine wpAnyH_ready (rs := [10]) (by kernel_rfl) (by simp) ?_
        refine AllReadyH.cons (o := _) (by rw [List.getElem?_toArray]; exact rfl) (fun K hK => ?_) AllReadyH.nil
        rw [if_pos (by kernel_rfl)]
        go_simp
        refine (resAnew_o cd ra rn rc rs _ ((H6.out.below ST3.out.bel (Nat.le_refl _)).below (hBa) (Nat.le_refl _)) HN.out.2.2.2).mono ?_
        rintro e w5 ⟨U, rfl, ownU, hb5⟩
        obtain ⟨Ua, Uc, rfl, _⟩ := owns_slice ownU
        have hB5 : Below w3.heap.size w3 w5 := hBa.trans (hb5.mono hBa.size)
        have s4 := hB4.size
        have X5 : Box w5 w4.heap.size (DescC 0 0 none 0 0 0 none 0 0) 82 := (box_of w4 _ _).below hb5 (by simp)
        obtain ⟨y0, y1, y2, y3, y4, z0, z1, z2, z3, z4⟩ := X5.desc
        have nv : (Value.slice Va en Vc).ownBlock ≠ some w4.heap.size := fun e => by have := (ownV.lt _ e).2; omega
        have nu : (Value.slice Ua rn Uc).ownBlock ≠ some w4.heap.size := fun e => by have := (ownU.lt _ e).1; simp at this; omega
        have OV5 := owns_below (ownV.alloc (.cells (DescC 0 0 none 0 0 0 none 0 0) 82)) hb5 (Nat.le_refl _)
        have OU5 := own_weaken ownU hBa.size
        have MV : ∀ b, (Value.slice Va en Vc).ownBlock = some b → w3.heap.size ≤ b ∧ b < w4.heap.size := fun b e => ownV.lt b e
        have MU : ∀ b, (Value.slice Ua rn Uc).ownBlock = some b → w4.heap.size ≤ b := fun b e => by have := (ownU.lt b e).1; simp at this; omega
        refine hK.out _ _ (CEL.out _ hB5) (fun hHeld => ?_)
        clear hK K
        (try simp only [Act.put, List.setIfInBounds_toArray, List.set_cons_zero, List.set_cons_succ])
        refine wpAnyH_take (i := 11) (oi := _) (v := DescV (sq + 1) 1 Va en Vc cd Ua rn Uc) (by rw [List.getElem?_toArray]; exact rfl) (by kernel_rfl) (by kernel_rfl) (by kernel_rfl) (by intro _ _ _ h; exact h) (Or.inl ⟨by kernel_rfl, ?_⟩) hHeld ?_
        · intro w hSw; go_simp
        (try simp only [Act.put, List.setIfInBounds_toArray, List.set_cons_zero, List.set_cons_succ])
        refine wpAnyH_ready (rs := [13]) (by kernel_rfl) (by simp) ?_
        refine AllReadyH.cons (o := _) (by rw [List.getElem?_toArray]; exact rfl) (fun K hK => ?_) AllReadyH.nil
        rw [if_pos (by kernel_rfl)]
        go_simp
        refine hK.out _ _ ?_ (fun hHeld => ?_)
        · exact CEL.out _ (((((hB5.setCell (show w3.heap.size ≤ w4.heap.size by omega) _).setCell (show w3.heap.size ≤ w4.heap.size by omega) _).setCell (show w3.heap.size ≤ w4.heap.size by omega) _).setCell (show w3.heap.size ≤ w4.heap.size by omega) _).setCell (show w3.heap.size ≤ w4.heap.size by omega) _)
        clear hK K
        (try simp only [Act.put, List.setIfInBounds_toArray, List.set_cons_zero, List.set_cons_succ])
        refine wpAnyH_done (by kernel_rfl) ?_ _
        exact ⟨w4.heap.size, Va, Vc, Ua, Uc, rfl, ((((X5.put 0 _).put 1 _).put 2 _).put 3 _).put 4 _, (by omega), own_setCell_far (own_setCell_far (own_setCell_far (own_setCell_far (own_setCell_far OV5 nv _) nv _) nv _) nv _) nv _, own_setCell_far (own_setCell_far (own_setCell_far (own_setCell_far (own_setCell_far OU5 nu _) nu _) nu _) nu _) nu _, ⟨w4.heap.size, hB4.size, MV, MU⟩, nv, nu, ((((hB5.setCell (show w3.heap.size ≤ w4.heap.size by omega) _).setCell (show w3.heap.size ≤ w4.heap.size by omega) _).setCell (show w3.heap.size ≤ w4.heap.size by omega) _).setCell (show w3.heap.size ≤ w4.heap.size by omega) _).setCell (show w3.heap.size ≤ w4.heap.size by omega) _⟩
    · rw [if_pos (by kernel_rfl)]
      go_simp
      have hBa : Below w3.heap.size w3 (w3.alloc (.cells (DescC 0 0 none 0 0 0 none 0 0) 82)).drew := ((Below.refl w3.heap.size w3).alloc (Nat.le_refl _) _).drew
      refine hK.out _ _ (CEL.out _ hBa) (fun hHeld => ?_)
      clear hK K
      (try simp only [Act.put, List.setIfInBounds_toArray, List.set_cons_zero, List.set_cons_succ])
      refine wpAnyH_ready (rs := [8]) (by kernel_rfl) (by simp) ?_
      refine AllReadyH.cons (o := _) (by rw [List.getElem?_toArray]; exact rfl) (fun K hK => ?_) AllReadyH.nil
      rw [if_pos (by kernel_rfl)]
      go_simp
      refine (cloneE_o la en lc es _ ((H5.out.below ST3.out.bel (Nat.le_refl _)).below (hBa) (Nat.le_refl _)) HN.out.2.2.1).mono ?_
      rintro e w4 ⟨V, rfl, ownV, hb4⟩
      obtain ⟨Va, Vc, rfl, _⟩ := owns_slice ownV
      have hB4 : Below w3.heap.size w3 w4 := hBa.trans (hb4.mono hBa.size)
      refine hK.out _ _ (CEL.out _ hB4) (fun hHeld => ?_)
      clear hK K
      (try simp only [Act.put, List.setIfInBounds_toArray, List.set_cons_zero, List.set_cons_succ])
      refine wpAnyH_ready (rs := [10]) (by kernel_rfl) (by simp) ?_
      refine AllReadyH.cons (o := _) (by rw [List.getElem?_toArray]; exact rfl) (fun K hK => ?_) AllReadyH.nil
      rw [if_pos (by kernel_rfl)]
      go_simp
      refine (resAnew_o cd ra rn rc rs _ ((H6.out.below ST3.out.bel (Nat.le_refl _)).below (hB4) (Nat.le_refl _)) HN.out.2.2.2).mono ?_
      rintro e w5 ⟨U, rfl, ownU, hb5⟩
      obtain ⟨Ua, Uc, rfl, _⟩ := owns_slice ownU
      have hB5 : Below w3.heap.size w3 w5 := hB4.trans (hb5.mono hB4.size)
      have X4 : Box w4 w3.heap.size (DescC 0 0 none 0 0 0 none 0 0) 82 := (box_of w3 _ _).drew.below hb4 (by show w3.heap.size < (w3.alloc _).heap.size; simp)
      have X5 := X4.below hb5 X4.lt
      obtain ⟨y0, y1, y2, y3, y4, z0, z1, z2, z3, z4⟩ := X5.desc
      have sa : (w3.alloc (.cells (DescC 0 0 none 0 0 0 none 0 0) 82)).drew.heap.size = w3.heap.size + 1 := by show (w3.alloc _).heap.size = _; simp
      have nv : (Value.slice Va en Vc).ownBlock ≠ some w3.heap.size := fun e => by have := (ownV.lt _ e).1; omega
      have nu : (Value.slice Ua rn Uc).ownBlock ≠ some w3.heap.size := fun e => by have h1 := (ownU.lt _ e).1; have h2 := X4.lt; omega
      have OV5 := own_weaken (owns_below ownV hb5 (Nat.le_refl _)) hBa.size
      have OU5 := own_weaken ownU hB4.size
      have MV : ∀ b, (Value.slice Va en Vc).ownBlock = some b → w3.heap.size ≤ b ∧ b < w4.heap.size := fun b e => ⟨by have := (ownV.lt b e).1; omega, (ownV.lt b e).2⟩
      have MU : ∀ b, (Value.slice Ua rn Uc).ownBlock = some b → w4.heap.size ≤ b := fun b e => (ownU.lt b e).1
      refine hK.out _ _ (CEL.out _ hB5) (fun hHeld => ?_)
      clear hK K
      (try simp only [Act.put, List.setIfInBounds_toArray, List.set_cons_zero, List.set_cons_succ])
      refine wpAnyH_take (i := 11) (oi := _) (v := DescV (sq + 1) 1 Va en Vc cd Ua rn Uc) (by rw [List.getElem?_toArray]; exact rfl) (by kernel_rfl) (by kernel_rfl) (by kernel_rfl) (by intro _ _ _ h; exact h) (Or.inl ⟨by kernel_rfl, ?_⟩) hHeld ?_
      · intro w hSw; go_simp
      (try simp only [Act.put, List.setIfInBounds_toArray, List.set_cons_zero, List.set_cons_succ])
      refine wpAnyH_ready (rs := [13]) (by kernel_rfl) (by simp) ?_
      refine AllReadyH.cons (o := _) (by rw [List.getElem?_toArray]; exact rfl) (fun K hK => ?_) AllReadyH.nil
      rw [if_pos (by kernel_rfl)]
      go_simp
      refine hK.out _ _ ?_ (fun hHeld => ?_)
      · exact CEL.out _ (((((hB5.setCell (show w3.heap.size ≤ w3.heap.size by omega) _).setCell (show w3.heap.size ≤ w3.heap.size by omega) _).setCell (show w3.heap.size ≤ w3.heap.size by omega) _).setCell (show w3.heap.size ≤ w3.heap.size by omega) _).setCell (show w3.heap.size ≤ w3.heap.size by omega) _)
      clear hK K
      (try simp only [Act.put, List.setIfInBounds_toArray, List.set_cons_zero, List.set_cons_succ])
      refine wpAnyH_done (by kernel_rfl) ?_ _
      exact ⟨w3.heap.size, Va, Vc, Ua, Uc, rfl, ((((X5.put 0 _).put 1 _).put 2 _).put 3 _).put 4 _, (by omega), own_setCell_far (own_setCell_far (own_setCell_far (own_setCell_far (own_setCell_far OV5 nv _) nv _) nv _) nv _) nv _, own_setCell_far (own_setCell_far (own_setCell_far (own_setCell_far (own_setCell_far OU5 nu _) nu _) nu _) nu _) nu _, ⟨w4.heap.size, hB4.size, MV, MU⟩, nv, nu, ((((hB5.setCell (show w3.heap.size ≤ w3.heap.size by omega) _).setCell (show w3.heap.size ≤ w3.heap.size by omega) _).setCell (show w3.heap.size ≤ w3.heap.size by omega) _).setCell (show w3.heap.size ≤ w3.heap.size by omega) _).setCell (show w3.heap.size ≤ w3.heap.size by omega) _⟩
  case rest =>
    intro ex a' w9 h
    cases ex
    case normal =>
      obtain ⟨bd, Va, Vc, Ua, Uc, rfl, nd⟩ := h
      have ND : Hid (NewD w3 bd (sq + 1) Va en Vc es cd Ua rn Uc rs w9) := nd
      clear nd
      obtain ⟨g, cap, hcap, hgl⟩ : ∃ g cap, F 1 = .slice (some ⟨g, 0, none⟩) n cap ∧ g < w3.heap.size := by
        obtain ⟨vs, hd, _⟩ := ST3.out.own.descO.descs
        rcases owns_forms hd with ⟨_, h0⟩ | ⟨g, cap, h0⟩
        · omega
        · exact ⟨g, cap, h0, (hd.lt g (by rw [h0]; rfl)).2⟩
      have hcc := HF1.out.symm.trans hcap
      cases hcc
      have ST9 : Hid (BegSt w W w.heap.size #[.slice wa m wc, .slice (some ⟨q1, o2, none⟩) n dc] #[.int .i64 cd, .slice ra rn rc] bb F m fs n ds w9) := ST3.out.on ND.out.bel
      obtain ⟨d0, d1, d2, d3, d4, _⟩ := ND.out.box.desc
      go_wp2_with fail
      refine (implDescOk_any (sq + 1) 1 Va en Vc es cd Ua rn Uc rs _ (owns_trip ND.out.ents hen) (owns_ints ND.out.ints hrn')).mono ?_
      rintro e w10 ⟨rfl, hb10⟩
      have ST10 : Hid (BegSt w W w.heap.size #[.slice wa m wc, .slice (some ⟨q1, o2, none⟩) n dc] #[.int .i64 cd, .slice ra rn rc] bb F m fs n ds w10) := ST9.out.on hb10
      have XD10 : Hid (Box w10 bd (DescC (sq + 1) 1 Va en Vc cd Ua rn Uc) 82) := ND.out.box.below hb10 ND.out.box.lt
      have OV10 : Hid (w10.ownsRow w3.heap.size 84 3 (.slice Va en Vc) en (es.map I)) := owns_below ND.out.ents hb10 (Nat.le_refl _)
      have OU10 : Hid (w10.ownsRow w3.heap.size 3 1 (.slice Ua rn Uc) rn (rs.map I)) := owns_below ND.out.ints hb10 (Nat.le_refl _)
      clear hb10 d0 d1 d2 d3 d4
      rcases hok : descOkM (sq + 1) 1 en es cd rn with _ | _
      · have HNO : Hid (¬ BeginGood fs m ds (tn : Int) en es cd rn rs) := fun h => by
          have h4 := h.2.2.2
          rw [Int.toNat_natCast, HSQ.out] at h4
          unfold DescGood newDK at h4
          rw [hok] at h4
          cases h4
        clear hok
        have bx10 := ST10.out.box
        rw [HF0.out, HF1.out] at bx10
        obtain ⟨p0, p1, _, _⟩ := bx10.two
        obtain ⟨r0, r1, zr0, zr1⟩ := (ST10.out.r0.below ST10.out.bel (by have := ST10.out.sz; omega)).two
        obtain ⟨⟨hq0, hq1, hq2, hq3⟩, zq0, zq1, zq2, zq3⟩ := (ST10.out.h0.below ST10.out.bel (by have := ST10.out.sz; omega)).four
        obtain ⟨x0, x1, _, _⟩ := (ST10.out.m0.below ST10.out.bel (by have := ST10.out.sz; omega)).two
        obtain ⟨oMem, oBel, oR, oH⟩ := ST10.out.out (.slice ga m gc) (.slice (some ⟨g, 0, none⟩) n hc) (.int .i64 0) (.int .i64 0) (.int .i64 0) (.int .i64 0)
        obtain ⟨e0, e1, _, _⟩ := oR.two
        obtain ⟨⟨g0, g1, g2, g3⟩, _⟩ := oH.four
        have OM : Hid _ := oMem
        have OB : Hid _ := oBel
        clear oMem oBel oR oH
        go_wp2
        (try simp only [Exit.inBlock, Exit.then])
        refine bodyPost_ret (by simp [results, Try.results39, go_sem, e0, e1, g0, g1, g2, g3]; try rfl) rfl ?_
        exact ⟨⟨F, ds, 0, 0, false, by rw [MemF, HF0.out, HF1.out], .inr ⟨rfl, HNO.out, rfl, rfl, rfl⟩, OM.out⟩, OB.out⟩
      have HBG : Hid (BeginGood fs m ds (tn : Int) en es cd rn rs) := ⟨HG.out, ⟨by omega, by rw [HL.out]; exact htn1⟩, HNM.out, by rw [Int.toNat_natCast, HSQ.out]; exact hok⟩
      clear hok
      have bx10 := ST10.out.box
      rw [HF0.out, HF1.out] at bx10
      obtain ⟨p0, p1, _, _⟩ := bx10.two
      obtain ⟨r0, r1, zr0, zr1⟩ := (ST10.out.r0.below ST10.out.bel (by have := ST10.out.sz; omega)).two
      obtain ⟨⟨hq0, hq1, hq2, hq3⟩, zq0, zq1, zq2, zq3⟩ := (ST10.out.h0.below ST10.out.bel (by have := ST10.out.sz; omega)).four
      obtain ⟨x0, x1, _, _⟩ := (ST10.out.m0.below ST10.out.bel (by have := ST10.out.sz; omega)).two
      obtain ⟨d0, d1, d2, d3, d4, _⟩ := XD10.out.desc
      have nbg : bb ≠ g := fun e => ST10.out.nbb 1 (by omega) (by rw [HF1.out, e]; rfl)
      have hg3 : g < w3.heap.size := hgl
      have hbdg : bd ≠ g := by have := ND.out.bdW; omega
      have HD10 : Hid (∃ vs, w10.ownsRow W.heap.size 82 5 (.slice (some ⟨g, 0, none⟩) n hc) n vs) := by
        obtain ⟨vs, hd, _⟩ := ST10.out.own.descO.descs
        rw [HF1.out] at hd
        exact ⟨vs, hd⟩
      obtain ⟨vs, hd⟩ := HD10.out
      have hvl : vs.length = n * 5 := hd.1
      have zg0 := hd.frozenAt (tn * 5)
      obtain ⟨ug0, hug0⟩ : ∃ u, w10.cell? ⟨g, tn * 5, none⟩ = some u := ⟨_, own_cellV hd (List.getElem?_eq_getElem (by omega))⟩
      have zg1 := hd.frozenAt (tn * 5 + 1)
      obtain ⟨ug1, hug1⟩ : ∃ u, w10.cell? ⟨g, tn * 5 + 1, none⟩ = some u := ⟨_, own_cellV hd (List.getElem?_eq_getElem (by omega))⟩
      have zg2 := hd.frozenAt (tn * 5 + 2)
      obtain ⟨ug2, hug2⟩ : ∃ u, w10.cell? ⟨g, tn * 5 + 2, none⟩ = some u := ⟨_, own_cellV hd (List.getElem?_eq_getElem (by omega))⟩
      have zg3 := hd.frozenAt (tn * 5 + 3)
      obtain ⟨ug3, hug3⟩ : ∃ u, w10.cell? ⟨g, tn * 5 + 3, none⟩ = some u := ⟨_, own_cellV hd (List.getElem?_eq_getElem (by omega))⟩
      have zg4 := hd.frozenAt (tn * 5 + 4)
      obtain ⟨ug4, hug4⟩ : ∃ u, w10.cell? ⟨g, tn * 5 + 4, none⟩ = some u := ⟨_, own_cellV hd (List.getElem?_eq_getElem (by omega))⟩
      obtain ⟨w11, hw11⟩ : ∃ w11, put5 w10 g tn (newDK sq en es cd rn rs) (.slice Va en Vc) (.slice Ua rn Uc) = w11 := ⟨_, rfl⟩
      have HW11 : Hid (put5 w10 g tn (newDK sq en es cd rn rs) (.slice Va en Vc) (.slice Ua rn Uc) = w11) := hw11
      have s11 : w11.heap.size = w10.heap.size := by rw [← hw11]; simp [put5]
      have hW3 : W.heap.size ≤ w3.heap.size := ST3.out.bel.size
      have hWg : W.heap.size ≤ g := (hd.lt g rfl).1
      have ST11 : Hid (BegSt w W w.heap.size #[.slice wa m wc, .slice (some ⟨q1, o2, none⟩) n dc] #[.int .i64 cd, .slice ra rn rc] bb (putF F tn (.slice Va en Vc) (.slice Ua rn Uc)) m fs n (ds.set tn (newDK sq en es cd rn rs)) w11) := by
        obtain ⟨mid, hm1, hm2, hm3⟩ := ND.out.mid
        refine ⟨?_, ?_, ST10.out.bbW, ?_, fun a ha' => ?_, ST10.out.m0, ST10.out.s0, ST10.out.r0, ST10.out.h0, ST10.out.sz, ST10.out.w0⟩
        · rw [← hw11]
          exact ((((ST10.out.bel.setCell hWg _).setCell hWg _).setCell hWg _).setCell hWg _).setCell hWg _
        · rw [putF_ne (by omega) (by omega), putF_ne (by omega) (by omega), ← hw11]
          show _ = _
          rw [put5_heap nbg]
          exact ST10.out.box
        · rw [← hw11]
          exact ST10.out.own.put htn HF1.out (own_weaken OV10.out hW3) (own_weaken OU10.out hW3) (fun a ha' b hb => (ST3.out.own.blk a ha' b hb).2) hm2 hm3 hm1
        · by_cases e1 : a = 2 + 2 * tn
          · subst e1
            rw [putF_V]
            exact fun e => by have h1 := (hm2 _ e).1; have h2 := ST3.out.box.lt; omega
          by_cases e2 : a = 3 + 2 * tn
          · subst e2
            rw [putF_U]
            exact fun e => by have h1 := hm3 _ e; have h2 := ST3.out.box.lt; omega
          · rw [putF_ne e1 e2]
            exact ST10.out.nbb a ha'
      have HP0 : Hid (putF F tn (.slice Va en Vc) (.slice Ua rn Uc) 0 = .slice ga m gc ∧ putF F tn (.slice Va en Vc) (.slice Ua rn Uc) 1 = .slice (some ⟨g, 0, none⟩) n hc) := ⟨by rw [putF_ne (by omega) (by omega)]; exact HF0.out, by rw [putF_ne (by omega) (by omega)]; exact HF1.out⟩
      have XD11 : Hid (Box w11 bd (DescC (sq + 1) 1 Va en Vc cd Ua rn Uc) 82) := by
        show _ = _
        rw [← hw11, put5_heap hbdg]
        exact XD10.out
      have bx11 := ST11.out.box
      rw [HP0.out.1, HP0.out.2] at bx11
      skip
      go_wp2_with fail
      have HW11' : Hid ((((((w10.setCell ⟨g, tn * 5, none⟩ (.int .i64 (sq + 1))).setCell ⟨g, tn * 5 + 1, none⟩ (.int .i64 1)).setCell ⟨g, tn * 5 + 2, none⟩ (.slice Va en Vc)).setCell ⟨g, tn * 5 + 3, none⟩ (.int .i64 cd)).setCell ⟨g, tn * 5 + 4, none⟩ (.slice Ua rn Uc)) = w11) := HW11.out
      rw [HW11'.out]
      clear zg0 zg1 zg2 zg3 zg4 hug0 hug1 hug2 hug3 hug4 p0 p1 r0 r1 zr0 zr1 hq0 hq1 hq2 hq3 zq0 zq1 zq2 zq3 x0 x1 bx10 d0 d1 d2 d3 d4 hw11
      obtain ⟨p0, p1, _, _⟩ := bx11.two
      obtain ⟨r0, r1, zr0, zr1⟩ := (ST11.out.r0.below ST11.out.bel (by have := ST11.out.sz; omega)).two
      obtain ⟨⟨hq0, hq1, hq2, hq3⟩, zq0, zq1, zq2, zq3⟩ := (ST11.out.h0.below ST11.out.bel (by have := ST11.out.sz; omega)).four
      have hszW := ST11.out.sz
      have hbbW := ST11.out.bbW
      have hbdW := ND.out.bdW
      have BX : Hid (Box w11 bb #[.slice ga m gc, .slice (some ⟨g, 0, none⟩) n hc] 46) := bx11
      have K0 : Hid ((w11.drew.cell? ⟨bb, 0, none⟩ = some (.slice ga m gc) ∧ w11.drew.cell? ⟨bb, 1, none⟩ = some (.slice (some ⟨g, 0, none⟩) n hc)) ∧ w11.drew.cell? ⟨bd, 0, none⟩ = some (.int .i64 (sq + 1))) := ⟨⟨p0, p1⟩, XD11.out.desc.1⟩
      have BX2 := (BX.out.set (q := ⟨w.heap.size + 1 + 1, 0, none⟩) (show bb ≠ w.heap.size + 1 + 1 by omega) (.slice ga m gc)).set (q := ⟨w.heap.size + 1 + 1, 1, none⟩) (show bb ≠ w.heap.size + 1 + 1 by omega) (.slice (some ⟨g, 0, none⟩) n hc)
      have XD2 := (XD11.out.set (q := ⟨w.heap.size + 1 + 1, 0, none⟩) (show bd ≠ w.heap.size + 1 + 1 by omega) (.slice ga m gc)).set (q := ⟨w.heap.size + 1 + 1, 1, none⟩) (show bd ≠ w.heap.size + 1 + 1 by omega) (.slice (some ⟨g, 0, none⟩) n hc)
      have K1 : Hid ((((w11.setCell ⟨w.heap.size + 1 + 1, 0, none⟩ (.slice ga m gc)).setCell ⟨w.heap.size + 1 + 1, 1, none⟩ (.slice (some ⟨g, 0, none⟩) n hc)).drew.cell? ⟨bb, 0, none⟩ = some (.slice ga m gc) ∧ ((w11.setCell ⟨w.heap.size + 1 + 1, 0, none⟩ (.slice ga m gc)).setCell ⟨w.heap.size + 1 + 1, 1, none⟩ (.slice (some ⟨g, 0, none⟩) n hc)).drew.cell? ⟨bb, 1, none⟩ = some (.slice (some ⟨g, 0, none⟩) n hc)) ∧ ((w11.setCell ⟨w.heap.size + 1 + 1, 0, none⟩ (.slice ga m gc)).setCell ⟨w.heap.size + 1 + 1, 1, none⟩ (.slice (some ⟨g, 0, none⟩) n hc)).drew.cell? ⟨bd, 0, none⟩ = some (.int .i64 (sq + 1))) := ⟨⟨BX2.drew.two.1, BX2.drew.two.2.1⟩, XD2.drew.desc.1⟩
      have BX3 := (((BX2.set (q := ⟨w.heap.size + 1 + 1 + 1, 0, none⟩) (show bb ≠ w.heap.size + 1 + 1 + 1 by omega) (.int .i64 (tn : Int))).set (q := ⟨w.heap.size + 1 + 1 + 1, 1, none⟩) (show bb ≠ w.heap.size + 1 + 1 + 1 by omega) (.int .i64 (sq + 1))).set (q := ⟨w.heap.size + 1 + 1 + 1, 2, none⟩) (show bb ≠ w.heap.size + 1 + 1 + 1 by omega) (.int .i64 0)).set (q := ⟨w.heap.size + 1 + 1 + 1, 3, none⟩) (show bb ≠ w.heap.size + 1 + 1 + 1 by omega) (.int .i64 0)
      have XD3 := (((XD2.set (q := ⟨w.heap.size + 1 + 1 + 1, 0, none⟩) (show bd ≠ w.heap.size + 1 + 1 + 1 by omega) (.int .i64 (tn : Int))).set (q := ⟨w.heap.size + 1 + 1 + 1, 1, none⟩) (show bd ≠ w.heap.size + 1 + 1 + 1 by omega) (.int .i64 (sq + 1))).set (q := ⟨w.heap.size + 1 + 1 + 1, 2, none⟩) (show bd ≠ w.heap.size + 1 + 1 + 1 by omega) (.int .i64 0)).set (q := ⟨w.heap.size + 1 + 1 + 1, 3, none⟩) (show bd ≠ w.heap.size + 1 + 1 + 1 by omega) (.int .i64 0)
      have K2 : Hid ((((((((w11.setCell ⟨w.heap.size + 1 + 1, 0, none⟩ (.slice ga m gc)).setCell ⟨w.heap.size + 1 + 1, 1, none⟩ (.slice (some ⟨g, 0, none⟩) n hc)).setCell ⟨w.heap.size + 1 + 1 + 1, 0, none⟩ (.int .i64 (tn : Int))).setCell ⟨w.heap.size + 1 + 1 + 1, 1, none⟩ (.int .i64 (sq + 1))).setCell ⟨w.heap.size + 1 + 1 + 1, 2, none⟩ (.int .i64 0)).setCell ⟨w.heap.size + 1 + 1 + 1, 3, none⟩ (.int .i64 0)).drew.cell? ⟨bb, 0, none⟩ = some (.slice ga m gc) ∧ ((((((w11.setCell ⟨w.heap.size + 1 + 1, 0, none⟩ (.slice ga m gc)).setCell ⟨w.heap.size + 1 + 1, 1, none⟩ (.slice (some ⟨g, 0, none⟩) n hc)).setCell ⟨w.heap.size + 1 + 1 + 1, 0, none⟩ (.int .i64 (tn : Int))).setCell ⟨w.heap.size + 1 + 1 + 1, 1, none⟩ (.int .i64 (sq + 1))).setCell ⟨w.heap.size + 1 + 1 + 1, 2, none⟩ (.int .i64 0)).setCell ⟨w.heap.size + 1 + 1 + 1, 3, none⟩ (.int .i64 0)).drew.cell? ⟨bb, 1, none⟩ = some (.slice (some ⟨g, 0, none⟩) n hc)) ∧ ((((((w11.setCell ⟨w.heap.size + 1 + 1, 0, none⟩ (.slice ga m gc)).setCell ⟨w.heap.size + 1 + 1, 1, none⟩ (.slice (some ⟨g, 0, none⟩) n hc)).setCell ⟨w.heap.size + 1 + 1 + 1, 0, none⟩ (.int .i64 (tn : Int))).setCell ⟨w.heap.size + 1 + 1 + 1, 1, none⟩ (.int .i64 (sq + 1))).setCell ⟨w.heap.size + 1 + 1 + 1, 2, none⟩ (.int .i64 0)).setCell ⟨w.heap.size + 1 + 1 + 1, 3, none⟩ (.int .i64 0)).drew.cell? ⟨bd, 0, none⟩ = some (.int .i64 (sq + 1))) := ⟨⟨BX3.drew.two.1, BX3.drew.two.2.1⟩, XD3.drew.desc.1⟩
      obtain ⟨oMem, oBel, oR, oH⟩ := ST11.out.out (.slice ga m gc) (.slice (some ⟨g, 0, none⟩) n hc) (.int .i64 (tn : Int)) (.int .i64 (sq + 1)) (.int .i64 0) (.int .i64 0)
      obtain ⟨e0, e1, _, _⟩ := oR.two
      obtain ⟨⟨g0, g1, g2, g3⟩, _⟩ := oH.four
      have OM : Hid _ := oMem
      have OB : Hid _ := oBel
      clear oMem oBel oR oH BX2 XD2 BX3 XD3 bx11 p0 p1
      have EG : Hid _ := (⟨⟨e0, e1⟩, ⟨g0, g1⟩, g2, g3⟩ : (_ ∧ _) ∧ (_ ∧ _) ∧ _ ∧ _)
      clear e0 e1 g0 g1 g2 g3
      go_region_held3 (fun w' => (w'.cell? ⟨bb, 0, none⟩ = some (.slice ga m gc) ∧ w'.cell? ⟨bb, 1, none⟩ = some (.slice (some ⟨g, 0, none⟩) n hc)) ∧ w'.cell? ⟨bd, 0, none⟩ = some (.int .i64 (sq + 1)))
        (first | (with_reducible exact K0.out) | (with_reducible exact K1.out) | (with_reducible exact K2.out))
        (fail)
      obtain ⟨⟨e0, e1⟩, ⟨g0, g1⟩, g2, g3⟩ := EG.out
      have OM2 : Hid _ := OM.out.drew
      have OB2 : Hid _ := OB.out.drew
      clear OM OB K0 K1 K2 r0 r1 zr0 zr1 hq0 hq1 hq2 hq3 zq0 zq1 zq2 zq3
      go_wp2
      (try simp only [Exit.inBlock, Exit.then])
      refine bodyPost_ret (by simp [results, Try.results39, go_sem, e0, e1, g0, g1, g2, g3]; try rfl) rfl ?_
      exact ⟨⟨putF F tn (.slice Va en Vc) (.slice Ua rn Uc), ds.set tn (newDK sq en es cd rn rs), (tn : Int), sq + 1, true, by rw [MemF, HP0.out.1, HP0.out.2], .inl ⟨rfl, HBG.out, by rw [Int.toNat_natCast, HSQ.out], rfl, by rw [Int.toNat_natCast, HSQ.out]⟩, OM2.out⟩, OB2.out⟩
    all_goals exact h.elim
end Go.Proofs.Ytbdfopokimpeiaq
