/- Texts joined: ImplEntries, LaidBy, RegTail, ImplMem. -/
import Derived.Test.YtbfolanfbagofaaGreatDoorQA10
import Derived.Test.YtbfolanfbagofaaGreatDoorQA13
import Derived.Deep.RegionHeld3
import Derived.Test.YtbfolanfbagofaaGreatDoorQA11
set_option maxHeartbeats 8000000
set_option maxRecDepth 100000
namespace Go.Proofs.YtbfolanfbagofaaGreatDoor
section
open Go.ChangeShapes Go.WideShapes Go.ChangeAt Go.RowKit
theorem implEntries_any (sq st : Int) (ea : Option Addr) (en ec : Nat) (es : List Int) (cd : Int) (ra : Option Addr) (rn rc : Nat) (at_ : Int) (w : World) (h1 : TripAt w ea en es) (hc : en ≤ ec) :
   Calls Tryz.prog 171 #[DescV sq st ea en ec cd ra rn rc, .int .i64 at_] w fun e w' => e = .returned (.tuple #[EntryV (entM es en at_).1 (entM es en at_).2.1 (entM es en at_).2.2.1, .bool (entM es en at_).2.2.2]) ∧ Below w.heap.size w w' := by
 have H1 : Hid (TripAt w ea en es) := h1
 have hn := h1.2.1
 obtain ⟨r, hr⟩ : ∃ r, entM es en at_ = r := ⟨_, rfl⟩
 rw [hr]
 have HR : Hid (entM es en at_ = r) := hr
 have HB0 : Hid (Below w.heap.size w ((w.alloc (.cells (DescC sq st ea en ec cd ra rn rc) 130)).alloc (.cells #[.int .i64 0, .int .i64 0, .int .i64 0] 161))) := ((Below.refl _ w).alloc (Nat.le_refl _) _).alloc (by simp) _
 have B1 : Hid (Box ((w.alloc (.cells (DescC sq st ea en ec cd ra rn rc) 130)).alloc (.cells #[.int .i64 0, .int .i64 0, .int .i64 0] 161)) (w.heap.size + 1) #[.int .i64 0, .int .i64 0, .int .i64 0] 161) := by
   have := box_of (w.alloc (.cells (DescC sq st ea en ec cd ra rn rc) 130)) #[.int .i64 0, .int .i64 0, .int .i64 0] 161
   simp at this
   exact this
 clear h1 hr
 by_cases hk : idxE es en at_ < en
 · rcases H1.out.2.2 with h0 | ⟨p1, o1, rfl, g0⟩
   · omega
   obtain ⟨k, hK⟩ : ∃ k, idxE es en at_ = k := ⟨_, rfl⟩
   have HK : Hid (idxE es en at_ = k) := hK
   have HV : Hid (r = (es.getD (k * 3) 0, es.getD (k * 3 + 1) 0, es.getD (k * 3 + 2) 0, true)) := by show _ = _; rw [← HR.out, entM_yes hK (hK ▸ hk)]
   have hlt : k < en := hK ▸ hk
   clear hk hK g0
   go_enter Tryz.func171, Tryz.ntmps171
   go_wp2_with fail
   refine (cutAt_some at_ p1 o1 en ec k es _ (H1.out.below HB0.out (Nat.le_refl _)) hc HK.out hlt).mono ?_
   rintro e w1 ⟨rfl, hb1⟩
   have hb : Below w.heap.size w w1 := HB0.out.trans (hb1.mono (by simp; omega))
   have B1' : Hid (Box w1 (w.heap.size + 1) #[.int .i64 0, .int .i64 0, .int .i64 0] 161) := B1.out.below hb1 (by simp)
   obtain ⟨y0, y1, y2, f0, f1, f2⟩ := B1'.out.three
   rcases (H1.out.below hb (Nat.le_refl _)).2.2 with h0 | ⟨p1', o1', e0, g1⟩
   · omega
   cases e0
   have e1 := g1 (k * 3) (by omega)
   have e2 := g1 (k * 3 + 1) (by omega)
   have e3 := g1 (k * 3 + 2) (by omega)
   obtain ⟨x, hx⟩ : ∃ x, es.getD (k * 3) 0 = x := ⟨_, rfl⟩
   obtain ⟨y, hy⟩ : ∃ y, es.getD (k * 3 + 1) 0 = y := ⟨_, rfl⟩
   obtain ⟨z, hz⟩ : ∃ z, es.getD (k * 3 + 2) 0 = z := ⟨_, rfl⟩
   rw [hx, hy, hz] at HV
   rw [hx] at e1
   rw [hy, ← Nat.add_assoc] at e2
   rw [hz, ← Nat.add_assoc] at e3
   clear g1 hx hy hz hb1
   go_wp2
   (try simp only [Exit.inBlock, Exit.then])
   refine bodyPost_ret (v := .tuple #[EntryV x y z, .bool true]) (by simp [results, Tryz.results171, go_sem, y0, y1, y2]; try rfl) rfl ?_
   exact ⟨by rw [HV.out], ((hb.setCell (by simp) _).setCell (by simp) _).setCell (by simp) _⟩
 · have HK : Hid (¬ idxE es en at_ < en) := hk
   have HV : Hid (r = (0, 0, 0, false)) := by show _ = _; rw [← HR.out]; unfold entM; rw [if_neg hk]
   clear hk
   go_enter Tryz.func171, Tryz.ntmps171
   go_wp2_with fail
   refine (cutAt_none at_ ea en ec es _ (H1.out.below HB0.out (Nat.le_refl _)) HK.out).mono ?_
   rintro e w1 ⟨rfl, hb1⟩
   have hb : Below w.heap.size w w1 := HB0.out.trans (hb1.mono (by simp; omega))
   have B1' : Hid (Box w1 (w.heap.size + 1) #[.int .i64 0, .int .i64 0, .int .i64 0] 161) := B1.out.below hb1 (by simp)
   obtain ⟨y0, y1, y2, f0, f1, f2⟩ := B1'.out.three
   clear hb1
   go_wp2
   (try simp only [Exit.inBlock, Exit.then])
   refine bodyPost_ret (v := .tuple #[EntryV 0 0 0, .bool false]) (by simp [results, Tryz.results171, go_sem, y0, y1, y2]; try rfl) rfl ?_
   refine ⟨by rw [HV.out], ?_⟩
   first
     | exact ((hb.setCell (by simp) _).setCell (by simp) _).setCell (by simp) _
     | exact hb
theorem laidBy_any (sq st : Int) (ea : Option Addr) (en ec : Nat) (es : List Int) (cd : Int) (ra : Option Addr) (rn rc : Nat) (x t s at_ : Int) (w : World) (h1 : TripAt w ea en es) (hc : en ≤ ec) :
   Calls Tryz.prog 152 #[DescV sq st ea en ec cd ra rn rc, WordV x t s, .int .i64 at_] w fun e w' => e = .returned (.bool ((entM es en at_).2.2.2 && sq == s)) ∧ Below w.heap.size w w' := by
 obtain ⟨W, hW⟩ : ∃ W, ((w.alloc (.cells (DescC sq st ea en ec cd ra rn rc) 130)).alloc (.cells #[.int .i64 x, .int .i64 t, .int .i64 s] 125)) = W := ⟨_, rfl⟩
 have hb1 : Below w.heap.size w (w.alloc (.cells (DescC sq st ea en ec cd ra rn rc) 130)) := (Below.refl _ w).alloc (Nat.le_refl _) _
 have hb2 : Below (w.alloc (.cells (DescC sq st ea en ec cd ra rn rc) 130)).heap.size (w.alloc (.cells (DescC sq st ea en ec cd ra rn rc) 130)) W := by rw [← hW]; exact (Below.refl _ _).alloc (Nat.le_refl _) _
 have hb0 : Below w.heap.size w W := hb1.trans (hb2.mono hb1.size)
 have BD : Hid (Box W w.heap.size (DescC sq st ea en ec cd ra rn rc) 130) := (box_of w _ _).below hb2 (by simp)
 have BW : Hid (Box W (w.heap.size + 1) #[.int .i64 x, .int .i64 t, .int .i64 s] 125) := by
   have := box_of (w.alloc (.cells (DescC sq st ea en ec cd ra rn rc) 130)) #[.int .i64 x, .int .i64 t, .int .i64 s] 125
   rw [hW] at this
   show Box _ _ _ _
   simpa using this
 have H1 : Hid (TripAt W ea en es) := h1.below hb0 (Nat.le_refl _)
 have HB0 : Hid (Below w.heap.size w W) := hb0
 have HW : Hid (((w.alloc (.cells (DescC sq st ea en ec cd ra rn rc) 130)).alloc (.cells #[.int .i64 x, .int .i64 t, .int .i64 s] 125)) = W) := hW
 obtain ⟨r, hr⟩ : ∃ r, entM es en at_ = r := ⟨_, rfl⟩
 have HR : Hid (entM es en at_ = r) := hr
 rw [hr]
 obtain ⟨r0, r1, r2, r3⟩ := r
 clear h1 hW hb0 hb1 hb2 hr
 go_enter Tryz.func152, Tryz.ntmps152
 go_wp2_with fail
 rw [HW.out]
 refine (implEntries_any sq st ea en ec es cd ra rn rc at_ _ H1.out hc).mono ?_
 rintro e w1 ⟨rfl, hb1⟩
 rw [HR.out]
 dsimp only
 have HB1 : Hid (Below w.heap.size w w1) := HB0.out.trans (hb1.mono HB0.out.size)
 have HB2 : Hid (Below w.heap.size w (w1.alloc (.cells #[.int .i64 r0, .int .i64 r1, .int .i64 r2] 161))) := HB1.out.alloc HB1.out.size _
 have d0 := (BD.out.below hb1 BD.out.lt).cell 0
 obtain ⟨_, _, x2, _, _, _⟩ := (BW.out.below hb1 BW.out.lt).three
 have l1 := (BD.out.below hb1 BD.out.lt).lt
 have l2 := (BW.out.below hb1 BW.out.lt).lt
 simp only [DescC, List.getElem?_toArray, List.getElem?_cons_zero] at d0
 clear hb1 BD BW H1 HB0 HW HR
 rcases r3 with _ | _
 · go_wp2
   go_ret
   exact ⟨rfl, HB2.out⟩
 · go_wp2
   go_ret
   exact ⟨by simp, HB2.out⟩
end
def pureVal (a : Act) : Op → Option Value
 | .move x => some (a.eval x)
 | .assign x => some (a.eval x)
 | .pick c x y => match a.eval c with
   | .bool true => some (a.eval x)
   | .bool false => some (a.eval y)
   | _ => none
 | _ => none
def tailVal (ops : Array Oper) (a : Act) (o : Oper) : Option Value := if Region.wanted o (yielded ops a.tmps) = true then pureVal a o.op else some undef
def tailA (ops : Array Oper) : List Nat → Act → Act
 | [], a => a
 | i :: U, a => match ops[i]? with
   | some o => match tailVal ops a o with
     | some v => tailA ops U (a.put o.dst v)
     | none => a
   | none => a
def tailL : List Nat → Array Bool → Array Bool
 | [], L => L
 | i :: U, L => tailL U (L.setIfInBounds i true)
def tailB (md : Region.Mode) (ops : Array Oper) : List Nat → Array Bool → Act → Bool
 | [], _, _ => true
 | i :: U, L, a => match ops[i]? with
   | some o => match tailVal ops a o with
     | some v => Region.free md ops L i && (Region.ready md ops L).contains i && tailB md ops U (L.setIfInBounds i true) (a.put o.dst v)
     | none => false
   | none => false
theorem takeH {P : Program} {md : Region.Mode} {ops : Array Oper} {Q : Exit → Act → World → Prop} {S : World → Prop} (i : Nat) (v : Value) {oi : Oper} {fuel : Nat} {listed : Array Bool} {a : Act} {w : World}
   (hy : ∀ w, S w → (execOp a.eval oi).run P w = .ok (.value v) w) (hS : S w) (h : wpAnyH P md ops Q S fuel (listed.setIfInBounds i true) (a.put oi.dst v) w)
   (hi : ops[i]? = some oi := by rw [List.getElem?_toArray]; exact rfl) (hs : Region.noSelect ops = true := by as_aux_lemma => kernel_rfl) (hf : Region.free md ops listed i = true := by as_aux_lemma => kernel_rfl)
   (hr : (Region.ready md ops listed).contains i = true := by as_aux_lemma => kernel_rfl) (hQ : ∀ c a w, Q (.panic c) (a.put oi.dst v) w → Q (.panic c) a w := by intro _ _ _ h; exact h)
   (hw : Region.wanted oi (yielded ops a.tmps) = true := by as_aux_lemma => kernel_rfl) : wpAnyH P md ops Q S (fuel + 1) listed a w := wpAnyH_take hi hs hf hr hQ (Or.inl ⟨hw, hy⟩) hS h
theorem skipH {P : Program} {md : Region.Mode} {ops : Array Oper} {Q : Exit → Act → World → Prop} {S : World → Prop} (i : Nat) {oi : Oper} {fuel : Nat} {listed : Array Bool} {a : Act} {w : World}
   (hS : S w) (h : wpAnyH P md ops Q S fuel (listed.setIfInBounds i true) (a.put oi.dst undef) w)
   (hi : ops[i]? = some oi := by rw [List.getElem?_toArray]; exact rfl) (hs : Region.noSelect ops = true := by as_aux_lemma => kernel_rfl) (hf : Region.free md ops listed i = true := by as_aux_lemma => kernel_rfl)
   (hr : (Region.ready md ops listed).contains i = true := by as_aux_lemma => kernel_rfl) (hQ : ∀ c a w, Q (.panic c) (a.put oi.dst undef) w → Q (.panic c) a w := by intro _ _ _ h; exact h)
   (hw : Region.wanted oi (yielded ops a.tmps) = false := by as_aux_lemma => kernel_rfl) : wpAnyH P md ops Q S (fuel + 1) listed a w := wpAnyH_take hi hs hf hr hQ (Or.inr ⟨hw, rfl⟩) hS h
theorem takeA {P : Program} {md : Region.Mode} {ops : Array Oper} {Q : Exit → Act → World → Prop} {S : World → Prop} (i : Nat) (v : Value) {oi : Oper} {fuel : Nat} {listed : Array Bool} {a : Act} {w : World}
   (hS : S w) (h : wpAnyH P md ops Q S fuel (listed.setIfInBounds i true) (a.put oi.dst v) w)
   (hi : ops[i]? = some oi := by rw [List.getElem?_toArray]; exact rfl) (hs : Region.noSelect ops = true := by as_aux_lemma => kernel_rfl) (hf : Region.free md ops listed i = true := by as_aux_lemma => kernel_rfl)
   (hr : (Region.ready md ops listed).contains i = true := by as_aux_lemma => kernel_rfl) (hQ : ∀ c a w, Q (.panic c) (a.put oi.dst v) w → Q (.panic c) a w := by intro _ _ _ h; exact h)
   (hw : Region.wanted oi (yielded ops a.tmps) = true := by as_aux_lemma => kernel_rfl) (hy : ∀ w, S w → (execOp a.eval oi).run P w = .ok (.value v) w := by intro w' hSw; go_simp) : wpAnyH P md ops Q S (fuel + 1) listed a w := wpAnyH_take hi hs hf hr hQ (Or.inl ⟨hw, hy⟩) hS h
section
open Go.ChangeShapes Go.WideShapes Go.ChangeAt Go.RowKit
noncomputable def memL : List Oper := match Tryz.f125.body with
 | some (.seq _ (.seq _ (.seq _ (.seq (.seq _ (.block _ (.loop (.seq _ (.seq _ (.seq (.block _ (.seq _ (.seq (.region _ ops _) _))) _)))))) _)))) => ops.toList
 | _ => []
theorem implMemOk_any (wa : Option Addr) (m wc : Nat) (fs : List Int) (da : Option Addr) (n dc : Nat) (ds : List DK) (w : World) (h1 : TripAt w wa m fs) (h2 : DescAt w da n ds) (h3 : CapAt w da n ds) :
   Calls Tryz.prog 125 #[MemV wa m wc da n dc] w fun e w' => ∃ ok, (e = .returned (.bool ok) ∧ (ok = true ↔ MemGood fs m ds)) ∧ Below w.heap.size w w' := by
 have hm := h1.2.1
 have hn := h2.2.1
 have HL : Hid (ds.length = n) := h2.1
 obtain ⟨W, hW⟩ : ∃ W, w.alloc (.cells #[.slice wa m wc, .slice da n dc] 38) = W := ⟨_, rfl⟩
 have hb0 : Below w.heap.size w W := by rw [← hW]; exact (Below.refl _ w).alloc (Nat.le_refl _) _
 have BX : Hid (Box W w.heap.size #[.slice wa m wc, .slice da n dc] 38) := by rw [← hW]; exact box_of w _ _
 have H1 : Hid (TripAt W wa m fs) := h1.below hb0 (Nat.le_refl _)
 have H2 : Hid (DescAt W da n ds) := h2.below hb0 (Nat.le_refl _)
 have H3 : Hid (CapAt W da n ds) := h3.below hb0 (Nat.le_refl _)
 have HB0 : Hid (Below w.heap.size w W) := hb0
 have HW : Hid (w.alloc (.cells #[.slice wa m wc, .slice da n dc] 38) = W) := hW
 clear h1 h2 h3 hW hb0
 by_cases hm20 : m = 20
 case neg =>
   have hne : ((m : Int) != 20) = true := by simp; omega
   have HNO : Hid (¬ MemGood fs m ds) := fun h => hm20 h.1
   clear hm20
   go_enter Tryz.func125, Tryz.ntmps125
   go_wp2
   go_ret
   exact ⟨false, ⟨rfl, by simp [HNO.out]⟩, by rw [HW.out]; exact HB0.out⟩
 subst hm20
 rcases hI : inB (n : Int) 1 4 with _ | _
 · have HI : Hid (inB (n : Int) 1 4 = false) := hI
   have HNO : Hid (¬ MemGood fs 20 ds) := fun h => by
     have h2 := h.2.1
     rw [HL.out] at h2
     rw [inB_yes (by omega)] at hI
     cases hI
   clear hI
   go_enter Tryz.func125, Tryz.ntmps125
   go_wp2_with fail
   refine (within_g _ 1 4 _).mono ?_
   rintro e w1 ⟨rfl, rfl⟩
   rw [HI.out]
   go_wp2
   go_ret
   exact ⟨false, ⟨rfl, by simp [HNO.out]⟩, by rw [HW.out]; exact HB0.out⟩
 have hn4 := inB_val hI
 have HI : Hid (inB (n : Int) 1 4 = true) := hI
 clear hI
 go_enter Tryz.func125, Tryz.ntmps125
 go_wp2_with fail
 refine (within_g _ 1 4 _).mono ?_
 rintro e w1 ⟨rfl, hw1⟩
 rw [HI.out]
 obtain rfl : W = w1 := by rw [hw1]; exact HW.out.symm
 clear hw1
 have c00 := BX.out.cell 0
 have c01 := BX.out.cell 1
 simp only [List.getElem?_toArray, List.getElem?_cons_zero, List.getElem?_cons_succ] at c00 c01
 go_wp2
 clear c00 c01
 go_loopw [21] (fun i wr => ∃ k : Nat, k ≤ n ∧ i = .int .i64 (k : Int) ∧ (∀ i, i < k → DescGood (dk ds i)) ∧ Below W.heap.size W wr) (fun i _ => n - (intOf i).toNat)
 case atStart => exact ⟨0, Nat.zero_le _, rfl, fun i h => by omega, Below.refl _ _⟩
 case round =>
   obtain ⟨k, hk, rfl, hall, hb⟩ := hrel
   have HALL : Hid (∀ i, i < k → DescGood (dk ds i)) := hall
   have HB : Hid (Below W.heap.size W wr) := hb
   clear hall hb
   by_cases hlt : k < n
   · have hk0 : (0 : Int) ≤ (k : Int) := by omega
     have hk1 : (k : Int) < (n : Int) := by omega
     rcases (H2.out.below HB.out (Nat.le_refl _)).2.2 with h0 | ⟨q1, o2, rfl, g2⟩
     · omega
     obtain ⟨ea, ec, ra, rc, h5, h6, h7⟩ := g2 k hlt
     obtain ⟨f0, f1, f2, f3, f4⟩ := h5
     obtain ⟨D, hD⟩ : ∃ D, dk ds k = D := ⟨_, rfl⟩
     have HD : Hid (dk ds k = D) := hD
     rw [hD] at h6 h7 f0 f1 f2 f3 f4
     obtain ⟨dsq, dst, den, des, dcd, drn, drs⟩ := D
     dsimp only at h6 h7 f0 f1 f2 f3 f4
     obtain ⟨Wd, hWd⟩ : ∃ Wd, wr.alloc (.cells (DescC dsq dst ea den ec dcd ra drn rc) 130) = Wd := ⟨_, rfl⟩
     have bd : Below wr.heap.size wr Wd := by rw [← hWd]; exact (Below.refl _ _).alloc (Nat.le_refl _) _
     have HWd : Hid (wr.alloc (.cells (DescC dsq dst ea den ec dcd ra drn rc) 130) = Wd) := hWd
     have H6 : Hid (TripAt Wd ea den des) := h6.below bd (Nat.le_refl _)
     have H7 : Hid (IntAt Wd ra drn drs) := h7.below bd (Nat.le_refl _)
     have HBd : Hid (Below W.heap.size W Wd) := HB.out.trans (bd.mono HB.out.size)
     clear g2 h6 h7 hD hWd bd
     go_wp2_with fail
     rw [HWd.out]
     refine (implDescOk_any dsq dst ea den ec des dcd ra drn rc drs _ H6.out H7.out).mono ?_
     rintro e w2 ⟨rfl, hb2⟩
     have HB2 : Hid (Below W.heap.size W w2) := HBd.out.trans (hb2.mono HBd.out.size)
     clear hb2 f0 f1 f2 f3 f4 H6 H7 HWd HBd
     rcases hok : descOkM dsq dst den des dcd drn with _ | _
     · have HNO : Hid (¬ MemGood fs 20 ds) := fun h => by
         have h3 := h.2.2.1 k (by rw [HL.out]; exact hlt)
         rw [HD.out] at h3
         unfold DescGood at h3
         rw [hok] at h3
         cases h3
       clear hok
       go_wp2
       go_ret
       exact ⟨false, ⟨rfl, by simp [HNO.out]⟩, HB0.out.trans (HB2.out.mono HB0.out.size)⟩
     · have HOK : Hid (DescGood (dk ds k)) := by show DescGood _; rw [HD.out]; exact hok
       clear hok
       go_wp2
       exact ⟨⟨k + 1, by omega, by go_num, fun i hi => by
         by_cases e : i = k
         · rw [e]; exact HOK.out
         · exact HALL.out i (by omega), HB2.out⟩, by simp [intOf]; omega⟩
   · obtain rfl : k = n := by omega
     have HDS : Hid (∀ i, i < ds.length → DescGood (dk ds i)) := by show ∀ i, _; rw [HL.out]; exact HALL.out
     have BR : Hid (Box wr w.heap.size #[.slice wa 20 wc, .slice da k dc] 38) := BX.out.below HB.out BX.out.lt
     have c0 := BR.out.cell 0
     have c1 := BR.out.cell 1
     simp only [List.getElem?_toArray, List.getElem?_cons_zero, List.getElem?_cons_succ] at c0 c1
     clear HALL
     go_wp2
     clear c0 c1 BR
     go_loopw [32] (fun i wr => ∃ k : Nat, k ≤ 20 ∧ i = .int .i64 (k : Int) ∧ (∀ i, i < k → WordGood fs ds i) ∧ Below W.heap.size W wr) (fun i _ => 20 - (intOf i).toNat)
     case atStart => exact ⟨0, Nat.zero_le _, rfl, fun i h => by omega, HB.out⟩
     case round =>
       obtain ⟨i, hi, rfl, hall, hb⟩ := hrel
       clear HB
       have HALL : Hid (∀ j, j < i → WordGood fs ds j) := hall
       have HB : Hid (Below W.heap.size W wr) := hb
       clear hall hb
       by_cases hli : i < 20
       · have hi0 : (0 : Int) ≤ (i : Int) := by omega
         have hi1 : (i : Int) < 20 := by omega
         rcases (H1.out.below HB.out (Nat.le_refl _)).2.2 with h0 | ⟨p1, o1, rfl, g1⟩
         · omega
         have e1 := g1 (i * 3) (by omega)
         have e2 := g1 (i * 3 + 1) (by omega)
         have e3 := g1 (i * 3 + 2) (by omega)
         have HWG : Hid (WordGood fs ds i ↔ (wordOkM (fs.getD (i * 3) 0) (fs.getD (i * 3 + 1) 0) (fs.getD (i * 3 + 2) 0) k = true ∧ (0 < fs.getD (i * 3 + 1) 0 → (entM (dk ds (fs.getD (i * 3 + 1) 0 - 1).toNat).es (dk ds (fs.getD (i * 3 + 1) 0 - 1).toNat).en i).2.2.2 = true ∧ (dk ds (fs.getD (i * 3 + 1) 0 - 1).toNat).sq = fs.getD (i * 3 + 2) 0))) := by
           show _ ↔ _
           unfold WordGood
           rw [HL.out]
         obtain ⟨x, hx⟩ : ∃ x, fs.getD (i * 3) 0 = x := ⟨_, rfl⟩
         obtain ⟨t, ht⟩ : ∃ y, fs.getD (i * 3 + 1) 0 = y := ⟨_, rfl⟩
         obtain ⟨s, hs⟩ : ∃ z, fs.getD (i * 3 + 2) 0 = z := ⟨_, rfl⟩
         rw [hx, ht, hs] at HWG
         rw [hx] at e1
         rw [ht, ← Nat.add_assoc] at e2
         rw [hs, ← Nat.add_assoc] at e3
         have HNG : Hid (¬ WordGood fs ds i → ¬ MemGood fs 20 ds) := fun h g => h (g.2.2.2 i hli)
         have HYG : Hid (WordGood fs ds i → ∀ j, j < i + 1 → WordGood fs ds j) := fun h j hj => by
           by_cases e : j = i
           · rw [e]; exact h
           · exact HALL.out j (by omega)
         clear g1 hx ht hs
         obtain ⟨w3, hw3⟩ : ∃ w3, (wr.alloc (.cells #[.int .i64 x, .int .i64 t, .int .i64 s] 125)).drew = w3 := ⟨_, rfl⟩
         have hb23 : Below wr.heap.size wr w3 := by rw [← hw3]; exact ((Below.refl _ _).alloc (Nat.le_refl _) _).drew
         have hx3 : Below (wr.alloc (.cells #[.int .i64 x, .int .i64 t, .int .i64 s] 125)).heap.size (wr.alloc (.cells #[.int .i64 x, .int .i64 t, .int .i64 s] 125)) w3 := by rw [← hw3]; exact (Below.refl _ _).drew
         have HB3 : Hid (Below W.heap.size W w3) := HB.out.trans (hb23.mono HB.out.size)
         have X3 : Hid (Box w3 wr.heap.size #[.int .i64 x, .int .i64 t, .int .i64 s] 125) := (box_of wr _ _).below hx3 (by simp)
         have B3 : Hid (Box w3 w.heap.size #[.slice (some ⟨p1, o1, none⟩) 20 wc, .slice da k dc] 38) := (BX.out.below HB.out BX.out.lt).below hb23 (BX.out.below HB.out BX.out.lt).lt
         have HW3 : Hid ((wr.alloc (.cells #[.int .i64 x, .int .i64 t, .int .i64 s] 125)).drew = w3) := hw3
         clear hb23 hx3 hw3
         rcases hok : wordOkM x t s (k : Int) with _ | _
         · have HNO : Hid (¬ MemGood fs 20 ds) := HNG.out (fun h => by
             have := (HWG.out.1 h).1
             rw [hok] at this
             cases this)
           have HOK : Hid (wordOkM x t s (k : Int) = false) := hok
           clear hok HNG HYG
           go_wp2_with fail
           change (Code.region _ (List.toArray memL) true).wp _ _ _ _
           refine wp_region_held_drew (S := fun w' => (w'.cell? ⟨w.heap.size, 0, none⟩ = some (.slice (some ⟨p1, o1, none⟩) 20 wc) ∧ w'.cell? ⟨w.heap.size, 1, none⟩ = some (.slice da k dc)) ∧ w'.cell? ⟨wr.heap.size, 0, none⟩ = some (.int .i64 x) ∧ w'.cell? ⟨wr.heap.size, 1, none⟩ = some (.int .i64 t) ∧ w'.cell? ⟨wr.heap.size, 2, none⟩ = some (.int .i64 s)) (by kernel_rfl) ?_ (fun hHeld => ?_)
           · rw [HW3.out]; exact ⟨⟨B3.out.two.1, B3.out.two.2.1⟩, X3.out.three.1, X3.out.three.2.1, X3.out.three.2.2.1⟩
           rw [HW3.out] at hHeld ⊢
           refine takeH 0 (WordV x t s) ?_ hHeld ?_
           · intro w hSw; obtain ⟨⟨s1, s2⟩, s3, s4, s5⟩ := hSw; go_simp
           simp only [Act.put, List.setIfInBounds_toArray, List.set_cons_zero, List.set_cons_succ]
           refine takeH 1 (.pointer (some ⟨w.heap.size, 1, none⟩)) ?_ hHeld ?_
           · intro w hSw; obtain ⟨⟨s1, s2⟩, s3, s4, s5⟩ := hSw; go_simp
           simp only [Act.put, List.setIfInBounds_toArray, List.set_cons_zero, List.set_cons_succ]
           refine takeH 2 (.slice da k dc) ?_ hHeld ?_
           · intro w hSw; obtain ⟨⟨s1, s2⟩, s3, s4, s5⟩ := hSw; go_simp
           simp only [Act.put, List.setIfInBounds_toArray, List.set_cons_zero, List.set_cons_succ]
           refine takeH 3 (.int .i64 k) ?_ hHeld ?_
           · intro w hSw; obtain ⟨⟨s1, s2⟩, s3, s4, s5⟩ := hSw; go_simp
           simp only [Act.put, List.setIfInBounds_toArray, List.set_cons_zero, List.set_cons_succ]
           refine wpAnyH_ready (rs := [4]) (by kernel_rfl) (by simp) ?_
           refine AllReadyH.cons (o := _) (by rw [List.getElem?_toArray]; exact rfl) (fun K hK => ?_) AllReadyH.nil
           rw [if_pos (by kernel_rfl)]
           go_simp
           refine (implWordOk_any x t s (k : Int) _).mono ?_
           rintro e w4 ⟨rfl, hb4⟩
           rw [HOK.out]
           have HB4 : Hid (Below W.heap.size W w4) := HB3.out.trans (hb4.mono HB3.out.size)
           refine hK.out _ _ ?_ (fun hHeld => ?_)
           · exact ⟨⟨(B3.out.below hb4 B3.out.lt).two.1, (B3.out.below hb4 B3.out.lt).two.2.1⟩, (X3.out.below hb4 X3.out.lt).three.1, (X3.out.below hb4 X3.out.lt).three.2.1, (X3.out.below hb4 X3.out.lt).three.2.2.1⟩
           clear hK K
           refine takeH 5 (.bool true) ?_ hHeld ?_
           · intro w hSw; obtain ⟨⟨s1, s2⟩, s3, s4, s5⟩ := hSw; go_simp
           simp only [Act.put, List.setIfInBounds_toArray, List.set_cons_zero, List.set_cons_succ]
           refine takeH 6 (.bool true) ?_ hHeld ?_
           · intro w hSw; obtain ⟨⟨s1, s2⟩, s3, s4, s5⟩ := hSw; go_simp
           simp only [Act.put, List.setIfInBounds_toArray, List.set_cons_zero, List.set_cons_succ]
           refine skipH 7 hHeld ?_
           simp only [Act.put, List.setIfInBounds_toArray, List.set_cons_zero, List.set_cons_succ]
           refine skipH 8 hHeld ?_
           simp only [Act.put, List.setIfInBounds_toArray, List.set_cons_zero, List.set_cons_succ]
           refine skipH 9 hHeld ?_
           simp only [Act.put, List.setIfInBounds_toArray, List.set_cons_zero, List.set_cons_succ]
           refine skipH 10 hHeld ?_
           simp only [Act.put, List.setIfInBounds_toArray, List.set_cons_zero, List.set_cons_succ]
           refine skipH 11 hHeld ?_
           simp only [Act.put, List.setIfInBounds_toArray, List.set_cons_zero, List.set_cons_succ]
           refine skipH 12 hHeld ?_
           simp only [Act.put, List.setIfInBounds_toArray, List.set_cons_zero, List.set_cons_succ]
           refine skipH 13 hHeld ?_
           simp only [Act.put, List.setIfInBounds_toArray, List.set_cons_zero, List.set_cons_succ]
           refine skipH 14 hHeld ?_
           simp only [Act.put, List.setIfInBounds_toArray, List.set_cons_zero, List.set_cons_succ]
           refine skipH 15 hHeld ?_
           simp only [Act.put, List.setIfInBounds_toArray, List.set_cons_zero, List.set_cons_succ]
           refine skipH 16 hHeld ?_
           simp only [Act.put, List.setIfInBounds_toArray, List.set_cons_zero, List.set_cons_succ]
           refine skipH 17 hHeld ?_
           simp only [Act.put, List.setIfInBounds_toArray, List.set_cons_zero, List.set_cons_succ]
           refine skipH 18 hHeld ?_
           simp only [Act.put, List.setIfInBounds_toArray, List.set_cons_zero, List.set_cons_succ]
           refine skipH 19 hHeld ?_
           simp only [Act.put, List.setIfInBounds_toArray, List.set_cons_zero, List.set_cons_succ]
           refine skipH 20 hHeld ?_
           simp only [Act.put, List.setIfInBounds_toArray, List.set_cons_zero, List.set_cons_succ]
           refine skipH 21 hHeld ?_
           simp only [Act.put, List.setIfInBounds_toArray, List.set_cons_zero, List.set_cons_succ]
           refine takeH 22 (.bool true) ?_ hHeld ?_
           · intro w hSw; obtain ⟨⟨s1, s2⟩, s3, s4, s5⟩ := hSw; go_simp
           simp only [Act.put, List.setIfInBounds_toArray, List.set_cons_zero, List.set_cons_succ]
           refine wpAnyH_done (by kernel_rfl) ?_ _
           go_wp2
           go_ret
           exact ⟨false, ⟨rfl, by simp [HNO.out]⟩, HB0.out.trans (HB4.out.mono HB0.out.size)⟩
         have HOK : Hid (wordOkM x t s (k : Int) = true) := hok
         have htv := wordOkM_t hok
         clear hok
         by_cases ht : t = 0
         · subst ht
           have HG : Hid (WordGood fs ds i) := HWG.out.2 ⟨HOK.out, fun h => absurd h (by omega)⟩
           clear HNG HWG htv
           go_wp2_with fail
           change (Code.region _ (List.toArray memL) true).wp _ _ _ _
           refine wp_region_held_drew (S := fun w' => (w'.cell? ⟨w.heap.size, 0, none⟩ = some (.slice (some ⟨p1, o1, none⟩) 20 wc) ∧ w'.cell? ⟨w.heap.size, 1, none⟩ = some (.slice da k dc)) ∧ w'.cell? ⟨wr.heap.size, 0, none⟩ = some (.int .i64 x) ∧ w'.cell? ⟨wr.heap.size, 1, none⟩ = some (.int .i64 0) ∧ w'.cell? ⟨wr.heap.size, 2, none⟩ = some (.int .i64 s)) (by kernel_rfl) ?_ (fun hHeld => ?_)
           · rw [HW3.out]; exact ⟨⟨B3.out.two.1, B3.out.two.2.1⟩, X3.out.three.1, X3.out.three.2.1, X3.out.three.2.2.1⟩
           rw [HW3.out] at hHeld ⊢
           refine takeH 0 (WordV x 0 s) ?_ hHeld ?_
           · intro w hSw; obtain ⟨⟨s1, s2⟩, s3, s4, s5⟩ := hSw; go_simp
           simp only [Act.put, List.setIfInBounds_toArray, List.set_cons_zero, List.set_cons_succ]
           refine takeH 1 (.pointer (some ⟨w.heap.size, 1, none⟩)) ?_ hHeld ?_
           · intro w hSw; obtain ⟨⟨s1, s2⟩, s3, s4, s5⟩ := hSw; go_simp
           simp only [Act.put, List.setIfInBounds_toArray, List.set_cons_zero, List.set_cons_succ]
           refine takeH 2 (.slice da k dc) ?_ hHeld ?_
           · intro w hSw; obtain ⟨⟨s1, s2⟩, s3, s4, s5⟩ := hSw; go_simp
           simp only [Act.put, List.setIfInBounds_toArray, List.set_cons_zero, List.set_cons_succ]
           refine takeH 3 (.int .i64 k) ?_ hHeld ?_
           · intro w hSw; obtain ⟨⟨s1, s2⟩, s3, s4, s5⟩ := hSw; go_simp
           simp only [Act.put, List.setIfInBounds_toArray, List.set_cons_zero, List.set_cons_succ]
           refine wpAnyH_ready (rs := [4]) (by kernel_rfl) (by simp) ?_
           refine AllReadyH.cons (o := _) (by rw [List.getElem?_toArray]; exact rfl) (fun K hK => ?_) AllReadyH.nil
           rw [if_pos (by kernel_rfl)]
           go_simp
           refine (implWordOk_any x 0 s (k : Int) _).mono ?_
           rintro e w4 ⟨rfl, hb4⟩
           rw [HOK.out]
           have HB4 : Hid (Below W.heap.size W w4) := HB3.out.trans (hb4.mono HB3.out.size)
           refine hK.out _ _ ?_ (fun hHeld => ?_)
           · exact ⟨⟨(B3.out.below hb4 B3.out.lt).two.1, (B3.out.below hb4 B3.out.lt).two.2.1⟩, (X3.out.below hb4 X3.out.lt).three.1, (X3.out.below hb4 X3.out.lt).three.2.1, (X3.out.below hb4 X3.out.lt).three.2.2.1⟩
           clear hK K
           refine takeH 5 (.bool false) ?_ hHeld ?_
           · intro w hSw; obtain ⟨⟨s1, s2⟩, s3, s4, s5⟩ := hSw; go_simp
           simp only [Act.put, List.setIfInBounds_toArray, List.set_cons_zero, List.set_cons_succ]
           refine takeH 6 (.bool false) ?_ hHeld ?_
           · intro w hSw; obtain ⟨⟨s1, s2⟩, s3, s4, s5⟩ := hSw; go_simp
           simp only [Act.put, List.setIfInBounds_toArray, List.set_cons_zero, List.set_cons_succ]
           refine takeH 7 (WordV x 0 s) ?_ hHeld ?_
           · intro w hSw; obtain ⟨⟨s1, s2⟩, s3, s4, s5⟩ := hSw; go_simp
           simp only [Act.put, List.setIfInBounds_toArray, List.set_cons_zero, List.set_cons_succ]
           refine wpAnyH_ready (rs := [8]) (by kernel_rfl) (by simp) ?_
           refine AllReadyH.cons (o := _) (by rw [List.getElem?_toArray]; exact rfl) (fun K hK => ?_) AllReadyH.nil
           rw [if_pos (by kernel_rfl)]
           go_simp
           refine (isMark_any x 0 s _).mono ?_
           rintro e w5 ⟨rfl, hb5⟩
           rw [show ((0 : Int) != 0) = false from rfl]
           have HB5 : Hid (Below W.heap.size W w5) := HB4.out.trans (hb5.mono HB4.out.size)
           have B4 : Hid (Box w4 w.heap.size #[.slice (some ⟨p1, o1, none⟩) 20 wc, .slice da k dc] 38) := B3.out.below hb4 B3.out.lt
           have X4 : Hid (Box w4 wr.heap.size #[.int .i64 x, .int .i64 0, .int .i64 s] 125) := X3.out.below hb4 X3.out.lt
           refine hK.out _ _ ?_ (fun hHeld => ?_)
           · exact ⟨⟨(B4.out.below hb5 B4.out.lt).two.1, (B4.out.below hb5 B4.out.lt).two.2.1⟩, (X4.out.below hb5 X4.out.lt).three.1, (X4.out.below hb5 X4.out.lt).three.2.1, (X4.out.below hb5 X4.out.lt).three.2.2.1⟩
           clear hK K
           refine takeH 9 (.bool false) ?_ hHeld ?_
           · intro w hSw; obtain ⟨⟨s1, s2⟩, s3, s4, s5⟩ := hSw; go_simp
           simp only [Act.put, List.setIfInBounds_toArray, List.set_cons_zero, List.set_cons_succ]
           refine skipH 10 hHeld ?_
           simp only [Act.put, List.setIfInBounds_toArray, List.set_cons_zero, List.set_cons_succ]
           refine skipH 11 hHeld ?_
           simp only [Act.put, List.setIfInBounds_toArray, List.set_cons_zero, List.set_cons_succ]
           refine skipH 12 hHeld ?_
           simp only [Act.put, List.setIfInBounds_toArray, List.set_cons_zero, List.set_cons_succ]
           refine skipH 13 hHeld ?_
           simp only [Act.put, List.setIfInBounds_toArray, List.set_cons_zero, List.set_cons_succ]
           refine skipH 14 hHeld ?_
           simp only [Act.put, List.setIfInBounds_toArray, List.set_cons_zero, List.set_cons_succ]
           refine skipH 15 hHeld ?_
           simp only [Act.put, List.setIfInBounds_toArray, List.set_cons_zero, List.set_cons_succ]
           refine skipH 16 hHeld ?_
           simp only [Act.put, List.setIfInBounds_toArray, List.set_cons_zero, List.set_cons_succ]
           refine skipH 17 hHeld ?_
           simp only [Act.put, List.setIfInBounds_toArray, List.set_cons_zero, List.set_cons_succ]
           refine skipH 18 hHeld ?_
           simp only [Act.put, List.setIfInBounds_toArray, List.set_cons_zero, List.set_cons_succ]
           refine skipH 19 hHeld ?_
           simp only [Act.put, List.setIfInBounds_toArray, List.set_cons_zero, List.set_cons_succ]
           refine skipH 20 hHeld ?_
           simp only [Act.put, List.setIfInBounds_toArray, List.set_cons_zero, List.set_cons_succ]
           refine takeH 21 (.bool false) ?_ hHeld ?_
           · intro w hSw; obtain ⟨⟨s1, s2⟩, s3, s4, s5⟩ := hSw; go_simp
           simp only [Act.put, List.setIfInBounds_toArray, List.set_cons_zero, List.set_cons_succ]
           refine takeH 22 (.bool false) ?_ hHeld ?_
           · intro w hSw; obtain ⟨⟨s1, s2⟩, s3, s4, s5⟩ := hSw; go_simp
           simp only [Act.put, List.setIfInBounds_toArray, List.set_cons_zero, List.set_cons_succ]
           refine wpAnyH_done (by kernel_rfl) ?_ _
           go_wp2
           exact ⟨⟨i + 1, by omega, by go_num, HYG.out HG.out, HB5.out⟩, by simp [intOf]; omega⟩
         obtain ⟨j, rfl⟩ : ∃ j : Nat, t = (j : Int) + 1 := ⟨(t - 1).toNat, by omega⟩
         have hj0 : (0 : Int) ≤ (j : Int) := by omega
         have hj1 : (j : Int) < (k : Int) := by have := htv.2 (by omega); omega
         rcases (H2.out.below HB3.out (Nat.le_refl _)).2.2 with h0 | ⟨q1, o2, rfl, g2⟩
         · omega
         rcases H3.out.below HB3.out (Nat.le_refl _) with h0 | ⟨q1', o2', he3, g3⟩
         · omega
         obtain ⟨rfl, rfl⟩ : q1 = q1' ∧ o2 = o2' := by simpa using he3
         obtain ⟨ea, ec, ra, rc, h5, h6, h7⟩ := g2 j (by omega)
         obtain ⟨ea', ec', h8, h9⟩ := g3 j (by omega)
         obtain ⟨rfl, rfl⟩ : ea = ea' ∧ ec = ec' := by
           have := h5.2.2.1.symm.trans h8
           simpa using this
         have H6 : Hid (TripAt w3 ea (dk ds j).en (dk ds j).es) := h6
         have H5 : Hid (Five w3 q1 (o2 + j * 5) (dk ds j) ea ec ra rc) := h5
         have HWG2 : Hid (WordGood fs ds i ↔ ((entM (dk ds j).es (dk ds j).en i).2.2.2 = true ∧ (dk ds j).sq = s)) := by
           show _ ↔ _
           rw [HWG.out, show ((j : Int) + 1 - 1).toNat = j by omega]
           exact ⟨fun h => h.2 (by omega), fun h => ⟨HOK.out, fun _ => h⟩⟩
         obtain ⟨D, hD⟩ : ∃ D, dk ds j = D := ⟨_, rfl⟩
         rw [hD] at HWG2 H6 H5 h9
         obtain ⟨dsq, dst, den, des, dcd, drn, drs⟩ := D
         dsimp only at HWG2 H6 h9
         have wsub : IntKind.i64.wrap ((j : Int) + 1 - 1) = (j : Int) := by rw [IntKind.wrap_i64]; omega
         have htn : ((j : Int) + 1 != 0) = true := by simp; omega
         have HTN : Hid (((j : Int) + 1 != 0) = true) := htn
         clear g2 g3 h5 h6 h7 h8 hD HWG he3 htn
         go_wp2_with fail
         change (Code.region _ (List.toArray memL) true).wp _ _ _ _
         refine wp_region_held_drew (S := fun w' => (w'.cell? ⟨w.heap.size, 0, none⟩ = some (.slice (some ⟨p1, o1, none⟩) 20 wc) ∧ w'.cell? ⟨w.heap.size, 1, none⟩ = some (.slice (some ⟨q1, o2, none⟩) k dc)) ∧ w'.cell? ⟨wr.heap.size, 0, none⟩ = some (.int .i64 x) ∧ w'.cell? ⟨wr.heap.size, 1, none⟩ = some (.int .i64 ((j : Int) + 1)) ∧ w'.cell? ⟨wr.heap.size, 2, none⟩ = some (.int .i64 s) ∧ Five w' q1 (o2 + j * 5) ⟨dsq, dst, den, des, dcd, drn, drs⟩ ea ec ra rc) (by kernel_rfl) ?_ (fun hHeld => ?_)
         · rw [HW3.out]; exact ⟨⟨B3.out.two.1, B3.out.two.2.1⟩, X3.out.three.1, X3.out.three.2.1, X3.out.three.2.2.1, H5.out⟩
         rw [HW3.out] at hHeld ⊢
         refine takeH 0 (WordV x ((j : Int) + 1) s) ?_ hHeld ?_
         · intro w hSw; obtain ⟨⟨s1, s2⟩, s3, s4, s5, ⟨s6, s7, s8, s9, s10⟩⟩ := hSw; go_simp
         simp only [Act.put, List.setIfInBounds_toArray, List.set_cons_zero, List.set_cons_succ]
         refine takeH 1 (.pointer (some ⟨w.heap.size, 1, none⟩)) ?_ hHeld ?_
         · intro w hSw; obtain ⟨⟨s1, s2⟩, s3, s4, s5, ⟨s6, s7, s8, s9, s10⟩⟩ := hSw; go_simp
         simp only [Act.put, List.setIfInBounds_toArray, List.set_cons_zero, List.set_cons_succ]
         refine takeH 2 (.slice (some ⟨q1, o2, none⟩) k dc) ?_ hHeld ?_
         · intro w hSw; obtain ⟨⟨s1, s2⟩, s3, s4, s5, ⟨s6, s7, s8, s9, s10⟩⟩ := hSw; go_simp
         simp only [Act.put, List.setIfInBounds_toArray, List.set_cons_zero, List.set_cons_succ]
         refine takeH 3 (.int .i64 k) ?_ hHeld ?_
         · intro w hSw; obtain ⟨⟨s1, s2⟩, s3, s4, s5, ⟨s6, s7, s8, s9, s10⟩⟩ := hSw; go_simp
         simp only [Act.put, List.setIfInBounds_toArray, List.set_cons_zero, List.set_cons_succ]
         refine wpAnyH_ready (rs := [4]) (by kernel_rfl) (by simp) ?_
         refine AllReadyH.cons (o := _) (by rw [List.getElem?_toArray]; exact rfl) (fun K hK => ?_) AllReadyH.nil
         rw [if_pos (by kernel_rfl)]
         go_simp
         refine (implWordOk_any x ((j : Int) + 1) s (k : Int) _).mono ?_
         rintro e w4 ⟨rfl, hb4⟩
         rw [HOK.out]
         have HB4 : Hid (Below W.heap.size W w4) := HB3.out.trans (hb4.mono HB3.out.size)
         refine hK.out _ _ ?_ (fun hHeld => ?_)
         · exact ⟨⟨(B3.out.below hb4 B3.out.lt).two.1, (B3.out.below hb4 B3.out.lt).two.2.1⟩, (X3.out.below hb4 X3.out.lt).three.1, (X3.out.below hb4 X3.out.lt).three.2.1, (X3.out.below hb4 X3.out.lt).three.2.2.1, H5.out.below hb4 (Nat.le_refl _)⟩
         clear hK K
         have B4 : Hid (Box w4 w.heap.size #[.slice (some ⟨p1, o1, none⟩) 20 wc, .slice (some ⟨q1, o2, none⟩) k dc] 38) := B3.out.below hb4 B3.out.lt
         have X4 : Hid (Box w4 wr.heap.size #[.int .i64 x, .int .i64 ((j : Int) + 1), .int .i64 s] 125) := X3.out.below hb4 X3.out.lt
         have F4 : Hid (Five w4 q1 (o2 + j * 5) ⟨dsq, dst, den, des, dcd, drn, drs⟩ ea ec ra rc) := H5.out.below hb4 (Nat.le_refl _)
         have T4 : Hid (TripAt w4 ea den des) := H6.out.below hb4 (Nat.le_refl _)
         clear hb4 B3 X3 H5 H6
         refine takeH 5 (.bool false) ?_ hHeld ?_
         · intro w hSw; obtain ⟨⟨s1, s2⟩, s3, s4, s5, ⟨s6, s7, s8, s9, s10⟩⟩ := hSw; go_simp
         simp only [Act.put, List.setIfInBounds_toArray, List.set_cons_zero, List.set_cons_succ]
         refine takeH 6 (.bool false) ?_ hHeld ?_
         · intro w hSw; obtain ⟨⟨s1, s2⟩, s3, s4, s5, ⟨s6, s7, s8, s9, s10⟩⟩ := hSw; go_simp
         simp only [Act.put, List.setIfInBounds_toArray, List.set_cons_zero, List.set_cons_succ]
         refine takeH 7 (WordV x ((j : Int) + 1) s) ?_ hHeld ?_
         · intro w hSw; obtain ⟨⟨s1, s2⟩, s3, s4, s5, ⟨s6, s7, s8, s9, s10⟩⟩ := hSw; go_simp
         simp only [Act.put, List.setIfInBounds_toArray, List.set_cons_zero, List.set_cons_succ]
         refine wpAnyH_ready (rs := [8]) (by kernel_rfl) (by simp) ?_
         refine AllReadyH.cons (o := _) (by rw [List.getElem?_toArray]; exact rfl) (fun K hK => ?_) AllReadyH.nil
         rw [if_pos (by kernel_rfl)]
         go_simp
         refine (isMark_any x ((j : Int) + 1) s _).mono ?_
         rintro e w5 ⟨rfl, hb5⟩
         rw [HTN.out]
         have HB5 : Hid (Below W.heap.size W w5) := HB4.out.trans (hb5.mono HB4.out.size)
         refine hK.out _ _ ?_ (fun hHeld => ?_)
         · exact ⟨⟨(B4.out.below hb5 B4.out.lt).two.1, (B4.out.below hb5 B4.out.lt).two.2.1⟩, (X4.out.below hb5 X4.out.lt).three.1, (X4.out.below hb5 X4.out.lt).three.2.1, (X4.out.below hb5 X4.out.lt).three.2.2.1, F4.out.below hb5 (Nat.le_refl _)⟩
         clear hK K
         have T5 : Hid (TripAt w5 ea den des) := T4.out.below hb5 (Nat.le_refl _)
         have B5 : Hid (Box w5 w.heap.size #[.slice (some ⟨p1, o1, none⟩) 20 wc, .slice (some ⟨q1, o2, none⟩) k dc] 38) := B4.out.below hb5 B4.out.lt
         have X5 : Hid (Box w5 wr.heap.size #[.int .i64 x, .int .i64 ((j : Int) + 1), .int .i64 s] 125) := X4.out.below hb5 X4.out.lt
         have F5 : Hid (Five w5 q1 (o2 + j * 5) ⟨dsq, dst, den, des, dcd, drn, drs⟩ ea ec ra rc) := F4.out.below hb5 (Nat.le_refl _)
         clear hb5 B4 X4 F4 T4
         refine takeH 9 (.bool true) ?_ hHeld ?_
         · intro w hSw; obtain ⟨⟨s1, s2⟩, s3, s4, s5, ⟨s6, s7, s8, s9, s10⟩⟩ := hSw; go_simp
         simp only [Act.put, List.setIfInBounds_toArray, List.set_cons_zero, List.set_cons_succ]
         refine takeH 10 (.pointer (some ⟨w.heap.size, 1, none⟩)) ?_ hHeld ?_
         · intro w hSw; obtain ⟨⟨s1, s2⟩, s3, s4, s5, ⟨s6, s7, s8, s9, s10⟩⟩ := hSw; go_simp
         simp only [Act.put, List.setIfInBounds_toArray, List.set_cons_zero, List.set_cons_succ]
         refine takeH 11 (.slice (some ⟨q1, o2, none⟩) k dc) ?_ hHeld ?_
         · intro w hSw; obtain ⟨⟨s1, s2⟩, s3, s4, s5, ⟨s6, s7, s8, s9, s10⟩⟩ := hSw; go_simp
         simp only [Act.put, List.setIfInBounds_toArray, List.set_cons_zero, List.set_cons_succ]
         refine takeH 12 (.pointer (some ⟨wr.heap.size, 1, none⟩)) ?_ hHeld ?_
         · intro w hSw; obtain ⟨⟨s1, s2⟩, s3, s4, s5, ⟨s6, s7, s8, s9, s10⟩⟩ := hSw; go_simp
         simp only [Act.put, List.setIfInBounds_toArray, List.set_cons_zero, List.set_cons_succ]
         refine takeH 13 (.int .i64 ((j : Int) + 1)) ?_ hHeld ?_
         · intro w hSw; obtain ⟨⟨s1, s2⟩, s3, s4, s5, ⟨s6, s7, s8, s9, s10⟩⟩ := hSw; go_simp
         simp only [Act.put, List.setIfInBounds_toArray, List.set_cons_zero, List.set_cons_succ]
         refine takeH 14 (.int .i64 (j : Int)) ?_ hHeld ?_
         · intro w hSw; obtain ⟨⟨s1, s2⟩, s3, s4, s5, ⟨s6, s7, s8, s9, s10⟩⟩ := hSw; go_simp; rw [IntKind.wrap_i64]; omega
         simp only [Act.put, List.setIfInBounds_toArray, List.set_cons_zero, List.set_cons_succ]
         refine takeH 15 (.pointer (some ⟨q1, o2 + j * 5, none⟩)) ?_ hHeld ?_
         · intro w hSw; obtain ⟨⟨s1, s2⟩, s3, s4, s5, ⟨s6, s7, s8, s9, s10⟩⟩ := hSw; go_simp
         simp only [Act.put, List.setIfInBounds_toArray, List.set_cons_zero, List.set_cons_succ]
         refine takeH 16 (DescV dsq dst ea den ec dcd ra drn rc) ?_ hHeld ?_
         · intro w hSw; obtain ⟨⟨s1, s2⟩, s3, s4, s5, ⟨s6, s7, s8, s9, s10⟩⟩ := hSw; go_simp
         simp only [Act.put, List.setIfInBounds_toArray, List.set_cons_zero, List.set_cons_succ]
         refine takeH 17 (WordV x ((j : Int) + 1) s) ?_ hHeld ?_
         · intro w hSw; obtain ⟨⟨s1, s2⟩, s3, s4, s5, ⟨s6, s7, s8, s9, s10⟩⟩ := hSw; go_simp
         simp only [Act.put, List.setIfInBounds_toArray, List.set_cons_zero, List.set_cons_succ]
         refine takeH 18 (.int .i64 (i : Int)) ?_ hHeld ?_
         · intro w hSw; obtain ⟨⟨s1, s2⟩, s3, s4, s5, ⟨s6, s7, s8, s9, s10⟩⟩ := hSw; go_simp
         simp only [Act.put, List.setIfInBounds_toArray, List.set_cons_zero, List.set_cons_succ]
         refine wpAnyH_ready (rs := [19]) (by kernel_rfl) (by simp) ?_
         refine AllReadyH.cons (o := _) (by rw [List.getElem?_toArray]; exact rfl) (fun K hK => ?_) AllReadyH.nil
         rw [if_pos (by kernel_rfl)]
         go_simp
         refine (laidBy_any dsq dst ea den ec des dcd ra drn rc x ((j : Int) + 1) s (i : Int) _ T5.out h9).mono ?_
         rintro e w6 ⟨rfl, hb6⟩
         have HB6 : Hid (Below W.heap.size W w6) := HB5.out.trans (hb6.mono HB5.out.size)
         refine hK.out _ _ ?_ (fun hHeld => ?_)
         · exact ⟨⟨(B5.out.below hb6 B5.out.lt).two.1, (B5.out.below hb6 B5.out.lt).two.2.1⟩, (X5.out.below hb6 X5.out.lt).three.1, (X5.out.below hb6 X5.out.lt).three.2.1, (X5.out.below hb6 X5.out.lt).three.2.2.1, F5.out.below hb6 (Nat.le_refl _)⟩
         clear hK K hb6 B5 X5 F5 T5 wsub
         rcases hl : ((entM des den i).2.2.2 && dsq == s) with _ | _
         · have HNO : Hid (¬ MemGood fs 20 ds) := HNG.out (fun h => by
             have h2 := HWG2.out.1 h
             rw [h2.1, h2.2] at hl
             simp at hl)
           clear hl HNG HYG HWG2
           refine takeH 20 (.bool true) ?_ hHeld ?_
           · intro w hSw; obtain ⟨⟨s1, s2⟩, s3, s4, s5, ⟨s6, s7, s8, s9, s10⟩⟩ := hSw; go_simp
           simp only [Act.put, List.setIfInBounds_toArray, List.set_cons_zero, List.set_cons_succ]
           refine takeH 21 (.bool true) ?_ hHeld ?_
           · intro w hSw; obtain ⟨⟨s1, s2⟩, s3, s4, s5, ⟨s6, s7, s8, s9, s10⟩⟩ := hSw; go_simp
           simp only [Act.put, List.setIfInBounds_toArray, List.set_cons_zero, List.set_cons_succ]
           refine takeH 22 (.bool true) ?_ hHeld ?_
           · intro w hSw; obtain ⟨⟨s1, s2⟩, s3, s4, s5, ⟨s6, s7, s8, s9, s10⟩⟩ := hSw; go_simp
           simp only [Act.put, List.setIfInBounds_toArray, List.set_cons_zero, List.set_cons_succ]
           refine wpAnyH_done (by kernel_rfl) ?_ _
           go_wp2
           go_ret
           exact ⟨false, ⟨rfl, by simp [HNO.out]⟩, HB0.out.trans (HB6.out.mono HB0.out.size)⟩
         · have HG : Hid (WordGood fs ds i) := HWG2.out.2 (by simpa using hl)
           clear hl HNG HWG2
           refine takeH 20 (.bool false) ?_ hHeld ?_
           · intro w hSw; obtain ⟨⟨s1, s2⟩, s3, s4, s5, ⟨s6, s7, s8, s9, s10⟩⟩ := hSw; go_simp
           simp only [Act.put, List.setIfInBounds_toArray, List.set_cons_zero, List.set_cons_succ]
           refine takeH 21 (.bool false) ?_ hHeld ?_
           · intro w hSw; obtain ⟨⟨s1, s2⟩, s3, s4, s5, ⟨s6, s7, s8, s9, s10⟩⟩ := hSw; go_simp
           simp only [Act.put, List.setIfInBounds_toArray, List.set_cons_zero, List.set_cons_succ]
           refine takeH 22 (.bool false) ?_ hHeld ?_
           · intro w hSw; obtain ⟨⟨s1, s2⟩, s3, s4, s5, ⟨s6, s7, s8, s9, s10⟩⟩ := hSw; go_simp
           simp only [Act.put, List.setIfInBounds_toArray, List.set_cons_zero, List.set_cons_succ]
           refine wpAnyH_done (by kernel_rfl) ?_ _
           go_wp2
           exact ⟨⟨i + 1, by omega, by go_num, HYG.out HG.out, HB6.out⟩, by simp [intOf]; omega⟩
       · obtain rfl : i = 20 := by omega
         have HG : Hid (MemGood fs 20 ds) := ⟨rfl, by rw [HL.out]; omega, HDS.out, HALL.out⟩
         go_wp2
         go_ret
         exact ⟨true, ⟨rfl, by simp [HG.out]⟩, HB0.out.trans (HB.out.mono HB0.out.size)⟩
end
end Go.Proofs.YtbfolanfbagofaaGreatDoor
