/- Texts joined: DrawT, SpecRes, SpecWh, SpecFi, AnewW, ImplIn, EqualI. -/
import Derived.Test.YtfanppifelajnaaDoorTB05
import Derived.Test.YtfanppifelajnaaDoorTB03
import Derived.Test.YtfanppifelajnaaDoorTB02
import Derived.Deep.Cut
import Derived.Handy
import Derived.Below
import Derived.Lib.SmallJoins
import Derived.Test.YtfanppifelajnaaDoorTB04
import Derived.Deep.RegionHeld3
set_option maxHeartbeats 2000000
set_option maxRecDepth 100000
namespace Go.Proofs.YtfanppifelajnaaDoor
section
open Go.ChangeShapes Go.WideShapes Go.ChangeAt Go.RowKit Go.Joins
def Near (ws : List Int) : Prop := ∀ x ∈ ws, -1 ≤ x ∧ x ≤ 9
theorem Near.wf {ws : List Int} (h : Near ws) : ∀ x ∈ ws, (Lit.int .i64 x).wf = true := fun x hx => WalkArith.wf_i64 (by have := h x hx; omega)
theorem Near.take {ws : List Int} (h : Near ws) (k : Nat) : Near (ws.take k) := fun x hx => h x (List.mem_of_mem_take hx)
theorem Near.set {ws : List Int} (h : Near ws) (k : Nat) {v : Int} (hv : -1 ≤ v ∧ v ≤ 9) : Near (ws.set k v) := fun x hx => by
 rcases List.mem_or_eq_of_mem_set hx with h1 | rfl
 · exact h x h1
 · exact hv
theorem clsW_in (y0 y1 y2 y3 c : Int) : 0 ≤ clsW y0 y1 y2 y3 c ∧ clsW y0 y1 y2 y3 c ≤ 4 := by
 unfold clsW bitW
 constructor <;> (repeat' split) <;> omega
theorem specL_near {xs : List Int} {st : Int} (h : OkRows xs st) : Near (specL xs st) := by
 obtain ⟨y0, y1, y2, y3, rfl⟩ : ∃ y0 y1 y2 y3, xs = [y0, y1, y2, y3] := by
   match xs, h.1 with
   | [y0, y1, y2, y3], _ => exact ⟨y0, y1, y2, y3, rfl⟩
 obtain ⟨hs, h4⟩ := (okFour_iff y0 y1 y2 y3 st).1 h
 unfold OkFour at h4
 intro x hx
 have e : specL [y0, y1, y2, y3] st = wordsL y0 y1 y2 y3 st := rfl
 rw [e] at hx
 unfold wordsL wordsG at hx
 simp only [List.mem_cons, List.not_mem_nil, or_false] at hx
 rcases hx with rfl | rfl | rfl | rfl | rfl | rfl | rfl | rfl | rfl | rfl | rfl | rfl | rfl | rfl | rfl | rfl | rfl | rfl | rfl | rfl
 · omega
 · omega
 · omega
 · omega
 · have := ownW_in y0 y1 y2 y3 1; omega
 · have := ownW_in y0 y1 y2 y3 2; omega
 · have := ownW_in y0 y1 y2 y3 3; omega
 · have := ownW_in y0 y1 y2 y3 4; omega
 · have := ownW_in y0 y1 y2 y3 5; omega
 · have := ownW_in y0 y1 y2 y3 6; omega
 · have := clsW_in y0 y1 y2 y3 0; omega
 · have := clsW_in y0 y1 y2 y3 1; omega
 · have := clsW_in y0 y1 y2 y3 2; omega
 · omega
 · have := viaW_in y0 y1 y2 y3 st 1; omega
 · have := viaW_in y0 y1 y2 y3 st 2; omega
 · have := viaW_in y0 y1 y2 y3 st 3; omega
 · have := viaW_in y0 y1 y2 y3 st 4; omega
 · have := viaW_in y0 y1 y2 y3 st 5; omega
 · have := viaW_in y0 y1 y2 y3 st 6; omega
def DrawnAt (w' : World) (g m : Nat) (ws : List Int) : Prop := m ≤ 20 ∧ IntAt w' (some ⟨g, 0, none⟩) m ws ∧ Near ws
theorem int_take {w : World} {g m : Nat} {ws : List Int} (h : IntAt w (some ⟨g, 0, none⟩) 20 ws) (hm : m < 20) : IntAt w (some ⟨g, 0, none⟩) m (ws.take m) := by
 refine ⟨by have := h.1; simp; omega, by omega, .inr ⟨g, 0, rfl, fun i hi => ?_⟩⟩
 rcases h.2.2 with h0 | ⟨b, o, he, hc⟩
 · omega
 · cases he
   rw [hc i (by omega)]
   simp [List.getD, hi]
theorem l13Draw_any (p : Nat) (a : Option Addr) (n c : Nat) (w : World) (hC : Cur 55 w p a n c) :
   Calls Tryd.prog 24 #[.pointer (some ⟨p, 0, none⟩)] w fun e w' => ∃ (g m : Nat) (ws : List Int), e = .returned (.slice (some ⟨g, 0, none⟩) m 20) ∧ p < g ∧ DrawnAt w' g m ws ∧ Cur 55 w' p a n c ∧ w.grownBy w' (some p) := by
 have HC : Hid (Cur 55 w p a n c) := hC
 have hpw := hC.lt
 clear hC
 go_enter Tryd.func24, Tryd.ntmps24
 go_wp2_with fail
 refine (l3DrawRight_ok p a n c w HC.out).mono ?_
 rintro e w1 ⟨g0, xs, st, rfl, hg0, own1, hok, hC1, hf1⟩
 have HOK : Hid (OkRows xs st) := hok
 have HC1 : Hid (Cur 55 w1 p a n c) := hC1
 have HF1 : Hid (w.grownBy w1 (some p)) := hf1
 have HO1 : Hid (IntAt w1 (some ⟨g0, 0, none⟩) 4 xs) := own_intAt own1 (by omega)
 have hp1 : p < w1.heap.size := hC1.lt
 have hs1 : w.heap.size ≤ w1.heap.size := hf1.size
 clear hok hC1 hf1 own1
 go_wp2_with fail
 refine (specWordsOf_own (some ⟨g0, 0, none⟩) 4 st xs _ HO1.out ((ok_iff HO1.out.1).2 HOK.out)).mono ?_
 rintro e w2 ⟨⟨g, hg, rfl, own2⟩, hb2⟩
 have HO2 : Hid (w2.ownsRow g 3 1 (.slice (some ⟨g, 0, none⟩) 20 20) 20 ((specL xs st).map I)) := own2
 have HC2 : Hid (Cur 55 w2 p a n c) := cur_below HC1.out hb2
 have HF2 : Hid (w.grownBy w2 (some p)) := far_below_of HF1.out hb2
 have hpg : p < g := by omega
 clear own2 hb2 HO1 HF1 HC1
 go_wp2_with fail
 refine (l1Below_any p a n c 6 (by omega) (by omega) _ HC2.out).mono ?_
 rintro e w3 ⟨x, hx, rfl, hC3, hO3⟩
 have HO3 : Hid (w3.ownsRow g 3 1 (.slice (some ⟨g, 0, none⟩) 20 20) 20 ((specL xs st).map I)) := hO3.owns HO2.out hpg
 have HC3 : Hid (Cur 55 w3 p a n c) := hC3
 have HF3 : Hid (w.grownBy w3 (some p)) := HF2.out.trans (far_only hO3)
 clear hC3 hO3 HO2 HC2 HF2
 have NEAR : Hid (Near (specL xs st)) := specL_near HOK.out
 by_cases x0 : x = 0
 · subst x0
   go_wp2_with fail
   refine (l1Below_any p a n c 20 (by omega) (by omega) _ HC3.out).mono ?_
   rintro e w4 ⟨y, hy, rfl, hC4, hO4⟩
   have HO4 : Hid (w4.ownsRow g 3 1 (.slice (some ⟨g, 0, none⟩) 20 20) 20 ((specL xs st).map I)) := hO4.owns HO3.out hpg
   have HC4 : Hid (Cur 55 w4 p a n c) := hC4
   have HF4 : Hid (w.grownBy w4 (some p)) := HF3.out.trans (far_only hO4)
   clear hC4 hO4 HO3 HC3 HF3
   go_wp2_with fail
   refine (l1Below_any p a n c 9 (by omega) (by omega) _ HC4.out).mono ?_
   rintro e w5 ⟨z, hz, rfl, hC5, hO5⟩
   have HO5 : Hid (w5.ownsRow g 3 1 (.slice (some ⟨g, 0, none⟩) 20 20) 20 ((specL xs st).map I)) := hO5.owns HO4.out hpg
   have HC5 : Hid (Cur 55 w5 p a n c) := hC5
   have HF5 : Hid (w.grownBy w5 (some p)) := HF4.out.trans (far_only hO5)
   clear hC5 hO5 HO4 HC4 HF4
   have hy' : y < 20 := by omega
   have hf := HO5.out.frozenAt y
   obtain ⟨u, hc⟩ := own_cell HO5.out hy'
   have hst := (HO5.out.stored y (I ((z : Int) - 1))).1
   rw [← List.map_set] at hst
   have HS : Hid (IntAt (w5.setCell ⟨g, y, none⟩ (I ((z : Int) - 1))) (some ⟨g, 0, none⟩) 20 ((specL xs st).set y ((z : Int) - 1))) := own_intAt hst (by omega)
   have HNR : Hid (Near ((specL xs st).set y ((z : Int) - 1))) := NEAR.out.set y (by omega)
   have hgw : w.heap.size ≤ g := by omega
   clear hst
   go_wp2
   go_ret
   exact ⟨g, 20, _, rfl, hpg, ⟨Nat.le_refl _, HS.out, HNR.out⟩, cur_set HC5.out hpg _, far_set HF5.out (show w.heap.size ≤ g from hgw) _⟩
 by_cases x1 : x = 1
 · subst x1
   go_wp2_with fail
   refine (l1Below_any p a n c 20 (by omega) (by omega) _ HC3.out).mono ?_
   rintro e w4 ⟨y, hy, rfl, hC4, hO4⟩
   have HO4 : Hid (IntAt w4 (some ⟨g, 0, none⟩) 20 (specL xs st)) := own_intAt (hO4.owns HO3.out hpg) (by omega)
   have HC4 : Hid (Cur 55 w4 p a n c) := hC4
   have HF4 : Hid (w.grownBy w4 (some p)) := HF3.out.trans (far_only hO4)
   have hsl : ∀ w : World, (Instr.slice 24 (.slice (some ⟨g, 0, none⟩) 20 20) none (some (.int .i64 (y : Int))) none).run Tryd.prog w = .ok (.slice (some ⟨g, 0, none⟩) y 20) w := fun w => by
     rw [run_slice_h w 24 (some ⟨g, 0, none⟩) 20 20 Tryd.underlying24 .i64 (y : Int) (by omega) (by omega), show Tryd.prog.elem 24 = 3 from rfl, Tryd.sizeOf3 w]
     simp [Result.andThen, sliced, Addr.add]
   have HY : Hid ((y : Int) < 20) := hy
   clear hC4 hO4 HO3 HC3 HF3 hy
   go_wp2
   go_ret
   have hy : y < 20 := by have := HY.out; omega
   exact ⟨g, y, _, rfl, hpg, ⟨by omega, int_take HO4.out hy, NEAR.out.take y⟩, HC4.out, HF4.out⟩
 · have e0 : ((x : Int) == 0) = false := by simp; omega
   have e1 : ((x : Int) == 1) = false := by simp; omega
   go_wp2
   go_ret
   exact ⟨g, 20, _, rfl, hpg, ⟨Nat.le_refl _, own_intAt HO3.out (by omega), NEAR.out⟩, HC3.out, HF3.out⟩
theorem int_keep {w w' : World} {g m : Nat} {ws : List Int} (h : IntAt w (some ⟨g, 0, none⟩) m ws) (hk : ∀ k, k = g → w'.heap[k]? = w.heap[k]?) : IntAt w' (some ⟨g, 0, none⟩) m ws := by
 refine ⟨h.1, h.2.1, ?_⟩
 rcases h.2.2 with h0 | ⟨b, o, he, hc⟩
 · exact .inl h0
 · cases he
   exact .inr ⟨g, 0, rfl, fun i hi => (World.cell?_of_block (w := w) (hk g rfl)).trans (hc i hi)⟩
theorem drawStray_any (a : Option Addr) (n c : Nat) (w : World) (hn : n ≤ 1048576) (hB : BytesAt w w.heap.size a n) :
   Calls Tryd.prog 5 #[.slice a n c] w fun e w' => ∃ (g m : Nat) (ws : List Int), e = .returned (.slice (some ⟨g, 0, none⟩) m 20) ∧ DrawnAt w' g m ws ∧ Below w.heap.size w w' := by
 have HB : Hid (BytesAt w w.heap.size a n) := hB
 clear hB
 go_enter Tryd.func5, Tryd.ntmps5
 go_wp2_with fail
 refine (l1New_any a n c w hn HB.out).mono ?_
 rintro e w1 ⟨rfl, hC1, hb1, _⟩
 have HC1 : Hid (Cur 55 w1 w.heap.size a n c) := hC1
 have HB1 : Hid (Below w.heap.size w w1) := hb1
 clear hC1 hb1
 go_wp2_with fail
 refine (l13Draw_any w.heap.size a n c _ HC1.out).mono ?_
 rintro e w2 ⟨g, m, ws, rfl, _, hD, _, hf⟩
 have HD : Hid (DrawnAt w2 g m ws) := hD
 have HB2 : Hid (Below w.heap.size w w2) := HB1.out.grown hf HB1.out.size (fun k e => by cases e; exact Nat.le_refl _)
 clear hD hf
 go_wp2
 go_ret
 exact ⟨g, m, ws, rfl, HD.out, HB2.out⟩
theorem drawRowsIn_any (a : Option Addr) (n c : Nat) (w : World) (hn : n ≤ 1048576) (hB : BytesAt w w.heap.size a n) :
   Calls Tryd.prog 13 #[.slice a n c] w fun e w' => ∃ (g m : Nat) (ws : List Int), e = .returned (.slice (some ⟨g, 0, none⟩) m 20) ∧ DrawnAt w' g m ws ∧ Below w.heap.size w w' := by
 have HB : Hid (BytesAt w w.heap.size a n) := hB
 clear hB
 go_enter Tryd.func13, Tryd.ntmps13
 go_wp2_with fail
 refine (l1New_any a n c w hn HB.out).mono ?_
 rintro e w1 ⟨rfl, hC1, hb1, _⟩
 have HC1 : Hid (Cur 55 w1 w.heap.size a n c) := hC1
 have HB1 : Hid (Below w.heap.size w w1) := hb1
 clear hC1 hb1
 go_wp2_with fail
 refine (l13Draw_any w.heap.size a n c _ HC1.out).mono ?_
 rintro e w2 ⟨g, m, ws, rfl, _, hD, _, hf⟩
 have HD : Hid (DrawnAt w2 g m ws) := hD
 have HB2 : Hid (Below w.heap.size w w2) := HB1.out.grown hf HB1.out.size (fun k e => by cases e; exact Nat.le_refl _)
 clear hD hf
 go_wp2
 go_ret
 exact ⟨g, m, ws, rfl, HD.out, HB2.out⟩
theorem drawWhole_any (a : Option Addr) (n c : Nat) (w : World) (hn : n ≤ 1048576) (hB : BytesAt w w.heap.size a n) :
   Calls Tryd.prog 14 #[.slice a n c] w fun e w' => ∃ (g m : Nat) (ws : List Int), e = .returned (.slice (some ⟨g, 0, none⟩) m 20) ∧ DrawnAt w' g m ws ∧ Below w.heap.size w w' := by
 have HB : Hid (BytesAt w w.heap.size a n) := hB
 clear hB
 go_enter Tryd.func14, Tryd.ntmps14
 go_wp2_with fail
 refine (l1New_any a n c w hn HB.out).mono ?_
 rintro e w1 ⟨rfl, hC1, hb1, _⟩
 have HC1 : Hid (Cur 55 w1 w.heap.size a n c) := hC1
 have HB1 : Hid (Below w.heap.size w w1) := hb1
 clear hC1 hb1
 go_wp2_with fail
 refine (l13Draw_any w.heap.size a n c _ HC1.out).mono ?_
 rintro e w2 ⟨g, m, ws, rfl, _, hD, _, hf⟩
 have HD : Hid (DrawnAt w2 g m ws) := hD
 have HB2 : Hid (Below w.heap.size w w2) := HB1.out.grown hf HB1.out.size (fun k e => by cases e; exact Nat.le_refl _)
 clear hD hf
 go_wp2
 go_ret
 exact ⟨g, m, ws, rfl, HD.out, HB2.out⟩
theorem drawFind_any (a : Option Addr) (n c : Nat) (w : World) (hn : n ≤ 1048576) (hB : BytesAt w w.heap.size a n) :
   Calls Tryd.prog 7 #[.slice a n c] w fun e w' => ∃ (g m : Nat) (ws : List Int) (v : Int), e = .returned (.tuple #[.slice (some ⟨g, 0, none⟩) m 20, .int .i64 v]) ∧ DrawnAt w' g m ws ∧ Below w.heap.size w w' := by
 have HB : Hid (BytesAt w w.heap.size a n) := hB
 clear hB
 go_enter Tryd.func7, Tryd.ntmps7
 go_wp2_with fail
 refine (l1New_any a n c w hn HB.out).mono ?_
 rintro e w1 ⟨rfl, hC1, hb1, _⟩
 have HC1 : Hid (Cur 55 w1 w.heap.size a n c) := hC1
 have HB1 : Hid (Below w.heap.size w w1) := hb1
 clear hC1 hb1
 go_wp2_with fail
 refine (l13Draw_any w.heap.size a n c _ HC1.out).mono ?_
 rintro e w2 ⟨g, m, ws, rfl, hpg, hD, hC2, hf⟩
 have HD : Hid (DrawnAt w2 g m ws) := hD
 have HC2 : Hid (Cur 55 w2 w.heap.size a n c) := hC2
 have HB2 : Hid (Below w.heap.size w w2) := HB1.out.grown hf HB1.out.size (fun k e => by cases e; exact Nat.le_refl _)
 clear hD hf hC2
 go_wp2_with fail
 refine (l1Below_any w.heap.size a n c 9 (by omega) (by omega) _ HC2.out).mono ?_
 rintro e w3 ⟨x, hx, rfl, _, hO3⟩
 have HD3 : Hid (DrawnAt w3 g m ws) := ⟨HD.out.1, int_keep HD.out.2.1 (fun k hk => hO3.block k (by rw [hk]; omega)), HD.out.2.2⟩
 have HB3 : Hid (Below w.heap.size w w3) := HB2.out.trans (hO3.below (Nat.le_refl _))
 clear hO3
 go_wp2
 go_ret2
 exact ⟨g, m, ws, _, rfl, HD3.out, HB3.out⟩
theorem drawFindVia_any (a : Option Addr) (n c : Nat) (w : World) (hn : n ≤ 1048576) (hB : BytesAt w w.heap.size a n) :
   Calls Tryd.prog 10 #[.slice a n c] w fun e w' => ∃ (g m : Nat) (ws : List Int) (v : Int), e = .returned (.tuple #[.slice (some ⟨g, 0, none⟩) m 20, .int .i64 v]) ∧ DrawnAt w' g m ws ∧ Below w.heap.size w w' := by
 have HB : Hid (BytesAt w w.heap.size a n) := hB
 clear hB
 go_enter Tryd.func10, Tryd.ntmps10
 go_wp2_with fail
 refine (drawFind_any a n c w hn HB.out).mono ?_
 rintro e w1 ⟨g, m, ws, v, rfl, hD, hb⟩
 have HD : Hid (DrawnAt w1 g m ws) := hD
 have HB1 : Hid (Below w.heap.size w w1) := hb
 clear hD hb
 go_wp2
 go_ret2
 exact ⟨g, m, ws, _, rfl, HD.out, HB1.out⟩
end
section
open Go.ChangeShapes Go.WideShapes Go.ChangeAt Go.RowKit
theorem l4Ints_any (a1 a2 : Option Addr) (n1 n2 c1 c2 : Nat) (xs ys : List Int) (w : World) (h1 : IntAt w a1 n1 xs) (h2 : IntAt w a2 n2 ys) :
   Calls Tryd.prog 40 #[.slice a1 n1 c1, .slice a2 n2 c2] w fun e w' => e = .returned (.bool (decide (xs = ys))) ∧ Below w.heap.size w w' := by
 have H1 : Hid (IntAt w a1 n1 xs) := h1
 have H2 : Hid (IntAt w a2 n2 ys) := h2
 have L1 : Hid (xs.length = n1) := h1.1
 have L2 : Hid (ys.length = n2) := h2.1
 have b1 := h1.2.1
 have b2 := h2.2.1
 obtain ⟨B, hB⟩ : ∃ B, decide (xs = ys) = B := ⟨_, rfl⟩
 rw [hB]
 have HB : Hid (decide (xs = ys) = B) := hB
 clear h1 h2 hB
 go_enter Tryd.func40, Tryd.ntmps40
 go_wp2
 go_loopw [5] (fun i wr => ∃ k : Nat, (k ≤ n1 ∧ k ≤ n2) ∧ i = .int .i64 k ∧ xs.take k = ys.take k ∧ Below w.heap.size w wr) (fun i _ => n1 - (intOf i).toNat)
 case atStart => exact ⟨0, ⟨Nat.zero_le _, Nat.zero_le _⟩, rfl, rfl, Below.refl _ _⟩
 case round =>
   obtain ⟨k, ⟨hk1, hk2⟩, rfl, ht, hb⟩ := hrel
   have HT : Hid (xs.take k = ys.take k) := ht
   clear ht
   by_cases hlt1 : k < n1
   · by_cases hlt2 : k < n2
     · rcases (H1.out.below hb (Nat.le_refl _)).2.2 with h | ⟨p1, o1, rfl, g1⟩
       · omega
       rcases (H2.out.below hb (Nat.le_refl _)).2.2 with h | ⟨p2, o2, rfl, g2⟩
       · omega
       obtain ⟨x, hx⟩ : ∃ x, xs.getD k 0 = x := ⟨_, rfl⟩
       obtain ⟨y, hy⟩ : ∃ y, ys.getD k 0 = y := ⟨_, rfl⟩
       have e1 := g1 k hlt1
       have e2 := g2 k hlt2
       rw [hx] at e1
       rw [hy] at e2
       have HX : Hid (xs.getD k 0 = x) := hx
       have HY : Hid (ys.getD k 0 = y) := hy
       clear g1 g2 hx hy
       go_wp2
       go_region
       go_wp2
       · have hd : (x != y) = true := by assumption
         go_ret
         refine ⟨?_, hb.drew⟩
         have e : xs ≠ ys := fun e => by rw [← HX.out, ← HY.out, e] at hd; simp at hd
         rw [← HB.out]
         simp [e]
       · have hd : (x != y) = false := by assumption
         have l1 := L1.out
         have l2 := L2.out
         exact ⟨⟨k + 1, ⟨by omega, by omega⟩, by go_num, take_nextI (by omega) (by omega) HT.out (by rw [HX.out, HY.out]; simpa using hd), hb.drew⟩, by simp [intOf]; omega⟩
     · have hne : ((n1 : Int) == (n2 : Int)) = false := by simp; omega
       go_wp2
       go_ret
       refine ⟨?_, hb⟩
       have e : xs ≠ ys := fun e => by have l1 := L1.out; have l2 := L2.out; rw [e] at l1; omega
       rw [← HB.out]
       simp [e]
   · by_cases hn : n1 = n2
     · subst hn
       go_wp2
       go_ret
       refine ⟨?_, hb⟩
       have e : xs = ys := by
         have := HT.out
         rwa [List.take_of_length_le (by have := L1.out; omega), List.take_of_length_le (by have := L2.out; omega)] at this
       rw [← HB.out]
       simp [e]
     · have hne : ((n1 : Int) == (n2 : Int)) = false := by simp; omega
       go_wp2
       go_ret
       refine ⟨?_, hb⟩
       have e : xs ≠ ys := fun e => by have l1 := L1.out; have l2 := L2.out; rw [e] at l1; omega
       rw [← HB.out]
       simp [e]
end
section
open Go.ChangeShapes Go.WideShapes Go.ChangeAt Go.RowKit Go.Joins
theorem specWhole_any (a : Option Addr) (n c : Nat) (ws : List Int) (w : World) (hA : IntAt w a n ws) (hc : n ≤ c) :
   Calls Tryd.prog 20 #[.slice a n c] w fun e w' => Says e (WholeM ws) ∧ Below w.heap.size w w' := by
 have HA : Hid (IntAt w a n ws) := hA
 have HC : Hid (n ≤ c) := hc
 clear hA hc
 go_enter Tryd.func20, Tryd.ntmps20
 go_wp2_with (fail)
 refine (specRowsIn_any a n c ws w HA.out HC.out).mono ?_
 rintro e w1 ⟨hs1, hb1⟩
 obtain ⟨ra, rc, rfl, hrc, RA1⟩ := hs1.at
 clear hs1
 obtain ⟨W, hW⟩ : ∃ W, w1.alloc (.cells #[.slice ra (inX ws).length rc, .int .i64 (inS ws)] 32) = W := ⟨_, rfl⟩
 have hbW : Below w1.heap.size w1 W := by rw [← hW]; exact (Below.refl _ w1).alloc (Nat.le_refl _) _
 have HB2 : Hid (Below w.heap.size w W) := hb1.trans (hbW.mono hb1.size)
 have R2 : Hid (Box W w1.heap.size #[.slice ra (inX ws).length rc, .int .i64 (inS ws)] 32) := by rw [← hW]; exact box_of w1 _ _
 have RA2 : IntAt W ra (inX ws).length (inX ws) := RA1.below hbW (Nat.le_refl _)
 have H2 : Hid (IntAt W ra (inX ws).length (inX ws)) := RA2
 have HW : Hid (w1.alloc (.cells #[.slice ra (inX ws).length rc, .int .i64 (inS ws)] 32) = W) := hW
 clear hb1 hbW RA1 hW
 go_upto_region 2 with (fail)
 rw [HW.out]
 obtain ⟨r0, r1, _, _⟩ := R2.out.two
 go_wp2_with (fail)
 have RA2 := H2.out
 refine (specRowsOk_any ra (inX ws).length rc (inS ws) (inX ws) _ RA2).mono ?_
 rintro e w3 ⟨⟨ok, rfl, hok⟩, hb3⟩
 have HOKI : Hid (ok = true ↔ OkRows (inX ws) (inS ws)) := hok.trans (ok_iff RA2.1)
 have HB3 : Hid (Below w.heap.size w w3) := HB2.out.trans (hb3.mono HB2.out.size)
 have R3 : Hid (Box w3 w1.heap.size #[.slice ra (inX ws).length rc, .int .i64 (inS ws)] 32) := R2.out.below hb3 R2.out.lt
 have H3 : Hid (IntAt w3 ra (inX ws).length (inX ws)) := RA2.below hb3 (Nat.le_refl _)
 clear hb3 hok RA2 r0 r1
 cases ok with
 | false =>
   have hno : ¬ WholeM ws := fun h => by have := HOKI.out.2 h.1; cases this
   have HNO : Hid (¬ WholeM ws) := hno
   clear hno
   go_wp2
   go_ret
   first
   | exact ⟨⟨false, rfl, by simp [HNO.out]⟩, HB3.out⟩
   | exact ⟨.inl ⟨rfl, HNO.out⟩, HB3.out⟩
 | true =>
   have HOK : Hid (OkRows (inX ws) (inS ws)) := HOKI.out.1 rfl
   obtain ⟨r0, r1, _, _⟩ := R3.out.two
   go_wp2_with (fail)
   have RA3 := H3.out
   refine (specWordsT ra (inX ws).length rc (inS ws) (inX ws) (specL (inX ws) (inS ws)) _ RA3 (.inl ⟨HOK.out, rfl⟩)).mono ?_
   rintro e w4 ⟨⟨la, ln, lc, rfl, LA4⟩, hb4⟩
   have HB4 : Hid (Below w.heap.size w w4) := HB3.out.trans (hb4.mono HB3.out.size)
   have HL4 : Hid (IntAt w4 la ln (specL (inX ws) (inS ws))) := LA4
   clear RA3 hb4 LA4 r0 r1
   go_wp2_with (fail)
   refine (l4Ints_any a la n ln c lc ws (specL (inX ws) (inS ws)) _ (HA.out.below HB4.out (Nat.le_refl _)) HL4.out).mono ?_
   rintro e w5 ⟨rfl, hb5⟩
   have HB5 : Hid (Below w.heap.size w w5) := HB4.out.trans (hb5.mono HB4.out.size)
   obtain ⟨B, hB⟩ : ∃ B, decide (ws = specL (inX ws) (inS ws)) = B := ⟨_, rfl⟩
   rw [hB]
   have HBB : Hid (B = true ↔ WholeM ws) := by
     show _ ↔ _
     rw [← hB]
     simp [WholeM, HOK.out]
   clear hb5 hB
   go_wp2
   go_ret
   exact ⟨⟨B, rfl, HBB.out⟩, HB5.out⟩
def FindSays (e : Ending) (M : Int → Bool → Prop) : Prop := ∃ k ok, e = .returned (.tuple #[.int .i64 k, .bool ok]) ∧ M k ok
theorem keyM_no {ws : List Int} {q : Int} (h : ¬ WholeM ws) : KeyM ws q 0 false := .inr ⟨rfl, rfl, fun h' => h h'.1⟩
theorem keyM_neg {ws : List Int} : KeyM ws (-1) 0 false := .inr ⟨rfl, rfl, fun h' => by have := h'.2.1; omega⟩
theorem keyM_none {ws : List Int} {q : Nat} (h : ws.getD q 0 = 0) : KeyM ws (q : Int) 0 false := .inr ⟨rfl, rfl, fun h' => h'.2.2 (by simpa using h)⟩
theorem keyM_some {ws : List Int} {q : Nat} {x : Int} (hW : WholeM ws) (hx : ws.getD q 0 = x) (h0 : ¬ x = 0) : KeyM ws (q : Int) (x - 1) true :=
 .inl ⟨rfl, hW, by omega, by rw [Int.toNat_natCast, hx]; exact h0, by rw [Int.toNat_natCast, hx]⟩
theorem specKey_any (a : Option Addr) (n c : Nat) (ws : List Int) (q : Int) (w : World) (hA : IntAt w a n ws) (hc : n ≤ c) (hq : WayAt q) :
   Calls Tryd.prog 30 #[.slice a n c, .int .i64 q] w fun e w' => FindSays e (KeyM ws q) ∧ Below w.heap.size w w' := by
 have HA : Hid (IntAt w a n ws) := hA
 have HC : Hid (n ≤ c) := hc
 clear hA hc
 rcases hq with rfl | hq
 · go_enter Tryd.func30, Tryd.ntmps30
   go_wp2_with (fail)
   refine (specWhole_any a n c ws w HA.out HC.out).mono ?_
   rintro e w1 ⟨⟨ok, rfl, hok⟩, hb1⟩
   have HB1 : Hid (Below w.heap.size w w1) := hb1
   have HOK : Hid (ok = true ↔ WholeM ws) := hok
   clear hb1 hok
   cases ok with
   | false =>
     have HNO : Hid (¬ WholeM ws) := fun h => by have := HOK.out.2 h; cases this
     go_wp2
     go_ret2
     exact ⟨⟨0, false, rfl, keyM_no HNO.out⟩, HB1.out⟩
   | true =>
     go_wp2
     go_ret2
     exact ⟨⟨0, false, rfl, keyM_neg⟩, HB1.out⟩
 obtain ⟨qn, rfl⟩ : ∃ qn : Nat, q = (qn : Int) := ⟨q.toNat, by omega⟩
 have HQ : Hid (WayAt (qn : Int)) := .inr hq
 have hq20 : qn < 20 := by omega
 clear hq
 go_enter Tryd.func30, Tryd.ntmps30
 go_wp2_with (fail)
 refine (specWhole_any a n c ws w HA.out HC.out).mono ?_
 rintro e w1 ⟨⟨ok, rfl, hok⟩, hb1⟩
 have HB1 : Hid (Below w.heap.size w w1) := hb1
 have HOK : Hid (ok = true ↔ WholeM ws) := hok
 clear hb1 hok
 cases ok with
 | false =>
   have HNO : Hid (¬ WholeM ws) := fun h => by have := HOK.out.2 h; cases this
   go_wp2
   go_ret2
   exact ⟨⟨0, false, rfl, keyM_no HNO.out⟩, HB1.out⟩
 | true =>
   have HW : Hid (WholeM ws) := HOK.out.1 rfl
   obtain rfl : n = 20 := HA.out.1.symm.trans HW.out.len
   rcases (HA.out.below HB1.out (Nat.le_refl _)).2.2 with h0 | ⟨p1, o1, rfl, g1⟩
   · omega
   have e1 := g1 qn hq20
   have hx2 := HW.out.small HQ.out
   obtain ⟨x, hx⟩ : ∃ x, ws.getD qn 0 = x := ⟨_, rfl⟩
   rw [hx] at e1 hx2
   have HX : Hid (ws.getD qn 0 = x) := hx
   obtain ⟨hx0, hx4⟩ := hx2
   clear g1 hx
   by_cases hz : x = 0
   · subst hz
     go_wp2
     go_ret2
     exact ⟨⟨0, false, rfl, keyM_none HX.out⟩, HB1.out⟩
   · have hz1 : (x == 0) = false := by simpa using hz
     have HZ : Hid (¬ x = 0) := hz
     clear hz
     go_wp2
     go_ret2
     exact ⟨⟨x - 1, true, by go_num, keyM_some HW.out HX.out HZ.out⟩, HB1.out⟩
theorem specFind_any (a : Option Addr) (n c : Nat) (ws : List Int) (v : Int) (w : World) (hA : IntAt w a n ws) (hc : n ≤ c) :
   Calls Tryd.prog 9 #[.slice a n c, .int .i64 v] w fun e w' => FindSays e (KeyM ws (placeN 2 v)) ∧ Below w.heap.size w w' := by
 have HA : Hid (IntAt w a n ws) := hA
 have HC : Hid (n ≤ c) := hc
 clear hA hc
 go_enter Tryd.func9, Tryd.ntmps9
 go_wp2_with (fail)
 refine (specOwnerAt_any v _).mono ?_
 rintro e w1 ⟨rfl, hw1⟩
 rw [hw1]
 clear hw1
 go_wp2_with (fail)
 refine (specKey_any a n c ws (placeN 2 v) _ HA.out HC.out (way_owner v)).mono ?_
 rintro e w2 ⟨⟨kk, ok, rfl, hk⟩, hb2⟩
 have HK : Hid (KeyM ws (placeN 2 v) kk ok) := hk
 have HB2 : Hid (Below w.heap.size w w2) := hb2
 clear hk hb2
 go_wp2
 go_ret2
 exact ⟨⟨kk, ok, rfl, HK.out⟩, HB2.out⟩
theorem in_state {ws : List Int} (h : ws.length = 20) : inS ws = ws.getD 13 0 := inS_yes h
theorem specFindVia_any (a : Option Addr) (n c : Nat) (ws : List Int) (v : Int) (w : World) (hA : IntAt w a n ws) (hc : n ≤ c) :
   Calls Tryd.prog 12 #[.slice a n c, .int .i64 v] w fun e w' => FindSays e (ViaM ws (placeN 5 v)) ∧ Below w.heap.size w w' := by
 have HA : Hid (IntAt w a n ws) := hA
 have HC : Hid (n ≤ c) := hc
 clear hA hc
 go_enter Tryd.func12, Tryd.ntmps12
 go_wp2_with (fail)
 refine (specViaAt_any v _).mono ?_
 rintro e w1 ⟨rfl, hw1⟩
 rw [hw1]
 clear hw1
 go_wp2_with (fail)
 refine (specKey_any a n c ws (placeN 5 v) _ HA.out HC.out (way_via v)).mono ?_
 rintro e w2 ⟨⟨kk, ok, rfl, hk⟩, hb2⟩
 have HK : Hid (KeyM ws (placeN 5 v) kk ok) := hk
 have HB2 : Hid (Below w.heap.size w w2) := hb2
 clear hk hb2
 cases ok with
 | false =>
   have HV : Hid (ViaM ws (placeN 5 v) 0 false) := by
     have hk := HK.out
     rcases hk with ⟨h, _⟩ | ⟨_, rfl, h⟩
     · cases h
     · by_cases h5 : inS ws = 5
       · exact .inl ⟨h5, HK.out⟩
       · exact .inr ⟨h5, rfl, rfl⟩
   go_wp2
   go_ret2
   exact ⟨⟨0, false, rfl, HV.out⟩, HB2.out⟩
 | true =>
   have hW : WholeM ws := by
     rcases HK.out with ⟨_, h, _⟩ | ⟨h, _⟩
     · exact h
     · cases h
   obtain rfl : n = 20 := HA.out.1.symm.trans hW.len
   have HS : Hid (inS ws = ws.getD 13 0) := in_state hW.len
   rcases (HA.out.below HB2.out (Nat.le_refl _)).2.2 with h0 | ⟨p1, o1, rfl, g1⟩
   · omega
   have e1 := g1 13 (by omega)
   obtain ⟨x, hx⟩ : ∃ x, ws.getD 13 0 = x := ⟨_, rfl⟩
   rw [hx] at e1 HS
   clear g1 hx hW
   go_wp2_with (fail)
   refine (specStateAt_any _).mono ?_
   rintro e w3 ⟨rfl, hw3⟩
   rw [hw3]
   clear hw3
   by_cases h5 : x = 5
   · subst h5
     have HV : Hid (ViaM ws (placeN 5 v) kk true) := .inl ⟨HS.out, HK.out⟩
     go_wp2
     go_ret2
     exact ⟨⟨kk, true, rfl, HV.out⟩, HB2.out⟩
   · have h5' : (x != 5) = true := by simpa using h5
     have HV : Hid (ViaM ws (placeN 5 v) 0 false) := .inr ⟨by rw [HS.out]; exact h5, rfl, rfl⟩
     clear h5
     go_wp2
     go_ret2
     exact ⟨⟨0, false, rfl, HV.out⟩, HB2.out⟩
theorem rowsAnew_o (st : Int) (a : Option Addr) (n c : Nat) (rs : List Int) (w : World) (h : IntAt w a n rs) (ha : a = none → c = 0) :
   Calls Tryd.prog 35 #[.agg #[.slice a n c, .int .i64 st]] w fun e w' => ∃ v, e = .returned (.agg #[v, .int .i64 st]) ∧ w'.ownsRow w.heap.size 3 1 v n (rs.map I) ∧ Below w.heap.size w w' := by
 obtain ⟨W, hW⟩ : ∃ W, ((w.alloc (.cells #[.slice a n c, .int .i64 st] 32)).alloc (.cells #[.slice none 0 0, .int .i64 0] 32)) = W := ⟨_, rfl⟩
 have hb0 : Below w.heap.size w W := by rw [← hW]; exact ((Below.refl _ w).alloc (Nat.le_refl _) _).alloc (by simp) _
 have hsz : w.heap.size + 1 < W.heap.size := by rw [← hW]; simp
 have X0 : Hid (Box W w.heap.size #[.slice a n c, .int .i64 st] 32) := by rw [← hW]; exact (box_of w _ _).alloc _
 have R0 : Hid (Box W (w.heap.size + 1) #[.slice none 0 0, .int .i64 0] 32) := by
   have := box_of (w.alloc (.cells #[.slice a n c, .int .i64 st] 32)) #[.slice none 0 0, .int .i64 0] 32
   rw [hW] at this
   show Box _ _ _ _
   simpa using this
 have HA : Hid (IntAt W a n rs) := h.below hb0 (Nat.le_refl _)
 have HB0 : Hid (Below w.heap.size w W) := hb0
 have HW : Hid (((w.alloc (.cells #[.slice a n c, .int .i64 st] 32)).alloc (.cells #[.slice none 0 0, .int .i64 0] 32)) = W) := hW
 have HAN : Hid (a = none → c = 0) := ha
 obtain ⟨k0, k1, _, _⟩ := X0.out.two
 have K0 : Hid (W.drew.cell? ⟨w.heap.size, 0, none⟩ = some (.slice a n c) ∧ W.drew.cell? ⟨w.heap.size, 1, none⟩ = some (.int .i64 st)) := ⟨k0, k1⟩
 clear h ha hW hb0 k0 k1
 go_enter Tryd.func35, Tryd.ntmps35
 go_wp2_with fail
 rw [HW.out]
 go_region_held3 (fun w' => w'.cell? ⟨w.heap.size, 0, none⟩ = some (.slice a n c) ∧ w'.cell? ⟨w.heap.size, 1, none⟩ = some (.int .i64 st))
   (first | (with_reducible exact K2.out) | (with_reducible exact K1.out) | (with_reducible exact K0.out) | go_keep)
   (first
   | (go_at_call 50
      refine (cloneI_o a n c rs _ (HA.out.below (Below.refl W.heap.size W).drew (Nat.le_refl _)) HAN.out).mono ?_
      rintro e w1 ⟨v, rfl, own1, hb1⟩
      have hb1' : Below W.heap.size W w1 := (Below.refl W.heap.size W).drew.trans hb1
      obtain ⟨va, vc, rfl, _⟩ := owns_slice own1
      have OW : Hid (w1.ownsRow W.heap.size 3 1 (.slice va n vc) n (rs.map I)) := own1
      have HB1 : Hid (Below W.heap.size W w1) := hb1'
      have R1 : Hid (Box w1 (w.heap.size + 1) #[.slice none 0 0, .int .i64 0] 32) := R0.out.below hb1' hsz
      obtain ⟨r0, r1, z0, z1⟩ := R1.out.two
      obtain ⟨k0, k1, _, _⟩ := (X0.out.below hb1' X0.out.lt).two
      have K1 : Hid (w1.cell? ⟨w.heap.size, 0, none⟩ = some (.slice a n c) ∧ w1.cell? ⟨w.heap.size, 1, none⟩ = some (.int .i64 st)) := ⟨k0, k1⟩
      have K2 : Hid (((w1.setCell ⟨w.heap.size + 1, 0, none⟩ (.slice va n vc)).setCell ⟨w.heap.size + 1, 1, none⟩ (.int .i64 st)).cell? ⟨w.heap.size, 0, none⟩ = some (.slice a n c) ∧ ((w1.setCell ⟨w.heap.size + 1, 0, none⟩ (.slice va n vc)).setCell ⟨w.heap.size + 1, 1, none⟩ (.int .i64 st)).cell? ⟨w.heap.size, 1, none⟩ = some (.int .i64 st)) := by
        have := (((X0.out.below hb1' X0.out.lt).set (q := ⟨w.heap.size + 1, 0, none⟩) (show w.heap.size ≠ w.heap.size + 1 by omega) (.slice va n vc)).set (q := ⟨w.heap.size + 1, 1, none⟩) (show w.heap.size ≠ w.heap.size + 1 by omega) (.int .i64 st)).two
        exact ⟨this.1, this.2.1⟩
      clear own1 hb1 hb1' k0 k1))
 obtain ⟨e0, e1, _, _⟩ := ((R1.out.put 0 (.slice va n vc)).put 1 (.int .i64 st)).two
 go_wp2
 (try simp only [Exit.inBlock, Exit.then])
 refine bodyPost_ret (by simp [results, Tryd.results35, go_sem, e0, e1]; try rfl) rfl ?_
 have hwb : (Value.slice va n vc).ownBlock ≠ some (w.heap.size + 1) := fun e => by have := (OW.out.lt _ e).1; omega
 exact ⟨.slice va n vc, rfl, own_setCell_far (own_setCell_far (own_weaken OW.out HB0.out.size) hwb _) hwb _, ((HB0.out.trans (HB1.out.mono HB0.out.size)).setCell (by simp) _).setCell (by simp) _⟩
theorem implRowsIn_any (a : Option Addr) (n c : Nat) (ws : List Int) (w : World) (hA : IntAt w a n ws) (hc : n ≤ c) (hN : Names w) :
   Calls Tryd.prog 15 #[.slice a n c] w fun e w' => RowsSay e w w' ws ∧ Below w.heap.size w w' := by
 by_cases hn : n = 20
 case neg =>
   have hl : ¬ ws.length = 20 := by rw [hA.1]; exact hn
   have HX : Hid (inX ws = [] ∧ inS ws = 0) := ⟨inX_no hl, inS_no hl⟩
   have hd : ((n : Int) != 20) = true := by simp; omega
   have HB : Hid (Below w.heap.size w (w.alloc (.cells #[.slice none 0 0, .int .i64 0] 32))) := (Below.refl _ w).alloc (Nat.le_refl _) _
   have hnn := hA.2.1
   clear hA hl hn
   go_enter Tryd.func15, Tryd.ntmps15
   go_wp2
   (try simp only [Exit.inBlock, Exit.then])
   refine bodyPost_ret (by simp [results, Tryd.results15, go_sem]; try rfl) rfl ?_
   exact ⟨rowsSay_of HX.out.1 HX.out.2 rfl rfl (World.ownsRow_nil _ _ _ _), by first | exact HB.out | exact (HB.out.setCell (by simp) _).setCell (by simp) _⟩
 subst hn
 have hl : ws.length = 20 := hA.1
 obtain ⟨hl0, hn0, h0 | ⟨p, o, rfl, hcell⟩⟩ := hA
 · omega
 have HX : Hid (inX ws = ws.take 4 ∧ inS ws = ws.getD 13 0) := ⟨inX_yes hl, inS_yes hl⟩
 obtain ⟨st, hst⟩ : ∃ st, ws.getD 13 0 = st := ⟨_, rfl⟩
 rw [hst] at HX
 have h4 : ∀ i, i < 4 → w.cell? ⟨p, o + i, none⟩ = some (I ((ws.take 4).getD i 0)) := fun i hi => by
   rw [hcell i (by omega)]
   have : (ws.take 4).getD i 0 = ws.getD i 0 := by simp [List.getD, hi]
   rw [this]
 have H4 : Hid (IntAt w (some ⟨p, o, none⟩) 4 (ws.take 4)) := ⟨by simp; omega, by omega, .inr ⟨p, o, rfl, h4⟩⟩
 have c13 := hcell 13 (by omega)
 rw [hst] at c13
 obtain ⟨o13, ho13⟩ : ∃ o13, o + 13 = o13 := ⟨_, rfl⟩
 rw [ho13] at c13
 have plt : p < w.heap.size := World.block_lt_of_cell? w _ c13
 have H20 : Hid (20 ≤ c) := hc
 obtain ⟨m, hm⟩ : ∃ m, 4 = m := ⟨_, rfl⟩
 have hsl : ∀ w : World, (Instr.slice 24 (.slice (some ⟨p, o, none⟩) 20 c) none (some (.int .i64 4)) none).run Tryd.prog w = .ok (.slice (some ⟨p, o, none⟩) m c) w := fun w => by
   rw [run_slice_h w 24 (some ⟨p, o, none⟩) 20 c Tryd.underlying24 .i64 4 (by omega) (by omega), show Tryd.prog.elem 24 = 3 from rfl, Tryd.sizeOf3 w, ← hm]
   simp [Result.andThen, sliced, Addr.add]
 obtain ⟨xs, hxs⟩ : ∃ xs, ws.take 4 = xs := ⟨_, rfl⟩
 rw [hxs] at H4 HX
 rw [hm] at H4
 have hl4 : Hid (xs.length = m) := H4.out.1
 have HN : Hid (Names w) := hN
 clear hcell hl hl0 h4 hst hc hm hxs hN
 obtain ⟨W, hW⟩ : ∃ W, w.alloc (.cells #[.slice none 0 0, .int .i64 0] 32) = W := ⟨_, rfl⟩
 have HB0 : Hid (Below w.heap.size w W) := by rw [← hW]; exact (Below.refl _ w).alloc (Nat.le_refl _) _
 have R0 : Hid (Box W w.heap.size #[.slice none 0 0, .int .i64 0] 32) := by rw [← hW]; exact box_of w _ _
 have hsz : w.heap.size < W.heap.size := R0.out.lt
 have HW : Hid (w.alloc (.cells #[.slice none 0 0, .int .i64 0] 32) = W) := hW
 have k0 : W.drew.cell? ⟨p, o13, none⟩ = some (I st) := (HB0.out.drew.cell plt).trans c13
 have K0 : Hid (W.drew.cell? ⟨p, o13, none⟩ = some (I st)) := k0
 have HC : Hid (w.cell? ⟨p, o13, none⟩ = some (I st)) := c13
 clear hW k0 c13
 go_enter Tryd.func15, Tryd.ntmps15
 go_upto_region 3 with (fail)
 rw [HW.out]
 go_region_held3 (fun w' => w'.cell? ⟨p, o13, none⟩ = some (I st))
   (first | (with_reducible exact K3.out) | (with_reducible exact K2.out) | (with_reducible exact K1.out) | (with_reducible exact K0.out) | go_keep)
   (first
   | (go_at_call 36
      refine (implStateAt_any _ (HN.out.below HB0.out.drew HN.out.lt)).mono ?_
      rintro e w1 ⟨rfl, hb1⟩
      have hb1' : Below W.heap.size W w1 := (Below.refl W.heap.size W).drew.trans hb1
      have HB1 : Hid (Below w.heap.size w w1) := HB0.out.trans (hb1'.mono HB0.out.size)
      have R1 : Hid (Box w1 w.heap.size #[.slice none 0 0, .int .i64 0] 32) := R0.out.below hb1' hsz
      have hs1 : W.heap.size ≤ w1.heap.size := hb1'.size
      have K1 : Hid (w1.cell? ⟨p, o13, none⟩ = some (I st)) := (HB1.out.cell plt).trans HC.out
      clear hb1 hb1')
   | (go_at_call 35
      refine (rowsAnew_o st (some ⟨p, o, none⟩) m c xs _ (H4.out.below HB1.out (Nat.le_refl _)) (fun h => by cases h)).mono ?_
      rintro e w2 ⟨v, rfl, own2, hb2⟩
      obtain ⟨va, vc, rfl, _⟩ := owns_slice own2
      have OW : Hid (w2.ownsRow w1.heap.size 3 1 (.slice va m vc) m (xs.map I)) := own2
      have HB2 : Hid (Below w.heap.size w w2) := HB1.out.trans (hb2.mono HB1.out.size)
      have R2 : Hid (Box w2 w.heap.size #[.slice none 0 0, .int .i64 0] 32) := R1.out.below hb2 (by omega)
      have K2 : Hid (w2.cell? ⟨p, o13, none⟩ = some (I st)) := (HB2.out.cell plt).trans HC.out
      have K3 : Hid (((w2.setCell ⟨w.heap.size, 0, none⟩ (.slice va m vc)).setCell ⟨w.heap.size, 1, none⟩ (.int .i64 st)).cell? ⟨p, o13, none⟩ = some (I st)) := (((HB2.out.setCell (show w.heap.size ≤ w.heap.size from Nat.le_refl _) _).setCell (show w.heap.size ≤ w.heap.size from Nat.le_refl _) _).cell plt).trans HC.out
      obtain ⟨r0, r1, z0, z1⟩ := R2.out.two
      clear own2 hb2))
 obtain ⟨e0, e1, _, _⟩ := ((R2.out.put 0 (.slice va m vc)).put 1 (.int .i64 st)).two
 go_wp2
 (try simp only [Exit.inBlock, Exit.then])
 refine bodyPost_ret (by simp [results, Tryd.results15, go_sem, e0, e1]; try rfl) rfl ?_
 have hwb : (Value.slice va m vc).ownBlock ≠ some w.heap.size := fun e => by have := (OW.out.lt _ e).1; omega
 exact ⟨rowsSay_of HX.out.1 HX.out.2 hl4.out.symm rfl (own_setCell_far (own_setCell_far (own_weaken OW.out (by omega)) hwb _) hwb _), (HB2.out.setCell (by simp) _).setCell (by simp) _⟩
end
section
open Go.ChangeShapes Go.WideShapes Go.ChangeAt Go.RowKit
theorem equalI_any (a1 a2 : Option Addr) (n1 n2 c1 c2 : Nat) (xs ys : List Int) (w : World) (h1 : IntAt w a1 n1 xs) (h2 : IntAt w a2 n2 ys) :
   Calls Tryd.prog 38 #[.slice a1 n1 c1, .slice a2 n2 c2] w fun e w' => e = .returned (.bool (decide (xs = ys))) ∧ Below w.heap.size w w' := by
 have H1 : Hid (IntAt w a1 n1 xs) := h1
 have H2 : Hid (IntAt w a2 n2 ys) := h2
 have L1 : Hid (xs.length = n1) := h1.1
 have L2 : Hid (ys.length = n2) := h2.1
 have b1 := h1.2.1
 have b2 := h2.2.1
 obtain ⟨B, hB⟩ : ∃ B, decide (xs = ys) = B := ⟨_, rfl⟩
 rw [hB]
 have HB : Hid (decide (xs = ys) = B) := hB
 clear h1 h2 hB
 by_cases hn : n1 = n2
 · subst hn
   go_enter Tryd.func38, Tryd.ntmps38
   go_wp2
   go_loopw [13] (fun i wr => ∃ k : Nat, k ≤ n1 ∧ i = .int .i64 k ∧ xs.take k = ys.take k ∧ Below w.heap.size w wr) (fun i _ => n1 - (intOf i).toNat)
   case atStart => exact ⟨0, Nat.zero_le _, rfl, rfl, Below.refl _ _⟩
   case round =>
     obtain ⟨k, hk1, rfl, ht, hb⟩ := hrel
     have HT : Hid (xs.take k = ys.take k) := ht
     clear ht
     by_cases hlt1 : k < n1
     · rcases (H1.out.below hb (Nat.le_refl _)).2.2 with h | ⟨p1, o1, rfl, g1⟩
       · omega
       rcases (H2.out.below hb (Nat.le_refl _)).2.2 with h | ⟨p2, o2, rfl, g2⟩
       · omega
       obtain ⟨x, hx⟩ : ∃ x, xs.getD k 0 = x := ⟨_, rfl⟩
       obtain ⟨y, hy⟩ : ∃ y, ys.getD k 0 = y := ⟨_, rfl⟩
       have e1 := g1 k hlt1
       have e2 := g2 k hlt1
       rw [hx] at e1
       rw [hy] at e2
       have HX : Hid (xs.getD k 0 = x) := hx
       have HY : Hid (ys.getD k 0 = y) := hy
       clear g1 g2 hx hy
       go_wp2
       go_region
       go_wp2
       · have hd : (x != y) = true := by assumption
         go_ret
         refine ⟨?_, hb.drew⟩
         have e : xs ≠ ys := fun e => by rw [← HX.out, ← HY.out, e] at hd; simp at hd
         rw [← HB.out]
         simp [e]
       · have hd : (x != y) = false := by assumption
         have l1 := L1.out
         have l2 := L2.out
         exact ⟨⟨k + 1, by omega, by go_num, take_nextI (by omega) (by omega) HT.out (by rw [HX.out, HY.out]; simpa using hd), hb.drew⟩, by simp [intOf]; omega⟩
     · obtain rfl : k = n1 := by omega
       go_wp2
       go_ret
       refine ⟨?_, hb⟩
       have l1 := L1.out
       have l2 := L2.out
       have e : xs = ys := by
         have e0 := HT.out
         rwa [List.take_of_length_le (by omega), List.take_of_length_le (by omega)] at e0
       rw [← HB.out]
       simp [e]
 · have hne : ((n1 : Int) != (n2 : Int)) = true := by simp; omega
   have hxy : xs ≠ ys := fun e => by have l1 := L1.out; have l2 := L2.out; rw [e] at l1; omega
   have HX : Hid (xs ≠ ys) := hxy
   clear hxy
   go_enter Tryd.func38, Tryd.ntmps38
   go_wp2
   go_ret
   refine ⟨?_, Below.refl _ _⟩
   rw [← HB.out]
   simp [HX.out]
end
end Go.Proofs.YtfanppifelajnaaDoor
