/- Texts joined: SpecTh, Within. -/
import Derived.Test.YtbfolanfbagofaaGreatDoorQA01
import Derived.Test.YtbfolanfbagofaaGreatDoorQA03
set_option maxHeartbeats 8000000
set_option maxRecDepth 100000
namespace Go.Proofs.YtbfolanfbagofaaGreatDoor
section
open Go.ChangeShapes Go.WideShapes Go.ChangeAt Go.RowKit
abbrev ThV5 (a0 : Option Addr) (c0 : Nat) (a1 : Option Addr) (c1 : Nat) (a2 : Option Addr) (c2 : Nat) (t : ThD) : Value := .agg #[.slice a0 t.n0 c0, .int .i64 t.pc, .bool t.on, .slice a1 t.n1 c1, .slice a2 t.n2 c2]
theorem five_of {w : World} {b : Nat} {x0 x1 x2 x3 x4 : Value} {T : TypeId} (h : Box w b #[x0, x1, x2, x3, x4] T) :
   w.cell? ⟨b, 0, none⟩ = some x0 ∧ w.cell? ⟨b, 1, none⟩ = some x1 ∧ w.cell? ⟨b, 2, none⟩ = some x2 ∧ w.cell? ⟨b, 3, none⟩ = some x3 ∧ w.cell? ⟨b, 4, none⟩ = some x4 :=
 ⟨h.cell 0, h.cell 1, h.cell 2, h.cell 3, h.cell 4⟩
theorem all_next {P : Nat → Prop} {k : Nat} (h : ∀ j, j < k → P j) (h1 : P k) : ∀ j, j < k + 1 → P j := fun j hj => by
 by_cases e : j = k
 · rw [e]; exact h1
 · exact h j (by omega)
theorem specThreadOk_any (a0 : Option Addr) (c0 : Nat) (a1 : Option Addr) (c1 : Nat) (a2 : Option Addr) (c2 : Nat) (t : ThD) (n : Nat) (hn : n ≤ 2097152) (w : World) (h : ThL w a0 a1 a2 t) :
   Calls Tryz.prog 66 #[ThV5 a0 c0 a1 c1 a2 c2 t, .int .i64 (n : Int)] w fun e w' => ∃ ok, (e = .returned (.bool ok) ∧ (ok = true ↔ ThGood t n)) ∧ Below w.heap.size w w' := by
 obtain ⟨G, hG⟩ : ∃ G : Prop, ThGood t n = G := ⟨_, rfl⟩
 obtain ⟨n0, fs, pc, on, n1, gs, n2, hs⟩ := t
 have hm0 := h.ops.2.1
 have hm1 := h.got.2.1
 have hm2 := h.stk.2.1
 have H1 : Hid (KAt 3 w a0 n0 fs) := h.ops
 have H2 : Hid (KAt 2 w a1 n1 gs) := h.got
 have H3 : Hid (KAt 4 w a2 n2 hs) := h.stk
 rw [hG]
 dsimp only at hm0 hm1 hm2
 have HG : Hid (G ↔ ThGood ⟨n0, fs, pc, on, n1, gs, n2, hs⟩ n) := by show _ ↔ _; rw [hG]
 show Calls Tryz.prog 66 #[.agg #[.slice a0 n0 c0, .int .i64 pc, .bool on, .slice a1 n1 c1, .slice a2 n2 c2], .int .i64 (n : Int)] w fun e w' => ∃ ok, (e = .returned (.bool ok) ∧ (ok = true ↔ G)) ∧ Below w.heap.size w w'
 obtain ⟨W, hW⟩ : ∃ W, w.alloc (.cells #[.slice a0 n0 c0, .int .i64 pc, .bool on, .slice a1 n1 c1, .slice a2 n2 c2] 92) = W := ⟨_, rfl⟩
 have hb0 : Below w.heap.size w W := by rw [← hW]; exact (Below.refl _ w).alloc (Nat.le_refl _) _
 have BX : Hid (Box W w.heap.size #[.slice a0 n0 c0, .int .i64 pc, .bool on, .slice a1 n1 c1, .slice a2 n2 c2] 92) := by rw [← hW]; exact box_of w _ _
 have HB0 : Hid (Below w.heap.size w W) := hb0
 have HW : Hid (w.alloc (.cells #[.slice a0 n0 c0, .int .i64 pc, .bool on, .slice a1 n1 c1, .slice a2 n2 c2] 92) = W) := hW
 clear h hb0 hW hG
 by_cases hq0 : (8 : Int) < (n0 : Int)
 · have HNO : Hid (¬ G) := fun hg => by
     have hg := HG.out.1 hg
     have := hg.few; dsimp only at this; omega
   clear HG H1 H2 H3
   go_enter Tryz.func66, Tryz.ntmps66
   go_wp2
   go_ret
   exact ⟨false, ⟨rfl, by simp [HNO.out]⟩, by rw [HW.out]; exact HB0.out⟩
 rcases hI : inB pc 0 (n0 : Int) with _ | _
 · have HI : Hid (inB pc 0 (n0 : Int) = false) := hI
   have HNO : Hid (¬ G) := fun hg => by
     have hg := HG.out.1 hg
     have h2 := hg.pc; dsimp only at h2; rw [inB_yes h2] at hI; cases hI
   clear HG H1 H2 H3
   go_enter Tryz.func66, Tryz.ntmps66
   go_wp2_with fail
   refine (l1In_g _ _ _ _).mono ?_
   rintro e w1 ⟨rfl, rfl⟩
   rw [HI.out]
   go_wp2
   go_ret
   exact ⟨false, ⟨rfl, by simp [HNO.out]⟩, by rw [HW.out]; exact HB0.out⟩
 have hpc := inB_val hI
 have HI : Hid (inB pc 0 (n0 : Int) = true) := hI
 clear hI
 rcases on with _ | _
 · by_cases hz : n1 = 0 ∧ n2 = 0
   case neg =>
     have q4 : (0 : Int) < (n1 : Int) + (n2 : Int) := by omega
     have HNO : Hid (¬ G) := fun hg => by
       have hg := HG.out.1 hg
       exact hz (hg.off rfl)
     clear HG H1 H2 H3
     go_enter Tryz.func66, Tryz.ntmps66
     go_wp2_with fail
     refine (l1In_g _ _ _ _).mono ?_
     rintro e w1 ⟨rfl, rfl⟩
     rw [HI.out]
     go_wp2
     go_ret
     exact ⟨false, ⟨rfl, by simp [HNO.out]⟩, by rw [HW.out]; exact HB0.out⟩
   obtain ⟨rfl, rfl⟩ := hz
   obtain ⟨z0, z1, z2, z3, z4⟩ := five_of BX.out
   have L0 : w.heap.size < W.heap.size := BX.out.lt
   go_enter Tryz.func66, Tryz.ntmps66
   go_wp2_with fail
   refine (l1In_g _ _ _ _).mono ?_
   rintro e w1 ⟨rfl, hw1⟩
   rw [HI.out]
   obtain rfl : W = w1 := by rw [hw1]; exact HW.out.symm
   clear hw1
   go_wp2
   go_loopw [5] (fun i wr => ∃ k : Nat, k ≤ n0 ∧ i = .int .i64 (k : Int) ∧ (∀ i, i < k → OpAt fs i) ∧ Below W.heap.size W wr) (fun i _ => n0 - (intOf i).toNat)
   case atStart => exact ⟨0, Nat.zero_le _, rfl, fun i h => by omega, Below.refl _ _⟩
   case round =>
     obtain ⟨k, hk, rfl, hall, hb⟩ := hrel
     have HALL : Hid (∀ i, i < k → OpAt fs i) := hall
     have HB : Hid (Below W.heap.size W wr) := hb
     have hbw : Below w.heap.size w wr := HB0.out.trans (hb.mono HB0.out.size)
     have HBW : Hid (Below w.heap.size w wr) := hbw
     have BR : Hid (Box wr w.heap.size #[.slice a0 n0 c0, .int .i64 pc, .bool false, .slice a1 0 c1, .slice a2 0 c2] 92) := BX.out.below hb BX.out.lt
     have L1 : w.heap.size < wr.heap.size := BR.out.lt
     obtain ⟨z0, z1, z2, z3, z4⟩ := five_of BR.out
     clear hall hb hbw
     by_cases hlt : k < n0
     · have hk0 : (0 : Int) ≤ (k : Int) := by omega
       have hk1 : (k : Int) < (n0 : Int) := by omega
       rcases (H1.out.below HBW.out (Nat.le_refl _)).2.2 with h0 | ⟨p1, o1, rfl, g1⟩
       · omega
       have e0 := g1 (k * 3) (by omega)
       have e1 := g1 (k * 3 + 1) (by omega)
       have e2 := g1 (k * 3 + 2) (by omega)
       obtain ⟨x0, hx0⟩ : ∃ x, fs.getD (k * 3) 0 = x := ⟨_, rfl⟩
       obtain ⟨x1, hx1⟩ : ∃ x, fs.getD (k * 3 + 1) 0 = x := ⟨_, rfl⟩
       obtain ⟨x2, hx2⟩ : ∃ x, fs.getD (k * 3 + 2) 0 = x := ⟨_, rfl⟩
       have HE : Hid (OpAt fs k ↔ OpGood x0 x1 x2) := by show _ ↔ _; unfold OpAt; rw [hx0, hx1, hx2]
       rw [hx0] at e0
       rw [hx1, ← Nat.add_assoc] at e1
       rw [hx2, ← Nat.add_assoc] at e2
       clear g1 hx0 hx1 hx2
       go_wp2_with fail
       refine (specOpOk_any x0 x1 x2 _).mono ?_
       rintro e w2 ⟨rfl, hb2⟩
       have HB2 : Hid (Below W.heap.size W w2) := HB.out.trans (hb2.mono HB.out.size)
       have HBW2 : Hid (Below w.heap.size w w2) := HBW.out.trans (hb2.mono HBW.out.size)
       clear hb2 e0 e1 e2 z0 z1 z2 z3 z4
       by_cases hop : OpGood x0 x1 x2
       · rw [show decide (OpGood x0 x1 x2) = true from decide_eq_true hop]
         have HK : Hid (OpAt fs k) := HE.out.2 hop
         clear HE hop
         go_wp2
         exact ⟨⟨k + 1, by omega, by go_num, all_next HALL.out HK.out, HB2.out⟩, by simp [intOf]; omega⟩
       · rw [show decide (OpGood x0 x1 x2) = false from decide_eq_false hop]
         have HNO : Hid (¬ G) := fun hg => hop (HE.out.1 ((HG.out.1 hg).ops k hlt))
         clear HE hop
         go_wp2
         go_ret
         exact ⟨false, ⟨rfl, by simp [HNO.out]⟩, HBW2.out⟩
     · obtain rfl : n0 = k := by omega
       have A0 := HALL
       clear HALL
       go_wp2
       go_loopw [6] (fun i wr => ∃ k : Nat, k ≤ 0 ∧ i = .int .i64 (k : Int) ∧ (∀ i, i < k → GotAt gs i = true) ∧ Below W.heap.size W wr) (fun i _ => 0 - (intOf i).toNat)
       case atStart => exact ⟨0, Nat.zero_le _, rfl, fun i h => by omega, HB.out⟩
       case round =>
         obtain ⟨k, hk, rfl, hall, hb⟩ := hrel
         have HALL : Hid (∀ i, i < k → GotAt gs i = true) := hall
         have HB : Hid (Below W.heap.size W wr) := hb
         have hbw : Below w.heap.size w wr := HB0.out.trans (hb.mono HB0.out.size)
         have HBW : Hid (Below w.heap.size w wr) := hbw
         have BR : Hid (Box wr w.heap.size #[.slice a0 n0 c0, .int .i64 pc, .bool false, .slice a1 0 c1, .slice a2 0 c2] 92) := BX.out.below hb BX.out.lt
         have L1 : w.heap.size < wr.heap.size := BR.out.lt
         obtain ⟨z0, z1, z2, z3, z4⟩ := five_of BR.out
         clear hall hb hbw
         by_cases hlt : k < 0
         · exact absurd hlt (Nat.not_lt_zero _)
         · obtain rfl : 0 = k := by omega
           have A1 := HALL
           clear HALL
           go_wp2
           go_loopw [7] (fun i wr => ∃ k : Nat, k ≤ 0 ∧ i = .int .i64 (k : Int) ∧ (∀ i, i < k → HelpAt hs n i = true) ∧ Below W.heap.size W wr) (fun i _ => 0 - (intOf i).toNat)
           case atStart => exact ⟨0, Nat.zero_le _, rfl, fun i h => by omega, HB.out⟩
           case round =>
             obtain ⟨k, hk, rfl, hall, hb⟩ := hrel
             have HALL : Hid (∀ i, i < k → HelpAt hs n i = true) := hall
             have HB : Hid (Below W.heap.size W wr) := hb
             have hbw : Below w.heap.size w wr := HB0.out.trans (hb.mono HB0.out.size)
             have HBW : Hid (Below w.heap.size w wr) := hbw
             have BR : Hid (Box wr w.heap.size #[.slice a0 n0 c0, .int .i64 pc, .bool false, .slice a1 0 c1, .slice a2 0 c2] 92) := BX.out.below hb BX.out.lt
             have L1 : w.heap.size < wr.heap.size := BR.out.lt
             obtain ⟨z0, z1, z2, z3, z4⟩ := five_of BR.out
             clear hall hb hbw
             by_cases hlt : k < 0
             · exact absurd hlt (Nat.not_lt_zero _)
             · obtain rfl : 0 = k := by omega
               have HYES : Hid G := HG.out.2 ⟨by dsimp only; omega, by dsimp only; omega, (fun h => by cases h), (fun _ => ⟨rfl, rfl⟩), by dsimp only; omega, by dsimp only; omega, A0.out, A1.out, HALL.out⟩
               go_wp2
               go_ret
               exact ⟨true, ⟨rfl, by simp [HYES.out]⟩, HBW.out⟩
 · by_cases hp2 : (n0 : Int) ≤ pc
   · have HNO : Hid (¬ G) := fun hg => by
       have hg := HG.out.1 hg
       have := hg.on rfl; dsimp only at this; omega
     clear HG H1 H2 H3
     go_enter Tryz.func66, Tryz.ntmps66
     go_wp2_with fail
     refine (l1In_g _ _ _ _).mono ?_
     rintro e w1 ⟨rfl, rfl⟩
     rw [HI.out]
     go_wp2
     go_ret
     exact ⟨false, ⟨rfl, by simp [HNO.out]⟩, by rw [HW.out]; exact HB0.out⟩
   by_cases q1 : (12 : Int) < (n1 : Int)
   · have HNO : Hid (¬ G) := fun hg => by
       have hg := HG.out.1 hg
       have := hg.got; dsimp only at this; omega
     clear HG H1 H2 H3
     go_enter Tryz.func66, Tryz.ntmps66
     go_wp2_with fail
     refine (l1In_g _ _ _ _).mono ?_
     rintro e w1 ⟨rfl, rfl⟩
     rw [HI.out]
     go_wp2
     go_ret
     exact ⟨false, ⟨rfl, by simp [HNO.out]⟩, by rw [HW.out]; exact HB0.out⟩
   by_cases q2 : (2 : Int) < (n2 : Int)
   · have HNO : Hid (¬ G) := fun hg => by
       have hg := HG.out.1 hg
       have := hg.stk; dsimp only at this; omega
     clear HG H1 H2 H3
     go_enter Tryz.func66, Tryz.ntmps66
     go_wp2_with fail
     refine (l1In_g _ _ _ _).mono ?_
     rintro e w1 ⟨rfl, rfl⟩
     rw [HI.out]
     go_wp2
     go_ret
     exact ⟨false, ⟨rfl, by simp [HNO.out]⟩, by rw [HW.out]; exact HB0.out⟩
   obtain ⟨z0, z1, z2, z3, z4⟩ := five_of BX.out
   have L0 : w.heap.size < W.heap.size := BX.out.lt
   go_enter Tryz.func66, Tryz.ntmps66
   go_wp2_with fail
   refine (l1In_g _ _ _ _).mono ?_
   rintro e w1 ⟨rfl, hw1⟩
   rw [HI.out]
   obtain rfl : W = w1 := by rw [hw1]; exact HW.out.symm
   clear hw1
   go_wp2
   go_loopw [5] (fun i wr => ∃ k : Nat, k ≤ n0 ∧ i = .int .i64 (k : Int) ∧ (∀ i, i < k → OpAt fs i) ∧ Below W.heap.size W wr) (fun i _ => n0 - (intOf i).toNat)
   case atStart => exact ⟨0, Nat.zero_le _, rfl, fun i h => by omega, Below.refl _ _⟩
   case round =>
     obtain ⟨k, hk, rfl, hall, hb⟩ := hrel
     have HALL : Hid (∀ i, i < k → OpAt fs i) := hall
     have HB : Hid (Below W.heap.size W wr) := hb
     have hbw : Below w.heap.size w wr := HB0.out.trans (hb.mono HB0.out.size)
     have HBW : Hid (Below w.heap.size w wr) := hbw
     have BR : Hid (Box wr w.heap.size #[.slice a0 n0 c0, .int .i64 pc, .bool true, .slice a1 n1 c1, .slice a2 n2 c2] 92) := BX.out.below hb BX.out.lt
     have L1 : w.heap.size < wr.heap.size := BR.out.lt
     obtain ⟨z0, z1, z2, z3, z4⟩ := five_of BR.out
     clear hall hb hbw
     by_cases hlt : k < n0
     · have hk0 : (0 : Int) ≤ (k : Int) := by omega
       have hk1 : (k : Int) < (n0 : Int) := by omega
       rcases (H1.out.below HBW.out (Nat.le_refl _)).2.2 with h0 | ⟨p1, o1, rfl, g1⟩
       · omega
       have e0 := g1 (k * 3) (by omega)
       have e1 := g1 (k * 3 + 1) (by omega)
       have e2 := g1 (k * 3 + 2) (by omega)
       obtain ⟨x0, hx0⟩ : ∃ x, fs.getD (k * 3) 0 = x := ⟨_, rfl⟩
       obtain ⟨x1, hx1⟩ : ∃ x, fs.getD (k * 3 + 1) 0 = x := ⟨_, rfl⟩
       obtain ⟨x2, hx2⟩ : ∃ x, fs.getD (k * 3 + 2) 0 = x := ⟨_, rfl⟩
       have HE : Hid (OpAt fs k ↔ OpGood x0 x1 x2) := by show _ ↔ _; unfold OpAt; rw [hx0, hx1, hx2]
       rw [hx0] at e0
       rw [hx1, ← Nat.add_assoc] at e1
       rw [hx2, ← Nat.add_assoc] at e2
       clear g1 hx0 hx1 hx2
       go_wp2_with fail
       refine (specOpOk_any x0 x1 x2 _).mono ?_
       rintro e w2 ⟨rfl, hb2⟩
       have HB2 : Hid (Below W.heap.size W w2) := HB.out.trans (hb2.mono HB.out.size)
       have HBW2 : Hid (Below w.heap.size w w2) := HBW.out.trans (hb2.mono HBW.out.size)
       clear hb2 e0 e1 e2 z0 z1 z2 z3 z4
       by_cases hop : OpGood x0 x1 x2
       · rw [show decide (OpGood x0 x1 x2) = true from decide_eq_true hop]
         have HK : Hid (OpAt fs k) := HE.out.2 hop
         clear HE hop
         go_wp2
         exact ⟨⟨k + 1, by omega, by go_num, all_next HALL.out HK.out, HB2.out⟩, by simp [intOf]; omega⟩
       · rw [show decide (OpGood x0 x1 x2) = false from decide_eq_false hop]
         have HNO : Hid (¬ G) := fun hg => hop (HE.out.1 ((HG.out.1 hg).ops k hlt))
         clear HE hop
         go_wp2
         go_ret
         exact ⟨false, ⟨rfl, by simp [HNO.out]⟩, HBW2.out⟩
     · obtain rfl : n0 = k := by omega
       have A0 := HALL
       clear HALL
       go_wp2
       go_loopw [6] (fun i wr => ∃ k : Nat, k ≤ n1 ∧ i = .int .i64 (k : Int) ∧ (∀ i, i < k → GotAt gs i = true) ∧ Below W.heap.size W wr) (fun i _ => n1 - (intOf i).toNat)
       case atStart => exact ⟨0, Nat.zero_le _, rfl, fun i h => by omega, HB.out⟩
       case round =>
         obtain ⟨k, hk, rfl, hall, hb⟩ := hrel
         have HALL : Hid (∀ i, i < k → GotAt gs i = true) := hall
         have HB : Hid (Below W.heap.size W wr) := hb
         have hbw : Below w.heap.size w wr := HB0.out.trans (hb.mono HB0.out.size)
         have HBW : Hid (Below w.heap.size w wr) := hbw
         have BR : Hid (Box wr w.heap.size #[.slice a0 n0 c0, .int .i64 pc, .bool true, .slice a1 n1 c1, .slice a2 n2 c2] 92) := BX.out.below hb BX.out.lt
         have L1 : w.heap.size < wr.heap.size := BR.out.lt
         obtain ⟨z0, z1, z2, z3, z4⟩ := five_of BR.out
         clear hall hb hbw
         by_cases hlt : k < n1
         · have hk0 : (0 : Int) ≤ (k : Int) := by omega
           have hk1 : (k : Int) < (n1 : Int) := by omega
           rcases (H2.out.below HBW.out (Nat.le_refl _)).2.2 with h0 | ⟨p1, o1, rfl, g1⟩
           · omega
           have e0 := g1 (k * 2) (by omega)
           have e1 := g1 (k * 2 + 1) (by omega)
           obtain ⟨x0, hx0⟩ : ∃ x, gs.getD (k * 2) 0 = x := ⟨_, rfl⟩
           obtain ⟨x1, hx1⟩ : ∃ x, gs.getD (k * 2 + 1) 0 = x := ⟨_, rfl⟩
           have HE : Hid (GotAt gs k = (inB x0 0 19 && inB x1 0 1000)) := by show _ = _; unfold GotAt; rw [hx0, hx1]
           rw [hx0] at e0
           rw [hx1, ← Nat.add_assoc] at e1
           clear g1 hx0 hx1
           go_wp2_with fail
           refine (l1In_g _ _ _ _).mono ?_
           rintro e w2 ⟨rfl, rfl⟩
           rcases hI0 : inB x0 0 19 with _ | _
           · have HNO : Hid (¬ G) := fun hg => by
               have h3 := (HG.out.1 hg).gots k hlt
               dsimp only at h3
               rw [HE.out, hI0] at h3
               simp at h3
             clear HE
             go_wp2
             go_ret
             exact ⟨false, ⟨rfl, by simp [HNO.out]⟩, HBW.out⟩
           have HI0 : Hid (inB x0 0 19 = true) := hI0
           go_wp2_with fail
           refine (l1In_g _ _ _ _).mono ?_
           rintro e w2 ⟨rfl, rfl⟩
           rcases hI1 : inB x1 0 1000 with _ | _
           · have HNO : Hid (¬ G) := fun hg => by
               have h3 := (HG.out.1 hg).gots k hlt
               dsimp only at h3
               rw [HE.out, hI0, hI1] at h3
               simp at h3
             clear HE
             go_wp2
             go_ret
             exact ⟨false, ⟨rfl, by simp [HNO.out]⟩, HBW.out⟩
           have HK : Hid (GotAt gs k = true) := by show _ = _; rw [HE.out, hI0, hI1]; rfl
           clear HE
           go_wp2
           exact ⟨⟨k + 1, by omega, by go_num, all_next HALL.out HK.out, HB.out⟩, by simp [intOf]; omega⟩
         · obtain rfl : n1 = k := by omega
           have A1 := HALL
           clear HALL
           go_wp2
           go_loopw [7] (fun i wr => ∃ k : Nat, k ≤ n2 ∧ i = .int .i64 (k : Int) ∧ (∀ i, i < k → HelpAt hs n i = true) ∧ Below W.heap.size W wr) (fun i _ => n2 - (intOf i).toNat)
           case atStart => exact ⟨0, Nat.zero_le _, rfl, fun i h => by omega, HB.out⟩
           case round =>
             obtain ⟨k, hk, rfl, hall, hb⟩ := hrel
             have HALL : Hid (∀ i, i < k → HelpAt hs n i = true) := hall
             have HB : Hid (Below W.heap.size W wr) := hb
             have hbw : Below w.heap.size w wr := HB0.out.trans (hb.mono HB0.out.size)
             have HBW : Hid (Below w.heap.size w wr) := hbw
             have BR : Hid (Box wr w.heap.size #[.slice a0 n0 c0, .int .i64 pc, .bool true, .slice a1 n1 c1, .slice a2 n2 c2] 92) := BX.out.below hb BX.out.lt
             have L1 : w.heap.size < wr.heap.size := BR.out.lt
             obtain ⟨z0, z1, z2, z3, z4⟩ := five_of BR.out
             clear hall hb hbw
             by_cases hlt : k < n2
             · have hk0 : (0 : Int) ≤ (k : Int) := by omega
               have hk1 : (k : Int) < (n2 : Int) := by omega
               rcases (H3.out.below HBW.out (Nat.le_refl _)).2.2 with h0 | ⟨p1, o1, rfl, g1⟩
               · omega
               have e0 := g1 (k * 4) (by omega)
               have e1 := g1 (k * 4 + 1) (by omega)
               have e2 := g1 (k * 4 + 2) (by omega)
               have e3 := g1 (k * 4 + 3) (by omega)
               obtain ⟨x0, hx0⟩ : ∃ x, hs.getD (k * 4) 0 = x := ⟨_, rfl⟩
               obtain ⟨x1, hx1⟩ : ∃ x, hs.getD (k * 4 + 1) 0 = x := ⟨_, rfl⟩
               obtain ⟨x2, hx2⟩ : ∃ x, hs.getD (k * 4 + 2) 0 = x := ⟨_, rfl⟩
               obtain ⟨x3, hx3⟩ : ∃ x, hs.getD (k * 4 + 3) 0 = x := ⟨_, rfl⟩
               have HE : Hid (HelpAt hs n k = (inB x0 0 ((n : Int) - 1) && (inB x1 1 1000000 && (inB x2 0 20 && inB x3 0 20)))) := by show _ = _; unfold HelpAt; rw [hx0, hx1, hx2, hx3]
               rw [hx0] at e0
               rw [hx1, ← Nat.add_assoc] at e1
               rw [hx2, ← Nat.add_assoc] at e2
               rw [hx3, ← Nat.add_assoc] at e3
               clear g1 hx0 hx1 hx2 hx3
               go_wp2_with fail
               refine (l1In_g _ _ _ _).mono ?_
               rintro e w2 ⟨rfl, rfl⟩
               rcases hI0 : inB x0 0 ((n : Int) - 1) with _ | _
               · have HNO : Hid (¬ G) := fun hg => by
                   have h3 := (HG.out.1 hg).stks k hlt
                   dsimp only at h3
                   rw [HE.out, hI0] at h3
                   simp at h3
                 clear HE
                 go_wp2
                 go_ret
                 exact ⟨false, ⟨rfl, by simp [HNO.out]⟩, HBW.out.alloc (Nat.le_of_lt L1) _⟩
               have HI0 : Hid (inB x0 0 ((n : Int) - 1) = true) := hI0
               go_wp2_with fail
               refine (l1In_g _ _ _ _).mono ?_
               rintro e w2 ⟨rfl, rfl⟩
               rcases hI1 : inB x1 1 1000000 with _ | _
               · have HNO : Hid (¬ G) := fun hg => by
                   have h3 := (HG.out.1 hg).stks k hlt
                   dsimp only at h3
                   rw [HE.out, hI0, hI1] at h3
                   simp at h3
                 clear HE
                 go_wp2
                 go_ret
                 exact ⟨false, ⟨rfl, by simp [HNO.out]⟩, HBW.out.alloc (Nat.le_of_lt L1) _⟩
               have HI1 : Hid (inB x1 1 1000000 = true) := hI1
               go_wp2_with fail
               refine (l1In_g _ _ _ _).mono ?_
               rintro e w2 ⟨rfl, rfl⟩
               rcases hI2 : inB x2 0 20 with _ | _
               · have HNO : Hid (¬ G) := fun hg => by
                   have h3 := (HG.out.1 hg).stks k hlt
                   dsimp only at h3
                   rw [HE.out, hI0, hI1, hI2] at h3
                   simp at h3
                 clear HE
                 go_wp2
                 go_ret
                 exact ⟨false, ⟨rfl, by simp [HNO.out]⟩, HBW.out.alloc (Nat.le_of_lt L1) _⟩
               have HI2 : Hid (inB x2 0 20 = true) := hI2
               go_wp2_with fail
               refine (l1In_g _ _ _ _).mono ?_
               rintro e w2 ⟨rfl, rfl⟩
               rcases hI3 : inB x3 0 20 with _ | _
               · have HNO : Hid (¬ G) := fun hg => by
                   have h3 := (HG.out.1 hg).stks k hlt
                   dsimp only at h3
                   rw [HE.out, hI0, hI1, hI2, hI3] at h3
                   simp at h3
                 clear HE
                 go_wp2
                 go_ret
                 exact ⟨false, ⟨rfl, by simp [HNO.out]⟩, HBW.out.alloc (Nat.le_of_lt L1) _⟩
               have HK : Hid (HelpAt hs n k = true) := by show _ = _; rw [HE.out, hI0, hI1, hI2, hI3]; rfl
               clear HE
               go_wp2
               exact ⟨⟨k + 1, by omega, by go_num, all_next HALL.out HK.out, HB.out.alloc HB.out.size _⟩, by simp [intOf]; omega⟩
             · obtain rfl : n2 = k := by omega
               have HYES : Hid G := HG.out.2 ⟨by dsimp only; omega, by dsimp only; omega, (fun _ => by dsimp only; omega), (fun h => by cases h), by dsimp only; omega, by dsimp only; omega, A0.out, A1.out, HALL.out⟩
               go_wp2
               go_ret
               exact ⟨true, ⟨rfl, by simp [HYES.out]⟩, HBW.out⟩
theorem within_g (x lo hi : Int) (w : World) : Calls Tryz.prog 100 #[.int .i64 x, .int .i64 lo, .int .i64 hi] w fun e w' => e = .returned (.bool (inB x lo hi)) ∧ w' = w := by
 by_cases h0 : lo ≤ x
 · by_cases h1 : x ≤ hi
   · rw [inB_yes ⟨h0, h1⟩]
     go_enter Tryz.func100, Tryz.ntmps100
     go_wp2
     go_ret
     exact ⟨rfl, rfl⟩
   · rw [inB_no (fun h => h1 h.2)]
     go_enter Tryz.func100, Tryz.ntmps100
     go_wp2
     go_ret
     exact ⟨rfl, rfl⟩
 · rw [inB_no (fun h => h0 h.1)]
   go_enter Tryz.func100, Tryz.ntmps100
   go_wp2
   go_ret
   exact ⟨rfl, rfl⟩
end
end Go.Proofs.YtbfolanfbagofaaGreatDoor
