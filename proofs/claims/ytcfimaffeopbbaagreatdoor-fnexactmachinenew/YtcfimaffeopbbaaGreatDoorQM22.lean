/- Texts joined: SpecNw. -/
import Derived.Test.YtcfimaffeopbbaaGreatDoorQM13
import Derived.Test.YtcfimaffeopbbaaGreatDoorQM21
set_option maxHeartbeats 16000000
set_option maxRecDepth 100000
namespace Go.Proofs.YtcfimaffeopbbaaGreatDoor
section
open Go.ChangeShapes Go.WideShapes Go.ChangeAt Go.RowKit Go.Joins
theorem specMachineNew_any (p o nh hc : Nat) (st : Int) (hs L : List Int) (la : Option Addr) (n lc : Nat) (cl : List Cel) (w : World) (hnh : nh ≤ 2097152) (hA : IntAt w (some ⟨p, o, none⟩) nh hs) (hL : TellsL hs st L) (hl : At true w (.slice la n lc) (.l 55 1 n cl)) (hlh : Has (.l 55 1 n cl) (.l 55 1 tyOpS)) :
   Calls Tryz.prog 6 #[.agg #[.slice (some ⟨p, o, none⟩) nh hc, .int .i64 st], .slice la n lc] w fun e w' => NewAns L n cl nh hs st e w' ∧ Below w.heap.size w w' := by
 obtain ⟨W, hW⟩ : ∃ W, (w.alloc (.cells #[.slice (some ⟨p, o, none⟩) nh hc, .int .i64 st] 34)).alloc (.cells #[.slice none 0 0, .slice none 0 0, .slice none 0 0, .int .i64 0, .slice none 0 0, .slice none 0 0, .slice none 0 0, .int .i64 0] 36) = W := ⟨_, rfl⟩
 have HW : Hid ((w.alloc (.cells #[.slice (some ⟨p, o, none⟩) nh hc, .int .i64 st] 34)).alloc (.cells #[.slice none 0 0, .slice none 0 0, .slice none 0 0, .int .i64 0, .slice none 0 0, .slice none 0 0, .slice none 0 0, .int .i64 0] 36) = W) := hW
 have hb0 : Below w.heap.size w W := by rw [← hW]; exact ((Below.refl _ w).alloc (Nat.le_refl _) _).alloc (by simp) _
 have HB0 : Hid (Below w.heap.size w W) := hb0
 have BR0 : Hid (Box W w.heap.size #[.slice (some ⟨p, o, none⟩) nh hc, .int .i64 st] 34) := by rw [← hW]; exact (box_of w _ _).alloc _
 have BZ0 : Hid (Box W (w.heap.size + 1) #[.slice none 0 0, .slice none 0 0, .slice none 0 0, .int .i64 0, .slice none 0 0, .slice none 0 0, .slice none 0 0, .int .i64 0] 36) := by
   rw [← hW]
   have := box_of (w.alloc (.cells #[.slice (some ⟨p, o, none⟩) nh hc, .int .i64 st] 34)) #[.slice none 0 0, .slice none 0 0, .slice none 0 0, .int .i64 0, .slice none 0 0, .slice none 0 0, .slice none 0 0, .int .i64 0] 36
   rwa [World.size_alloc] at this
 have HA : Hid (IntAt w (some ⟨p, o, none⟩) nh hs) := hA
 clear hW hb0 hA
 go_enter Tryz.func6, Tryz.ntmps6
 go_wp2_with fail
 rw [HW.out]
 refine (specMemNew_any (some ⟨p, o, none⟩) nh hc st (n : Int) hs L W (HA.out.below HB0.out (Nat.le_refl _)) hL).mono ?_
 rintro e w1 ⟨⟨wa, wc, da, dc, m, fs, nn, ds, ok, rfl, hsay, hT, hD⟩, hb1⟩
 obtain ⟨W2, hW2⟩ : ∃ W2, w1.alloc (.cells #[.slice wa m wc, .slice da nn dc] 31) = W2 := ⟨_, rfl⟩
 have HW2 : Hid (w1.alloc (.cells #[.slice wa m wc, .slice da nn dc] 31) = W2) := hW2
 have hb2 : Below w1.heap.size w1 W2 := by rw [← hW2]; exact (Below.refl _ w1).alloc (Nat.le_refl _) _
 have BR : Hid (Box W2 w.heap.size #[.slice (some ⟨p, o, none⟩) nh hc, .int .i64 st] 34) := (BR0.out.below hb1 BR0.out.lt).below hb2 (Nat.lt_of_lt_of_le BR0.out.lt hb1.size)
 have BZ : Hid (Box W2 (w.heap.size + 1) #[.slice none 0 0, .slice none 0 0, .slice none 0 0, .int .i64 0, .slice none 0 0, .slice none 0 0, .slice none 0 0, .int .i64 0] 36) := (BZ0.out.below hb1 BZ0.out.lt).below hb2 (Nat.lt_of_lt_of_le BZ0.out.lt hb1.size)
 have BM : Hid (Box W2 w1.heap.size #[.slice wa m wc, .slice da nn dc] 31) := by rw [← hW2]; exact box_of w1 _ _
 have HB2 : Hid (Below w.heap.size w W2) := HB0.out.trans ((hb1.trans (hb2.mono hb1.size)).mono HB0.out.size)
 have HSAY : Hid (NewSays L (n : Int) m fs nn ds ok) := hsay
 have HT : Hid (TripAt W2 wa m fs) := hT.below hb2 (Nat.le_refl _)
 have HD : Hid (DescAt W2 da nn ds) := hD.below hb2 (Nat.le_refl _)
 clear hW2 hb1 hb2 hsay hT hD
 go_wp2_with fail
 rw [HW2.out]
 refine wp_cut (K := CutNew (fun bm ha hc' => { tmps := #[Value.agg #[.slice (some ⟨p, o, none⟩) nh hc, .int .i64 st], .slice la n lc, .pointer (some ⟨w.heap.size, 0, none⟩), undef, .pointer (some ⟨w.heap.size + 1, 0, none⟩), .bool false, .pointer (some ⟨w1.heap.size, 0, none⟩), .bool ok, .pointer (some ⟨bm, 0, none⟩), undef, .tuple #[MemV wa m wc da nn dc, .bool ok], Value.agg #[.slice (some ⟨p, o, none⟩) nh hc, .int .i64 st], .slice la n lc, .int .i64 (n : Int), .tuple #[MemV wa m wc da nn dc, .bool ok], MemV wa m wc da nn dc, .bool ok, MemV wa m wc da nn dc, Value.agg #[.slice (some ⟨p, o, none⟩) nh hc, .int .i64 st], .agg #[.slice ha nh hc', .int .i64 st], .agg #[.slice wa m wc, .slice da nn dc, .slice none 0 0, .int .i64 0, .slice none 0 0, .slice none 0 0, .slice ha nh hc', .int .i64 st], undef, undef, undef, undef, undef, undef, undef, undef, undef, undef, undef, undef, undef, undef, undef, undef, undef, undef, undef, undef, undef, undef, undef, undef, undef], defers := [] }) (fun ha hc' => (#[.slice wa m wc, .slice da nn dc, .slice none 0 0, .int .i64 0, .slice none 0 0, .slice none 0 0, .slice ha nh hc', .int .i64 st])) W2 nh hs) ?_ ?_
 · obtain ⟨x0, x1, _, _⟩ := BR.out.two
   obtain ⟨y0, y1, _, _⟩ := BM.out.two
   have LR : w.heap.size < W2.heap.size := BR.out.lt
   have LM : w1.heap.size < W2.heap.size := BM.out.lt
   have K3 : Hid (∀ X, Below W2.heap.size W2 X → X.cell? ⟨w.heap.size, 0, none⟩ = some (.slice (some ⟨p, o, none⟩) nh hc) ∧ X.cell? ⟨w.heap.size, 1, none⟩ = some (.int .i64 st) ∧ X.cell? ⟨w1.heap.size, 0, none⟩ = some (.slice wa m wc) ∧ X.cell? ⟨w1.heap.size, 1, none⟩ = some (.slice da nn dc)) := fun X hq => ⟨(hq.cell (show w.heap.size < _ from LR)).trans x0, (hq.cell (show w.heap.size < _ from LR)).trans x1, (hq.cell (show w1.heap.size < _ from LM)).trans y0, (hq.cell (show w1.heap.size < _ from LM)).trans y1⟩
   go_region_held3 (fun w' => w'.cell? ⟨w.heap.size, 0, none⟩ = some (.slice (some ⟨p, o, none⟩) nh hc) ∧ w'.cell? ⟨w.heap.size, 1, none⟩ = some (.int .i64 st) ∧ w'.cell? ⟨w1.heap.size, 0, none⟩ = some (.slice wa m wc) ∧ w'.cell? ⟨w1.heap.size, 1, none⟩ = some (.slice da nn dc))
     (first | (with_reducible exact K2.out) | (with_reducible exact K3.out _ (HQ.out.alloc HQ.out.size _)) | (with_reducible exact K3.out _ ((((((((HQ.out.setCell (Nat.le_refl _) _).setCell (Nat.le_refl _) _).setCell (Nat.le_refl _) _).setCell (Nat.le_refl _) _).setCell (Nat.le_refl _) _).setCell (Nat.le_refl _) _).setCell (Nat.le_refl _) _).setCell (Nat.le_refl _) _)) | go_keep)
     (first
     | (go_at_call 20
        refine (l3Copy_any p o nh hc st hs _ (HA.out.below (by first | exact HB2.out.drew | exact (HB2.out.drew.alloc (by first | exact HB2.out.size | (have := HB2.out.size; simp; omega)) _)) (Nat.le_refl _))).mono ?_
        rintro e w3 ⟨ha, hc', rfl, own3, hb3⟩
        have HQ : Hid (Below W2.heap.size W2 w3) := by first | exact (Below.refl _ W2).drew.trans hb3 | exact ((Below.refl _ W2).drew.alloc (by simp) _).trans (hb3.mono (by simp))
        have K2 : Hid (w3.cell? ⟨w.heap.size, 0, none⟩ = some (.slice (some ⟨p, o, none⟩) nh hc) ∧ w3.cell? ⟨w.heap.size, 1, none⟩ = some (.int .i64 st) ∧ w3.cell? ⟨w1.heap.size, 0, none⟩ = some (.slice wa m wc) ∧ w3.cell? ⟨w1.heap.size, 1, none⟩ = some (.slice da nn dc)) := K3.out _ HQ.out
        have OW3 : Hid _ := own3
        have HB3 : Hid _ := hb3
        (first | (have BQ : Box w3 W2.heap.size #[.slice none 0 0, .slice none 0 0, .slice none 0 0, .int .i64 0, .slice none 0 0, .slice none 0 0, .slice none 0 0, .int .i64 0] 36 := (box_of W2.drew #[.slice none 0 0, .slice none 0 0, .slice none 0 0, .int .i64 0, .slice none 0 0, .slice none 0 0, .slice none 0 0, .int .i64 0] 36).below hb3 (by simp); obtain ⟨g0, g1, g2, g3, g4, g5, g6, g7⟩ := BQ.eightF; obtain ⟨c0, c1, c2, c3, c4, c5, c6, c7⟩ := eight_of BQ) | skip)
        clear own3 hb3))
   · show CutNew _ _ _ _ _ _ _
     have ow : w3.ownsRow W2.heap.size 3 1 (.slice ha nh hc') nh (hs.map I) := own_weaken OW3.out (by simp; omega)
     refine ⟨w3.heap.size, ha, hc', ?_, ?_, ?_, ?_, ?_, ?_⟩
     · with_reducible rfl
     · exact box_of w3 _ _
     · exact ow.alloc _
     · exact HQ.out.alloc HQ.out.size _
     · exact HQ.out.size
     · intro e; have := (ow.lt _ e).2; omega
   · show CutNew _ _ _ _ _ _ _
     have ow : w3.ownsRow (W2.heap.size + 1) 3 1 (.slice ha nh hc') nh (hs.map I) := own_weaken OW3.out (by simp)
     have hno : (Value.slice ha nh hc').ownBlock ≠ some W2.heap.size := fun e => by have := (ow.lt _ e).1; omega
     refine ⟨W2.heap.size, ha, hc', ?_, ?_, ?_, ?_, ?_, ?_⟩
     · with_reducible rfl
     · exact (((((((BQ.put 0 (.slice wa m wc)).put 1 (.slice da nn dc)).put 2 (.slice none 0 0)).put 3 (.int .i64 0)).put 4 (.slice none 0 0)).put 5 (.slice none 0 0)).put 6 (.slice ha nh hc')).put 7 (.int .i64 st)
     · exact own_far8 (own_weaken ow (by omega)) hno
     · exact (((((((HQ.out.setCell (Nat.le_refl _) _).setCell (Nat.le_refl _) _).setCell (Nat.le_refl _) _).setCell (Nat.le_refl _) _).setCell (Nat.le_refl _) _).setCell (Nat.le_refl _) _).setCell (Nat.le_refl _) _).setCell (Nat.le_refl _) _
     · exact Nat.le_refl _
     · exact hno
 · rintro a' W3 ⟨bm, ha, hc', rfl, hbox, hown, hb3, hbm, hne⟩
   have BX : Hid (Box W3 bm #[.slice wa m wc, .slice da nn dc, .slice none 0 0, .int .i64 0, .slice none 0 0, .slice none 0 0, .slice ha nh hc', .int .i64 st] 36) := hbox
   have HOWN : Hid (W3.ownsRow W2.heap.size 3 1 (.slice ha nh hc') nh (hs.map I)) := hown
   have HB3 : Hid (Below W2.heap.size W2 W3) := hb3
   have HBW : Hid (Below w.heap.size w W3) := HB2.out.trans (hb3.mono HB2.out.size)
   clear hbox hown hb3
   have hn := hl.openL
   obtain ⟨_, _, _, e9, _, _, hn9, _⟩ := hl.openL
   cases e9
   clear hn
   have H0 : Hid (NwSt W2 W3 bm wa m wc da nn dc ha nh hc' st hs cl 0 W3) := ⟨_, _, BX.out, .nil _ _ (fun _ => False) (fun _ h => h), HOWN.out, HB3.out, Nat.le_refl _, fun _ h => h.elim⟩
   go_wp2
   go_loopw [9] (fun i wr => ∃ k : Nat, k ≤ n ∧ i = .int .i64 (k : Int) ∧ NwSt W2 W3 bm wa m wc da nn dc ha nh hc' st hs cl k wr) (fun i _ => n - (intOf i).toNat)
   case atStart => exact ⟨0, Nat.zero_le _, rfl, H0.out⟩
   case round =>
     obtain ⟨k, hk, rfl, hst⟩ := hrel
     have HST : Hid (NwSt W2 W3 bm wa m wc da nn dc ha nh hc' st hs cl k wr) := hst
     clear hst
     by_cases hlt : k < n
     · have hk0 : (0 : Int) ≤ (k : Int) := by omega
       have hk1 : (k : Int) < (n : Int) := by omega
       obtain ⟨tv, S, hbx, hown, hheld, hb2, hs3, hS⟩ := HST.out
       obtain ⟨lp, lo, pa, pc, pn, pcs, rfl, hcell, hnth, hlat, hhas, hpn⟩ := list_elem hl hlh hlt
       have BW : Hid (Box wr bm #[.slice wa m wc, .slice da nn dc, tv, .int .i64 0, .slice none 0 0, .slice none 0 0, .slice ha nh hc', .int .i64 st] 36) := hbx
       have HOW : Hid (Own wr W3.heap.size tv (.l 59 5 k (thsNew cl k)) S) := hown
       have HHE : Hid (wr.ownsRow W2.heap.size 3 1 (.slice ha nh hc') nh (hs.map I)) := hheld
       have HBR : Hid (Below W2.heap.size W2 wr) := hb2
       have HWR : Hid (Below w.heap.size w wr) := HB2.out.trans (hb2.mono HB2.out.size)
       have HLC : Hid (∀ X, Below w.heap.size w X → X.cell? ⟨lp, lo + k, none⟩ = some (.slice pa pn pc)) := fun X hX => (hX.cell (show lp < w.heap.size from World.block_lt_of_cell? w _ hcell)).trans hcell
       have HLAT : Hid (LAt 3 wr (.slice pa pn pc) pn (nums pcs)) := hlat.below HWR.out (Nat.le_refl _)
       have HNT : Hid (nthC cl k = .l 82 3 pn pcs) := hnth
       have HHAS : Hid (Has (.l 82 3 pn pcs) (.l 82 3 tyOp)) := hhas
       have HSS : Hid (∀ x, S x → W3.heap.size ≤ x) := hS
       have LB : bm < wr.heap.size := BW.out.lt
       clear hbx hown hheld hb2 hcell hlat hnth hhas hS
       go_wp2_with fail
       refine wp_cut (K := CutThr (fun j => { tmps := #[Value.agg #[.slice (some ⟨p, o, none⟩) nh hc, .int .i64 st], .slice (some ⟨lp, lo, none⟩) n lc, .pointer (some ⟨w.heap.size, 0, none⟩), undef, .pointer (some ⟨w.heap.size + 1, 0, none⟩), .bool false, .pointer (some ⟨w1.heap.size, 0, none⟩), .bool ok, .pointer (some ⟨bm, 0, none⟩), .int .i64 (k : Int), .tuple #[MemV wa m wc da nn dc, .bool ok], Value.agg #[.slice (some ⟨p, o, none⟩) nh hc, .int .i64 st], .slice (some ⟨lp, lo, none⟩) n lc, .int .i64 (n : Int), .tuple #[MemV wa m wc da nn dc, .bool ok], MemV wa m wc da nn dc, .bool ok, MemV wa m wc da nn dc, Value.agg #[.slice (some ⟨p, o, none⟩) nh hc, .int .i64 st], .agg #[.slice ha nh hc', .int .i64 st], .agg #[.slice wa m wc, .slice da nn dc, .slice none 0 0, .int .i64 0, .slice none 0 0, .slice none 0 0, .slice ha nh hc', .int .i64 st], .int .i64 (k : Int), .slice (some ⟨lp, lo, none⟩) n lc, .int .i64 (n : Int), .bool true, j 25, j 26, j 27, j 28, j 29, j 30, j 31, j 32, j 33, j 34, j 35, j 36, undef, undef, undef, undef, undef, undef, undef, undef, undef], defers := [] }) (NwSt W2 W3 bm wa m wc da nn dc ha nh hc' st hs cl (k + 1))) ?_ ?_
       · refine wp_region_held_drew (S := fun w' => w'.cell? ⟨lp, lo + k, none⟩ = some (.slice pa pn pc)) (by kernel_rfl) (HLC.out _ HWR.out.drew) (fun hHeld => ?_)
         refine takeH 0 (.pointer (some ⟨bm, 2, none⟩)) ?_ hHeld ?_
         · intro w' hSw; go_simp
         simp only [Act.put, List.setIfInBounds_toArray, List.set_cons_zero, List.set_cons_succ]
         refine takeH 2 (.slice (some ⟨lp, lo, none⟩) n lc) ?_ hHeld ?_
         · intro w' hSw; go_simp
         simp only [Act.put, List.setIfInBounds_toArray, List.set_cons_zero, List.set_cons_succ]
         refine takeH 3 (.int .i64 (k : Int)) ?_ hHeld ?_
         · intro w' hSw; go_simp
         simp only [Act.put, List.setIfInBounds_toArray, List.set_cons_zero, List.set_cons_succ]
         refine takeH 4 (.pointer (some ⟨lp, lo + k, none⟩)) ?_ hHeld ?_
         · intro w' hSw; go_simp
         simp only [Act.put, List.setIfInBounds_toArray, List.set_cons_zero, List.set_cons_succ]
         refine takeH 5 (.slice pa pn pc) ?_ hHeld ?_
         · intro w' hSw; go_simp
         simp only [Act.put, List.setIfInBounds_toArray, List.set_cons_zero, List.set_cons_succ]
         refine wpAnyH_ready (rs := [1, 6]) (by kernel_rfl) (by simp) ?_
         refine AllReadyH.cons (o := _) (by rw [List.getElem?_toArray]; exact rfl) (fun K hK => ?_) (AllReadyH.cons (o := _) (by rw [List.getElem?_toArray]; exact rfl) (fun K hK => ?_) AllReadyH.nil)
         · rw [if_pos (by kernel_rfl)]
           have z2 : wr.drew.cell? ⟨bm, 2, none⟩ = some tv := (eight_of BW.out).2.2.1
           go_simp
           refine hK.out _ _ ?_ (fun hHeld => ?_)
           · exact HLC.out _ HWR.out.drew
           clear hK K z2
           refine wpAnyH_ready (rs := [6]) (by kernel_rfl) (by simp) ?_
           refine AllReadyH.cons (o := _) (by rw [List.getElem?_toArray]; exact rfl) (fun K hK => ?_) AllReadyH.nil
           · rw [if_pos (by kernel_rfl)]
             go_simp
             refine (specNewT_any (.slice pa pn pc) pn (nums pcs) wr.drew (HLAT.out.below (Below.refl _ wr).drew (Nat.le_refl _))).mono ?_
             rintro e w6 ⟨t0, t1, t2, rfl, hO6, hb6⟩
             obtain ⟨p0, d0, rfl, -⟩ := owns_slice hO6.ops
             obtain ⟨p1, d1, rfl, -⟩ := owns_slice hO6.got
             obtain ⟨p2, d2, rfl, -⟩ := owns_slice hO6.stk
             have hb6' : Below wr.heap.size wr w6 := (Below.refl _ wr).drew.trans hb6
             have HB6 : Hid (Below wr.heap.size wr w6) := hb6'
             have HW6 : Hid (Below w.heap.size w w6) := HWR.out.trans (hb6'.mono HWR.out.size)
             have HO6 : Hid (ThO w6 wr.heap.size (.slice p0 pn d0) (.slice p1 0 d1) (.slice p2 0 d2) ⟨pn, nums pcs, 0, false, 0, [], 0, []⟩) := hO6
             have B6 : Hid (Box w6 bm #[.slice wa m wc, .slice da nn dc, tv, .int .i64 0, .slice none 0 0, .slice none 0 0, .slice ha nh hc', .int .i64 st] 36) := BW.out.below hb6' LB
             refine hK.out _ _ ?_ (fun hHeld => ?_)
             · exact HLC.out _ HW6.out
             clear hK K hb6 hb6' hO6
             refine wpAnyH_ready (rs := [7]) (by kernel_rfl) (by simp) ?_
             refine AllReadyH.cons (o := _) (by rw [List.getElem?_toArray]; exact rfl) (fun K hK => ?_) AllReadyH.nil
             · rw [if_pos (by kernel_rfl)]
               go_simp
               obtain ⟨w7, hw7⟩ : ∃ w7, w6.alloc (.cells #[.slice p0 pn d0, .int .i64 0, .bool false, .slice p1 0 d1, .slice p2 0 d2] 59) = w7 := ⟨_, rfl⟩
               have hb7 : Below w6.heap.size w6 w7 := by rw [← hw7]; exact (Below.refl _ w6).alloc (Nat.le_refl _) _
               have HB7 : Hid (Below w6.heap.size w6 w7) := hb7
               have HW7 : Hid (Below w.heap.size w w7) := HW6.out.trans (hb7.mono HW6.out.size)
               have B7 : Hid (Box w7 bm #[.slice wa m wc, .slice da nn dc, tv, .int .i64 0, .slice none 0 0, .slice none 0 0, .slice ha nh hc', .int .i64 st] 36) := B6.out.below hb7 (Nat.lt_of_lt_of_le LB HB6.out.size)
               have SRC : Hid (∀ (j : Nat) (u : Value), [.slice p0 pn d0, .int .i64 0, .bool false, .slice p1 0 d1, .slice p2 0 d2][j]? = some u → w7.cell? ((⟨w6.heap.size, 0, none⟩ : Addr).add j) = some u) := by show ∀ j u, _; rw [← hw7]; exact five_at w6 _ _ _ _ _ _
               rw [hw7]
               refine hK.out _ _ ?_ (fun hHeld => ?_)
               · exact HLC.out _ HW7.out
               clear hK K hb7 hw7
               refine wpAnyH_ready (rs := [8]) (by kernel_rfl) (by simp) ?_
               refine AllReadyH.cons (o := _) (by rw [List.getElem?_toArray]; exact rfl) (fun K hK => ?_) AllReadyH.nil
               · rw [if_pos (by kernel_rfl)]
                 have LB3 : bm < W3.heap.size := BX.out.lt
                 have hs23 : W2.heap.size ≤ W3.heap.size := HB3.out.size
                 obtain ⟨i0, hi, hz⟩ := Option.map_eq_some_iff.1 infoThread
                 have hz0 : i0.zero = some (.agg #[.slice none 0 0, .int .i64 0, .bool false, .slice none 0 0, .slice none 0 0]) := congrArg Prod.fst hz
                 have hz1 : i0.size = 5 := congrArg (fun p => p.2.1) hz
                 have hz2 : i0.bytes = 88 := congrArg (fun p => p.2.2) hz
                 have HB37 : Hid (Below wr.heap.size wr w7) := HB6.out.trans (HB7.out.mono HB6.out.size)
                 have ow7 := HOW.out.on HB37.out (Nat.le_refl _)
                 obtain ⟨S6, ol6, hs6⟩ := own_thNew HO6.out HHAS.out hpn
                 have ol7 := (ol6.on HB7.out (Nat.le_refl _)).weaken (Nat.le_trans hs3 (Nat.le_refl _))
                 obtain ⟨vs, hrow, back⟩ := ow7.open9
                 refine wp_append_at w7 (.tmp 28) (.tmp 34) 32 (by rfl) W3.heap.size 59 i0 (.agg #[.slice none 0 0, .int .i64 0, .bool false, .slice none 0 0, .slice none 0 0]) 5 88 Tryz.underlying32 hi hz0 hz1 hz2 (by rfl) (by decide) tv k vs (by rfl) hrow ⟨w6.heap.size, 0, none⟩ 1 1 [.slice p0 pn d0, .int .i64 0, .bool false, .slice p1 0 d1, .slice p2 0 d2] (by rfl) (by rfl) SRC.out (by intro u hu; simp at hu; rcases hu with rfl | rfl | rfl | rfl | rfl <;> rfl) (by unfold maxLen; omega) (by omega) (Nat.le_trans hs3 HB37.out.size) ?_
                 intro v' w8 hrow8 hgrow8 hwhere8
                 have hd7 : ∀ x, S6 x → ¬ S x := fun x hx hx' => by have h1 := (ol6.lt x hx).1; have h2 := (HOW.out.lt x hx').2; omega
                 obtain ⟨S8, ow8, hS8⟩ := back v' w8 _ _ S6 ol7 hd7 rfl (by omega) hrow8 hgrow8 hwhere8
                 have HO8 : Hid (Own w8 W3.heap.size v' (.l 59 5 (k + 1) (thsNew cl (k + 1))) S8) := by show Own _ _ _ _ _; rw [thsNew_succ, HNT.out]; exact ow8
                 have tvb : ∀ x, tv.ownBlock = some x → W3.heap.size ≤ x := fun x hx => (hrow.lt x hx).1
                 have HB8 : Hid (Below W3.heap.size w7 w8) := (Below.refl _ w7).grown hgrow8 (Nat.le_trans hs3 HB37.out.size) tvb
                 have HS8 : Hid (∀ x, S8 x → W3.heap.size ≤ x) := fun x hx => (ow8.lt x hx).1
                 have B8 : Hid (Box w8 bm #[.slice wa m wc, .slice da nn dc, tv, .int .i64 0, .slice none 0 0, .slice none 0 0, .slice ha nh hc', .int .i64 st] 36) := B7.out.below HB8.out LB3
                 have HW8 : Hid (Below w.heap.size w w8) := HW7.out.trans (HB8.out.mono (Nat.le_trans HBW.out.size (Nat.le_refl _)))
                 obtain ⟨a8, c8, rfl, -⟩ := owns_slice hrow8
                 refine hK.out _ _ ?_ (fun hHeld => ?_)
                 · exact HLC.out _ HW8.out
                 clear hK K hrow8 hgrow8 hwhere8 back ol6 ol7 ow7 ow8 hz
                 simp only [Act.put, List.setIfInBounds_toArray, List.set_cons_zero, List.set_cons_succ]
                 have HHE8 : Hid (w8.ownsRow W2.heap.size 3 1 (.slice ha nh hc') nh (hs.map I)) := owns_heap (owns_below HHE.out (HB6.out.trans (HB7.out.mono HB6.out.size)) (Nat.le_refl _)) fun x hx => HB8.out.block x (HOWN.out.lt x hx).2
                 refine wpAnyH_ready (rs := [9]) (by kernel_rfl) (by simp) ?_
                 refine AllReadyH.cons (o := _) (by rw [List.getElem?_toArray]; exact rfl) (fun K hK => ?_) AllReadyH.nil
                 · rw [if_pos (by kernel_rfl)]
                   go_simp
                   refine hK.out _ _ ?_ (fun hHeld => ?_)
                   · exact HLC.out _ HW8.out
                   clear hK K
                   refine wpAnyH_ready (rs := [10]) (by kernel_rfl) (by simp) ?_
                   refine AllReadyH.cons (o := _) (by rw [List.getElem?_toArray]; exact rfl) (fun K hK => ?_) AllReadyH.nil
                   · rw [if_pos (by kernel_rfl)]
                     have z2 := (eight_of B8.out).2.2.1
                     have f2 := B8.out.frozen 2
                     go_simp
                     refine hK.out _ _ ?_ (fun hHeld => ?_)
                     · rw [World.cell?_setCell_far _ _ _ _ (show bm ≠ lp by have h9 : lp < w.heap.size := World.block_lt_of_cell? w _ (HLC.out w (Below.refl _ _)); have := HB2.out.size; omega)]; exact HLC.out _ HW8.out
                     clear hK K
                     refine wpAnyH_done (by kernel_rfl) ?_ _
                     show CutThr _ _ _ _
                     refine ⟨fun i => if i = 25 then u25 else if i = 26 then u26 else if i = 27 then .pointer (some ⟨bm, 2, none⟩) else if i = 28 then tv else if i = 29 then .slice (some ⟨lp, lo, none⟩) n lc else if i = 30 then .int .i64 (k : Int) else if i = 31 then .pointer (some ⟨lp, lo + k, none⟩) else if i = 32 then .slice pa pn pc else if i = 33 then .agg #[.slice p0 pn d0, .int .i64 0, .bool false, .slice p1 0 d1, .slice p2 0 d2] else if i = 34 then .slice (some ⟨w6.heap.size, 0, none⟩) 1 1 else if i = 35 then .slice a8 (k + 1) c8 else .pointer (some ⟨bm, 2, none⟩), by rfl, .slice a8 (k + 1) c8, S8, B8.out.put 2 _, ?_, ?_, ?_, ?_, HS8.out⟩
                     · exact HO8.out.heap fun x hx => Below.heap_setCell _ _ _ _ (fun e => by have := HS8.out x hx; have e : x = bm := e; omega)
                     · exact owns_heap HHE8.out fun x hx => Below.heap_setCell _ _ _ _ (fun e => hne (by have e : x = bm := e; rw [← e]; exact hx))
                     · exact (HBR.out.trans ((HB6.out.trans (HB7.out.mono HB6.out.size)).mono HBR.out.size) |>.trans (HB8.out.mono hs23)).setCell hbm _
                     · rw [size_setCell]; exact Nat.le_trans (Nat.le_trans hs3 (Nat.le_trans HB6.out.size HB7.out.size)) HB8.out.size
         · rw [if_pos (by kernel_rfl)]
           go_simp
           refine (specNewT_any (.slice pa pn pc) pn (nums pcs) wr.drew (HLAT.out.below (Below.refl _ wr).drew (Nat.le_refl _))).mono ?_
           rintro e w6 ⟨t0, t1, t2, rfl, hO6, hb6⟩
           obtain ⟨p0, d0, rfl, -⟩ := owns_slice hO6.ops
           obtain ⟨p1, d1, rfl, -⟩ := owns_slice hO6.got
           obtain ⟨p2, d2, rfl, -⟩ := owns_slice hO6.stk
           have hb6' : Below wr.heap.size wr w6 := (Below.refl _ wr).drew.trans hb6
           have HB6 : Hid (Below wr.heap.size wr w6) := hb6'
           have HW6 : Hid (Below w.heap.size w w6) := HWR.out.trans (hb6'.mono HWR.out.size)
           have HO6 : Hid (ThO w6 wr.heap.size (.slice p0 pn d0) (.slice p1 0 d1) (.slice p2 0 d2) ⟨pn, nums pcs, 0, false, 0, [], 0, []⟩) := hO6
           have B6 : Hid (Box w6 bm #[.slice wa m wc, .slice da nn dc, tv, .int .i64 0, .slice none 0 0, .slice none 0 0, .slice ha nh hc', .int .i64 st] 36) := BW.out.below hb6' LB
           refine hK.out _ _ ?_ (fun hHeld => ?_)
           · exact HLC.out _ HW6.out
           clear hK K hb6 hb6' hO6
           refine wpAnyH_ready (rs := [1, 7]) (by kernel_rfl) (by simp) ?_
           refine AllReadyH.cons (o := _) (by rw [List.getElem?_toArray]; exact rfl) (fun K hK => ?_) (AllReadyH.cons (o := _) (by rw [List.getElem?_toArray]; exact rfl) (fun K hK => ?_) AllReadyH.nil)
           · rw [if_pos (by kernel_rfl)]
             have z2 : w6.cell? ⟨bm, 2, none⟩ = some tv := (eight_of B6.out).2.2.1
             go_simp
             refine hK.out _ _ ?_ (fun hHeld => ?_)
             · exact HLC.out _ HW6.out
             clear hK K z2
             refine wpAnyH_ready (rs := [7]) (by kernel_rfl) (by simp) ?_
             refine AllReadyH.cons (o := _) (by rw [List.getElem?_toArray]; exact rfl) (fun K hK => ?_) AllReadyH.nil
             · rw [if_pos (by kernel_rfl)]
               go_simp
               obtain ⟨w7, hw7⟩ : ∃ w7, w6.alloc (.cells #[.slice p0 pn d0, .int .i64 0, .bool false, .slice p1 0 d1, .slice p2 0 d2] 59) = w7 := ⟨_, rfl⟩
               have hb7 : Below w6.heap.size w6 w7 := by rw [← hw7]; exact (Below.refl _ w6).alloc (Nat.le_refl _) _
               have HB7 : Hid (Below w6.heap.size w6 w7) := hb7
               have HW7 : Hid (Below w.heap.size w w7) := HW6.out.trans (hb7.mono HW6.out.size)
               have B7 : Hid (Box w7 bm #[.slice wa m wc, .slice da nn dc, tv, .int .i64 0, .slice none 0 0, .slice none 0 0, .slice ha nh hc', .int .i64 st] 36) := B6.out.below hb7 (Nat.lt_of_lt_of_le LB HB6.out.size)
               have SRC : Hid (∀ (j : Nat) (u : Value), [.slice p0 pn d0, .int .i64 0, .bool false, .slice p1 0 d1, .slice p2 0 d2][j]? = some u → w7.cell? ((⟨w6.heap.size, 0, none⟩ : Addr).add j) = some u) := by show ∀ j u, _; rw [← hw7]; exact five_at w6 _ _ _ _ _ _
               rw [hw7]
               refine hK.out _ _ ?_ (fun hHeld => ?_)
               · exact HLC.out _ HW7.out
               clear hK K hb7 hw7
               refine wpAnyH_ready (rs := [8]) (by kernel_rfl) (by simp) ?_
               refine AllReadyH.cons (o := _) (by rw [List.getElem?_toArray]; exact rfl) (fun K hK => ?_) AllReadyH.nil
               · rw [if_pos (by kernel_rfl)]
                 have LB3 : bm < W3.heap.size := BX.out.lt
                 have hs23 : W2.heap.size ≤ W3.heap.size := HB3.out.size
                 obtain ⟨i0, hi, hz⟩ := Option.map_eq_some_iff.1 infoThread
                 have hz0 : i0.zero = some (.agg #[.slice none 0 0, .int .i64 0, .bool false, .slice none 0 0, .slice none 0 0]) := congrArg Prod.fst hz
                 have hz1 : i0.size = 5 := congrArg (fun p => p.2.1) hz
                 have hz2 : i0.bytes = 88 := congrArg (fun p => p.2.2) hz
                 have HB37 : Hid (Below wr.heap.size wr w7) := HB6.out.trans (HB7.out.mono HB6.out.size)
                 have ow7 := HOW.out.on HB37.out (Nat.le_refl _)
                 obtain ⟨S6, ol6, hs6⟩ := own_thNew HO6.out HHAS.out hpn
                 have ol7 := (ol6.on HB7.out (Nat.le_refl _)).weaken (Nat.le_trans hs3 (Nat.le_refl _))
                 obtain ⟨vs, hrow, back⟩ := ow7.open9
                 refine wp_append_at w7 (.tmp 28) (.tmp 34) 32 (by rfl) W3.heap.size 59 i0 (.agg #[.slice none 0 0, .int .i64 0, .bool false, .slice none 0 0, .slice none 0 0]) 5 88 Tryz.underlying32 hi hz0 hz1 hz2 (by rfl) (by decide) tv k vs (by rfl) hrow ⟨w6.heap.size, 0, none⟩ 1 1 [.slice p0 pn d0, .int .i64 0, .bool false, .slice p1 0 d1, .slice p2 0 d2] (by rfl) (by rfl) SRC.out (by intro u hu; simp at hu; rcases hu with rfl | rfl | rfl | rfl | rfl <;> rfl) (by unfold maxLen; omega) (by omega) (Nat.le_trans hs3 HB37.out.size) ?_
                 intro v' w8 hrow8 hgrow8 hwhere8
                 have hd7 : ∀ x, S6 x → ¬ S x := fun x hx hx' => by have h1 := (ol6.lt x hx).1; have h2 := (HOW.out.lt x hx').2; omega
                 obtain ⟨S8, ow8, hS8⟩ := back v' w8 _ _ S6 ol7 hd7 rfl (by omega) hrow8 hgrow8 hwhere8
                 have HO8 : Hid (Own w8 W3.heap.size v' (.l 59 5 (k + 1) (thsNew cl (k + 1))) S8) := by show Own _ _ _ _ _; rw [thsNew_succ, HNT.out]; exact ow8
                 have tvb : ∀ x, tv.ownBlock = some x → W3.heap.size ≤ x := fun x hx => (hrow.lt x hx).1
                 have HB8 : Hid (Below W3.heap.size w7 w8) := (Below.refl _ w7).grown hgrow8 (Nat.le_trans hs3 HB37.out.size) tvb
                 have HS8 : Hid (∀ x, S8 x → W3.heap.size ≤ x) := fun x hx => (ow8.lt x hx).1
                 have B8 : Hid (Box w8 bm #[.slice wa m wc, .slice da nn dc, tv, .int .i64 0, .slice none 0 0, .slice none 0 0, .slice ha nh hc', .int .i64 st] 36) := B7.out.below HB8.out LB3
                 have HW8 : Hid (Below w.heap.size w w8) := HW7.out.trans (HB8.out.mono (Nat.le_trans HBW.out.size (Nat.le_refl _)))
                 obtain ⟨a8, c8, rfl, -⟩ := owns_slice hrow8
                 refine hK.out _ _ ?_ (fun hHeld => ?_)
                 · exact HLC.out _ HW8.out
                 clear hK K hrow8 hgrow8 hwhere8 back ol6 ol7 ow7 ow8 hz
                 simp only [Act.put, List.setIfInBounds_toArray, List.set_cons_zero, List.set_cons_succ]
                 have HHE8 : Hid (w8.ownsRow W2.heap.size 3 1 (.slice ha nh hc') nh (hs.map I)) := owns_heap (owns_below HHE.out (HB6.out.trans (HB7.out.mono HB6.out.size)) (Nat.le_refl _)) fun x hx => HB8.out.block x (HOWN.out.lt x hx).2
                 refine wpAnyH_ready (rs := [9]) (by kernel_rfl) (by simp) ?_
                 refine AllReadyH.cons (o := _) (by rw [List.getElem?_toArray]; exact rfl) (fun K hK => ?_) AllReadyH.nil
                 · rw [if_pos (by kernel_rfl)]
                   go_simp
                   refine hK.out _ _ ?_ (fun hHeld => ?_)
                   · exact HLC.out _ HW8.out
                   clear hK K
                   refine wpAnyH_ready (rs := [10]) (by kernel_rfl) (by simp) ?_
                   refine AllReadyH.cons (o := _) (by rw [List.getElem?_toArray]; exact rfl) (fun K hK => ?_) AllReadyH.nil
                   · rw [if_pos (by kernel_rfl)]
                     have z2 := (eight_of B8.out).2.2.1
                     have f2 := B8.out.frozen 2
                     go_simp
                     refine hK.out _ _ ?_ (fun hHeld => ?_)
                     · rw [World.cell?_setCell_far _ _ _ _ (show bm ≠ lp by have h9 : lp < w.heap.size := World.block_lt_of_cell? w _ (HLC.out w (Below.refl _ _)); have := HB2.out.size; omega)]; exact HLC.out _ HW8.out
                     clear hK K
                     refine wpAnyH_done (by kernel_rfl) ?_ _
                     show CutThr _ _ _ _
                     refine ⟨fun i => if i = 25 then u25 else if i = 26 then u26 else if i = 27 then .pointer (some ⟨bm, 2, none⟩) else if i = 28 then tv else if i = 29 then .slice (some ⟨lp, lo, none⟩) n lc else if i = 30 then .int .i64 (k : Int) else if i = 31 then .pointer (some ⟨lp, lo + k, none⟩) else if i = 32 then .slice pa pn pc else if i = 33 then .agg #[.slice p0 pn d0, .int .i64 0, .bool false, .slice p1 0 d1, .slice p2 0 d2] else if i = 34 then .slice (some ⟨w6.heap.size, 0, none⟩) 1 1 else if i = 35 then .slice a8 (k + 1) c8 else .pointer (some ⟨bm, 2, none⟩), by rfl, .slice a8 (k + 1) c8, S8, B8.out.put 2 _, ?_, ?_, ?_, ?_, HS8.out⟩
                     · exact HO8.out.heap fun x hx => Below.heap_setCell _ _ _ _ (fun e => by have := HS8.out x hx; have e : x = bm := e; omega)
                     · exact owns_heap HHE8.out fun x hx => Below.heap_setCell _ _ _ _ (fun e => hne (by have e : x = bm := e; rw [← e]; exact hx))
                     · exact (HBR.out.trans ((HB6.out.trans (HB7.out.mono HB6.out.size)).mono HBR.out.size) |>.trans (HB8.out.mono hs23)).setCell hbm _
                     · rw [size_setCell]; exact Nat.le_trans (Nat.le_trans hs3 (Nat.le_trans HB6.out.size HB7.out.size)) HB8.out.size
           · rw [if_pos (by kernel_rfl)]
             go_simp
             obtain ⟨w7, hw7⟩ : ∃ w7, w6.alloc (.cells #[.slice p0 pn d0, .int .i64 0, .bool false, .slice p1 0 d1, .slice p2 0 d2] 59) = w7 := ⟨_, rfl⟩
             have hb7 : Below w6.heap.size w6 w7 := by rw [← hw7]; exact (Below.refl _ w6).alloc (Nat.le_refl _) _
             have HB7 : Hid (Below w6.heap.size w6 w7) := hb7
             have HW7 : Hid (Below w.heap.size w w7) := HW6.out.trans (hb7.mono HW6.out.size)
             have B7 : Hid (Box w7 bm #[.slice wa m wc, .slice da nn dc, tv, .int .i64 0, .slice none 0 0, .slice none 0 0, .slice ha nh hc', .int .i64 st] 36) := B6.out.below hb7 (Nat.lt_of_lt_of_le LB HB6.out.size)
             have SRC : Hid (∀ (j : Nat) (u : Value), [.slice p0 pn d0, .int .i64 0, .bool false, .slice p1 0 d1, .slice p2 0 d2][j]? = some u → w7.cell? ((⟨w6.heap.size, 0, none⟩ : Addr).add j) = some u) := by show ∀ j u, _; rw [← hw7]; exact five_at w6 _ _ _ _ _ _
             rw [hw7]
             refine hK.out _ _ ?_ (fun hHeld => ?_)
             · exact HLC.out _ HW7.out
             clear hK K hb7 hw7
             refine wpAnyH_ready (rs := [1]) (by kernel_rfl) (by simp) ?_
             refine AllReadyH.cons (o := _) (by rw [List.getElem?_toArray]; exact rfl) (fun K hK => ?_) AllReadyH.nil
             · rw [if_pos (by kernel_rfl)]
               have z2 : w7.cell? ⟨bm, 2, none⟩ = some tv := (eight_of B7.out).2.2.1
               go_simp
               refine hK.out _ _ ?_ (fun hHeld => ?_)
               · exact HLC.out _ HW7.out
               clear hK K z2
               refine wpAnyH_ready (rs := [8]) (by kernel_rfl) (by simp) ?_
               refine AllReadyH.cons (o := _) (by rw [List.getElem?_toArray]; exact rfl) (fun K hK => ?_) AllReadyH.nil
               · rw [if_pos (by kernel_rfl)]
                 have LB3 : bm < W3.heap.size := BX.out.lt
                 have hs23 : W2.heap.size ≤ W3.heap.size := HB3.out.size
                 obtain ⟨i0, hi, hz⟩ := Option.map_eq_some_iff.1 infoThread
                 have hz0 : i0.zero = some (.agg #[.slice none 0 0, .int .i64 0, .bool false, .slice none 0 0, .slice none 0 0]) := congrArg Prod.fst hz
                 have hz1 : i0.size = 5 := congrArg (fun p => p.2.1) hz
                 have hz2 : i0.bytes = 88 := congrArg (fun p => p.2.2) hz
                 have HB37 : Hid (Below wr.heap.size wr w7) := HB6.out.trans (HB7.out.mono HB6.out.size)
                 have ow7 := HOW.out.on HB37.out (Nat.le_refl _)
                 obtain ⟨S6, ol6, hs6⟩ := own_thNew HO6.out HHAS.out hpn
                 have ol7 := (ol6.on HB7.out (Nat.le_refl _)).weaken (Nat.le_trans hs3 (Nat.le_refl _))
                 obtain ⟨vs, hrow, back⟩ := ow7.open9
                 refine wp_append_at w7 (.tmp 28) (.tmp 34) 32 (by rfl) W3.heap.size 59 i0 (.agg #[.slice none 0 0, .int .i64 0, .bool false, .slice none 0 0, .slice none 0 0]) 5 88 Tryz.underlying32 hi hz0 hz1 hz2 (by rfl) (by decide) tv k vs (by rfl) hrow ⟨w6.heap.size, 0, none⟩ 1 1 [.slice p0 pn d0, .int .i64 0, .bool false, .slice p1 0 d1, .slice p2 0 d2] (by rfl) (by rfl) SRC.out (by intro u hu; simp at hu; rcases hu with rfl | rfl | rfl | rfl | rfl <;> rfl) (by unfold maxLen; omega) (by omega) (Nat.le_trans hs3 HB37.out.size) ?_
                 intro v' w8 hrow8 hgrow8 hwhere8
                 have hd7 : ∀ x, S6 x → ¬ S x := fun x hx hx' => by have h1 := (ol6.lt x hx).1; have h2 := (HOW.out.lt x hx').2; omega
                 obtain ⟨S8, ow8, hS8⟩ := back v' w8 _ _ S6 ol7 hd7 rfl (by omega) hrow8 hgrow8 hwhere8
                 have HO8 : Hid (Own w8 W3.heap.size v' (.l 59 5 (k + 1) (thsNew cl (k + 1))) S8) := by show Own _ _ _ _ _; rw [thsNew_succ, HNT.out]; exact ow8
                 have tvb : ∀ x, tv.ownBlock = some x → W3.heap.size ≤ x := fun x hx => (hrow.lt x hx).1
                 have HB8 : Hid (Below W3.heap.size w7 w8) := (Below.refl _ w7).grown hgrow8 (Nat.le_trans hs3 HB37.out.size) tvb
                 have HS8 : Hid (∀ x, S8 x → W3.heap.size ≤ x) := fun x hx => (ow8.lt x hx).1
                 have B8 : Hid (Box w8 bm #[.slice wa m wc, .slice da nn dc, tv, .int .i64 0, .slice none 0 0, .slice none 0 0, .slice ha nh hc', .int .i64 st] 36) := B7.out.below HB8.out LB3
                 have HW8 : Hid (Below w.heap.size w w8) := HW7.out.trans (HB8.out.mono (Nat.le_trans HBW.out.size (Nat.le_refl _)))
                 obtain ⟨a8, c8, rfl, -⟩ := owns_slice hrow8
                 refine hK.out _ _ ?_ (fun hHeld => ?_)
                 · exact HLC.out _ HW8.out
                 clear hK K hrow8 hgrow8 hwhere8 back ol6 ol7 ow7 ow8 hz
                 simp only [Act.put, List.setIfInBounds_toArray, List.set_cons_zero, List.set_cons_succ]
                 have HHE8 : Hid (w8.ownsRow W2.heap.size 3 1 (.slice ha nh hc') nh (hs.map I)) := owns_heap (owns_below HHE.out (HB6.out.trans (HB7.out.mono HB6.out.size)) (Nat.le_refl _)) fun x hx => HB8.out.block x (HOWN.out.lt x hx).2
                 refine wpAnyH_ready (rs := [9]) (by kernel_rfl) (by simp) ?_
                 refine AllReadyH.cons (o := _) (by rw [List.getElem?_toArray]; exact rfl) (fun K hK => ?_) AllReadyH.nil
                 · rw [if_pos (by kernel_rfl)]
                   go_simp
                   refine hK.out _ _ ?_ (fun hHeld => ?_)
                   · exact HLC.out _ HW8.out
                   clear hK K
                   refine wpAnyH_ready (rs := [10]) (by kernel_rfl) (by simp) ?_
                   refine AllReadyH.cons (o := _) (by rw [List.getElem?_toArray]; exact rfl) (fun K hK => ?_) AllReadyH.nil
                   · rw [if_pos (by kernel_rfl)]
                     have z2 := (eight_of B8.out).2.2.1
                     have f2 := B8.out.frozen 2
                     go_simp
                     refine hK.out _ _ ?_ (fun hHeld => ?_)
                     · rw [World.cell?_setCell_far _ _ _ _ (show bm ≠ lp by have h9 : lp < w.heap.size := World.block_lt_of_cell? w _ (HLC.out w (Below.refl _ _)); have := HB2.out.size; omega)]; exact HLC.out _ HW8.out
                     clear hK K
                     refine wpAnyH_done (by kernel_rfl) ?_ _
                     show CutThr _ _ _ _
                     refine ⟨fun i => if i = 25 then u25 else if i = 26 then u26 else if i = 27 then .pointer (some ⟨bm, 2, none⟩) else if i = 28 then tv else if i = 29 then .slice (some ⟨lp, lo, none⟩) n lc else if i = 30 then .int .i64 (k : Int) else if i = 31 then .pointer (some ⟨lp, lo + k, none⟩) else if i = 32 then .slice pa pn pc else if i = 33 then .agg #[.slice p0 pn d0, .int .i64 0, .bool false, .slice p1 0 d1, .slice p2 0 d2] else if i = 34 then .slice (some ⟨w6.heap.size, 0, none⟩) 1 1 else if i = 35 then .slice a8 (k + 1) c8 else .pointer (some ⟨bm, 2, none⟩), by rfl, .slice a8 (k + 1) c8, S8, B8.out.put 2 _, ?_, ?_, ?_, ?_, HS8.out⟩
                     · exact HO8.out.heap fun x hx => Below.heap_setCell _ _ _ _ (fun e => by have := HS8.out x hx; have e : x = bm := e; omega)
                     · exact owns_heap HHE8.out fun x hx => Below.heap_setCell _ _ _ _ (fun e => hne (by have e : x = bm := e; rw [← e]; exact hx))
                     · exact (HBR.out.trans ((HB6.out.trans (HB7.out.mono HB6.out.size)).mono HBR.out.size) |>.trans (HB8.out.mono hs23)).setCell hbm _
                     · rw [size_setCell]; exact Nat.le_trans (Nat.le_trans hs3 (Nat.le_trans HB6.out.size HB7.out.size)) HB8.out.size
       · rintro a' w' ⟨j, rfl, hN⟩
         have HN : Hid (NwSt W2 W3 bm wa m wc da nn dc ha nh hc' st hs cl (k + 1) w') := hN
         clear hN
         go_wp2
         exact ⟨⟨k + 1, by omega, by go_num, HN.out⟩, by simp [intOf]; omega⟩
     · obtain rfl : n = k := by omega
       obtain ⟨tv, S, hbx, hown, hheld, hb2, hs3, hS⟩ := HST.out
       have BW : Hid (Box wr bm #[.slice wa m wc, .slice da nn dc, tv, .int .i64 0, .slice none 0 0, .slice none 0 0, .slice ha nh hc', .int .i64 st] 36) := hbx
       have BZR : Hid (Box wr (w.heap.size + 1) #[.slice none 0 0, .slice none 0 0, .slice none 0 0, .int .i64 0, .slice none 0 0, .slice none 0 0, .slice none 0 0, .int .i64 0] 36) := BZ.out.below hb2 BZ.out.lt
       have HBR : Hid (Below W2.heap.size W2 wr) := hb2
       have HWR : Hid (Below w.heap.size w wr) := HB2.out.trans (hb2.mono HB2.out.size)
       have HOW : Hid (Own wr W3.heap.size tv (.l 59 5 n (thsNew cl n)) S) := hown
       have HHE : Hid (wr.ownsRow W2.heap.size 3 1 (.slice ha nh hc') nh (hs.map I)) := hheld
       have HSS : Hid (∀ x, S x → W3.heap.size ≤ x) := hS
       have LZ : w.heap.size + 1 < W2.heap.size := BZ.out.lt
       have hs23 : W2.heap.size ≤ W3.heap.size := HB3.out.size
       clear hbx hown hheld hb2 hS
       rcases ok with _ | _
       · have HNO : Hid (¬ NewOk L n cl nh hs st) := fun h => by
           rcases HSAY.out with ⟨e, _⟩ | ⟨_, h2, _⟩
           · cases e
           · exact h2 h.1
         obtain ⟨g0, g1, g2, g3, g4, g5, g6, g7⟩ := BZR.out.eightF
         obtain ⟨c0, c1, c2, c3, c4, c5, c6, c7⟩ := eight_of BZR.out
         have LZR : w.heap.size + 1 < wr.heap.size := BZR.out.lt
         obtain ⟨e0, e1, e2, e3, e4, e5, e6, e7⟩ := eight_of ((((((((BZR.out.put 0 (.slice none 0 0)).put 1 (.slice none 0 0)).put 2 (.slice none 0 0)).put 3 (.int .i64 0)).put 4 (.slice none 0 0)).put 5 (.slice none 0 0)).put 6 (.slice none 0 0)).put 7 (.int .i64 0))
         go_wp2
         (try simp only [Exit.inBlock, Exit.then])
         refine bodyPost_ret (by simp [results, Tryz.results6, go_sem, e0, e1, e2, e3, e4, e5, e6, e7]; try rfl) rfl ?_
         refine ⟨⟨[.slice none 0 0, .slice none 0 0, .slice none 0 0, .int .i64 0, .slice none 0 0, .slice none 0 0, .slice none 0 0, .int .i64 0], false, rfl, .inr ⟨rfl, HNO.out, ?_⟩⟩, ((((((((HWR.out.setCell (by simp) _).setCell (by simp) _).setCell (by simp) _).setCell (by simp) _).setCell (by simp) _).setCell (by simp) _).setCell (by simp) _).setCell (by simp) _)⟩
         exact .cons (at_nil9 _ _ _) (.cons (at_nil9 _ _ _) (.cons (at_nil9 _ _ _) (.cons (.i 0) (.cons (at_nil9 _ _ _) (.cons (at_nil9 _ _ _) (.cons (at_nil9 _ _ _) (.cons (.i 0) .nil)))))))
       · obtain ⟨hG, rfl, rfl, hnn, rfl⟩ : NewGood L (n : Int) ∧ m = L.length ∧ fs = wordsF L m ∧ nn = n ∧ ds = zds nn := by
           rcases HSAY.out with ⟨_, h1, h2, h3, h4, h5⟩ | ⟨e, _⟩
           · exact ⟨h1, h2, h3, by rw [h4]; simp, h5⟩
           · cases e
         obtain rfl : nn = n := hnn
         obtain ⟨ta, tc, rfl, -⟩ := HOW.out.slice
         have HGD : Hid (NewGood L (nn : Int)) := hG
         have hTr : TripAt wr wa L.length (wordsF L L.length) := HT.out.below HBR.out (Nat.le_refl _)
         have hDr : DescAt wr da nn (zds nn) := HD.out.below HBR.out (Nat.le_refl _)
         have hHr : IntAt wr ha nh hs := own_intAt9 HHE.out hnh
         have HM : Hid (MaAt wr wa da ta none none ha (newM L nn cl nh hs st)) := ⟨hTr, hDr, ths_new HOW.out hlh, ⟨Nat.zero_le _, .inl rfl⟩, ⟨rfl, Nat.zero_le _, .inl rfl⟩, hHr⟩
         have HTR : Hid (TripAt wr wa L.length (wordsF L L.length)) := hTr
         have HDR : Hid (DescAt wr da nn (zds nn)) := hDr
         obtain ⟨z0, z1, z2, z3, z4, z5, z6, z7⟩ := eight_of BW.out
         have LB : bm < wr.heap.size := BW.out.lt
         clear hG hTr hDr hHr
         go_wp2_with fail
         refine (specMachineOk_any wa wc da dc ta tc none 0 none 0 ha hc' (newM L nn cl nh hs st) wr HM.out).mono ?_
         rintro e w9 ⟨r, ⟨rfl, hr⟩, hb9⟩
         have HR : Hid (r = true ↔ MachGood (newM L nn cl nh hs st)) := hr
         have HB9 : Hid (Below wr.heap.size wr w9) := hb9
         have HW9 : Hid (Below w.heap.size w w9) := HWR.out.trans (hb9.mono HWR.out.size)
         have BZ9 : Hid (Box w9 (w.heap.size + 1) #[.slice none 0 0, .slice none 0 0, .slice none 0 0, .int .i64 0, .slice none 0 0, .slice none 0 0, .slice none 0 0, .int .i64 0] 36) := BZR.out.below hb9 BZR.out.lt
         have BW9 : Hid (Box w9 bm #[.slice wa L.length wc, .slice da nn dc, .slice ta nn tc, .int .i64 0, .slice none 0 0, .slice none 0 0, .slice ha nh hc', .int .i64 st] 36) := BW.out.below hb9 LB
         clear hr hb9 z0 z1 z2 z3 z4 z5 z6 z7
         rcases r with _ | _
         · have HNO : Hid (¬ NewOk L nn cl nh hs st) := fun h => by have := HR.out.2 h.2; cases this
           obtain ⟨g0, g1, g2, g3, g4, g5, g6, g7⟩ := BZ9.out.eightF
           obtain ⟨c0, c1, c2, c3, c4, c5, c6, c7⟩ := eight_of BZ9.out
           have LZ9 : w.heap.size + 1 < w9.heap.size := BZ9.out.lt
           obtain ⟨e0, e1, e2, e3, e4, e5, e6, e7⟩ := eight_of ((((((((BZ9.out.put 0 (.slice none 0 0)).put 1 (.slice none 0 0)).put 2 (.slice none 0 0)).put 3 (.int .i64 0)).put 4 (.slice none 0 0)).put 5 (.slice none 0 0)).put 6 (.slice none 0 0)).put 7 (.int .i64 0))
           go_wp2
           (try simp only [Exit.inBlock, Exit.then])
           refine bodyPost_ret (by simp [results, Tryz.results6, go_sem, e0, e1, e2, e3, e4, e5, e6, e7]; try rfl) rfl ?_
           refine ⟨⟨[.slice none 0 0, .slice none 0 0, .slice none 0 0, .int .i64 0, .slice none 0 0, .slice none 0 0, .slice none 0 0, .int .i64 0], false, rfl, .inr ⟨rfl, HNO.out, ?_⟩⟩, ((((((((HW9.out.setCell (by simp) _).setCell (by simp) _).setCell (by simp) _).setCell (by simp) _).setCell (by simp) _).setCell (by simp) _).setCell (by simp) _).setCell (by simp) _)⟩
           exact .cons (at_nil9 _ _ _) (.cons (at_nil9 _ _ _) (.cons (at_nil9 _ _ _) (.cons (.i 0) (.cons (at_nil9 _ _ _) (.cons (at_nil9 _ _ _) (.cons (at_nil9 _ _ _) (.cons (.i 0) .nil)))))))
         · have HOK : Hid (NewOk L nn cl nh hs st) := ⟨HGD.out, HR.out.1 (by first | rfl | trivial)⟩
           obtain ⟨z0, z1, z2, z3, z4, z5, z6, z7⟩ := eight_of BW9.out
           have LB9 : bm < w9.heap.size := BW9.out.lt
           have LZ9 : w.heap.size + 1 < w9.heap.size := BZ9.out.lt
           obtain ⟨g0, g1, g2, g3, g4, g5, g6, g7⟩ := BZ9.out.eightF
           obtain ⟨c0, c1, c2, c3, c4, c5, c6, c7⟩ := eight_of BZ9.out
           have NB := ((((((((BZ9.out.put 0 (.slice wa L.length wc)).put 1 (.slice da nn dc)).put 2 (.slice ta nn tc)).put 3 (.int .i64 0)).put 4 (.slice none 0 0)).put 5 (.slice none 0 0)).put 6 (.slice ha nh hc')).put 7 (.int .i64 st))
           obtain ⟨e0, e1, e2, e3, e4, e5, e6, e7⟩ := eight_of NB
           go_wp2
           (try simp only [Exit.inBlock, Exit.then])
           refine bodyPost_ret (by simp [results, Tryz.results6, go_sem, e0, e1, e2, e3, e4, e5, e6, e7]; try rfl) rfl ?_
           have BT := but8 w9 (w.heap.size + 1) (.slice wa L.length wc) (.slice da nn dc) (.slice ta nn tc) (.int .i64 0) (.slice none 0 0) (.slice none 0 0) (.slice ha nh hc') (.int .i64 st)
           refine ⟨⟨[.slice wa L.length wc, .slice da nn dc, .slice ta nn tc, .int .i64 0, .slice none 0 0, .slice none 0 0, .slice ha nh hc', .int .i64 st], true, rfl, .inl ⟨rfl, HOK.out, ?_⟩⟩, ((((((((HW9.out.setCell (by simp) _).setCell (by simp) _).setCell (by simp) _).setCell (by simp) _).setCell (by simp) _).setCell (by simp) _).setCell (by simp) _).setCell (by simp) _)⟩
           have a0 := trip_at (c := wc) (T := 75) (trip_but (HTR.out.below HB9.out (Nat.le_refl _)) BT BZ9.out (by have := HGD.out.2.1; simp; omega) (by have := HGD.out.2.1; omega))
           have a1 := zdesc_at (c := dc) (HDR.out.below HB9.out (Nat.le_refl _)) BT BZ9.out ⟨(fun z h => by cases h), (fun z h => by cases h), (fun z h => by cases h), (fun z h => by cases h), (fun z h => by cases h), fun z h => by cases h⟩
           have a2 := ((HOW.out.on HB9.out (Nat.le_refl _)).heap fun x hx => BT x (by have := HSS.out x hx; omega)).at.loose
           have a6 := (own_row (owns_heap (owns_below HHE.out HB9.out (Nat.le_refl _)) fun x hx => BT x (by have := (HHE.out.lt x hx).1; omega)) hnh).at.loose
           exact .cons a0 (.cons a1 (.cons a2 (.cons (.i 0) (.cons (at_nil9 _ _ _) (.cons (at_nil9 _ _ _) (.cons a6 (.cons (.i st) .nil)))))))
end
end Go.Proofs.YtcfimaffeopbbaaGreatDoor
