/- Texts joined: DatK2, DatL, DatL2. -/
import Derived.Test.YtecheopkfhfgkaaTO13
import Derived.Deep.RegionHeld3
import Derived.Deep.Cut
import Derived.Handy
import Derived.Test.YtecheopkfhfgkaaTO02
set_option maxHeartbeats 2000000
set_option maxRecDepth 100000
namespace Go.Proofs.Ytecheopkfhfgkaa
section
open Go.ChangeShapes Go.WideShapes Go.ChangeAt Go.RowKit Go.Joins
set_option linter.unusedSimpArgs false
theorem dMarkRows (tx : Int → ByteArray) (base : Nat) (vs : List Value) (cs : List Cel) (S : Nat → Prop) (k0 : Int) (w : World) (h : OwnL w base vs cs S) (hs : HasL cs tyRows) (hk0 : 0 ≤ k0) (hk1 : k0 + (tcnt cs : Int) ≤ 4611686018427387904) :
   Calls Try.prog 44 #[.agg vs.toArray, .int .i64 k0] w (MarkedL tx w base vs cs S k0) := by
 obtain ⟨c0, c1, rfl, T0, T1⟩ := hs.c2
 have hA := h.at
 obtain ⟨v0, v1, rfl, A0, A1⟩ := hA.c2
 obtain ⟨n0, cs0, rfl, -⟩ := T0.list
 have HT0 : Hid (Has (.l 3 1 n0 cs0) (.l 3 1 [.i])) := T0
 obtain ⟨x1, rfl⟩ := T1.int
 obtain rfl := A1.int
 simp only [tcnt] at hk1
 push_cast at hk1
 obtain ⟨R, eR, oR, dR, uR⟩ := owns_cut (G := [([v0], [.l 3 1 n0 cs0]), ([.int .i64 x1], [.i x1])]) (S := S) (by simp) h
 obtain ⟨⟨a0, b0, S0⟩, R0, rfl, e0, eR0⟩ := List.map_eq_cons_iff.1 eR
 cases e0
 obtain ⟨⟨a1, b1, S1⟩, R1, rfl, e1, eR1⟩ := List.map_eq_cons_iff.1 eR0
 cases e1
 obtain rfl := List.map_eq_nil_iff.1 eR1
 obtain ⟨W, hW⟩ : ∃ W, w.alloc (.cells #[v0, .int .i64 x1] 55) = W := ⟨_, rfl⟩
 have t0 : Hid (Mg w W base S #[v0, .int .i64 x1] 55 [([v0], [.l 3 1 n0 cs0], S0), ([.int .i64 x1], [.i x1], S1)]) := by rw [← hW]; exact mg_new _ _ oR dR uR
 have HW : Hid _ := hW
 clear hW oR dR uR h hs hA T0 A0 T1 A1
 go_enter Try.func44, Try.ntmps44
 go_upto_region 1 with (fail)
 rw [HW.out]
 have ax0 := t0.out.a.at 0 (v0) rfl
 have ax1 := t0.out.a.at 1 (.int .i64 x1) rfl
 go_wp2_with fail
 refine (dMarkIntS tx base v0 n0 cs0 S0 _ _ (Mg.at (pre := []) (post := [([.int .i64 x1], [.i x1], S1)]) t0.out).one HT0.out (by omega) (by omega)).mono ?_
 rintro e w1 ⟨rfl, mo, mk⟩
 have t1 : Hid (Mg w w1 base S #[v0, .int .i64 x1] 55 [([v0], [.l 3 1 n0 (markL tx cs0 (k0))], S0), ([.int .i64 x1], [.i x1], S1)]) := Mg.step (pre := []) (post := [([.int .i64 x1], [.i x1], S1)]) t0.out mo.oneL mk
 obtain ⟨q1, hq1⟩ : ∃ q' : Int, k0 + ((Cel.l 3 1 n0 cs0).cnt : Int) = q' := ⟨_, rfl⟩
 rw [hq1]
 have HQ1 : Hid (k0 + ((Cel.l 3 1 n0 cs0).cnt : Int) = q1) := hq1
 simp only [Cel.cnt, tcnt] at hq1
 (try push_cast at hq1)
 clear mo mk ax0 ax1
 have ax0 := t1.out.a.at 0 (v0) rfl
 have ax1 := t1.out.a.at 1 (.int .i64 x1) rfl
 go_wp2
 go_ret
 have ta := t1.out.all
 have et : k0 + (tcnt [.l 3 1 n0 cs0, .i x1] : Int) = q1 := by simp only [tcnt]; push_cast; omega
 refine ⟨?_, ?_, ta.2⟩
 · rw [et]; try rfl
 · have e : topL tx [.l 3 1 n0 cs0, .i x1] k0 = [([v0], [.l 3 1 n0 (markL tx cs0 (k0))], S0), ([.int .i64 x1], [.i x1], S1)].flatMap (fun (r : Part) => r.2.1) := by
     have g1 := HQ1.out
     simp only [Cel.cnt, tcnt] at g1
     (try rw [← g1])
     simp only [topL, List.flatMap_cons, List.flatMap_nil, List.append_nil, List.cons_append, List.nil_append]
     (try push_cast)
     (try simp only [Int.add_zero, Int.add_assoc])
   rw [e]
   exact ta.1
theorem dMarkDescS (tx : Int → ByteArray) (base : Nat) (v : Value) (n : Nat) (cs : List Cel) (S : Nat → Prop) (k0 : Int) (w : World) (h : Own w base v (.l 126 5 n cs) S) (hs : Has (.l 126 5 n cs) (.l 126 5 tyDesc)) (hk0 : 0 ≤ k0) (hk1 : k0 + (cntL cs : Int) ≤ 4611686018427387904) :
   Calls Try.prog 59 #[v, .int .i64 k0] w (Marked tx w base v (.l 126 5 n cs) S k0) := by
 obtain ⟨hl, hn⟩ := h.len
 rcases h.forms with ⟨rfl, rfl, rfl, hS⟩ | ⟨g, cap, rfl, -, hg⟩
 · clear hs
   go_enter Try.func59, Try.ntmps59
   go_wp2
   go_loopw [1, 5] (fun q i wr => q = .int .i64 k0 ∧ i = .int .i64 0 ∧ wr = w) (fun _ i _ => 0)
   case atStart => exact ⟨rfl, rfl, rfl⟩
   case round =>
     obtain ⟨rfl, rfl, rfl⟩ := hrel
     go_wp2
     go_ret
     exact ⟨by simp [Cel.cnt, cntL], .nil _ _ _ hS, Kept.refl _ _⟩
 have HL : Hid (cs.length = n * 5) := hl
 have HG : Hid (S g) := hg
 have HR : Hid (∀ j, j < n → HasL (row cs 5 j) tyDesc) := fun j hj => hs.rowL hj
 have HK : Hid (∀ p, k0 + (cntL (cs.take p) : Int) ≤ 4611686018427387904) := fun p => by have := cnt_le (cs := cs) (p := p); show _ ≤ _; omega
 have O0 : Hid (Own w base (.slice (some ⟨g, 0, none⟩) n cap) (.l 126 5 n cs) S) := h
 clear h hl hg hs hk1
 go_enter Try.func59, Try.ntmps59
 go_wp2
 go_loopw [1, 5] (fun q i wr => ∃ j : Nat, j ≤ n ∧ q = .int .i64 (k0 + (cntL (cs.take (j * 5)) : Int)) ∧ i = .int .i64 (j : Int) ∧ Own wr base (.slice (some ⟨g, 0, none⟩) n cap) (.l 126 5 n (markL tx (cs.take (j * 5)) k0 ++ cs.drop (j * 5))) S ∧ Kept S w wr) (fun _ i _ => n - (intOf i).toNat)
 case atStart => exact ⟨0, Nat.zero_le _, by simp [cntL], rfl, by simpa [markL] using O0.out, Kept.refl _ _⟩
 case round =>
   obtain ⟨j, hj, rfl, rfl, ho, hkp⟩ := hrel
   have KP0 : Hid (Kept S w wr) := hkp
   clear hkp
   by_cases hlt : j < n
   · have hj0 : (0 : Int) ≤ (j : Int) := by omega
     have hj1 : (j : Int) < (n : Int) := by omega
     have hle : j * 5 + 5 ≤ n * 5 := by omega
     have hH := HR.out j hlt
     have MR : Hid _ := mark_row tx HL.out hlt k0
     have CS : Hid (cntL (cs.take ((j + 1) * 5)) = cntL (cs.take (j * 5)) + cntL (row cs 5 j)) := cnt_split
     have hkN := HK.out ((j + 1) * 5)
     have hkM := HK.out (j * 5)
     rw [CS.out] at hkN
     have at0 : ∀ i, i < 5 → (markL tx (cs.take (j * 5)) k0 ++ cs.drop (j * 5))[j * 5 + i]? = (row cs 5 j)[i]? := fun i hi => by rw [mark_at tx (by have := HL.out; omega), row_at hi]
     obtain ⟨rs, hrs⟩ : ∃ rs, row cs 5 j = rs := ⟨_, rfl⟩
     have HRS : Hid (row cs 5 j = rs) := hrs
     obtain ⟨P, hP⟩ : ∃ P, markL tx (cs.take (j * 5)) k0 ++ cs.drop (j * 5) = P := ⟨_, rfl⟩
     obtain ⟨q, hq⟩ : ∃ q : Int, k0 + (cntL (cs.take (j * 5)) : Int) = q := ⟨_, rfl⟩
     have HP : Hid (markL tx (cs.take (j * 5)) k0 ++ cs.drop (j * 5) = P) := hP
     have HQ : Hid (k0 + (cntL (cs.take (j * 5)) : Int) = q) := hq
     rw [hrs] at hH at0 hkN
     rw [hP] at ho at0
     rw [hq]
     have hq0 : 0 ≤ q := by omega
     have hq1 : q ≤ 4611686018427387904 := by omega
     have hqN : q + (cntL rs : Int) ≤ 4611686018427387904 := by push_cast at hkN; omega
     clear hP hq hkN hkM hrs
     obtain ⟨c0, c1, c2, c3, c4, rfl, T0, T1, T2, T3, T4⟩ := hH.c5
     obtain ⟨x0, rfl⟩ := T0.int
     obtain ⟨x1, rfl⟩ := T1.int
     obtain ⟨n2, cs2, rfl, -⟩ := T2.list
     have HT2 : Hid (Has (.l 151 3 n2 cs2) (.l 151 3 tyEntry)) := T2
     obtain ⟨x3, rfl⟩ := T3.int
     obtain ⟨n4, cs4, rfl, -⟩ := T4.list
     have HT4 : Hid (Has (.l 3 1 n4 cs4) (.l 3 1 [.i])) := T4
     have a0 : Hid (P[j * 5]? = some (.i x0)) := at0 0 (by omega)
     have a1 : Hid (P[j * 5 + 1]? = some (.i x1)) := at0 1 (by omega)
     have a2 : Hid (P[j * 5 + 2]? = some (.l 151 3 n2 cs2)) := at0 2 (by omega)
     have a3 : Hid (P[j * 5 + 3]? = some (.i x3)) := at0 3 (by omega)
     have a4 : Hid (P[j * 5 + 4]? = some (.l 3 1 n4 cs4)) := at0 4 (by omega)
     simp only [cntL, Cel.cnt, Nat.add_zero] at hqN
     push_cast at hqN
     have HO0 : Hid (Own wr base (.slice (some ⟨g, 0, none⟩) n cap) (.l 126 5 n P) S) := ho
     clear ho at0 hH T0 T1 T2 T3 T4
     obtain ⟨pv0, -, hu0, hf0, -⟩ := HO0.out.cell (j := j * 5) a0.out
     obtain ⟨pv1, -, hu1, hf1, -⟩ := HO0.out.cell (j := j * 5 + 1) a1.out
     obtain ⟨pv2, -, hu2, hf2, -⟩ := HO0.out.cell (j := j * 5 + 2) a2.out
     obtain ⟨pv3, -, hu3, hf3, -⟩ := HO0.out.cell (j := j * 5 + 3) a3.out
     obtain ⟨pv4, -, hu4, hf4, -⟩ := HO0.out.cell (j := j * 5 + 4) a4.out
     obtain ⟨pa2, pd2, rfl⟩ : ∃ a d, pv2 = .slice a n2 d := by
       obtain ⟨pv, _, h1, _, h2, _⟩ := HO0.out.cell (j := j * 5 + 2) a2.out
       rw [hu2] at h1; cases h1
       exact h2.at.slice
     obtain ⟨pa4, pd4, rfl⟩ : ∃ a d, pv4 = .slice a n4 d := by
       obtain ⟨pv, _, h1, _, h2, _⟩ := HO0.out.cell (j := j * 5 + 4) a4.out
       rw [hu4] at h1; cases h1
       exact h2.at.slice
     have OC1 := ((HO0.out.putI (j := j * 5) a0.out (q)).putI (j := j * 5 + 1) (by rw [List.getElem?_set_ne (by omega)]; exact a1.out) (q + 1))
     have KC1 := ((KP0.out.set (i := j * 5) HG.out (.int .i64 (q))).set (i := j * 5 + 1) HG.out (.int .i64 (q + 1)))
     obtain ⟨lv, Sj1, lc, lo, lsub, lens⟩ := OC1.lensL (j := j * 5 + 2) (by rw [List.getElem?_set_ne (by omega), List.getElem?_set_ne (by omega)]; exact a2.out)
     have hlv : Value.slice pa2 n2 pd2 = lv := by
       have h1 := lc
       rw [cell_ne _ (by omega), cell_ne _ (by omega), hu2] at h1
       exact Option.some.inj h1
     subst hlv
     have HLO1 : Hid (Own ((wr.setCell ⟨g, j * 5, none⟩ (.int .i64 (q))).setCell ⟨g, j * 5 + 1, none⟩ (.int .i64 (q + 1))) base (.slice pa2 n2 pd2) (.l 151 3 n2 cs2) Sj1) := lo
     have LENS1 : Hid _ := lens
     have SUB1 : Hid (∀ x, Sj1 x → S x) := lsub
     have KPC1 : Hid _ := KC1
     have LTS1 : Hid (∀ x, S x → x < (((wr.setCell ⟨g, j * 5, none⟩ (.int .i64 (q))).setCell ⟨g, j * 5 + 1, none⟩ (.int .i64 (q + 1)))).heap.size) := fun x hx => (OC1.lt x hx).2
     clear lo lens lsub lc OC1 KC1
     go_wp2_with fail
     refine (dMarkEntryS tx base _ n2 cs2 Sj1 _ _ HLO1.out HT2.out (by omega) (by omega)).mono ?_
     rintro e w1 ⟨rfl, mo, mk⟩
     have HO1 : Hid _ := LENS1.out _ _ mo (fun x hx hn => mk.oth x (LTS1.out x hx) hn)
     have KP1 : Hid (Kept S w w1) := KPC1.out.trans (mk.mono SUB1.out)
     clear mo mk LENS1 SUB1 KPC1 LTS1 HLO1 hu0 hf0 hu1 hf1 hu2 hf2 hu3 hf3 hu4 hf4
     obtain ⟨q1, hq1⟩ : ∃ q' : Int, q + 1 + 1 + ((Cel.l 151 3 n2 cs2).cnt : Int) = q' := ⟨_, rfl⟩
     rw [hq1]
     have HQ1 : Hid (q + 1 + 1 + (cntL cs2 : Int) = q1) := hq1
     have hb1 : 0 ≤ q1 ∧ q1 ≤ 4611686018427387904 := by have := HQ1.out; omega
     have hn1 := HQ1.out
     clear hq1
     obtain ⟨pw3, _, hu3, hf3, h53, _⟩ := HO1.out.cell (j := j * 5 + 3) (by rw [List.getElem?_set_ne (by omega), List.getElem?_set_ne (by omega), List.getElem?_set_ne (by omega)]; exact a3.out)
     obtain ⟨pw4, _, hu4, hf4, h54, _⟩ := HO1.out.cell (j := j * 5 + 4) (by rw [List.getElem?_set_ne (by omega), List.getElem?_set_ne (by omega), List.getElem?_set_ne (by omega)]; exact a4.out)
     clear h53
     obtain ⟨pa4, pd4, rfl⟩ := h54.at.slice
     clear h54
     have OC2 := (HO1.out.putI (j := j * 5 + 3) (by rw [List.getElem?_set_ne (by omega), List.getElem?_set_ne (by omega), List.getElem?_set_ne (by omega)]; exact a3.out) (q1))
     have KC2 := (KP1.out.set (i := j * 5 + 3) HG.out (.int .i64 (q1)))
     obtain ⟨lv, Sj2, lc, lo, lsub, lens⟩ := OC2.lensL (j := j * 5 + 4) (by rw [List.getElem?_set_ne (by omega), List.getElem?_set_ne (by omega), List.getElem?_set_ne (by omega), List.getElem?_set_ne (by omega)]; exact a4.out)
     have hlv : Value.slice pa4 n4 pd4 = lv := by
       have h1 := lc
       rw [cell_ne _ (by omega), hu4] at h1
       exact Option.some.inj h1
     subst hlv
     have HLO2 : Hid (Own (w1.setCell ⟨g, j * 5 + 3, none⟩ (.int .i64 (q1))) base (.slice pa4 n4 pd4) (.l 3 1 n4 cs4) Sj2) := lo
     have LENS2 : Hid _ := lens
     have SUB2 : Hid (∀ x, Sj2 x → S x) := lsub
     have KPC2 : Hid _ := KC2
     have LTS2 : Hid (∀ x, S x → x < ((w1.setCell ⟨g, j * 5 + 3, none⟩ (.int .i64 (q1)))).heap.size) := fun x hx => (OC2.lt x hx).2
     clear lo lens lsub lc OC2 KC2
     go_wp2_with fail
     refine (dMarkIntS tx base _ n4 cs4 Sj2 _ _ HLO2.out HT4.out (by omega) (by omega)).mono ?_
     rintro e w2 ⟨rfl, mo, mk⟩
     have HO2 : Hid _ := LENS2.out _ _ mo (fun x hx hn => mk.oth x (LTS2.out x hx) hn)
     have KP2 : Hid (Kept S w w2) := KPC2.out.trans (mk.mono SUB2.out)
     clear mo mk LENS2 SUB2 KPC2 LTS2 HLO2 hu3 hf3 hu4 hf4
     obtain ⟨q2, hq2⟩ : ∃ q' : Int, q1 + 1 + ((Cel.l 3 1 n4 cs4).cnt : Int) = q' := ⟨_, rfl⟩
     rw [hq2]
     have HQ2 : Hid (q1 + 1 + (cntL cs4 : Int) = q2) := hq2
     have hb2 : 0 ≤ q2 ∧ q2 ≤ 4611686018427387904 := by have := HQ2.out; omega
     have hn2 := HQ2.out
     clear hq2
     have HOE : Hid _ := HO2.out
     have HKE : Hid _ := KP2.out
     go_wp2
     go_roundw
     case rel =>
       have hml : markL tx [.i x0, .i x1, .l 151 3 n2 cs2, .i x3, .l 3 1 n4 cs4] q = [.i (q), .i (q + 1), .l 151 3 n2 (markL tx cs2 (q + 1 + 1)), .i (q1), .l 3 1 n4 (markL tx cs4 (q1 + 1))] := by
         have e1 := HQ1.out
         have e2 := HQ2.out
         simp only [markL, Cel.mark, Cel.cnt]
         (try rw [← e2])
         (try rw [← e1])
         (try push_cast)
         (try rfl)
       refine ⟨j + 1, by omega, ?_, by go_num, ?_, HKE.out⟩
       · have h5 := HQ.out
         rw [CS.out, HRS.out]
         simp only [cntL, Cel.cnt]
         congr 1; push_cast; omega
       · have h6 := MR.out
         rw [HP.out, HQ.out, HRS.out, hml] at h6
         rw [← h6]
         exact HOE.out
     case measure => simp [intOf]; omega
   · obtain rfl : j = n := by omega
     have HE : Hid (cs.take (j * 5) = cs ∧ cs.drop (j * 5) = []) := ⟨List.take_of_length_le (by have := HL.out; omega), List.drop_eq_nil_of_le (by have := HL.out; omega)⟩
     have HOE : Hid _ := ho
     clear ho
     go_wp2
     go_ret
     have h6 := HOE.out
     rw [HE.out.1, HE.out.2, List.append_nil] at h6
     exact ⟨by rw [HE.out.1]; rfl, h6, KP0.out⟩
theorem dMarkMem (tx : Int → ByteArray) (base : Nat) (vs : List Value) (cs : List Cel) (S : Nat → Prop) (k0 : Int) (w : World) (h : OwnL w base vs cs S) (hs : HasL cs tyMem) (hk0 : 0 ≤ k0) (hk1 : k0 + (tcnt cs : Int) ≤ 4611686018427387904) :
   Calls Try.prog 41 #[.agg vs.toArray, .int .i64 k0] w (MarkedL tx w base vs cs S k0) := by
 obtain ⟨c0, c1, rfl, T0, T1⟩ := hs.c2
 have hA := h.at
 obtain ⟨v0, v1, rfl, A0, A1⟩ := hA.c2
 obtain ⟨n0, cs0, rfl, -⟩ := T0.list
 have HT0 : Hid (Has (.l 121 3 n0 cs0) (.l 121 3 tyWord)) := T0
 obtain ⟨n1, cs1, rfl, -⟩ := T1.list
 have HT1 : Hid (Has (.l 126 5 n1 cs1) (.l 126 5 tyDesc)) := T1
 simp only [tcnt] at hk1
 push_cast at hk1
 obtain ⟨R, eR, oR, dR, uR⟩ := owns_cut (G := [([v0], [.l 121 3 n0 cs0]), ([v1], [.l 126 5 n1 cs1])]) (S := S) (by simp) h
 obtain ⟨⟨a0, b0, S0⟩, R0, rfl, e0, eR0⟩ := List.map_eq_cons_iff.1 eR
 cases e0
 obtain ⟨⟨a1, b1, S1⟩, R1, rfl, e1, eR1⟩ := List.map_eq_cons_iff.1 eR0
 cases e1
 obtain rfl := List.map_eq_nil_iff.1 eR1
 obtain ⟨W, hW⟩ : ∃ W, w.alloc (.cells #[v0, v1] 53) = W := ⟨_, rfl⟩
 have t0 : Hid (Mg w W base S #[v0, v1] 53 [([v0], [.l 121 3 n0 cs0], S0), ([v1], [.l 126 5 n1 cs1], S1)]) := by rw [← hW]; exact mg_new _ _ oR dR uR
 have HW : Hid _ := hW
 clear hW oR dR uR h hs hA T0 A0 T1 A1
 go_enter Try.func41, Try.ntmps41
 go_upto_region 1 with (fail)
 rw [HW.out]
 have ax0 := t0.out.a.at 0 (v0) rfl
 have ax1 := t0.out.a.at 1 (v1) rfl
 go_wp2_with fail
 refine (dMarkWordS tx base v0 n0 cs0 S0 _ _ (Mg.at (pre := []) (post := [([v1], [.l 126 5 n1 cs1], S1)]) t0.out).one HT0.out (by omega) (by omega)).mono ?_
 rintro e w1 ⟨rfl, mo, mk⟩
 have t1 : Hid (Mg w w1 base S #[v0, v1] 53 [([v0], [.l 121 3 n0 (markL tx cs0 (k0))], S0), ([v1], [.l 126 5 n1 cs1], S1)]) := Mg.step (pre := []) (post := [([v1], [.l 126 5 n1 cs1], S1)]) t0.out mo.oneL mk
 obtain ⟨q1, hq1⟩ : ∃ q' : Int, k0 + ((Cel.l 121 3 n0 cs0).cnt : Int) = q' := ⟨_, rfl⟩
 rw [hq1]
 have HQ1 : Hid (k0 + ((Cel.l 121 3 n0 cs0).cnt : Int) = q1) := hq1
 simp only [Cel.cnt, tcnt] at hq1
 (try push_cast at hq1)
 clear mo mk ax0 ax1
 have ax0 := t1.out.a.at 0 (v0) rfl
 have ax1 := t1.out.a.at 1 (v1) rfl
 go_wp2_with fail
 refine (dMarkDescS tx base v1 n1 cs1 S1 _ _ (Mg.at (pre := [([v0], [.l 121 3 n0 (markL tx cs0 (k0))], S0)]) (post := []) t1.out).one HT1.out (by omega) (by omega)).mono ?_
 rintro e w2 ⟨rfl, mo, mk⟩
 have t2 : Hid (Mg w w2 base S #[v0, v1] 53 [([v0], [.l 121 3 n0 (markL tx cs0 (k0))], S0), ([v1], [.l 126 5 n1 (markL tx cs1 (q1))], S1)]) := Mg.step (pre := [([v0], [.l 121 3 n0 (markL tx cs0 (k0))], S0)]) (post := []) t1.out mo.oneL mk
 obtain ⟨q2, hq2⟩ : ∃ q' : Int, q1 + ((Cel.l 126 5 n1 cs1).cnt : Int) = q' := ⟨_, rfl⟩
 rw [hq2]
 have HQ2 : Hid (q1 + ((Cel.l 126 5 n1 cs1).cnt : Int) = q2) := hq2
 simp only [Cel.cnt, tcnt] at hq2
 (try push_cast at hq2)
 clear mo mk ax0 ax1
 have ax0 := t2.out.a.at 0 (v0) rfl
 have ax1 := t2.out.a.at 1 (v1) rfl
 go_wp2
 go_ret
 have ta := t2.out.all
 have et : k0 + (tcnt [.l 121 3 n0 cs0, .l 126 5 n1 cs1] : Int) = q2 := by simp only [tcnt]; push_cast; omega
 refine ⟨?_, ?_, ta.2⟩
 · rw [et]; try rfl
 · have e : topL tx [.l 121 3 n0 cs0, .l 126 5 n1 cs1] k0 = [([v0], [.l 121 3 n0 (markL tx cs0 (k0))], S0), ([v1], [.l 126 5 n1 (markL tx cs1 (q1))], S1)].flatMap (fun (r : Part) => r.2.1) := by
     have g1 := HQ1.out
     have g2 := HQ2.out
     simp only [Cel.cnt, tcnt] at g1 g2
     (try rw [← g2])
     (try rw [← g1])
     simp only [topL, List.flatMap_cons, List.flatMap_nil, List.append_nil, List.cons_append, List.nil_append]
     (try push_cast)
     (try simp only [Int.add_zero, Int.add_assoc])
   rw [e]
   exact ta.1
theorem dMarkCallS (tx : Int → ByteArray) (base : Nat) (v : Value) (n : Nat) (cs : List Cel) (S : Nat → Prop) (k0 : Int) (w : World) (h : Own w base v (.l 34 9 n cs) S) (hs : Has (.l 34 9 n cs) (.l 34 9 tyCall)) (hk0 : 0 ≤ k0) (hk1 : k0 + (cntL cs : Int) ≤ 4611686018427387904) :
   Calls Try.prog 17 #[v, .int .i64 k0] w (Marked tx w base v (.l 34 9 n cs) S k0) := by
 obtain ⟨hl, hn⟩ := h.len
 rcases h.forms with ⟨rfl, rfl, rfl, hS⟩ | ⟨g, cap, rfl, -, hg⟩
 · clear hs
   go_enter Try.func17, Try.ntmps17
   go_wp2
   go_loopw [1, 5] (fun q i wr => q = .int .i64 k0 ∧ i = .int .i64 0 ∧ wr = w) (fun _ i _ => 0)
   case atStart => exact ⟨rfl, rfl, rfl⟩
   case round =>
     obtain ⟨rfl, rfl, rfl⟩ := hrel
     go_wp2
     go_ret
     exact ⟨by simp [Cel.cnt, cntL], .nil _ _ _ hS, Kept.refl _ _⟩
 have HL : Hid (cs.length = n * 9) := hl
 have HG : Hid (S g) := hg
 have HR : Hid (∀ j, j < n → HasL (row cs 9 j) tyCall) := fun j hj => hs.rowL hj
 have HK : Hid (∀ p, k0 + (cntL (cs.take p) : Int) ≤ 4611686018427387904) := fun p => by have := cnt_le (cs := cs) (p := p); show _ ≤ _; omega
 have O0 : Hid (Own w base (.slice (some ⟨g, 0, none⟩) n cap) (.l 34 9 n cs) S) := h
 clear h hl hg hs hk1
 go_enter Try.func17, Try.ntmps17
 go_wp2
 go_loopw [1, 5] (fun q i wr => ∃ j : Nat, j ≤ n ∧ q = .int .i64 (k0 + (cntL (cs.take (j * 9)) : Int)) ∧ i = .int .i64 (j : Int) ∧ Own wr base (.slice (some ⟨g, 0, none⟩) n cap) (.l 34 9 n (markL tx (cs.take (j * 9)) k0 ++ cs.drop (j * 9))) S ∧ Kept S w wr) (fun _ i _ => n - (intOf i).toNat)
 case atStart => exact ⟨0, Nat.zero_le _, by simp [cntL], rfl, by simpa [markL] using O0.out, Kept.refl _ _⟩
 case round =>
   obtain ⟨j, hj, rfl, rfl, ho, hkp⟩ := hrel
   have KP0 : Hid (Kept S w wr) := hkp
   clear hkp
   by_cases hlt : j < n
   · have hj0 : (0 : Int) ≤ (j : Int) := by omega
     have hj1 : (j : Int) < (n : Int) := by omega
     have hle : j * 9 + 9 ≤ n * 9 := by omega
     have hH := HR.out j hlt
     have MR : Hid _ := mark_row tx HL.out hlt k0
     have CS : Hid (cntL (cs.take ((j + 1) * 9)) = cntL (cs.take (j * 9)) + cntL (row cs 9 j)) := cnt_split
     have hkN := HK.out ((j + 1) * 9)
     have hkM := HK.out (j * 9)
     rw [CS.out] at hkN
     have at0 : ∀ i, i < 9 → (markL tx (cs.take (j * 9)) k0 ++ cs.drop (j * 9))[j * 9 + i]? = (row cs 9 j)[i]? := fun i hi => by rw [mark_at tx (by have := HL.out; omega), row_at hi]
     obtain ⟨rs, hrs⟩ : ∃ rs, row cs 9 j = rs := ⟨_, rfl⟩
     have HRS : Hid (row cs 9 j = rs) := hrs
     obtain ⟨P, hP⟩ : ∃ P, markL tx (cs.take (j * 9)) k0 ++ cs.drop (j * 9) = P := ⟨_, rfl⟩
     obtain ⟨q, hq⟩ : ∃ q : Int, k0 + (cntL (cs.take (j * 9)) : Int) = q := ⟨_, rfl⟩
     have HP : Hid (markL tx (cs.take (j * 9)) k0 ++ cs.drop (j * 9) = P) := hP
     have HQ : Hid (k0 + (cntL (cs.take (j * 9)) : Int) = q) := hq
     rw [hrs] at hH at0 hkN
     rw [hP] at ho at0
     rw [hq]
     have hq0 : 0 ≤ q := by omega
     have hq1 : q ≤ 4611686018427387904 := by omega
     have hqN : q + (cntL rs : Int) ≤ 4611686018427387904 := by push_cast at hkN; omega
     clear hP hq hkN hkM hrs
     obtain ⟨c0, c1, c2, c3, c4, c5, c6, c7, c8, rfl, T0, T1, T2, T3, T4, T5, T6, T7, T8⟩ := hH.c9
     obtain ⟨x0, rfl⟩ := T0.int
     obtain ⟨x1, rfl⟩ := T1.int
     obtain ⟨x2, rfl⟩ := T2.int
     obtain ⟨x3, rfl⟩ := T3.int
     obtain ⟨x4, rfl⟩ := T4.int
     obtain ⟨x5, rfl⟩ := T5.int
     obtain ⟨x6, rfl⟩ := T6.int
     obtain ⟨x7, rfl⟩ := T7.int
     obtain ⟨n8, cs8, rfl, -⟩ := T8.list
     have HT8 : Hid (Has (.l 3 1 n8 cs8) (.l 3 1 [.i])) := T8
     have a0 : Hid (P[j * 9]? = some (.i x0)) := at0 0 (by omega)
     have a1 : Hid (P[j * 9 + 1]? = some (.i x1)) := at0 1 (by omega)
     have a2 : Hid (P[j * 9 + 2]? = some (.i x2)) := at0 2 (by omega)
     have a3 : Hid (P[j * 9 + 3]? = some (.i x3)) := at0 3 (by omega)
     have a4 : Hid (P[j * 9 + 4]? = some (.i x4)) := at0 4 (by omega)
     have a5 : Hid (P[j * 9 + 5]? = some (.i x5)) := at0 5 (by omega)
     have a6 : Hid (P[j * 9 + 6]? = some (.i x6)) := at0 6 (by omega)
     have a7 : Hid (P[j * 9 + 7]? = some (.i x7)) := at0 7 (by omega)
     have a8 : Hid (P[j * 9 + 8]? = some (.l 3 1 n8 cs8)) := at0 8 (by omega)
     simp only [cntL, Cel.cnt, Nat.add_zero] at hqN
     push_cast at hqN
     have HO0 : Hid (Own wr base (.slice (some ⟨g, 0, none⟩) n cap) (.l 34 9 n P) S) := ho
     clear ho at0 hH T0 T1 T2 T3 T4 T5 T6 T7 T8
     obtain ⟨pv0, -, hu0, hf0, -⟩ := HO0.out.cell (j := j * 9) a0.out
     obtain ⟨pv1, -, hu1, hf1, -⟩ := HO0.out.cell (j := j * 9 + 1) a1.out
     obtain ⟨pv2, -, hu2, hf2, -⟩ := HO0.out.cell (j := j * 9 + 2) a2.out
     obtain ⟨pv3, -, hu3, hf3, -⟩ := HO0.out.cell (j := j * 9 + 3) a3.out
     obtain ⟨pv4, -, hu4, hf4, -⟩ := HO0.out.cell (j := j * 9 + 4) a4.out
     obtain ⟨pv5, -, hu5, hf5, -⟩ := HO0.out.cell (j := j * 9 + 5) a5.out
     obtain ⟨pv6, -, hu6, hf6, -⟩ := HO0.out.cell (j := j * 9 + 6) a6.out
     obtain ⟨pv7, -, hu7, hf7, -⟩ := HO0.out.cell (j := j * 9 + 7) a7.out
     obtain ⟨pv8, -, hu8, hf8, -⟩ := HO0.out.cell (j := j * 9 + 8) a8.out
     obtain ⟨pa8, pd8, rfl⟩ : ∃ a d, pv8 = .slice a n8 d := by
       obtain ⟨pv, _, h1, _, h2, _⟩ := HO0.out.cell (j := j * 9 + 8) a8.out
       rw [hu8] at h1; cases h1
       exact h2.at.slice
     have OC1 := ((((((((HO0.out.putI (j := j * 9) a0.out (q)).putI (j := j * 9 + 1) (by rw [List.getElem?_set_ne (by omega)]; exact a1.out) (q + 1)).putI (j := j * 9 + 2) (by rw [List.getElem?_set_ne (by omega), List.getElem?_set_ne (by omega)]; exact a2.out) (q + 1 + 1)).putI (j := j * 9 + 3) (by rw [List.getElem?_set_ne (by omega), List.getElem?_set_ne (by omega), List.getElem?_set_ne (by omega)]; exact a3.out) (q + 1 + 1 + 1)).putI (j := j * 9 + 4) (by rw [List.getElem?_set_ne (by omega), List.getElem?_set_ne (by omega), List.getElem?_set_ne (by omega), List.getElem?_set_ne (by omega)]; exact a4.out) (q + 1 + 1 + 1 + 1)).putI (j := j * 9 + 5) (by rw [List.getElem?_set_ne (by omega), List.getElem?_set_ne (by omega), List.getElem?_set_ne (by omega), List.getElem?_set_ne (by omega), List.getElem?_set_ne (by omega)]; exact a5.out) (q + 1 + 1 + 1 + 1 + 1)).putI (j := j * 9 + 6) (by rw [List.getElem?_set_ne (by omega), List.getElem?_set_ne (by omega), List.getElem?_set_ne (by omega), List.getElem?_set_ne (by omega), List.getElem?_set_ne (by omega), List.getElem?_set_ne (by omega)]; exact a6.out) (q + 1 + 1 + 1 + 1 + 1 + 1)).putI (j := j * 9 + 7) (by rw [List.getElem?_set_ne (by omega), List.getElem?_set_ne (by omega), List.getElem?_set_ne (by omega), List.getElem?_set_ne (by omega), List.getElem?_set_ne (by omega), List.getElem?_set_ne (by omega), List.getElem?_set_ne (by omega)]; exact a7.out) (q + 1 + 1 + 1 + 1 + 1 + 1 + 1))
     have KC1 := ((((((((KP0.out.set (i := j * 9) HG.out (.int .i64 (q))).set (i := j * 9 + 1) HG.out (.int .i64 (q + 1))).set (i := j * 9 + 2) HG.out (.int .i64 (q + 1 + 1))).set (i := j * 9 + 3) HG.out (.int .i64 (q + 1 + 1 + 1))).set (i := j * 9 + 4) HG.out (.int .i64 (q + 1 + 1 + 1 + 1))).set (i := j * 9 + 5) HG.out (.int .i64 (q + 1 + 1 + 1 + 1 + 1))).set (i := j * 9 + 6) HG.out (.int .i64 (q + 1 + 1 + 1 + 1 + 1 + 1))).set (i := j * 9 + 7) HG.out (.int .i64 (q + 1 + 1 + 1 + 1 + 1 + 1 + 1)))
     obtain ⟨lv, Sj1, lc, lo, lsub, lens⟩ := OC1.lensL (j := j * 9 + 8) (by rw [List.getElem?_set_ne (by omega), List.getElem?_set_ne (by omega), List.getElem?_set_ne (by omega), List.getElem?_set_ne (by omega), List.getElem?_set_ne (by omega), List.getElem?_set_ne (by omega), List.getElem?_set_ne (by omega), List.getElem?_set_ne (by omega)]; exact a8.out)
     have hlv : Value.slice pa8 n8 pd8 = lv := by
       have h1 := lc
       rw [cell_ne _ (by omega), cell_ne _ (by omega), cell_ne _ (by omega), cell_ne _ (by omega), cell_ne _ (by omega), cell_ne _ (by omega), cell_ne _ (by omega), cell_ne _ (by omega), hu8] at h1
       exact Option.some.inj h1
     subst hlv
     have HLO1 : Hid (Own ((((((((wr.setCell ⟨g, j * 9, none⟩ (.int .i64 (q))).setCell ⟨g, j * 9 + 1, none⟩ (.int .i64 (q + 1))).setCell ⟨g, j * 9 + 2, none⟩ (.int .i64 (q + 1 + 1))).setCell ⟨g, j * 9 + 3, none⟩ (.int .i64 (q + 1 + 1 + 1))).setCell ⟨g, j * 9 + 4, none⟩ (.int .i64 (q + 1 + 1 + 1 + 1))).setCell ⟨g, j * 9 + 5, none⟩ (.int .i64 (q + 1 + 1 + 1 + 1 + 1))).setCell ⟨g, j * 9 + 6, none⟩ (.int .i64 (q + 1 + 1 + 1 + 1 + 1 + 1))).setCell ⟨g, j * 9 + 7, none⟩ (.int .i64 (q + 1 + 1 + 1 + 1 + 1 + 1 + 1))) base (.slice pa8 n8 pd8) (.l 3 1 n8 cs8) Sj1) := lo
     have LENS1 : Hid _ := lens
     have SUB1 : Hid (∀ x, Sj1 x → S x) := lsub
     have KPC1 : Hid _ := KC1
     have LTS1 : Hid (∀ x, S x → x < (((((((((wr.setCell ⟨g, j * 9, none⟩ (.int .i64 (q))).setCell ⟨g, j * 9 + 1, none⟩ (.int .i64 (q + 1))).setCell ⟨g, j * 9 + 2, none⟩ (.int .i64 (q + 1 + 1))).setCell ⟨g, j * 9 + 3, none⟩ (.int .i64 (q + 1 + 1 + 1))).setCell ⟨g, j * 9 + 4, none⟩ (.int .i64 (q + 1 + 1 + 1 + 1))).setCell ⟨g, j * 9 + 5, none⟩ (.int .i64 (q + 1 + 1 + 1 + 1 + 1))).setCell ⟨g, j * 9 + 6, none⟩ (.int .i64 (q + 1 + 1 + 1 + 1 + 1 + 1))).setCell ⟨g, j * 9 + 7, none⟩ (.int .i64 (q + 1 + 1 + 1 + 1 + 1 + 1 + 1)))).heap.size) := fun x hx => (OC1.lt x hx).2
     clear lo lens lsub lc OC1 KC1
     go_wp2_with fail
     refine (dMarkIntS tx base _ n8 cs8 Sj1 _ _ HLO1.out HT8.out (by omega) (by omega)).mono ?_
     rintro e w1 ⟨rfl, mo, mk⟩
     have HO1 : Hid _ := LENS1.out _ _ mo (fun x hx hn => mk.oth x (LTS1.out x hx) hn)
     have KP1 : Hid (Kept S w w1) := KPC1.out.trans (mk.mono SUB1.out)
     clear mo mk LENS1 SUB1 KPC1 LTS1 HLO1 hu0 hf0 hu1 hf1 hu2 hf2 hu3 hf3 hu4 hf4 hu5 hf5 hu6 hf6 hu7 hf7 hu8 hf8
     obtain ⟨q1, hq1⟩ : ∃ q' : Int, q + 1 + 1 + 1 + 1 + 1 + 1 + 1 + 1 + ((Cel.l 3 1 n8 cs8).cnt : Int) = q' := ⟨_, rfl⟩
     rw [hq1]
     have HQ1 : Hid (q + 1 + 1 + 1 + 1 + 1 + 1 + 1 + 1 + (cntL cs8 : Int) = q1) := hq1
     have hb1 : 0 ≤ q1 ∧ q1 ≤ 4611686018427387904 := by have := HQ1.out; omega
     have hn1 := HQ1.out
     clear hq1
     have HOE : Hid _ := HO1.out
     have HKE : Hid _ := KP1.out
     go_wp2
     go_roundw
     case rel =>
       have hml : markL tx [.i x0, .i x1, .i x2, .i x3, .i x4, .i x5, .i x6, .i x7, .l 3 1 n8 cs8] q = [.i (q), .i (q + 1), .i (q + 1 + 1), .i (q + 1 + 1 + 1), .i (q + 1 + 1 + 1 + 1), .i (q + 1 + 1 + 1 + 1 + 1), .i (q + 1 + 1 + 1 + 1 + 1 + 1), .i (q + 1 + 1 + 1 + 1 + 1 + 1 + 1), .l 3 1 n8 (markL tx cs8 (q + 1 + 1 + 1 + 1 + 1 + 1 + 1 + 1))] := by
         have e1 := HQ1.out
         simp only [markL, Cel.mark, Cel.cnt]
         (try rw [← e1])
         (try push_cast)
         (try rfl)
       refine ⟨j + 1, by omega, ?_, by go_num, ?_, HKE.out⟩
       · have h5 := HQ.out
         rw [CS.out, HRS.out]
         simp only [cntL, Cel.cnt]
         congr 1; push_cast; omega
       · have h6 := MR.out
         rw [HP.out, HQ.out, HRS.out, hml] at h6
         rw [← h6]
         exact HOE.out
     case measure => simp [intOf]; omega
   · obtain rfl : j = n := by omega
     have HE : Hid (cs.take (j * 9) = cs ∧ cs.drop (j * 9) = []) := ⟨List.take_of_length_le (by have := HL.out; omega), List.drop_eq_nil_of_le (by have := HL.out; omega)⟩
     have HOE : Hid _ := ho
     clear ho
     go_wp2
     go_ret
     have h6 := HOE.out
     rw [HE.out.1, HE.out.2, List.append_nil] at h6
     exact ⟨by rw [HE.out.1]; rfl, h6, KP0.out⟩
theorem dMarkMachine (tx : Int → ByteArray) (base : Nat) (vs : List Value) (cs : List Cel) (S : Nat → Prop) (k0 : Int) (w : World) (h : OwnL w base vs cs S) (hs : HasL cs tyMachine) (hk0 : 0 ≤ k0) (hk1 : k0 + (tcnt cs : Int) ≤ 4611686018427387904) :
   Calls Try.prog 16 #[.agg vs.toArray, .int .i64 k0] w (MarkedL tx w base vs cs S k0) := by
 obtain ⟨c0, c1, c2, c3, c4, c5, c6, c7, rfl, T0, T1, T2, T3, T4, T5, T6, T7⟩ := hs.c8
 have hA := h.at
 obtain ⟨v0, v1, v2, v3, v4, v5, v6, v7, rfl, A0, A1, A2, A3, A4, A5, A6, A7⟩ := hA.c8
 obtain ⟨n0, cs0, rfl, -⟩ := T0.list
 have HT0 : Hid (Has (.l 121 3 n0 cs0) (.l 121 3 tyWord)) := T0
 obtain ⟨n1, cs1, rfl, -⟩ := T1.list
 have HT1 : Hid (Has (.l 126 5 n1 cs1) (.l 126 5 tyDesc)) := T1
 obtain ⟨n2, cs2, rfl, -⟩ := T2.list
 have HT2 : Hid (Has (.l 103 5 n2 cs2) (.l 103 5 tyThread)) := T2
 obtain ⟨x3, rfl⟩ := T3.int
 obtain rfl := A3.int
 obtain ⟨n4, cs4, rfl, -⟩ := T4.list
 have HT4 : Hid (Has (.l 34 9 n4 cs4) (.l 34 9 tyCall)) := T4
 obtain ⟨n5, cs5, rfl, -⟩ := T5.list
 have HT5 : Hid (Has (.l 3 1 n5 cs5) (.l 3 1 [.i])) := T5
 obtain ⟨n6, cs6, rfl, -⟩ := T6.list
 have HT6 : Hid (Has (.l 3 1 n6 cs6) (.l 3 1 [.i])) := T6
 obtain ⟨x7, rfl⟩ := T7.int
 obtain rfl := A7.int
 have HH0 : Hid (HasL [.l 121 3 n0 cs0, .l 126 5 n1 cs1] tyMem) := ⟨rfl, fun j c t hc ht => by
   have hj : j < 2 := by have := (List.getElem?_eq_some_iff.1 hc).1; simpa using this
   rcases (show j = 0 ∨ j = 1 by omega) with rfl | rfl <;> (simp [tyMem] at hc ht; subst hc ht)
   · exact HT0.out
   · exact HT1.out⟩
 have HH6 : Hid (HasL [.l 3 1 n6 cs6, .i x7] tyRows) := ⟨rfl, fun j c t hc ht => by
   have hj : j < 2 := by have := (List.getElem?_eq_some_iff.1 hc).1; simpa using this
   rcases (show j = 0 ∨ j = 1 by omega) with rfl | rfl <;> (simp [tyRows] at hc ht; subst hc ht)
   · exact HT6.out
   · exact .i x7⟩
 simp only [tcnt] at hk1
 push_cast at hk1
 obtain ⟨R, eR, oR, dR, uR⟩ := owns_cut (G := [([v0, v1], [.l 121 3 n0 cs0, .l 126 5 n1 cs1]), ([v2], [.l 103 5 n2 cs2]), ([.int .i64 x3], [.i x3]), ([v4], [.l 34 9 n4 cs4]), ([v5], [.l 3 1 n5 cs5]), ([v6, .int .i64 x7], [.l 3 1 n6 cs6, .i x7])]) (S := S) (by simp) h
 obtain ⟨⟨a0, b0, S0⟩, R0, rfl, e0, eR0⟩ := List.map_eq_cons_iff.1 eR
 cases e0
 obtain ⟨⟨a1, b1, S1⟩, R1, rfl, e1, eR1⟩ := List.map_eq_cons_iff.1 eR0
 cases e1
 obtain ⟨⟨a2, b2, S2⟩, R2, rfl, e2, eR2⟩ := List.map_eq_cons_iff.1 eR1
 cases e2
 obtain ⟨⟨a3, b3, S3⟩, R3, rfl, e3, eR3⟩ := List.map_eq_cons_iff.1 eR2
 cases e3
 obtain ⟨⟨a4, b4, S4⟩, R4, rfl, e4, eR4⟩ := List.map_eq_cons_iff.1 eR3
 cases e4
 obtain ⟨⟨a5, b5, S5⟩, R5, rfl, e5, eR5⟩ := List.map_eq_cons_iff.1 eR4
 cases e5
 obtain rfl := List.map_eq_nil_iff.1 eR5
 obtain ⟨W, hW⟩ : ∃ W, w.alloc (.cells #[v0, v1, v2, .int .i64 x3, v4, v5, v6, .int .i64 x7] 57) = W := ⟨_, rfl⟩
 have t0 : Hid (Mg w W base S #[v0, v1, v2, .int .i64 x3, v4, v5, v6, .int .i64 x7] 57 [([v0, v1], [.l 121 3 n0 cs0, .l 126 5 n1 cs1], S0), ([v2], [.l 103 5 n2 cs2], S1), ([.int .i64 x3], [.i x3], S2), ([v4], [.l 34 9 n4 cs4], S3), ([v5], [.l 3 1 n5 cs5], S4), ([v6, .int .i64 x7], [.l 3 1 n6 cs6, .i x7], S5)]) := by rw [← hW]; exact mg_new _ _ oR dR uR
 have HW : Hid _ := hW
 clear hW oR dR uR h hs hA T0 A0 T1 A1 T2 A2 T3 A3 T4 A4 T5 A5 T6 A6 T7 A7
 go_enter Try.func16, Try.ntmps16
 go_upto_region 1 with (fail)
 rw [HW.out]
 have ax0 := t0.out.a.at 0 (v0) rfl
 have ax1 := t0.out.a.at 1 (v1) rfl
 have ax2 := t0.out.a.at 2 (v2) rfl
 have ax3 := t0.out.a.at 3 (.int .i64 x3) rfl
 have ax4 := t0.out.a.at 4 (v4) rfl
 have ax5 := t0.out.a.at 5 (v5) rfl
 have ax6 := t0.out.a.at 6 (v6) rfl
 have ax7 := t0.out.a.at 7 (.int .i64 x7) rfl
 go_wp2_with fail
 refine (dMarkMem tx base [v0, v1] [.l 121 3 n0 cs0, .l 126 5 n1 cs1] S0 _ _ (Mg.at (pre := []) (post := [([v2], [.l 103 5 n2 cs2], S1), ([.int .i64 x3], [.i x3], S2), ([v4], [.l 34 9 n4 cs4], S3), ([v5], [.l 3 1 n5 cs5], S4), ([v6, .int .i64 x7], [.l 3 1 n6 cs6, .i x7], S5)]) t0.out) HH0.out (by omega) (by simp only [tcnt]; push_cast; omega)).mono ?_
 rintro e w1 ⟨rfl, mo, mk⟩
 have t1 : Hid (Mg w w1 base S #[v0, v1, v2, .int .i64 x3, v4, v5, v6, .int .i64 x7] 57 [([v0, v1], (topL tx [.l 121 3 n0 cs0, .l 126 5 n1 cs1] (k0)), S0), ([v2], [.l 103 5 n2 cs2], S1), ([.int .i64 x3], [.i x3], S2), ([v4], [.l 34 9 n4 cs4], S3), ([v5], [.l 3 1 n5 cs5], S4), ([v6, .int .i64 x7], [.l 3 1 n6 cs6, .i x7], S5)]) := Mg.step (pre := []) (post := [([v2], [.l 103 5 n2 cs2], S1), ([.int .i64 x3], [.i x3], S2), ([v4], [.l 34 9 n4 cs4], S3), ([v5], [.l 3 1 n5 cs5], S4), ([v6, .int .i64 x7], [.l 3 1 n6 cs6, .i x7], S5)]) t0.out mo mk
 obtain ⟨q1, hq1⟩ : ∃ q' : Int, k0 + (tcnt [.l 121 3 n0 cs0, .l 126 5 n1 cs1] : Int) = q' := ⟨_, rfl⟩
 rw [hq1]
 have HQ1 : Hid (k0 + (tcnt [.l 121 3 n0 cs0, .l 126 5 n1 cs1] : Int) = q1) := hq1
 simp only [Cel.cnt, tcnt] at hq1
 (try push_cast at hq1)
 clear mo mk ax0 ax1 ax2 ax3 ax4 ax5 ax6 ax7
 have ax0 := t1.out.a.at 0 (v0) rfl
 have ax1 := t1.out.a.at 1 (v1) rfl
 have ax2 := t1.out.a.at 2 (v2) rfl
 have ax3 := t1.out.a.at 3 (.int .i64 x3) rfl
 have ax4 := t1.out.a.at 4 (v4) rfl
 have ax5 := t1.out.a.at 5 (v5) rfl
 have ax6 := t1.out.a.at 6 (v6) rfl
 have ax7 := t1.out.a.at 7 (.int .i64 x7) rfl
 go_wp2_with fail
 refine (dMarkThreadS tx base v2 n2 cs2 S1 _ _ (Mg.at (pre := [([v0, v1], (topL tx [.l 121 3 n0 cs0, .l 126 5 n1 cs1] (k0)), S0)]) (post := [([.int .i64 x3], [.i x3], S2), ([v4], [.l 34 9 n4 cs4], S3), ([v5], [.l 3 1 n5 cs5], S4), ([v6, .int .i64 x7], [.l 3 1 n6 cs6, .i x7], S5)]) t1.out).one HT2.out (by omega) (by omega)).mono ?_
 rintro e w2 ⟨rfl, mo, mk⟩
 have t2 : Hid (Mg w w2 base S #[v0, v1, v2, .int .i64 x3, v4, v5, v6, .int .i64 x7] 57 [([v0, v1], (topL tx [.l 121 3 n0 cs0, .l 126 5 n1 cs1] (k0)), S0), ([v2], [.l 103 5 n2 (markL tx cs2 (q1))], S1), ([.int .i64 x3], [.i x3], S2), ([v4], [.l 34 9 n4 cs4], S3), ([v5], [.l 3 1 n5 cs5], S4), ([v6, .int .i64 x7], [.l 3 1 n6 cs6, .i x7], S5)]) := Mg.step (pre := [([v0, v1], (topL tx [.l 121 3 n0 cs0, .l 126 5 n1 cs1] (k0)), S0)]) (post := [([.int .i64 x3], [.i x3], S2), ([v4], [.l 34 9 n4 cs4], S3), ([v5], [.l 3 1 n5 cs5], S4), ([v6, .int .i64 x7], [.l 3 1 n6 cs6, .i x7], S5)]) t1.out mo.oneL mk
 obtain ⟨q2, hq2⟩ : ∃ q' : Int, q1 + ((Cel.l 103 5 n2 cs2).cnt : Int) = q' := ⟨_, rfl⟩
 rw [hq2]
 have HQ2 : Hid (q1 + ((Cel.l 103 5 n2 cs2).cnt : Int) = q2) := hq2
 simp only [Cel.cnt, tcnt] at hq2
 (try push_cast at hq2)
 clear mo mk ax0 ax1 ax2 ax3 ax4 ax5 ax6 ax7
 have ax0 := t2.out.a.at 0 (v0) rfl
 have ax1 := t2.out.a.at 1 (v1) rfl
 have ax2 := t2.out.a.at 2 (v2) rfl
 have ax3 := t2.out.a.at 3 (.int .i64 x3) rfl
 have ax4 := t2.out.a.at 4 (v4) rfl
 have ax5 := t2.out.a.at 5 (v5) rfl
 have ax6 := t2.out.a.at 6 (v6) rfl
 have ax7 := t2.out.a.at 7 (.int .i64 x7) rfl
 go_wp2_with fail
 refine (dMarkCallS tx base v4 n4 cs4 S3 _ _ (Mg.at (pre := [([v0, v1], (topL tx [.l 121 3 n0 cs0, .l 126 5 n1 cs1] (k0)), S0), ([v2], [.l 103 5 n2 (markL tx cs2 (q1))], S1), ([.int .i64 x3], [.i x3], S2)]) (post := [([v5], [.l 3 1 n5 cs5], S4), ([v6, .int .i64 x7], [.l 3 1 n6 cs6, .i x7], S5)]) t2.out).one HT4.out (by omega) (by omega)).mono ?_
 rintro e w3 ⟨rfl, mo, mk⟩
 have t3 : Hid (Mg w w3 base S #[v0, v1, v2, .int .i64 x3, v4, v5, v6, .int .i64 x7] 57 [([v0, v1], (topL tx [.l 121 3 n0 cs0, .l 126 5 n1 cs1] (k0)), S0), ([v2], [.l 103 5 n2 (markL tx cs2 (q1))], S1), ([.int .i64 x3], [.i x3], S2), ([v4], [.l 34 9 n4 (markL tx cs4 (q2))], S3), ([v5], [.l 3 1 n5 cs5], S4), ([v6, .int .i64 x7], [.l 3 1 n6 cs6, .i x7], S5)]) := Mg.step (pre := [([v0, v1], (topL tx [.l 121 3 n0 cs0, .l 126 5 n1 cs1] (k0)), S0), ([v2], [.l 103 5 n2 (markL tx cs2 (q1))], S1), ([.int .i64 x3], [.i x3], S2)]) (post := [([v5], [.l 3 1 n5 cs5], S4), ([v6, .int .i64 x7], [.l 3 1 n6 cs6, .i x7], S5)]) t2.out mo.oneL mk
 obtain ⟨q3, hq3⟩ : ∃ q' : Int, q2 + ((Cel.l 34 9 n4 cs4).cnt : Int) = q' := ⟨_, rfl⟩
 rw [hq3]
 have HQ3 : Hid (q2 + ((Cel.l 34 9 n4 cs4).cnt : Int) = q3) := hq3
 simp only [Cel.cnt, tcnt] at hq3
 (try push_cast at hq3)
 clear mo mk ax0 ax1 ax2 ax3 ax4 ax5 ax6 ax7
 have ax0 := t3.out.a.at 0 (v0) rfl
 have ax1 := t3.out.a.at 1 (v1) rfl
 have ax2 := t3.out.a.at 2 (v2) rfl
 have ax3 := t3.out.a.at 3 (.int .i64 x3) rfl
 have ax4 := t3.out.a.at 4 (v4) rfl
 have ax5 := t3.out.a.at 5 (v5) rfl
 have ax6 := t3.out.a.at 6 (v6) rfl
 have ax7 := t3.out.a.at 7 (.int .i64 x7) rfl
 go_wp2_with fail
 refine (dMarkIntS tx base v5 n5 cs5 S4 _ _ (Mg.at (pre := [([v0, v1], (topL tx [.l 121 3 n0 cs0, .l 126 5 n1 cs1] (k0)), S0), ([v2], [.l 103 5 n2 (markL tx cs2 (q1))], S1), ([.int .i64 x3], [.i x3], S2), ([v4], [.l 34 9 n4 (markL tx cs4 (q2))], S3)]) (post := [([v6, .int .i64 x7], [.l 3 1 n6 cs6, .i x7], S5)]) t3.out).one HT5.out (by omega) (by omega)).mono ?_
 rintro e w4 ⟨rfl, mo, mk⟩
 have t4 : Hid (Mg w w4 base S #[v0, v1, v2, .int .i64 x3, v4, v5, v6, .int .i64 x7] 57 [([v0, v1], (topL tx [.l 121 3 n0 cs0, .l 126 5 n1 cs1] (k0)), S0), ([v2], [.l 103 5 n2 (markL tx cs2 (q1))], S1), ([.int .i64 x3], [.i x3], S2), ([v4], [.l 34 9 n4 (markL tx cs4 (q2))], S3), ([v5], [.l 3 1 n5 (markL tx cs5 (q3))], S4), ([v6, .int .i64 x7], [.l 3 1 n6 cs6, .i x7], S5)]) := Mg.step (pre := [([v0, v1], (topL tx [.l 121 3 n0 cs0, .l 126 5 n1 cs1] (k0)), S0), ([v2], [.l 103 5 n2 (markL tx cs2 (q1))], S1), ([.int .i64 x3], [.i x3], S2), ([v4], [.l 34 9 n4 (markL tx cs4 (q2))], S3)]) (post := [([v6, .int .i64 x7], [.l 3 1 n6 cs6, .i x7], S5)]) t3.out mo.oneL mk
 obtain ⟨q4, hq4⟩ : ∃ q' : Int, q3 + ((Cel.l 3 1 n5 cs5).cnt : Int) = q' := ⟨_, rfl⟩
 rw [hq4]
 have HQ4 : Hid (q3 + ((Cel.l 3 1 n5 cs5).cnt : Int) = q4) := hq4
 simp only [Cel.cnt, tcnt] at hq4
 (try push_cast at hq4)
 clear mo mk ax0 ax1 ax2 ax3 ax4 ax5 ax6 ax7
 have ax0 := t4.out.a.at 0 (v0) rfl
 have ax1 := t4.out.a.at 1 (v1) rfl
 have ax2 := t4.out.a.at 2 (v2) rfl
 have ax3 := t4.out.a.at 3 (.int .i64 x3) rfl
 have ax4 := t4.out.a.at 4 (v4) rfl
 have ax5 := t4.out.a.at 5 (v5) rfl
 have ax6 := t4.out.a.at 6 (v6) rfl
 have ax7 := t4.out.a.at 7 (.int .i64 x7) rfl
 go_wp2_with fail
 refine (dMarkRows tx base [v6, .int .i64 x7] [.l 3 1 n6 cs6, .i x7] S5 _ _ (Mg.at (pre := [([v0, v1], (topL tx [.l 121 3 n0 cs0, .l 126 5 n1 cs1] (k0)), S0), ([v2], [.l 103 5 n2 (markL tx cs2 (q1))], S1), ([.int .i64 x3], [.i x3], S2), ([v4], [.l 34 9 n4 (markL tx cs4 (q2))], S3), ([v5], [.l 3 1 n5 (markL tx cs5 (q3))], S4)]) (post := []) t4.out) HH6.out (by omega) (by simp only [tcnt]; push_cast; omega)).mono ?_
 rintro e w5 ⟨rfl, mo, mk⟩
 have t5 : Hid (Mg w w5 base S #[v0, v1, v2, .int .i64 x3, v4, v5, v6, .int .i64 x7] 57 [([v0, v1], (topL tx [.l 121 3 n0 cs0, .l 126 5 n1 cs1] (k0)), S0), ([v2], [.l 103 5 n2 (markL tx cs2 (q1))], S1), ([.int .i64 x3], [.i x3], S2), ([v4], [.l 34 9 n4 (markL tx cs4 (q2))], S3), ([v5], [.l 3 1 n5 (markL tx cs5 (q3))], S4), ([v6, .int .i64 x7], (topL tx [.l 3 1 n6 cs6, .i x7] (q4)), S5)]) := Mg.step (pre := [([v0, v1], (topL tx [.l 121 3 n0 cs0, .l 126 5 n1 cs1] (k0)), S0), ([v2], [.l 103 5 n2 (markL tx cs2 (q1))], S1), ([.int .i64 x3], [.i x3], S2), ([v4], [.l 34 9 n4 (markL tx cs4 (q2))], S3), ([v5], [.l 3 1 n5 (markL tx cs5 (q3))], S4)]) (post := []) t4.out mo mk
 obtain ⟨q5, hq5⟩ : ∃ q' : Int, q4 + (tcnt [.l 3 1 n6 cs6, .i x7] : Int) = q' := ⟨_, rfl⟩
 rw [hq5]
 have HQ5 : Hid (q4 + (tcnt [.l 3 1 n6 cs6, .i x7] : Int) = q5) := hq5
 simp only [Cel.cnt, tcnt] at hq5
 (try push_cast at hq5)
 clear mo mk ax0 ax1 ax2 ax3 ax4 ax5 ax6 ax7
 have ax0 := t5.out.a.at 0 (v0) rfl
 have ax1 := t5.out.a.at 1 (v1) rfl
 have ax2 := t5.out.a.at 2 (v2) rfl
 have ax3 := t5.out.a.at 3 (.int .i64 x3) rfl
 have ax4 := t5.out.a.at 4 (v4) rfl
 have ax5 := t5.out.a.at 5 (v5) rfl
 have ax6 := t5.out.a.at 6 (v6) rfl
 have ax7 := t5.out.a.at 7 (.int .i64 x7) rfl
 go_wp2
 go_ret
 have ta := t5.out.all
 have et : k0 + (tcnt [.l 121 3 n0 cs0, .l 126 5 n1 cs1, .l 103 5 n2 cs2, .i x3, .l 34 9 n4 cs4, .l 3 1 n5 cs5, .l 3 1 n6 cs6, .i x7] : Int) = q5 := by simp only [tcnt]; push_cast; omega
 refine ⟨?_, ?_, ta.2⟩
 · rw [et]; try rfl
 · have e : topL tx [.l 121 3 n0 cs0, .l 126 5 n1 cs1, .l 103 5 n2 cs2, .i x3, .l 34 9 n4 cs4, .l 3 1 n5 cs5, .l 3 1 n6 cs6, .i x7] k0 = [([v0, v1], (topL tx [.l 121 3 n0 cs0, .l 126 5 n1 cs1] (k0)), S0), ([v2], [.l 103 5 n2 (markL tx cs2 (q1))], S1), ([.int .i64 x3], [.i x3], S2), ([v4], [.l 34 9 n4 (markL tx cs4 (q2))], S3), ([v5], [.l 3 1 n5 (markL tx cs5 (q3))], S4), ([v6, .int .i64 x7], (topL tx [.l 3 1 n6 cs6, .i x7] (q4)), S5)].flatMap (fun (r : Part) => r.2.1) := by
     have g1 := HQ1.out
     have g2 := HQ2.out
     have g3 := HQ3.out
     have g4 := HQ4.out
     have g5 := HQ5.out
     simp only [Cel.cnt, tcnt] at g1 g2 g3 g4 g5
     (try rw [← g5])
     (try rw [← g4])
     (try rw [← g3])
     (try rw [← g2])
     (try rw [← g1])
     simp only [topL, List.flatMap_cons, List.flatMap_nil, List.append_nil, List.cons_append, List.nil_append]
     (try push_cast)
     (try simp only [Int.add_zero, Int.add_assoc])
   rw [e]
   exact ta.1
set_option linter.unusedSimpArgs false
theorem dHeldIntS (tx : Int → ByteArray) (v : Value) (n : Nat) (cs : List Cel) (k0 : Int) (w : World) (h : At false w v (.l 3 1 n (markL tx cs k0))) (hs : Has (.l 3 1 n cs) (.l 3 1 [.i])) (hk0 : 0 ≤ k0) (hk1 : k0 + (cntL cs : Int) ≤ 4611686018427387904) :
   Calls Try.prog 45 #[v, .int .i64 k0] w (SaysD w (k0 + (cntL cs : Int))) := by
 obtain ⟨a, c, vs, rfl, h1, h2, hn, -, h3, h4⟩ := h.openL
 have SRC : Hid (n = 0 ∨ ∃ b o, a = some ⟨b, o, none⟩ ∧ ∀ j, j < n * 1 → w.cell? ⟨b, o + j, none⟩ = vs[j]?) := h3
 have HV : Hid (∀ j, j < n → AtL false w ((vs.drop (j * 1)).take 1) (markL tx (row cs 1 j) (k0 + (cntL (cs.take (j * 1)) : Int)))) := fun j hj => by
   have h5 := rowVals h1 h2 h4 hj
   rwa [row_mark] at h5
 have L1 : Hid (vs.length = n * 1) := h1
 have L2 : Hid (cs.length = n * 1) := by rw [markL_len] at h2; exact h2
 have HR : Hid (∀ j, j < n → HasL (row cs 1 j) [.i]) := fun j hj => hs.rowL hj
 have HK : Hid (∀ p, k0 + (cntL (cs.take p) : Int) ≤ 4611686018427387904) := fun p => by have := cnt_le (cs := cs) (p := p); show _ ≤ _; omega
 clear h h1 h2 h3 h4 hs hk1
 go_enter Try.func45, Try.ntmps45
 go_wp2
 go_loopw [1, 5] (fun q i wr => ∃ j : Nat, j ≤ n ∧ q = .int .i64 (k0 + (cntL (cs.take (j * 1)) : Int)) ∧ i = .int .i64 (j : Int) ∧ Below w.heap.size w wr) (fun _ i _ => n - (intOf i).toNat)
 case atStart => exact ⟨0, Nat.zero_le _, by simp [cntL], rfl, Below.refl _ _⟩
 case round =>
   obtain ⟨j, hj, rfl, rfl, hb⟩ := hrel
   have HB : Hid (Below w.heap.size w wr) := hb
   by_cases hlt : j < n
   · have hj0 : (0 : Int) ≤ (j : Int) := by omega
     have hj1 : (j : Int) < (n : Int) := by omega
     have hle : j * 1 + 1 ≤ n * 1 := by omega
     rcases SRC.out with h0' | ⟨p1, o1, rfl, g1⟩
     · omega
     have hA := HV.out j hlt
     have hH := HR.out j hlt
     have CS : Hid (cntL (cs.take ((j + 1) * 1)) = cntL (cs.take (j * 1)) + cntL (row cs 1 j)) := cnt_split
     have hkN := HK.out ((j + 1) * 1)
     have hkM := HK.out (j * 1)
     rw [CS.out] at hkN
     have ce := rowAt hb hlt g1 L1.out
     obtain ⟨rs, hrs⟩ : ∃ rs, row cs 1 j = rs := ⟨_, rfl⟩
     obtain ⟨ws, hws⟩ : ∃ ws, (vs.drop (j * 1)).take 1 = ws := ⟨_, rfl⟩
     have HRS : Hid (row cs 1 j = rs) := hrs
     obtain ⟨q, hq⟩ : ∃ q : Int, k0 + (cntL (cs.take (j * 1)) : Int) = q := ⟨_, rfl⟩
     have HQ : Hid (k0 + (cntL (cs.take (j * 1)) : Int) = q) := hq
     rw [hrs] at hH hA hkN
     rw [hws] at hA ce
     rw [hq] at hA
     rw [hq]
     have hq0 : 0 ≤ q := by omega
     have hq1 : q ≤ 4611686018427387904 := by omega
     have hqN : q + (cntL rs : Int) ≤ 4611686018427387904 := by push_cast at hkN; omega
     clear g1 hq hkN hkM hrs hws
     obtain ⟨c0, rfl, T0⟩ := hH.c1
     obtain ⟨x0, rfl⟩ := T0.int
     simp only [cntL, Cel.cnt, Nat.add_zero] at hqN
     push_cast at hqN
     simp only [markL, Cel.mark, Cel.cnt] at hA
     (try push_cast at hA)
     obtain ⟨v0, rfl, A0⟩ := hA.c1
     obtain rfl := A0.int
     have e0 : wr.cell? ⟨p1, o1 + j * 1, none⟩ = some (.int .i64 (q)) := ce 0 (by omega)
     have pq : p1 < wr.heap.size := World.block_lt_of_cell? wr _ e0
     clear ce hA hH hb
     simp only [Nat.mul_one] at e0
     go_wp2
     exact ⟨⟨j + 1, by omega, by
       have h5 := HQ.out
       rw [CS.out, HRS.out]
       simp only [cntL, Cel.cnt]
       congr 1; push_cast; omega, by go_num, HB.out⟩, by simp [intOf]; omega⟩
   · obtain rfl : j = n := by omega
     have HE : Hid (cs.take (j * 1) = cs) := List.take_of_length_le (by have := L2.out; omega)
     go_wp2
     go_ret
     exact ⟨by rw [HE.out]; rfl, hb⟩
set_option linter.unusedSimpArgs false
theorem dHeldCallS (tx : Int → ByteArray) (v : Value) (n : Nat) (cs : List Cel) (k0 : Int) (w : World) (h : At false w v (.l 34 9 n (markL tx cs k0))) (hs : Has (.l 34 9 n cs) (.l 34 9 tyCall)) (hk0 : 0 ≤ k0) (hk1 : k0 + (cntL cs : Int) ≤ 4611686018427387904) :
   Calls Try.prog 18 #[v, .int .i64 k0] w (SaysD w (k0 + (cntL cs : Int))) := by
 obtain ⟨a, c, vs, rfl, h1, h2, hn, -, h3, h4⟩ := h.openL
 have SRC : Hid (n = 0 ∨ ∃ b o, a = some ⟨b, o, none⟩ ∧ ∀ j, j < n * 9 → w.cell? ⟨b, o + j, none⟩ = vs[j]?) := h3
 have HV : Hid (∀ j, j < n → AtL false w ((vs.drop (j * 9)).take 9) (markL tx (row cs 9 j) (k0 + (cntL (cs.take (j * 9)) : Int)))) := fun j hj => by
   have h5 := rowVals h1 h2 h4 hj
   rwa [row_mark] at h5
 have L1 : Hid (vs.length = n * 9) := h1
 have L2 : Hid (cs.length = n * 9) := by rw [markL_len] at h2; exact h2
 have HR : Hid (∀ j, j < n → HasL (row cs 9 j) tyCall) := fun j hj => hs.rowL hj
 have HK : Hid (∀ p, k0 + (cntL (cs.take p) : Int) ≤ 4611686018427387904) := fun p => by have := cnt_le (cs := cs) (p := p); show _ ≤ _; omega
 clear h h1 h2 h3 h4 hs hk1
 go_enter Try.func18, Try.ntmps18
 go_wp2
 go_loopw [1, 5] (fun q i wr => ∃ j : Nat, j ≤ n ∧ q = .int .i64 (k0 + (cntL (cs.take (j * 9)) : Int)) ∧ i = .int .i64 (j : Int) ∧ Below w.heap.size w wr) (fun _ i _ => n - (intOf i).toNat)
 case atStart => exact ⟨0, Nat.zero_le _, by simp [cntL], rfl, Below.refl _ _⟩
 case round =>
   obtain ⟨j, hj, rfl, rfl, hb⟩ := hrel
   have HB : Hid (Below w.heap.size w wr) := hb
   by_cases hlt : j < n
   · have hj0 : (0 : Int) ≤ (j : Int) := by omega
     have hj1 : (j : Int) < (n : Int) := by omega
     have hle : j * 9 + 9 ≤ n * 9 := by omega
     rcases SRC.out with h0' | ⟨p1, o1, rfl, g1⟩
     · omega
     have hA := HV.out j hlt
     have hH := HR.out j hlt
     have CS : Hid (cntL (cs.take ((j + 1) * 9)) = cntL (cs.take (j * 9)) + cntL (row cs 9 j)) := cnt_split
     have hkN := HK.out ((j + 1) * 9)
     have hkM := HK.out (j * 9)
     rw [CS.out] at hkN
     have ce := rowAt hb hlt g1 L1.out
     obtain ⟨rs, hrs⟩ : ∃ rs, row cs 9 j = rs := ⟨_, rfl⟩
     obtain ⟨ws, hws⟩ : ∃ ws, (vs.drop (j * 9)).take 9 = ws := ⟨_, rfl⟩
     have HRS : Hid (row cs 9 j = rs) := hrs
     obtain ⟨q, hq⟩ : ∃ q : Int, k0 + (cntL (cs.take (j * 9)) : Int) = q := ⟨_, rfl⟩
     have HQ : Hid (k0 + (cntL (cs.take (j * 9)) : Int) = q) := hq
     rw [hrs] at hH hA hkN
     rw [hws] at hA ce
     rw [hq] at hA
     rw [hq]
     have hq0 : 0 ≤ q := by omega
     have hq1 : q ≤ 4611686018427387904 := by omega
     have hqN : q + (cntL rs : Int) ≤ 4611686018427387904 := by push_cast at hkN; omega
     clear g1 hq hkN hkM hrs hws
     obtain ⟨c0, c1, c2, c3, c4, c5, c6, c7, c8, rfl, T0, T1, T2, T3, T4, T5, T6, T7, T8⟩ := hH.c9
     obtain ⟨x0, rfl⟩ := T0.int
     obtain ⟨x1, rfl⟩ := T1.int
     obtain ⟨x2, rfl⟩ := T2.int
     obtain ⟨x3, rfl⟩ := T3.int
     obtain ⟨x4, rfl⟩ := T4.int
     obtain ⟨x5, rfl⟩ := T5.int
     obtain ⟨x6, rfl⟩ := T6.int
     obtain ⟨x7, rfl⟩ := T7.int
     obtain ⟨n8, cs8, rfl, -⟩ := T8.list
     have HT8 : Hid (Has (.l 3 1 n8 cs8) (.l 3 1 [.i])) := T8
     simp only [cntL, Cel.cnt, Nat.add_zero] at hqN
     push_cast at hqN
     simp only [markL, Cel.mark, Cel.cnt] at hA
     (try push_cast at hA)
     obtain ⟨q1, hq1⟩ : ∃ q' : Int, q + 1 + 1 + 1 + 1 + 1 + 1 + 1 + 1 + (cntL cs8 : Int) = q' := ⟨_, rfl⟩
     have HQ1 : Hid (q + 1 + 1 + 1 + 1 + 1 + 1 + 1 + 1 + (cntL cs8 : Int) = q1) := hq1
     have hb1 : ¬ q1 < 0 := by omega
     have hc1 : q1 ≤ 4611686018427387904 := by omega
     (try rw [hq1] at hA)
     obtain ⟨v0, v1, v2, v3, v4, v5, v6, v7, v8, rfl, A0, A1, A2, A3, A4, A5, A6, A7, A8⟩ := hA.c9
     obtain rfl := A0.int
     obtain rfl := A1.int
     obtain rfl := A2.int
     obtain rfl := A3.int
     obtain rfl := A4.int
     obtain rfl := A5.int
     obtain rfl := A6.int
     obtain rfl := A7.int
     have HA8 : Hid (At false w v8 (.l 3 1 n8 (markL tx cs8 (q + 1 + 1 + 1 + 1 + 1 + 1 + 1 + 1)))) := A8
     have e0 : wr.cell? ⟨p1, o1 + j * 9, none⟩ = some (.int .i64 (q)) := ce 0 (by omega)
     have e1 : wr.cell? ⟨p1, o1 + j * 9 + 1, none⟩ = some (.int .i64 (q + 1)) := ce 1 (by omega)
     have e2 : wr.cell? ⟨p1, o1 + j * 9 + 2, none⟩ = some (.int .i64 (q + 1 + 1)) := ce 2 (by omega)
     have e3 : wr.cell? ⟨p1, o1 + j * 9 + 3, none⟩ = some (.int .i64 (q + 1 + 1 + 1)) := ce 3 (by omega)
     have e4 : wr.cell? ⟨p1, o1 + j * 9 + 4, none⟩ = some (.int .i64 (q + 1 + 1 + 1 + 1)) := ce 4 (by omega)
     have e5 : wr.cell? ⟨p1, o1 + j * 9 + 5, none⟩ = some (.int .i64 (q + 1 + 1 + 1 + 1 + 1)) := ce 5 (by omega)
     have e6 : wr.cell? ⟨p1, o1 + j * 9 + 6, none⟩ = some (.int .i64 (q + 1 + 1 + 1 + 1 + 1 + 1)) := ce 6 (by omega)
     have e7 : wr.cell? ⟨p1, o1 + j * 9 + 7, none⟩ = some (.int .i64 (q + 1 + 1 + 1 + 1 + 1 + 1 + 1)) := ce 7 (by omega)
     have e8 : wr.cell? ⟨p1, o1 + j * 9 + 8, none⟩ = some (v8) := ce 8 (by omega)
     have pq : p1 < wr.heap.size := World.block_lt_of_cell? wr _ e0
     clear ce hA hH hb T8 A8
     go_wp2_with fail
     refine (dHeldIntS tx v8 n8 cs8 _ _ (HA8.out.on HB.out (Nat.le_refl _)) HT8.out (by omega) (by omega)).mono ?_
     rintro e w1 ⟨rfl, hb⟩
     rw [HQ1.out]
     have HB1 : Hid (Below w.heap.size w w1) := HB.out.trans (hb.mono HB.out.size)
     have e0' : w1.cell? ⟨p1, o1 + j * 9, none⟩ = some (.int .i64 (q)) := (hb.cell (show p1 < _ from pq)).trans e0
     have e1' : w1.cell? ⟨p1, o1 + j * 9 + 1, none⟩ = some (.int .i64 (q + 1)) := (hb.cell (show p1 < _ from pq)).trans e1
     have e2' : w1.cell? ⟨p1, o1 + j * 9 + 2, none⟩ = some (.int .i64 (q + 1 + 1)) := (hb.cell (show p1 < _ from pq)).trans e2
     have e3' : w1.cell? ⟨p1, o1 + j * 9 + 3, none⟩ = some (.int .i64 (q + 1 + 1 + 1)) := (hb.cell (show p1 < _ from pq)).trans e3
     have e4' : w1.cell? ⟨p1, o1 + j * 9 + 4, none⟩ = some (.int .i64 (q + 1 + 1 + 1 + 1)) := (hb.cell (show p1 < _ from pq)).trans e4
     have e5' : w1.cell? ⟨p1, o1 + j * 9 + 5, none⟩ = some (.int .i64 (q + 1 + 1 + 1 + 1 + 1)) := (hb.cell (show p1 < _ from pq)).trans e5
     have e6' : w1.cell? ⟨p1, o1 + j * 9 + 6, none⟩ = some (.int .i64 (q + 1 + 1 + 1 + 1 + 1 + 1)) := (hb.cell (show p1 < _ from pq)).trans e6
     have e7' : w1.cell? ⟨p1, o1 + j * 9 + 7, none⟩ = some (.int .i64 (q + 1 + 1 + 1 + 1 + 1 + 1 + 1)) := (hb.cell (show p1 < _ from pq)).trans e7
     have e8' : w1.cell? ⟨p1, o1 + j * 9 + 8, none⟩ = some (v8) := (hb.cell (show p1 < _ from pq)).trans e8
     have pq' : p1 < w1.heap.size := World.block_lt_of_cell? w1 _ e0'
     clear pq hb e0 e1 e2 e3 e4 e5 e6 e7 e8
     have pq := pq'
     have e0 := e0'
     have e1 := e1'
     have e2 := e2'
     have e3 := e3'
     have e4 := e4'
     have e5 := e5'
     have e6 := e6'
     have e7 := e7'
     have e8 := e8'
     clear pq' e0' e1' e2' e3' e4' e5' e6' e7' e8'
     go_wp2
     exact ⟨⟨j + 1, by omega, by
       have h5 := HQ.out
       have h61 := HQ1.out
       rw [CS.out, HRS.out]
       simp only [cntL, Cel.cnt]
       congr 1; push_cast; omega, by go_num, HB1.out⟩, by simp [intOf]; omega⟩
   · obtain rfl : j = n := by omega
     have HE : Hid (cs.take (j * 9) = cs) := List.take_of_length_le (by have := L2.out; omega)
     go_wp2
     go_ret
     exact ⟨by rw [HE.out]; rfl, hb⟩
end
end Go.Proofs.Ytecheopkfhfgkaa
