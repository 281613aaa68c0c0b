/- Texts joined: Ended, ImplTo, RepM. -/
import Derived.Test.YtecheopkfhfgkaaTO05
import Derived.Test.YtecheopkfhfgkaaTO04
import Derived.Maps.AppendAt
import Derived.Test.YtecheopkfhfgkaaTO02
set_option maxHeartbeats 16000000
set_option maxRecDepth 100000
namespace Go.Proofs.Ytecheopkfhfgkaa
section
open Go.ChangeShapes Go.WideShapes Go.ChangeAt Go.RowKit
theorem impl_ended (c : CaD) (v : Value) (w : World) : Calls Try.prog 22 #[CaV c v] w fun e w' => e = .returned (.bool (decide (0 ≤ c.en))) ∧ Below w.heap.size w w' := by
 obtain ⟨t, kd, k, vv, st, ln, en, cd⟩ := c
 have HB : Hid (Below w.heap.size w (w.alloc (.cells #[.int .i64 t, .int .i64 kd, .int .i64 k, .int .i64 vv, .int .i64 st, .int .i64 ln, .int .i64 en, .int .i64 cd, v] 34))) := (Below.refl _ w).alloc (Nat.le_refl _) _
 by_cases h : 0 ≤ en
 · have h' : decide (0 ≤ en) = true := decide_eq_true h
   show Calls Try.prog 22 #[.agg #[.int .i64 t, .int .i64 kd, .int .i64 k, .int .i64 vv, .int .i64 st, .int .i64 ln, .int .i64 en, .int .i64 cd, v]] w fun e w' => e = .returned (.bool (decide (0 ≤ en))) ∧ Below w.heap.size w w'
   rw [h']
   go_enter Try.func22, Try.ntmps22
   go_wp2
   go_ret
   exact ⟨rfl, HB.out⟩
 · have h' : decide (0 ≤ en) = false := decide_eq_false h
   show Calls Try.prog 22 #[.agg #[.int .i64 t, .int .i64 kd, .int .i64 k, .int .i64 vv, .int .i64 st, .int .i64 ln, .int .i64 en, .int .i64 cd, v]] w fun e w' => e = .returned (.bool (decide (0 ≤ en))) ∧ Below w.heap.size w w'
   rw [h']
   go_enter Try.func22, Try.ntmps22
   go_wp2
   go_ret
   exact ⟨rfl, HB.out⟩
theorem impl_wasSo (c : CaD) (v : Value) (w : World) : Calls Try.prog 53 #[CaV c v] w fun e w' => e = .returned (.bool (decide (0 ≤ c.ln))) ∧ Below w.heap.size w w' := by
 obtain ⟨t, kd, k, vv, st, ln, en, cd⟩ := c
 have HB : Hid (Below w.heap.size w (w.alloc (.cells #[.int .i64 t, .int .i64 kd, .int .i64 k, .int .i64 vv, .int .i64 st, .int .i64 ln, .int .i64 en, .int .i64 cd, v] 34))) := (Below.refl _ w).alloc (Nat.le_refl _) _
 by_cases h : 0 ≤ ln
 · have h' : decide (0 ≤ ln) = true := decide_eq_true h
   show Calls Try.prog 53 #[.agg #[.int .i64 t, .int .i64 kd, .int .i64 k, .int .i64 vv, .int .i64 st, .int .i64 ln, .int .i64 en, .int .i64 cd, v]] w fun e w' => e = .returned (.bool (decide (0 ≤ ln))) ∧ Below w.heap.size w w'
   rw [h']
   go_enter Try.func53, Try.ntmps53
   go_wp2
   go_ret
   exact ⟨rfl, HB.out⟩
 · have h' : decide (0 ≤ ln) = false := decide_eq_false h
   show Calls Try.prog 53 #[.agg #[.int .i64 t, .int .i64 kd, .int .i64 k, .int .i64 vv, .int .i64 st, .int .i64 ln, .int .i64 en, .int .i64 cd, v]] w fun e w' => e = .returned (.bool (decide (0 ≤ ln))) ∧ Below w.heap.size w w'
   rw [h']
   go_enter Try.func53, Try.ntmps53
   go_wp2
   go_ret
   exact ⟨rfl, HB.out⟩
end
section
open Go.ChangeShapes Go.WideShapes Go.ChangeAt Go.RowKit Go.Joins
theorem infoCallU : (Try.prog.info? 34).map (fun i => (i.zero, i.size, i.bytes)) = some (some (.agg #[.int .i64 0, .int .i64 0, .int .i64 0, .int .i64 0, .int .i64 0, .int .i64 0, .int .i64 0, .int .i64 0, .slice none 0 0]), 9, 88) := by kernel_rfl
theorem nineU_of {w : World} {b : Nat} {v0 v1 v2 v3 v4 v5 v6 v7 v8 : Value} {T : TypeId} (h : Box w b #[v0, v1, v2, v3, v4, v5, v6, v7, v8] T) : w.cell? ⟨b, 0, none⟩ = some v0 ∧ w.cell? ⟨b, 1, none⟩ = some v1 ∧ w.cell? ⟨b, 2, none⟩ = some v2 ∧ w.cell? ⟨b, 3, none⟩ = some v3 ∧ w.cell? ⟨b, 4, none⟩ = some v4 ∧ w.cell? ⟨b, 5, none⟩ = some v5 ∧ w.cell? ⟨b, 6, none⟩ = some v6 ∧ w.cell? ⟨b, 7, none⟩ = some v7 ∧ w.cell? ⟨b, 8, none⟩ = some v8 ∧ w.frozen? ⟨b, 7, none⟩ = false ∧ w.frozen? ⟨b, 8, none⟩ = false := ⟨h.cell 0, h.cell 1, h.cell 2, h.cell 3, h.cell 4, h.cell 5, h.cell 6, h.cell 7, h.cell 8, h.frozen 7, h.frozen 8⟩
theorem callV_srcU (w : World) (d : CaD) (u : Value) (t : TypeId) : ∀ (j : Nat) (q : Value), (callV d u)[j]? = some q → (w.alloc (.cells (callV d u).toArray t)).cell? ((⟨w.heap.size, 0, none⟩ : Addr).add j) = some q := by
 intro j q hj
 have hx := (box_of w (callV d u).toArray t).cell j
 have e : (⟨w.heap.size, 0, none⟩ : Addr).add j = ⟨w.heap.size, j, none⟩ := by simp [Addr.add]; omega
 rw [e, hx]
 simpa using hj
theorem callV_oneU (d : CaD) (a : Option Addr) (n c : Nat) : ∀ u ∈ callV d (.slice a n c), u.oneCell' = true := by
 intro u hu
 simp [callV] at hu
 rcases hu with rfl | rfl | rfl | rfl | rfl | rfl | rfl | rfl | rfl <;> rfl
theorem told_nil {w : World} {base : Nat} : ToldAt w base (.slice none 0 0) [] := ⟨fun _ => False, .nil _ _ _ (fun _ h => h)⟩
theorem impl_toldOf (ca : Option Addr) (m cc : Nat) (f : Nat → CaD) (rs : Nat → List Int) (w : World) (hm : m ≤ 1048576) (h : CasN w ca m f rs) :
   Calls Try.prog 36 #[.slice ca m cc] w fun e w' => ∃ v, e = .returned v ∧ ToldAt w' w.heap.size v (toldL f rs m) ∧ Below w.heap.size w w' := by
 have HC : Hid (CasN w ca m f rs) := h
 obtain ⟨i0, hi, hz⟩ := Option.map_eq_some_iff.1 infoCallU
 have hz0 : i0.zero = some (.agg #[.int .i64 0, .int .i64 0, .int .i64 0, .int .i64 0, .int .i64 0, .int .i64 0, .int .i64 0, .int .i64 0, .slice none 0 0]) := congrArg Prod.fst hz
 have hz1 : i0.size = 9 := congrArg (fun p => p.2.1) hz
 have hz2 : i0.bytes = 88 := congrArg (fun p => p.2.2) hz
 obtain ⟨sz, hsz⟩ : ∃ sz, w.heap.size = sz := ⟨_, rfl⟩
 have HSZ : Hid (w.heap.size = sz) := hsz
 rw [hsz]
 clear h hz hsz
 go_enter Try.func36, Try.ntmps36
 go_wp2
 go_loopw [3, 8] (fun v i wr => ∃ k : Nat, k ≤ m ∧ i = .int .i64 (k : Int) ∧ ToldAt wr sz v (toldL f rs k) ∧ Below sz w wr) (fun _ i _ => m - (intOf i).toNat)
 case atStart => exact ⟨0, Nat.zero_le _, rfl, told_nil, Below.refl _ _⟩
 case round =>
   obtain ⟨k, hk, rfl, hT, hb⟩ := hrel
   have HT : Hid (ToldAt wr sz u3 (toldL f rs k)) := hT
   have HB : Hid (Below sz w wr) := hb
   clear hT hb
   by_cases hlt : k < m
   case neg =>
     obtain rfl : m = k := by omega
     go_wp2
     go_ret
     first | exact ⟨HT.out, HB.out⟩ | exact ⟨_, rfl, HT.out, HB.out⟩
   have hk0 : (0 : Int) ≤ (k : Int) := by omega
   have hk1 : (k : Int) < (m : Int) := by omega
   rcases HC.out.below HB.out (by rw [HSZ.out]; exact Nat.le_refl _) with h0 | ⟨p1, o1, rfl, g1⟩
   · omega
   obtain ⟨ra, rn, rc, ⟨e0, e1, e2, e3, e4, e5, e6, e7, e8⟩, hres, hnil, hrn⟩ := g1 k hlt
   obtain ⟨L, hL⟩ : ∃ L, rs k = L := ⟨_, rfl⟩
   obtain ⟨C, hC⟩ : ∃ C, f k = C := ⟨_, rfl⟩
   rw [hL] at hres
   rw [hC] at e0 e1 e2 e3 e4 e5 e6 e7
   have HFK : Hid (f k = C ∧ rs k = L) := ⟨hC, hL⟩
   obtain ⟨x0, x1, x2, x3, x4, x5, x6, x7⟩ := C
   dsimp only at e0 e1 e2 e3 e4 e5 e6 e7
   obtain ⟨q, hq⟩ : ∃ q, wr.heap.size = q := ⟨_, rfl⟩
   obtain ⟨X, hX⟩ : ∃ X, wr.alloc (.cells #[.int .i64 x0, .int .i64 x1, .int .i64 x2, .int .i64 x3, .int .i64 x4, .int .i64 x5, .int .i64 x6, .int .i64 x7, .slice ra rn rc] 34) = X := ⟨_, rfl⟩
   have hbx : Below q wr X := by rw [← hX, ← hq]; exact (Below.refl _ wr).alloc (Nat.le_refl _) _
   have BC : Hid (Box X q #[.int .i64 x0, .int .i64 x1, .int .i64 x2, .int .i64 x3, .int .i64 x4, .int .i64 x5, .int .i64 x6, .int .i64 x7, .slice ra rn rc] 34) := by rw [← hX, ← hq]; exact box_of wr _ _
   have HBX : Hid (Below q wr X) := hbx
   have HRES : Hid (IntAt X ra rn L) := hres.below hbx (by omega)
   have HNIL : Hid (ra = none → rc = 0) := hnil
   have HLEN : Hid (L.length = rn) := hres.1
   have HX : Hid (wr.alloc (.cells #[.int .i64 x0, .int .i64 x1, .int .i64 x2, .int .i64 x3, .int .i64 x4, .int .i64 x5, .int .i64 x6, .int .i64 x7, .slice ra rn rc] 34) = X) := hX
   have HQ : Hid (wr.heap.size = q) := hq
   have LQ : sz ≤ q := by have := HB.out.size; have := HSZ.out; omega
   have HQX : Hid (q + 1 = X.heap.size) := by show _ = _; rw [← hX, ← hq]; simp
   clear g1 hC hL hres hnil hbx hX
   go_upto_region 5 with (fail)
   rw [HX.out]
   (try rw [HQ.out])
   clear HX hq e0 e1 e2 e3 e4 e5 e6 e7 e8
   obtain ⟨u0, u1, u2, u3', u4, u5, u6, u7, u8, z7, z8⟩ := nineU_of BC.out
   by_cases hq : ToldQ (⟨x0, x1, x2, x3, x4, x5, x6, x7⟩ : CaD) = true
   case neg =>
     have h6 : ¬ 0 ≤ x6 := fun h => hq (by simp [ToldQ, h])
     have h5 : ¬ 0 ≤ x5 := fun h => hq (by simp [ToldQ, h])
     have HN : Hid (toldL f rs (k + 1) = toldL f rs k) := toldL_no (by rw [HFK.out.1]; simpa using hq)
     clear hq
     have D5 : Hid (decide (0 ≤ x5) = false) := decide_eq_false h5
     clear h5
     have D6 : Hid (decide (0 ≤ x6) = false) := decide_eq_false h6
     clear h6
     go_wp2_with fail
     refine (impl_ended ⟨x0, x1, x2, x3, x4, x5, x6, x7⟩ (.slice ra rn rc) X).mono ?_
     rintro e V0 ⟨rfl, hbv0⟩
     rw [show decide (0 ≤ (⟨x0, x1, x2, x3, x4, x5, x6, x7⟩ : CaD).en) = false from D6.out]
     clear u0 u1 u2 u3' u4 u5 u6 u7 u8 z7 z8
     obtain ⟨u0, u1, u2, u3', u4, u5, u6, u7, u8, z7, z8⟩ := nineU_of (BC.out.below hbv0 BC.out.lt)
     go_wp2_with fail
     refine (impl_wasSo ⟨x0, x1, x2, x3, x4, x5, x6, x7⟩ (.slice ra rn rc) V0).mono ?_
     rintro e V ⟨rfl, hbv1⟩
     rw [show decide (0 ≤ (⟨x0, x1, x2, x3, x4, x5, x6, x7⟩ : CaD).ln) = false from D5.out]
     have hbv : Below X.heap.size X V := hbv0.trans (hbv1.mono hbv0.size)
     clear hbv0 hbv1
     have HT2 : Hid (ToldAt V sz u3 (toldL f rs k)) := HT.out.on (HBX.out.trans (hbv.mono (by have := HQX.out; omega))) (by rw [HQ.out]; exact Nat.le_refl _)
     have HB2 : Hid (Below sz w V) := HB.out.trans ((HBX.out.trans (hbv.mono (by have := HQX.out; omega))).mono LQ)
     clear hbv
     go_wp2
     exact ⟨⟨k + 1, by omega, by go_num, by rw [HN.out]; exact HT2.out, HB2.out⟩, by simp [intOf]; omega⟩
   have HN : Hid (toldL f rs (k + 1) = toldL f rs k ++ [(⟨x0, x1, x2, x3, x4, x5, x6, x7⟩, L)]) := by
     show _ = _
     rw [toldL_yes (by rw [HFK.out.1]; exact hq), HFK.out.1, HFK.out.2]
   have hcase : 0 ≤ x6 ∨ (¬ 0 ≤ x6 ∧ 0 ≤ x5) := by
     by_cases h6 : 0 ≤ x6
     · exact .inl h6
     · by_cases h5 : 0 ≤ x5
       · exact .inr ⟨h6, h5⟩
       · exact absurd hq (by simp [ToldQ, h5, h6])
   clear hq
   rcases hcase with h6 | ⟨h6, h5⟩
   · have D6 : Hid (decide (0 ≤ x6) = true) := decide_eq_true h6
     clear h6
     go_wp2_with fail
     refine (impl_ended ⟨x0, x1, x2, x3, x4, x5, x6, x7⟩ (.slice ra rn rc) X).mono ?_
     rintro e V ⟨rfl, hbv⟩
     rw [show decide (0 ≤ (⟨x0, x1, x2, x3, x4, x5, x6, x7⟩ : CaD).en) = true from D6.out]
     have HBV : Hid (Below q wr V) := HBX.out.trans (hbv.mono (by have := HQX.out; omega))
     have BV : Hid (Box V q #[.int .i64 x0, .int .i64 x1, .int .i64 x2, .int .i64 x3, .int .i64 x4, .int .i64 x5, .int .i64 x6, .int .i64 x7, .slice ra rn rc] 34) := BC.out.below hbv BC.out.lt
     have HQV : Hid (q + 1 ≤ V.heap.size) := by have h1 := hbv.size; have h2 := HQX.out; show _ ≤ _; omega
     have HRES2 : Hid (IntAt V ra rn L) := HRES.out.below hbv (Nat.le_refl _)
     clear hbv u0 u1 u2 u3' u4 u5 u6 u7 u8 z7 z8
     obtain ⟨u0, u1, u2, u3', u4, u5, u6, u7, u8, z7, z8⟩ := nineU_of BV.out
     go_wp2_with fail
     refine (resAnew_o x7 ra rn rc L V HRES2.out HNIL.out).mono ?_
     rintro e w2 ⟨v, rfl, hown, hb2⟩
     obtain ⟨va, vc, rfl, _⟩ := owns_slice hown
     have HO2 : Hid (w2.ownsRow V.heap.size 3 1 (.slice va rn vc) rn (L.map I)) := hown
     have HB2 : Hid (Below q wr w2) := HBV.out.trans (hb2.mono (by have := HQV.out; omega))
     have BC2 : Hid (Box w2 q #[.int .i64 x0, .int .i64 x1, .int .i64 x2, .int .i64 x3, .int .i64 x4, .int .i64 x5, .int .i64 x6, .int .i64 x7, .slice ra rn rc] 34) := BV.out.below hb2 BV.out.lt
     obtain ⟨Y, hY⟩ : ∃ Y, (w2.setCell ⟨q, 7, none⟩ (.int .i64 x7)).setCell ⟨q, 8, none⟩ (.slice va rn vc) = Y := ⟨_, rfl⟩
     have BY : Hid (Box Y q #[.int .i64 x0, .int .i64 x1, .int .i64 x2, .int .i64 x3, .int .i64 x4, .int .i64 x5, .int .i64 x6, .int .i64 x7, .slice va rn vc] 34) := by rw [← hY]; exact (BC2.out.put 7 _).put 8 _
     have HBY : Hid (Below q wr Y) := by rw [← hY]; exact (HB2.out.setCell (Nat.le_refl _) _).setCell (Nat.le_refl _) _
     have HOY : Hid (Y.ownsRow q 3 1 (.slice va rn vc) rn (L.map I)) := by
       have hwb : (Value.slice va rn vc).ownBlock ≠ some q := fun e => by have := (HO2.out.lt _ e).1; have := HQV.out; omega
       rw [← hY]
       exact own_setCell_far (own_setCell_far (own_weaken HO2.out (by have := HQV.out; omega)) hwb _) hwb _
     have HY : Hid ((w2.setCell ⟨q, 7, none⟩ (.int .i64 x7)).setCell ⟨q, 8, none⟩ (.slice va rn vc) = Y) := hY
     clear hown hb2 hY u0 u1 u2 u3' u4 u5 u6 u7 u8 z7 z8
     obtain ⟨u0, u1, u2, u3', u4, u5, u6, u7, u8, z7, z8⟩ := nineU_of BC2.out
     go_upto_region 7 with (fail)
     rw [HY.out]
     clear u0 u1 u2 u3' u4 u5 u6 u7 u8 z7 z8 HY
     obtain ⟨u0, u1, u2, u3', u4, u5, u6, u7, u8, z7, z8⟩ := nineU_of BY.out
     obtain ⟨q4, hq4⟩ : ∃ q4, Y.heap.size = q4 := ⟨_, rfl⟩
     obtain ⟨Z, hZ⟩ : ∃ Z, Y.alloc (.cells #[.int .i64 x0, .int .i64 x1, .int .i64 x2, .int .i64 x3, .int .i64 x4, .int .i64 x5, .int .i64 x6, .int .i64 x7, .slice va rn vc] 34) = Z := ⟨_, rfl⟩
     have hbz : Below q wr Z := by rw [← hZ]; exact HBY.out.alloc (by have := HBY.out.size; have := HQ.out; omega) _
     have HOZ : Hid (Z.ownsRow q 3 1 (.slice va rn vc) rn (L.map I)) := by rw [← hZ]; exact HOY.out.alloc _
     have SRC : Hid (∀ (j : Nat) (y : Value), (callV ⟨x0, x1, x2, x3, x4, x5, x6, x7⟩ (.slice va rn vc))[j]? = some y → Z.cell? ((⟨q4, 0, none⟩ : Addr).add j) = some y) := by
       rw [← hZ, ← hq4]
       exact callV_srcU Y ⟨x0, x1, x2, x3, x4, x5, x6, x7⟩ (.slice va rn vc) 34
     have hll := toldL_len f rs k
     obtain ⟨vs, hrow, back⟩ := HT.out.app (by omega) hbz (by rw [HQ.out]; exact Nat.le_refl _) LQ
     have HROW : Hid (Z.ownsRow sz 34 9 u3 (toldL f rs k).length vs) := hrow
     have HBACK : Hid (∀ (v' : Value) (w' : World), w'.ownsRow sz 34 9 v' ((toldL f rs k).length + 1) (vs ++ callV ⟨x0, x1, x2, x3, x4, x5, x6, x7⟩ (.slice va rn vc)) → Z.grownBy w' u3.ownBlock → (v'.ownBlock = u3.ownBlock ∨ v'.ownBlock = some Z.heap.size) → ToldAt w' sz v' (toldL f rs (k + 1))) := fun v' w' h1 h2 h3 => by
       rw [HN.out]
       have hl := HLEN.out
       exact back v' (.slice va rn vc) w' (⟨x0, x1, x2, x3, x4, x5, x6, x7⟩, L) (by show World.ownsRow _ _ _ _ _ _ _; rw [show (((⟨x0, x1, x2, x3, x4, x5, x6, x7⟩ : CaD), L) : CaR).2.length = rn from hl]; exact HOZ.out) (by show L.length ≤ _; omega) h1 h2 h3
     have HBZ : Hid (Below sz w Z) := HB.out.trans (hbz.mono LQ)
     have LSZ : sz ≤ Z.heap.size := by have := hbz.size; have := HQ.out; omega
     have HZ : Hid (Y.alloc (.cells #[.int .i64 x0, .int .i64 x1, .int .i64 x2, .int .i64 x3, .int .i64 x4, .int .i64 x5, .int .i64 x6, .int .i64 x7, .slice va rn vc] 34) = Z) := hZ
     have HQ4 : Hid (Y.heap.size = q4) := hq4
     obtain ⟨nl, hnl⟩ : ∃ nl, (toldL f rs k).length = nl := ⟨_, rfl⟩
     have HNL : Hid ((toldL f rs k).length = nl) := hnl
     rw [hnl] at hll
     clear hZ hq4 hbz hrow back hnl
     go_wp2_with
       (at_builtin
        first | rw [HZ.out] | skip
        first | rw [HQ4.out] | skip
        refine wpList_append_own_at _ rfl _ _ 48 rfl sz 34 i0 (.agg #[.int .i64 0, .int .i64 0, .int .i64 0, .int .i64 0, .int .i64 0, .int .i64 0, .int .i64 0, .int .i64 0, .slice none 0 0]) 9 88 Try.underlying48 hi hz0 hz1 hz2 rfl (by decide) u3 nl vs rfl (by rw [← HNL.out]; exact HROW.out) ⟨q4, 0, none⟩ 1 1 (callV ⟨x0, x1, x2, x3, x4, x5, x6, x7⟩ (.slice va rn vc)) rfl rfl SRC.out (callV_oneU _ _ _ _) (by unfold maxLen; omega) (by omega) LSZ ?_
        intro v' w5 own' gr _ at'
        have HT5 : Hid (ToldAt w5 sz v' (toldL f rs (k + 1))) := HBACK.out v' w5 (by rw [HNL.out]; exact own') gr at'
        have HB5 : Hid (Below sz w w5) := HBZ.out.grown gr LSZ (fun b e => (HROW.out.lt b e).1)
        clear own' gr at')
     (try go_wp2)
     exact ⟨⟨k + 1, by omega, by go_num, HT5.out, HB5.out⟩, by simp [intOf]; omega⟩
   · have D5 : Hid (decide (0 ≤ x5) = true) := decide_eq_true h5
     clear h5
     have D6 : Hid (decide (0 ≤ x6) = false) := decide_eq_false h6
     clear h6
     go_wp2_with fail
     refine (impl_ended ⟨x0, x1, x2, x3, x4, x5, x6, x7⟩ (.slice ra rn rc) X).mono ?_
     rintro e V0 ⟨rfl, hbv0⟩
     rw [show decide (0 ≤ (⟨x0, x1, x2, x3, x4, x5, x6, x7⟩ : CaD).en) = false from D6.out]
     clear u0 u1 u2 u3' u4 u5 u6 u7 u8 z7 z8
     obtain ⟨u0, u1, u2, u3', u4, u5, u6, u7, u8, z7, z8⟩ := nineU_of (BC.out.below hbv0 BC.out.lt)
     go_wp2_with fail
     refine (impl_wasSo ⟨x0, x1, x2, x3, x4, x5, x6, x7⟩ (.slice ra rn rc) V0).mono ?_
     rintro e V ⟨rfl, hbv1⟩
     rw [show decide (0 ≤ (⟨x0, x1, x2, x3, x4, x5, x6, x7⟩ : CaD).ln) = true from D5.out]
     have hbv : Below X.heap.size X V := hbv0.trans (hbv1.mono hbv0.size)
     clear hbv0 hbv1
     have HBV : Hid (Below q wr V) := HBX.out.trans (hbv.mono (by have := HQX.out; omega))
     have BV : Hid (Box V q #[.int .i64 x0, .int .i64 x1, .int .i64 x2, .int .i64 x3, .int .i64 x4, .int .i64 x5, .int .i64 x6, .int .i64 x7, .slice ra rn rc] 34) := BC.out.below hbv BC.out.lt
     have HQV : Hid (q + 1 ≤ V.heap.size) := by have h1 := hbv.size; have h2 := HQX.out; show _ ≤ _; omega
     have HRES2 : Hid (IntAt V ra rn L) := HRES.out.below hbv (Nat.le_refl _)
     clear hbv u0 u1 u2 u3' u4 u5 u6 u7 u8 z7 z8
     obtain ⟨u0, u1, u2, u3', u4, u5, u6, u7, u8, z7, z8⟩ := nineU_of BV.out
     go_wp2_with fail
     refine (resAnew_o x7 ra rn rc L V HRES2.out HNIL.out).mono ?_
     rintro e w2 ⟨v, rfl, hown, hb2⟩
     obtain ⟨va, vc, rfl, _⟩ := owns_slice hown
     have HO2 : Hid (w2.ownsRow V.heap.size 3 1 (.slice va rn vc) rn (L.map I)) := hown
     have HB2 : Hid (Below q wr w2) := HBV.out.trans (hb2.mono (by have := HQV.out; omega))
     have BC2 : Hid (Box w2 q #[.int .i64 x0, .int .i64 x1, .int .i64 x2, .int .i64 x3, .int .i64 x4, .int .i64 x5, .int .i64 x6, .int .i64 x7, .slice ra rn rc] 34) := BV.out.below hb2 BV.out.lt
     obtain ⟨Y, hY⟩ : ∃ Y, (w2.setCell ⟨q, 7, none⟩ (.int .i64 x7)).setCell ⟨q, 8, none⟩ (.slice va rn vc) = Y := ⟨_, rfl⟩
     have BY : Hid (Box Y q #[.int .i64 x0, .int .i64 x1, .int .i64 x2, .int .i64 x3, .int .i64 x4, .int .i64 x5, .int .i64 x6, .int .i64 x7, .slice va rn vc] 34) := by rw [← hY]; exact (BC2.out.put 7 _).put 8 _
     have HBY : Hid (Below q wr Y) := by rw [← hY]; exact (HB2.out.setCell (Nat.le_refl _) _).setCell (Nat.le_refl _) _
     have HOY : Hid (Y.ownsRow q 3 1 (.slice va rn vc) rn (L.map I)) := by
       have hwb : (Value.slice va rn vc).ownBlock ≠ some q := fun e => by have := (HO2.out.lt _ e).1; have := HQV.out; omega
       rw [← hY]
       exact own_setCell_far (own_setCell_far (own_weaken HO2.out (by have := HQV.out; omega)) hwb _) hwb _
     have HY : Hid ((w2.setCell ⟨q, 7, none⟩ (.int .i64 x7)).setCell ⟨q, 8, none⟩ (.slice va rn vc) = Y) := hY
     clear hown hb2 hY u0 u1 u2 u3' u4 u5 u6 u7 u8 z7 z8
     obtain ⟨u0, u1, u2, u3', u4, u5, u6, u7, u8, z7, z8⟩ := nineU_of BC2.out
     go_upto_region 7 with (fail)
     rw [HY.out]
     clear u0 u1 u2 u3' u4 u5 u6 u7 u8 z7 z8 HY
     obtain ⟨u0, u1, u2, u3', u4, u5, u6, u7, u8, z7, z8⟩ := nineU_of BY.out
     obtain ⟨q4, hq4⟩ : ∃ q4, Y.heap.size = q4 := ⟨_, rfl⟩
     obtain ⟨Z, hZ⟩ : ∃ Z, Y.alloc (.cells #[.int .i64 x0, .int .i64 x1, .int .i64 x2, .int .i64 x3, .int .i64 x4, .int .i64 x5, .int .i64 x6, .int .i64 x7, .slice va rn vc] 34) = Z := ⟨_, rfl⟩
     have hbz : Below q wr Z := by rw [← hZ]; exact HBY.out.alloc (by have := HBY.out.size; have := HQ.out; omega) _
     have HOZ : Hid (Z.ownsRow q 3 1 (.slice va rn vc) rn (L.map I)) := by rw [← hZ]; exact HOY.out.alloc _
     have SRC : Hid (∀ (j : Nat) (y : Value), (callV ⟨x0, x1, x2, x3, x4, x5, x6, x7⟩ (.slice va rn vc))[j]? = some y → Z.cell? ((⟨q4, 0, none⟩ : Addr).add j) = some y) := by
       rw [← hZ, ← hq4]
       exact callV_srcU Y ⟨x0, x1, x2, x3, x4, x5, x6, x7⟩ (.slice va rn vc) 34
     have hll := toldL_len f rs k
     obtain ⟨vs, hrow, back⟩ := HT.out.app (by omega) hbz (by rw [HQ.out]; exact Nat.le_refl _) LQ
     have HROW : Hid (Z.ownsRow sz 34 9 u3 (toldL f rs k).length vs) := hrow
     have HBACK : Hid (∀ (v' : Value) (w' : World), w'.ownsRow sz 34 9 v' ((toldL f rs k).length + 1) (vs ++ callV ⟨x0, x1, x2, x3, x4, x5, x6, x7⟩ (.slice va rn vc)) → Z.grownBy w' u3.ownBlock → (v'.ownBlock = u3.ownBlock ∨ v'.ownBlock = some Z.heap.size) → ToldAt w' sz v' (toldL f rs (k + 1))) := fun v' w' h1 h2 h3 => by
       rw [HN.out]
       have hl := HLEN.out
       exact back v' (.slice va rn vc) w' (⟨x0, x1, x2, x3, x4, x5, x6, x7⟩, L) (by show World.ownsRow _ _ _ _ _ _ _; rw [show (((⟨x0, x1, x2, x3, x4, x5, x6, x7⟩ : CaD), L) : CaR).2.length = rn from hl]; exact HOZ.out) (by show L.length ≤ _; omega) h1 h2 h3
     have HBZ : Hid (Below sz w Z) := HB.out.trans (hbz.mono LQ)
     have LSZ : sz ≤ Z.heap.size := by have := hbz.size; have := HQ.out; omega
     have HZ : Hid (Y.alloc (.cells #[.int .i64 x0, .int .i64 x1, .int .i64 x2, .int .i64 x3, .int .i64 x4, .int .i64 x5, .int .i64 x6, .int .i64 x7, .slice va rn vc] 34) = Z) := hZ
     have HQ4 : Hid (Y.heap.size = q4) := hq4
     obtain ⟨nl, hnl⟩ : ∃ nl, (toldL f rs k).length = nl := ⟨_, rfl⟩
     have HNL : Hid ((toldL f rs k).length = nl) := hnl
     rw [hnl] at hll
     clear hZ hq4 hbz hrow back hnl
     go_wp2_with
       (at_builtin
        first | rw [HZ.out] | skip
        first | rw [HQ4.out] | skip
        refine wpList_append_own_at _ rfl _ _ 48 rfl sz 34 i0 (.agg #[.int .i64 0, .int .i64 0, .int .i64 0, .int .i64 0, .int .i64 0, .int .i64 0, .int .i64 0, .int .i64 0, .slice none 0 0]) 9 88 Try.underlying48 hi hz0 hz1 hz2 rfl (by decide) u3 nl vs rfl (by rw [← HNL.out]; exact HROW.out) ⟨q4, 0, none⟩ 1 1 (callV ⟨x0, x1, x2, x3, x4, x5, x6, x7⟩ (.slice va rn vc)) rfl rfl SRC.out (callV_oneU _ _ _ _) (by unfold maxLen; omega) (by omega) LSZ ?_
        intro v' w5 own' gr _ at'
        have HT5 : Hid (ToldAt w5 sz v' (toldL f rs (k + 1))) := HBACK.out v' w5 (by rw [HNL.out]; exact own') gr at'
        have HB5 : Hid (Below sz w w5) := HBZ.out.grown gr LSZ (fun b e => (HROW.out.lt b e).1)
        clear own' gr at')
     (try go_wp2)
     exact ⟨⟨k + 1, by omega, by go_num, HT5.out, HB5.out⟩, by simp [intOf]; omega⟩
theorem implTold_any (v0 v1 v2 v3 v5 v6 v7 : Value) (ca : Option Addr) (m cc : Nat) (f : Nat → CaD) (rs : Nat → List Int) (w : World) (hm : m ≤ 1048576) (h : CasN w ca m f rs) :
   Calls Try.prog 13 #[.agg #[v0, v1, v2, v3, .slice ca m cc, v5, v6, v7]] w fun e w' => ∃ v, e = .returned v ∧ ToldAt w' w.heap.size v (toldL f rs m) ∧ Below w.heap.size w w' := by
 obtain ⟨W, hW⟩ : ∃ W, w.alloc (.cells #[v0, v1, v2, v3, .slice ca m cc, v5, v6, v7] 57) = W := ⟨_, rfl⟩
 have hb0 : Below w.heap.size w W := by rw [← hW]; exact (Below.refl _ w).alloc (Nat.le_refl _) _
 have HB0 : Hid (Below w.heap.size w W) := hb0
 have HC : Hid (CasN W ca m f rs) := h.below hb0 (Nat.le_refl _)
 have HW : Hid (w.alloc (.cells #[v0, v1, v2, v3, .slice ca m cc, v5, v6, v7] 57) = W) := hW
 clear h hb0 hW
 go_enter Try.func13, Try.ntmps13
 go_wp2_with fail
 rw [HW.out]
 refine (impl_toldOf ca m cc f rs W hm HC.out).mono ?_
 rintro e w2 ⟨v, rfl, hT, hb2⟩
 have HT : Hid (ToldAt w2 w.heap.size v (toldL f rs m)) := hT.weaken HB0.out.size
 have HB2 : Hid (Below w.heap.size w w2) := HB0.out.trans (hb2.mono HB0.out.size)
 clear hT hb2
 go_wp2
 go_ret
 first | exact ⟨HT.out, HB2.out⟩ | exact ⟨_, rfl, HT.out, HB2.out⟩
inductive SmallTy : Ty → Prop
 | i : SmallTy .i
 | b : SmallTy .b
 | l (T : TypeId) (k : Nat) (fs : List Ty) (hk : k ≤ 9) (h : ∀ t ∈ fs, SmallTy t) : SmallTy (.l T k fs)
theorem cntL_big : ∀ {cs : List Cel}, (∀ (j : Nat) (c : Cel), cs[j]? = some c → c.cnt ≤ 1 + 9 * c.big) → cntL cs ≤ cs.length + 9 * bigL cs
 | [], _ => by simp [cntL]
 | c :: cs, h => by
   have h1 := h 0 c (by simp)
   have h2 := cntL_big (cs := cs) (fun j d hd => h (j + 1) d (by simpa using hd))
   simp only [cntL, bigL, List.length_cons]
   omega
theorem cnt_big {c : Cel} {t : Ty} (h : Has c t) : SmallTy t → c.cnt ≤ 1 + 9 * c.big := by
 induction h with
 | i x => intro _; simp [Cel.cnt]
 | b x => intro _; simp [Cel.cnt]
 | s x => intro _; simp only [Cel.cnt]; omega
 | l T k n cs fs hk h1 h2 ih =>
   intro hs
   cases hs with
   | l _ _ _ hk9 hfs =>
     have hb : cntL cs ≤ cs.length + 9 * bigL cs := cntL_big fun j c hc => by
       have hj : j < n * k := by rw [← h1]; exact (List.getElem?_eq_some_iff.1 hc).1
       have hk0 : 0 < k := Nat.pos_of_ne_zero fun h0 => by rw [h0] at hj; omega
       have hm : j % k < fs.length := by rw [hk]; exact Nat.mod_lt _ hk0
       exact ih j c _ hc (List.getElem?_eq_getElem hm) (hfs _ (List.getElem_mem hm))
     have h3 : n * k ≤ n * 9 := Nat.mul_le_mul_left _ hk9
     simp only [Cel.cnt, Cel.big]
     omega
theorem tcnt_le : ∀ cs : List Cel, tcnt cs ≤ cntL cs
 | [] => Nat.le_refl _
 | .l _ _ _ cs :: r => by have := tcnt_le r; simp only [tcnt, cntL, Cel.cnt]; omega
 | .i _ :: r => by have := tcnt_le r; simp only [tcnt, cntL, Cel.cnt]; omega
 | .b _ :: r => by have := tcnt_le r; simp only [tcnt, cntL, Cel.cnt]; omega
 | .s _ :: r => by have := tcnt_le r; simp only [tcnt, cntL, Cel.cnt]; omega
theorem small_ints {fs : List Ty} (h : ∀ t ∈ fs, t = .i ∨ t = .b) : ∀ t ∈ fs, SmallTy t := by
 intro t ht
 rcases h t ht with h1 | h1
 · rw [h1]; exact .i
 · rw [h1]; exact .b
theorem small_machine : ∀ t ∈ tyMachine, SmallTy t := by
 have e1 : ∀ t ∈ [Ty.i], SmallTy t := small_ints (by simp)
 have e2 : ∀ t ∈ tyWord, SmallTy t := small_ints (by simp [tyWord])
 have e3 : ∀ t ∈ tyEntry, SmallTy t := small_ints (by simp [tyEntry])
 have e4 : ∀ t ∈ tyOp, SmallTy t := small_ints (by simp [tyOp])
 have e5 : ∀ t ∈ tyPair, SmallTy t := small_ints (by simp [tyPair])
 have e6 : ∀ t ∈ tyHelp, SmallTy t := small_ints (by simp [tyHelp])
 have e7 : ∀ t ∈ tyDesc, SmallTy t := by
   intro t ht
   simp only [tyDesc, List.mem_cons, List.not_mem_nil, or_false] at ht
   rcases ht with rfl | rfl | rfl | rfl | rfl
   · exact .i
   · exact .i
   · exact .l _ _ _ (by omega) e3
   · exact .i
   · exact .l _ _ _ (by omega) e1
 have e8 : ∀ t ∈ tyThread, SmallTy t := by
   intro t ht
   simp only [tyThread, List.mem_cons, List.not_mem_nil, or_false] at ht
   rcases ht with rfl | rfl | rfl | rfl | rfl
   · exact .l _ _ _ (by omega) e4
   · exact .i
   · exact .b
   · exact .l _ _ _ (by omega) e5
   · exact .l _ _ _ (by omega) e6
 have e9 : ∀ t ∈ tyCall, SmallTy t := by
   intro t ht
   simp only [tyCall, List.mem_cons, List.not_mem_nil, or_false] at ht
   rcases ht with rfl | rfl | rfl | rfl | rfl | rfl | rfl | rfl | rfl <;> first | exact .i | exact .l _ _ _ (by omega) e1
 intro t ht
 simp only [tyMachine, List.mem_cons, List.not_mem_nil, or_false] at ht
 rcases ht with rfl | rfl | rfl | rfl | rfl | rfl | rfl | rfl
 · exact .l _ _ _ (by omega) e2
 · exact .l _ _ _ (by omega) e7
 · exact .l _ _ _ (by omega) e8
 · exact .i
 · exact .l _ _ _ (by omega) e9
 · exact .l _ _ _ (by omega) e1
 · exact .l _ _ _ (by omega) e1
 · exact .i
theorem machine_cnt {cs : List Cel} (h : HasL cs tyMachine) (hb : bigL cs ≤ 1048576) : (1 : Int) + (tcnt cs : Int) ≤ 4611686018427387904 := by
 have h8 : cs.length = 8 := h.1
 have h1 : cntL cs ≤ cs.length + 9 * bigL cs := cntL_big fun j c hc => by
   have hj : j < tyMachine.length := by rw [← h.1]; exact (List.getElem?_eq_some_iff.1 hc).1
   exact cnt_big (h.2 j c _ hc (List.getElem?_eq_getElem hj)) (small_machine _ (List.getElem_mem hj))
 have h2 := tcnt_le cs
 omega
end
end Go.Proofs.Ytecheopkfhfgkaa
