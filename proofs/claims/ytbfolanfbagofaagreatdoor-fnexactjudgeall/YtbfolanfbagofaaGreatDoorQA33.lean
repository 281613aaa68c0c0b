/- Texts joined: ImplVal, ImplVal2, SpecMean, Place, RowAt, OwnerAt, CountAt, StateAt, ViaAt. -/
import Derived.Test.YtbfolanfbagofaaGreatDoorQA32
import Derived.Test.YtbfolanfbagofaaGreatDoorQA13
import Derived.Test.YtbfolanfbagofaaGreatDoorQA04
import Derived.Deep.RegionHeld3
import Derived.Test.YtbfolanfbagofaaGreatDoorQA07
import Derived.Test.YtbfolanfbagofaaGreatDoorQA01
import Derived.Laws.AppendOwn
import Derived.Test.YtbfolanfbagofaaGreatDoorRows
import Derived.WalkKit
import Derived.WalkSmall
import Derived.ProofKit
import Derived.Below
import Derived.Laws.StructEq
import Derived.ChangeKeysEq
import Derived.OwnWalk
set_option maxHeartbeats 4000000
set_option maxRecDepth 100000
namespace Go.Proofs.YtbfolanfbagofaaGreatDoor
section
open Go.ChangeShapes Go.WideShapes Go.ChangeAt Go.RowKit
theorem own_block {w : World} {base : Nat} {e : TypeId} {size g n cap : Nat} {xs : List Value} (h : w.ownsRow base e size (.slice (some ⟨g, 0, none⟩) n cap) n xs) : ∃ cur, w.heap[g]? = some (.cells cur e (0, 0)) ∧ cur.size = cap * size := by
 rcases h.2 with ⟨h0, _⟩ | ⟨g', cap', cur, hv, _, hh, _, _, hs, _⟩
 · cases h0
 · cases hv
   exact ⟨cur, hh, hs⟩
theorem trip_src {w : World} {a : Option Addr} {n : Nat} {es : List Int} (h : TripAt w a n es) : n = 0 ∨ ∃ ad, a = some ad ∧ ∀ j v, (es.map I)[j]? = some v → w.cell? (ad.add j) = some v := by
 rcases h.2.2 with h0 | ⟨b, o, rfl, g⟩
 · exact .inl h0
 · refine .inr ⟨_, rfl, fun j v hj => ?_⟩
   have hl := h.1
   have hjl : j < es.length := by
     rcases Nat.lt_or_ge j es.length with h1 | h1
     · exact h1
     · rw [List.getElem?_eq_none (by simpa using h1)] at hj; cases hj
   rw [show (⟨b, o, none⟩ : Addr).add j = ⟨b, o + j, none⟩ by simp [Addr.add], g j (by omega)]
   rw [List.getElem?_map, List.getElem?_eq_getElem hjl] at hj
   simpa [List.getD, hjl] using hj
theorem trip_block {w : World} {g n : Nat} {t : TypeId} {es : List Int} (h : w.heap[g]? = some (.cells (es.map I).toArray t (0, 0))) (hl : es.length = n * 3) (hn : n ≤ 1048576) : TripAt w (some ⟨g, 0, none⟩) n es := by
 refine ⟨hl, hn, .inr ⟨g, 0, rfl, fun i hi => ?_⟩⟩
 simp [World.cell?, h, List.getD, show i < es.length by omega]
theorem size3 : (Tryz.prog.info? 161).map (·.size) = some 3 := by kernel_rfl
theorem tryOf_none (x t s : Int) (da : Option Addr) (dn dc : Nat) (w : World) (h : inB t 1 (dn : Int) = false) :
   Calls Tryz.prog 139 #[WordV x t s, .slice da dn dc] w fun e w' => e = .returned (.pointer none) ∧ Below w.heap.size w w' := by
 have HT : Hid (inB t 1 (dn : Int) = false) := h
 clear h
 go_enter Tryz.func139, Tryz.ntmps139
 go_wp2_with fail
 refine (within_g t 1 _ _).mono ?_
 rintro e w1 ⟨rfl, rfl⟩
 rw [HT.out]
 go_wp2
 go_ret
 exact ⟨rfl, (Below.refl _ w).alloc (Nat.le_refl _) _⟩
abbrev TryC (sq : Int) (y : Bool) (g n : Nat) : Array Value := #[.int .i64 sq, .bool y, .slice (some ⟨g, 0, none⟩) n n]
theorem tryOf_some (x s : Int) (j : Nat) (b o dn dc : Nat) (d : DK) (ea : Option Addr) (ec : Nat) (ra : Option Addr) (rc : Nat) (w : World) (hj : j < dn) (hdn : dn ≤ 1048576) (h5 : Five w b (o + j * 5) d ea ec ra rc) (h6 : TripAt w ea d.en d.es) :
   Calls Tryz.prog 139 #[WordV x ((j : Int) + 1) s, .slice (some ⟨b, o, none⟩) dn dc] w fun e w' => ∃ t g : Nat, e = .returned (.pointer (some ⟨t, 0, none⟩)) ∧ Box w' t (TryC d.sq (d.st == 2) g d.en) 234 ∧ TripAt w' (some ⟨g, 0, none⟩) d.en d.es ∧ Below w.heap.size w w' := by
 obtain ⟨dsq, dst, den, des, dcd, drn, drs⟩ := d
 dsimp only at h6 ⊢
 obtain ⟨f0, f1, f2, f3, f4⟩ := h5
 dsimp only at f0 f1 f2 f3 f4
 have H6 : Hid (TripAt w ea den des) := h6
 have hen := h6.2.1
 have HL : Hid (des.length = den * 3) := h6.1
 have hq1 : b < w.heap.size := World.block_lt_of_cell? w _ f0
 have hj0 : (0 : Int) ≤ (j : Int) := by omega
 have hj1 : (j : Int) < (dn : Int) := by omega
 have HT : Hid (inB ((j : Int) + 1) 1 (dn : Int) = true) := inB_yes (by omega)
 have HB2 : Hid (Below w.heap.size w ((w.alloc (.cells #[.int .i64 x, .int .i64 ((j : Int) + 1), .int .i64 s] 125)).alloc (.cells (DescC dsq dst ea den ec dcd ra drn rc) 130))) := ((Below.refl _ w).alloc (Nat.le_refl _) _).alloc (by simp) _
 have Y0 : Hid (Box ((w.alloc (.cells #[.int .i64 x, .int .i64 ((j : Int) + 1), .int .i64 s] 125)).alloc (.cells (DescC dsq dst ea den ec dcd ra drn rc) 130)) (w.heap.size + 1) (DescC dsq dst ea den ec dcd ra drn rc) 130) := by
   have := box_of (w.alloc (.cells #[.int .i64 x, .int .i64 ((j : Int) + 1), .int .i64 s] 125)) (DescC dsq dst ea den ec dcd ra drn rc) 130
   simp at this
   exact this
 obtain ⟨i0, hi, hz0, hz1, hz2⟩ := info_parts infoEntry
 clear h6
 go_enter Tryz.func139, Tryz.ntmps139
 go_wp2_with fail
 refine (within_g _ 1 _ _).mono ?_
 rintro e w0 ⟨rfl, rfl⟩
 rw [HT.out]
 go_wp2_with (first
   | (at_make
      refine wpList_make_full _ rfl _ _ 128 rfl (w.heap.size + 1 + 1) 161 i0 (.agg #[.int .i64 0, .int .i64 0, .int .i64 0]) 3 Tryz.underlying128 hi hz0 hz1 .i64 .i64 _ _ den rfl rfl rfl rfl (by rw [hz2]; omega) (by unfold maxLen; omega) (by simp) ?_
      intro w1 own1 grow1
      have HB1' := HB2.out.grown grow1 (by simp; omega) (fun k e => by cases e)
      have HB1 : Hid (Below w.heap.size w w1) := HB1'
      have Y1 : Hid (Box w1 (w.heap.size + 1) (DescC dsq dst ea den ec dcd ra drn rc) 130) := Y0.out.below ((Below.refl (w.heap.size + 1 + 1) _).grown grow1 (by simp) (fun k e => by cases e)) (by omega)
      obtain ⟨cur, hcur, hsz⟩ := own_block own1
      simp only [World.size_alloc] at hcur
      obtain ⟨_, _, u2, _, _, _, _, _, _, _⟩ := Y1.out.desc
      clear own1 grow1 HB1'))
 obtain ⟨w2, hrun, hg2, hf2⟩ := run_copy3 (P := Tryz.prog) w1 128 128 3 161 (w.heap.size + 1 + 1) den den ea ec cur _ (des.map I) Tryz.underlying128 size3 hcur hsz (by rw [List.length_map]; exact HL.out) (trip_src (H6.out.below HB1.out (Nat.le_refl _))) news3
 rw [hrun]
 have T2 : Hid (TripAt w2 (some ⟨w.heap.size + 1 + 1, 0, none⟩) den des) := trip_block hg2 HL.out hen
 have BB : Hid (Below w.heap.size w w2) := hf2 _ _ HB1.out (by omega)
 have Y2 : Hid (Box w2 (w.heap.size + 1) (DescC dsq dst ea den ec dcd ra drn rc) 130) := Y1.out.below (hf2 (w.heap.size + 1 + 1) w1 (Below.refl _ _) (Nat.le_refl _)) (by omega)
 have hlt2 : w.heap.size + 1 < w2.heap.size := Y2.out.lt
 obtain ⟨y0, y1, y2, y3, y4, _, _, _, _, _⟩ := Y2.out.desc
 clear hcur hsz hrun hg2 hf2 HB1 Y1 Y0 HB2 u2
 go_wp2
 go_ret
 refine ⟨w2.heap.size, w.heap.size + 1 + 1, rfl, box_of w2 _ _, T2.out.below ((Below.refl w2.heap.size w2).alloc (Nat.le_refl _) _) (Nat.le_refl _), BB.out.alloc BB.out.size _⟩
theorem meansAt_nil (sq at_ : Int) (w : World) : Calls Tryz.prog 140 #[.pointer none, .int .i64 sq, .int .i64 at_] w fun e w' => e = .returned (.int .i64 0) ∧ Below w.heap.size w w' := by
 go_enter Tryz.func140, Tryz.ntmps140
 go_wp2
 go_ret
 exact ⟨rfl, Below.refl _ _⟩
theorem Box.try3 {w : World} {b : Nat} {T : TypeId} {sq : Int} {y : Bool} {g n : Nat} (h : Box w b (TryC sq y g n) T) :
   w.cell? ⟨b, 0, none⟩ = some (.int .i64 sq) ∧ w.cell? ⟨b, 1, none⟩ = some (.bool y) ∧ w.cell? ⟨b, 2, none⟩ = some (.slice (some ⟨g, 0, none⟩) n n) := ⟨h.cell 0, h.cell 1, h.cell 2⟩
theorem meansAt_some (t g : Nat) (dsq dst : Int) (en : Nat) (es : List Int) (sq at_ : Int) (w : World) (hbx : Box w t (TryC dsq (dst == 2) g en) 234) (h6 : TripAt w (some ⟨g, 0, none⟩) en es) :
   Calls Tryz.prog 140 #[.pointer (some ⟨t, 0, none⟩), .int .i64 sq, .int .i64 at_] w fun e w' => e = .returned (.int .i64 (if dsq = sq ∧ dst = 2 then (entM es en at_).2.2.1 else (entM es en at_).2.1)) ∧ Below w.heap.size w w' := by
 obtain ⟨V, hV⟩ : ∃ V, (if dsq = sq ∧ dst = 2 then (entM es en at_).2.2.1 else (entM es en at_).2.1) = V := ⟨_, rfl⟩
 rw [hV]
 have HV : Hid ((if dsq = sq ∧ dst = 2 then (entM es en at_).2.2.1 else (entM es en at_).2.1) = V) := hV
 have H6 : Hid (TripAt w (some ⟨g, 0, none⟩) en es) := h6
 have HX : Hid (Box w t (TryC dsq (dst == 2) g en) 234) := hbx
 obtain ⟨x0, x1, x2⟩ := hbx.try3
 have hen := h6.2.1
 clear hV h6 hbx
 by_cases hk : idxE es en at_ < en
 · obtain ⟨k, hK⟩ : ∃ k, idxE es en at_ = k := ⟨_, rfl⟩
   have HK : Hid (idxE es en at_ = k) := hK
   have hlt : k < en := hK ▸ hk
   rw [entM_yes hK hlt] at HV
   clear hk hK
   go_enter Tryz.func140, Tryz.ntmps140
   go_wp2_with fail
   refine (cutAt_some at_ g 0 en en k es _ H6.out (Nat.le_refl _) HK.out hlt).mono ?_
   rintro e w1 ⟨rfl, hb1⟩
   have HB : Hid (Below w.heap.size w w1) := hb1
   obtain ⟨y0, y1, y2⟩ := (HX.out.below hb1 HX.out.lt).try3
   rcases (H6.out.below hb1 (Nat.le_refl _)).2.2 with h0 | ⟨p1, o1, e0, g1⟩
   · omega
   cases e0
   have e1 := g1 (k * 3) (by omega)
   have e2 := g1 (k * 3 + 1) (by omega)
   have e3 := g1 (k * 3 + 2) (by omega)
   obtain ⟨x, hx⟩ : ∃ x, es.getD (k * 3) 0 = x := ⟨_, rfl⟩
   obtain ⟨y, hy⟩ : ∃ y, es.getD (k * 3 + 1) 0 = y := ⟨_, rfl⟩
   obtain ⟨z, hz⟩ : ∃ z, es.getD (k * 3 + 2) 0 = z := ⟨_, rfl⟩
   rw [hy, hz] at HV
   rw [hx] at e1
   rw [hy, ← Nat.add_assoc] at e2
   rw [hz, ← Nat.add_assoc] at e3
   simp only [Nat.zero_add] at e1 e2 e3
   clear g1 hx hy hz hb1 x0 x1 x2
   by_cases hst : dst = 2
   · have hst' : (dst == 2) = true := by simpa using hst
     rw [hst'] at y1
     by_cases hsq : dsq = sq
     · have hsq' : (dsq == sq) = true := by simpa using hsq
       obtain rfl : V = z := by rw [← HV.out, if_pos ⟨hsq, hst⟩]
       clear hst hsq HV hst'
       go_wp2
       go_ret
       exact ⟨rfl, HB.out⟩
     · have hsq' : (dsq == sq) = false := by simpa using hsq
       obtain rfl : V = y := by rw [← HV.out, if_neg (fun h => hsq h.1)]
       clear hst hsq HV hst'
       go_wp2
       go_ret
       exact ⟨rfl, HB.out⟩
   · have hst' : (dst == 2) = false := by simpa using hst
     rw [hst'] at y1
     obtain rfl : V = y := by rw [← HV.out, if_neg (fun h => hst h.2)]
     clear hst HV hst'
     go_wp2
     go_ret
     exact ⟨rfl, HB.out⟩
 · have HK : Hid (¬ idxE es en at_ < en) := hk
   obtain rfl : V = 0 := by rw [← HV.out]; unfold entM; rw [if_neg hk]; simp
   clear hk HV
   go_enter Tryz.func140, Tryz.ntmps140
   go_wp2_with fail
   refine (cutAt_none at_ _ en en es _ H6.out HK.out).mono ?_
   rintro e w1 ⟨rfl, hb1⟩
   have HB : Hid (Below w.heap.size w w1) := hb1
   clear hb1
   go_wp2
   go_ret
   exact ⟨rfl, HB.out⟩
theorem implValueAt_any (a : Option Addr) (m c : Nat) (fs : List Int) (da : Option Addr) (dn dc : Nat) (ds : List DK) (at_ : Int) (w : World) (h1 : TripAt w a m fs) (h2 : DescAt w da dn ds) :
   Calls Tryz.prog 89 #[.slice a m c, .slice da dn dc, .int .i64 at_] w fun e w' => e = .returned (.int .i64 (valM fs m ds at_)) ∧ Below w.heap.size w w' := by
 have H1 : Hid (TripAt w a m fs) := h1
 have H2 : Hid (DescAt w da dn ds) := h2
 have hm := h1.2.1
 have hdn := h2.2.1
 obtain ⟨V, hV⟩ : ∃ V, valM fs m ds at_ = V := ⟨_, rfl⟩
 rw [hV]
 have HV : Hid (valM fs m ds at_ = V) := hV
 clear h1 h2 hV
 by_cases hneg : at_ < 0
 · obtain rfl : V = 0 := by rw [← HV.out]; unfold valM; rw [if_neg (by omega)]
   clear HV
   go_enter Tryz.func89, Tryz.ntmps89
   go_wp2
   go_ret
   exact ⟨rfl, Below.refl _ _⟩
 by_cases hbig : (m : Int) ≤ at_
 · obtain rfl : V = 0 := by rw [← HV.out]; unfold valM; rw [if_neg (by omega)]
   clear HV
   go_enter Tryz.func89, Tryz.ntmps89
   go_wp2
   go_ret
   exact ⟨rfl, Below.refl _ _⟩
 obtain ⟨i, rfl⟩ : ∃ i : Nat, at_ = (i : Int) := ⟨at_.toNat, by omega⟩
 have hi0 : (0 : Int) ≤ (i : Int) := by omega
 have hi1 : (i : Int) < (m : Int) := by omega
 rcases H1.out.2.2 with h0 | ⟨p1, o1, rfl, g1⟩
 · omega
 have e1 := g1 (i * 3) (by omega)
 have e2 := g1 (i * 3 + 1) (by omega)
 have e3 := g1 (i * 3 + 2) (by omega)
 have HV2 : Hid (wordM (fs.getD (i * 3) 0) (fs.getD (i * 3 + 1) 0) (fs.getD (i * 3 + 2) 0) ds i = V) := by
   show _ = _
   rw [← HV.out]
   unfold valM
   rw [if_pos ⟨hi0, hi1⟩]
   simp
 obtain ⟨x, hx⟩ : ∃ x, fs.getD (i * 3) 0 = x := ⟨_, rfl⟩
 obtain ⟨t, ht⟩ : ∃ y, fs.getD (i * 3 + 1) 0 = y := ⟨_, rfl⟩
 obtain ⟨s, hs⟩ : ∃ z, fs.getD (i * 3 + 2) 0 = z := ⟨_, rfl⟩
 rw [hx, ht, hs] at HV2
 rw [hx] at e1
 rw [ht, ← Nat.add_assoc] at e2
 rw [hs, ← Nat.add_assoc] at e3
 clear g1 hx ht hs HV
 have HBX : Hid (Below w.heap.size w (w.alloc (.cells #[.int .i64 x, .int .i64 t, .int .i64 s] 125))) := (Below.refl _ w).alloc (Nat.le_refl _) _
 go_enter Tryz.func89, Tryz.ntmps89
 go_wp2_with fail
 refine (isMark_any x t s _).mono ?_
 rintro e w1 ⟨rfl, hb1⟩
 have X1 : Hid (Box w1 w.heap.size #[.int .i64 x, .int .i64 t, .int .i64 s] 125) := (box_of w _ _).below hb1 (by simp)
 have HB1 : Hid (Below w.heap.size w w1) := HBX.out.trans (hb1.mono (by simp))
 have hlt : w.heap.size < w1.heap.size := X1.out.lt
 obtain ⟨x0, x1, x2, _, _, _⟩ := X1.out.three
 clear hb1 e1 e2 e3 HBX
 by_cases ht : t = 0
 · subst ht
   obtain rfl : V = x := by rw [← HV2.out]; simp [wordM]
   rw [show ((0 : Int) != 0) = false from rfl]
   clear HV2
   go_wp2
   go_ret
   exact ⟨rfl, HB1.out⟩
 · rw [show (t != 0) = true by simpa using ht]
   have K0 : Hid (w1.cell? ⟨w.heap.size, 0, none⟩ = some (.int .i64 x) ∧ w1.cell? ⟨w.heap.size, 1, none⟩ = some (.int .i64 t) ∧ w1.cell? ⟨w.heap.size, 2, none⟩ = some (.int .i64 s)) := ⟨x0, x1, x2⟩
   rcases hT : inB t 1 (dn : Int) with _ | _
   · have HT : Hid (inB t 1 (dn : Int) = false) := hT
     obtain rfl : V = 0 := by rw [← HV2.out]; unfold wordM; rw [if_neg ht, H2.out.1, hT]; rfl
     clear HV2 hT ht
     go_wp2_with fail
     go_region_held3 (fun w' => w'.cell? ⟨w.heap.size, 0, none⟩ = some (.int .i64 x) ∧ w'.cell? ⟨w.heap.size, 1, none⟩ = some (.int .i64 t) ∧ w'.cell? ⟨w.heap.size, 2, none⟩ = some (.int .i64 s))
       (first | (with_reducible exact K2.out) | (with_reducible exact K1.out) | (with_reducible exact K0.out) | go_keep)
       (first
       | (go_at_call 139
          refine (tryOf_none x t s da dn dc _ HT.out).mono ?_
          rintro e w2 ⟨rfl, hb2⟩
          have hb2' : Below w1.heap.size w1 w2 := (Below.refl _ w1).drew.trans hb2
          have hs2 := hb2'.size
          have HB2 : Hid (Below w.heap.size w w2) := HB1.out.trans (hb2'.mono HB1.out.size)
          have K1 : Hid (w2.cell? ⟨w.heap.size, 0, none⟩ = some (.int .i64 x) ∧ w2.cell? ⟨w.heap.size, 1, none⟩ = some (.int .i64 t) ∧ w2.cell? ⟨w.heap.size, 2, none⟩ = some (.int .i64 s)) := ⟨(hb2'.cell hlt).trans x0, (hb2'.cell hlt).trans x1, (hb2'.cell hlt).trans x2⟩
          clear hb2)
       | (go_at_call 140
          refine (meansAt_nil s i _).mono ?_
          rintro e w3 ⟨rfl, hb3⟩
          have HB3 : Hid (Below w.heap.size w w3) := HB2.out.trans (hb3.mono HB2.out.size)
          have K2 : Hid (w3.cell? ⟨w.heap.size, 0, none⟩ = some (.int .i64 x) ∧ w3.cell? ⟨w.heap.size, 1, none⟩ = some (.int .i64 t) ∧ w3.cell? ⟨w.heap.size, 2, none⟩ = some (.int .i64 s)) := ⟨(hb3.cell (Nat.lt_of_lt_of_le hlt hs2)).trans K1.out.1, (hb3.cell (Nat.lt_of_lt_of_le hlt hs2)).trans K1.out.2.1, (hb3.cell (Nat.lt_of_lt_of_le hlt hs2)).trans K1.out.2.2⟩
          clear hb3))
     clear K0 K1 K2 x0 x1 x2
     go_wp2
     go_ret
     exact ⟨rfl, HB3.out⟩
   · have htv := inB_val hT
     obtain ⟨j, rfl⟩ : ∃ j : Nat, t = (j : Int) + 1 := ⟨(t - 1).toNat, by omega⟩
     have HV3 : Hid ((if (dk ds j).sq = s ∧ (dk ds j).st = 2 then (entM (dk ds j).es (dk ds j).en i).2.2.1 else (entM (dk ds j).es (dk ds j).en i).2.1) = V) := by
       show _ = _
       rw [← HV2.out]
       unfold wordM
       rw [if_neg ht, H2.out.1, if_pos hT, show ((j : Int) + 1 - 1).toNat = j by omega]
     clear HV2 hT ht
     rcases (H2.out.below HB1.out (Nat.le_refl _)).2.2 with h0 | ⟨q1, o2, rfl, g2⟩
     · omega
     obtain ⟨ea, ec, ra, rc, h5, h6, h7⟩ := g2 j (by omega)
     have H5 : Hid (Five w1 q1 (o2 + j * 5) (dk ds j) ea ec ra rc) := h5
     have H6 : Hid (TripAt w1 ea (dk ds j).en (dk ds j).es) := h6
     have hj : j < dn := by omega
     clear g2 h5 h6 h7 htv
     go_wp2_with fail
     go_region_held3 (fun w' => w'.cell? ⟨w.heap.size, 0, none⟩ = some (.int .i64 x) ∧ w'.cell? ⟨w.heap.size, 1, none⟩ = some (.int .i64 ((j : Int) + 1)) ∧ w'.cell? ⟨w.heap.size, 2, none⟩ = some (.int .i64 s))
       (first | (with_reducible exact K2.out) | (with_reducible exact K1.out) | (with_reducible exact K0.out) | go_keep)
       (first
       | (go_at_call 139
          refine (tryOf_some x s j q1 o2 dn dc (dk ds j) ea ec ra rc _ hj hdn (H5.out.below (Below.refl w1.heap.size w1).drew (Nat.le_refl _)) (H6.out.below (Below.refl w1.heap.size w1).drew (Nat.le_refl _))).mono ?_
          rintro e w2 ⟨tt, gg, rfl, hbx2, ht2, hb2⟩
          have BX2 : Hid (Box w2 tt (TryC (dk ds j).sq ((dk ds j).st == 2) gg (dk ds j).en) 234) := hbx2
          have T2 : Hid (TripAt w2 (some ⟨gg, 0, none⟩) (dk ds j).en (dk ds j).es) := ht2
          have hb2' : Below w1.heap.size w1 w2 := (Below.refl _ w1).drew.trans hb2
          have hs2 := hb2'.size
          have HB2 : Hid (Below w.heap.size w w2) := HB1.out.trans (hb2'.mono HB1.out.size)
          have K1 : Hid (w2.cell? ⟨w.heap.size, 0, none⟩ = some (.int .i64 x) ∧ w2.cell? ⟨w.heap.size, 1, none⟩ = some (.int .i64 ((j : Int) + 1)) ∧ w2.cell? ⟨w.heap.size, 2, none⟩ = some (.int .i64 s)) := ⟨(hb2'.cell hlt).trans x0, (hb2'.cell hlt).trans x1, (hb2'.cell hlt).trans x2⟩
          clear hb2 hbx2 ht2)
       | (go_at_call 140
          refine (meansAt_some tt gg (dk ds j).sq (dk ds j).st (dk ds j).en (dk ds j).es s i _ BX2.out T2.out).mono ?_
          rintro e w3 ⟨rfl, hb3⟩
          rw [HV3.out]
          have HB3 : Hid (Below w.heap.size w w3) := HB2.out.trans (hb3.mono HB2.out.size)
          have K2 : Hid (w3.cell? ⟨w.heap.size, 0, none⟩ = some (.int .i64 x) ∧ w3.cell? ⟨w.heap.size, 1, none⟩ = some (.int .i64 ((j : Int) + 1)) ∧ w3.cell? ⟨w.heap.size, 2, none⟩ = some (.int .i64 s)) := ⟨(hb3.cell (Nat.lt_of_lt_of_le hlt hs2)).trans K1.out.1, (hb3.cell (Nat.lt_of_lt_of_le hlt hs2)).trans K1.out.2.1, (hb3.cell (Nat.lt_of_lt_of_le hlt hs2)).trans K1.out.2.2⟩
          clear hb3))
     clear K0 K1 K2 x0 x1 x2
     go_wp2
     go_ret
     exact ⟨rfl, HB3.out⟩
def meanM (fs : List Int) (m : Nat) (ds : List DK) : List Int := (List.range m).map fun (i : Nat) => valM fs m ds (i : Int)
theorem meanM_len (fs : List Int) (m : Nat) (ds : List DK) : (meanM fs m ds).length = m := by simp [meanM]
theorem meanM_at (fs : List Int) (m : Nat) (ds : List DK) {k : Nat} (h : k < m) : (meanM fs m ds).getD k 0 = valM fs m ds (k : Int) := by simp [meanM, List.getD, h]
theorem meanM_next (fs : List Int) (m : Nat) (ds : List DK) {k : Nat} (h : k < m) : (meanM fs m ds).take (k + 1) = (meanM fs m ds).take k ++ [valM fs m ds (k : Int)] := by
 rw [List.take_succ_eq_append_getElem (by rw [meanM_len]; exact h)]
 congr 2
 have := meanM_at fs m ds h
 simpa [List.getD, meanM_len, h] using this
theorem specMeaning_any (a : Option Addr) (m c : Nat) (fs : List Int) (da : Option Addr) (dn dc : Nat) (ds : List DK) (w : World) (h1 : TripAt w a m fs) (h2 : DescAt w da dn ds) :
   Calls Tryz.prog 37 #[.slice a m c, .slice da dn dc] w fun e w' => ∃ v, e = .returned v ∧ w'.ownsRow w.heap.size 3 1 v m ((meanM fs m ds).map I) ∧ Below w.heap.size w w' := by
 have H1 : Hid (TripAt w a m fs) := h1
 have H2 : Hid (DescAt w da dn ds) := h2
 have hm := h1.2.1
 clear h1 h2
 obtain ⟨i0, hi, hz0, hz1, hz2⟩ := info_parts infoInt
 go_enter Tryz.func37, Tryz.ntmps37
 go_wp2
 go_loopw [5, 6] (fun v i wr => ∃ k : Nat, k ≤ m ∧ i = .int .i64 (k : Int) ∧ wr.ownsRow w.heap.size 3 1 v k (((meanM fs m ds).take k).map I) ∧ Below w.heap.size w wr) (fun _ i _ => m - (intOf i).toNat)
 case atStart => exact ⟨0, Nat.zero_le _, rfl, own_empty (Nat.le_refl _), (Below.refl _ w).alloc (Nat.le_refl _) _⟩
 case round =>
   obtain ⟨k, hk, rfl, ho, hb⟩ := hrel
   by_cases hlt : k < m
   · have HO : Hid _ := ho
     have hk0 : (0 : Int) ≤ (k : Int) := by omega
     clear ho
     go_wp2_with fail
     refine (specValueAt_any a m c fs da dn dc ds k _ (H1.out.below hb (Nat.le_refl _)) (H2.out.below hb (Nat.le_refl _))).mono ?_
     rintro e w1 ⟨rfl, hb1⟩
     have ho1 := owns_below HO.out hb1 (Nat.le_refl _)
     have hb2 : Below w.heap.size w w1 := hb.trans (hb1.mono hb.size)
     have hB := hb2.size
     obtain ⟨x, hx⟩ : ∃ x, valM fs m ds (k : Int) = x := ⟨_, rfl⟩
     have HN : Hid ((meanM fs m ds).take (k + 1) = (meanM fs m ds).take k ++ [x]) := by rw [← hx]; exact meanM_next fs m ds hlt
     rw [hx]
     clear hx hb1 HO
     go_wp2_with (at_builtin; refine wpList_append_own _ rfl _ _ 28 rfl w.heap.size 3 i0 (.int .i64 0) 1 8 Tryz.underlying28 hi hz0 hz1 hz2 rfl (by decide) _ _ _ rfl (ho1.alloc _) ⟨w1.heap.size, 0, none⟩ 1 1 [I x] rfl rfl ?c1 ?c2 ?c3 ?c4 ?c5 ?_)
     case c1 =>
       intro j u hj
       match j, hj with
       | 0, hj => simp at hj; subst hj; simp [Addr.add]
     case c2 => intro u hu; simp at hu; subst hu; rfl
     case c3 => unfold maxLen; omega
     case c4 => omega
     case c5 => simp; omega
     · intro v1 w4 hown1 hgrow _
       have HO4 : Hid (w4.ownsRow w.heap.size 3 1 v1 (k + 1) (((meanM fs m ds).take (k + 1)).map I)) := by
         show World.ownsRow _ _ _ _ _ _ _
         rw [HN.out, List.map_append, List.map_take]
         exact hown1
       have HB4 : Hid (Below w.heap.size w w4) := (hb2.alloc hB _).grown hgrow (by simp; omega) (fun q e => (ho1.lt q e).1)
       clear hown1 hgrow ho1 hb2
       go_wp2
       go_roundw
       case rel => exact ⟨k + 1, by omega, by go_num, HO4.out, HB4.out⟩
       case measure => simp [intOf]; omega
   · obtain rfl : k = m := by omega
     have e : (meanM fs k ds).take k = meanM fs k ds := List.take_of_length_le (by rw [meanM_len]; exact Nat.le_refl _)
     rw [e] at ho
     have HO : Hid _ := ho
     clear e
     clear ho
     go_wp2
     go_ret
     exact ⟨_, rfl, HO.out, hb⟩
theorem implMeaning_any (a : Option Addr) (m c : Nat) (fs : List Int) (da : Option Addr) (dn dc : Nat) (ds : List DK) (w : World) (h1 : TripAt w a m fs) (h2 : DescAt w da dn ds) :
   Calls Tryz.prog 48 #[.slice a m c, .slice da dn dc] w fun e w' => e = .returned (.slice (some ⟨w.heap.size, 0, none⟩) m m) ∧ w'.ownsRow w.heap.size 3 1 (.slice (some ⟨w.heap.size, 0, none⟩) m m) m ((meanM fs m ds).map I) ∧ Below w.heap.size w w' := by
 have H1 : Hid (TripAt w a m fs) := h1
 have H2 : Hid (DescAt w da dn ds) := h2
 have hm := h1.2.1
 have HL : Hid ((meanM fs m ds).length = m) := meanM_len fs m ds
 clear h1 h2
 obtain ⟨i0, hi, hz0, hz1, hz2⟩ := info_parts infoInt
 go_enter Tryz.func48, Tryz.ntmps48
 go_wp2_with (at_make; refine wpList_make_full _ rfl _ _ 28 rfl w.heap.size 3 i0 (.int .i64 0) 1 Tryz.underlying28 hi hz0 hz1 .i64 .i64 _ _ m rfl rfl rfl rfl (by rw [hz2]; omega) (by unfold maxLen; omega) (Nat.le_refl _) ?_; intro w1 own1 grow1)
 have own0 : Hid (w1.ownsRow w.heap.size 3 1 (.slice (some ⟨w.heap.size, 0, none⟩) m m) m ((upto (meanM fs m ds) 0 m).map I)) := by
   show World.ownsRow _ _ _ _ _ _ _
   have e : (madeCells (Value.int .i64 0).cells (m * 1)).toList = (upto (meanM fs m ds) 0 m).map I := by
     rw [Nat.mul_one]
     exact (toList_madeCells_one _ _).trans (by simp [upto])
   rwa [e] at own1
 have hb1 : Below w.heap.size w w1 := (Below.refl _ _).grown grow1 (Nat.le_refl _) (fun k e => by cases e)
 clear own1 grow1
 go_loopw [12] (fun i wr => ∃ k : Nat, k ≤ m ∧ i = .int .i64 (k : Int) ∧ wr.ownsRow w.heap.size 3 1 (.slice (some ⟨w.heap.size, 0, none⟩) m m) m ((upto (meanM fs m ds) k m).map I) ∧ Below w.heap.size w wr) (fun i _ => m - (intOf i).toNat)
 case atStart => exact ⟨0, Nat.zero_le _, rfl, own0.out, hb1⟩
 case round =>
   obtain ⟨k, hk, rfl, ho, hb⟩ := hrel
   have HO : Hid (wr.ownsRow w.heap.size 3 1 (.slice (some ⟨w.heap.size, 0, none⟩) m m) m ((upto (meanM fs m ds) k m).map I)) := ho
   clear own0 hb1 ho
   by_cases hlt : k < m
   · have hk0 : (0 : Int) ≤ (k : Int) := by omega
     have hk1 : (k : Int) < (m : Int) := by omega
     go_wp2_with fail
     refine (implValueAt_any a m c fs da dn dc ds k _ (H1.out.below hb (Nat.le_refl _)) (H2.out.below hb (Nat.le_refl _))).mono ?_
     rintro e w2 ⟨rfl, hb2⟩
     have ho2 := owns_below HO.out hb2 (Nat.le_refl _)
     have hb02 : Below w.heap.size w w2 := hb.trans (hb2.mono hb.size)
     obtain ⟨x, hx⟩ : ∃ x, valM fs m ds (k : Int) = x := ⟨_, rfl⟩
     have hs1 := ho2.stored k (I x)
     rw [← hx, ← meanM_at fs m ds hlt, upto_step HL.out hlt, meanM_at fs m ds hlt, hx] at hs1
     have HS : Hid ((w2.setCell ⟨w.heap.size, k, none⟩ (I x)).ownsRow w.heap.size 3 1 (.slice (some ⟨w.heap.size, 0, none⟩) m m) m ((upto (meanM fs m ds) (k + 1) m).map I)) := hs1.1
     rw [hx]
     have z0 := ho2.frozenAt k
     obtain ⟨u0, hu0⟩ := own_cell ho2 hlt
     clear hs1 ho2 hb2 hx
     go_wp2
     go_roundw
     case rel => exact ⟨k + 1, by omega, by go_num, HS.out, hb02.setCell (Nat.le_refl _) _⟩
     case measure => simp [intOf]; omega
   · obtain rfl : k = m := by omega
     have HE : Hid (wr.ownsRow w.heap.size 3 1 (.slice (some ⟨w.heap.size, 0, none⟩) k k) k ((meanM fs k ds).map I)) := by
       show World.ownsRow _ _ _ _ _ _ _
       have h := HO.out
       rw [show upto (meanM fs k ds) k k = meanM fs k ds by unfold upto; rw [List.take_of_length_le (by rw [meanM_len]; exact Nat.le_refl _)]; simp] at h
       exact h
     go_wp2
     go_ret
     exact ⟨rfl, HE.out, hb⟩
def nmL : List (Int × Int) := [(1, 0), (1, 1), (1, 2), (1, 3), (2, 1), (2, 2), (2, 3), (2, 4), (2, 5), (2, 6), (3, 0), (3, 1), (3, 2), (4, 0), (5, 1), (5, 2), (5, 3), (5, 4), (5, 5), (5, 6)]
def nmA (k : Nat) : Int := (nmL.getD k (0, 0)).1
def nmB (k : Nat) : Int := (nmL.getD k (0, 0)).2
def nmCells : Array Value := (nmL.flatMap fun p => [Value.int .i64 p.1, .int .i64 p.2]).toArray
def Names (w : World) : Prop := w.var? Tryz.prog "loop.example/g00468/impl.wordNames" = some nmCells
theorem gNames : Tryz.prog.globalNamed "loop.example/g00468/impl.wordNames" = some 4 := by kernel_rfl
theorem gNamesType : (Tryz.prog.globals[4]?).map (·.type) = some 236 := by kernel_rfl
theorem Names.block {w : World} (h : Names w) : ∃ t fr, w.heap[4]? = some (.cells nmCells t fr) := by
 unfold Names at h
 simp only [World.var?, gNames, Option.bind_some] at h
 split at h
 · rename_i c t fr hb
   simp only [Option.some.injEq] at h
   subst h
   exact ⟨t, fr, hb⟩
 · cases h
theorem Names.lt {w : World} (h : Names w) : 4 < w.heap.size := by
 obtain ⟨t, fr, h1⟩ := h.block
 exact (Array.getElem?_eq_some_iff.1 h1).1
theorem Names.below {w w' : World} {B : Nat} (h : Names w) (hb : Below B w w') (hB : 4 < B) : Names w' :=
 var?_below hb gNames hB h
theorem index_names (k : Nat) (hk : k < 20) (w : World) : (Instr.index 236 (.agg nmCells) (.int .i64 (k : Int))).run Tryz.prog w = .ok (.agg #[.int .i64 (nmA k), .int .i64 (nmB k)]) w := by
 have h : k = 0 ∨ k = 1 ∨ k = 2 ∨ k = 3 ∨ k = 4 ∨ k = 5 ∨ k = 6 ∨ k = 7 ∨ k = 8 ∨ k = 9 ∨ k = 10 ∨ k = 11 ∨ k = 12 ∨ k = 13 ∨ k = 14 ∨ k = 15 ∨ k = 16 ∨ k = 17 ∨ k = 18 ∨ k = 19 := by omega
 rcases h with rfl | rfl | rfl | rfl | rfl | rfl | rfl | rfl | rfl | rfl | rfl | rfl | rfl | rfl | rfl | rfl | rfl | rfl | rfl | rfl <;> (show _ = _; kernel_rfl)
def placeN (a b : Int) : Int :=
 if a = 1 ∧ 0 ≤ b ∧ b ≤ 3 then b else if a = 2 ∧ 1 ≤ b ∧ b ≤ 6 then b + 3 else if a = 3 ∧ 0 ≤ b ∧ b ≤ 2 then b + 10 else if a = 4 ∧ b = 0 then 13 else if a = 5 ∧ 1 ≤ b ∧ b ≤ 6 then b + 13 else -1
theorem place_at (k : Nat) (hk : k < 20) : placeN (nmA k) (nmB k) = k := by
 have h : k = 0 ∨ k = 1 ∨ k = 2 ∨ k = 3 ∨ k = 4 ∨ k = 5 ∨ k = 6 ∨ k = 7 ∨ k = 8 ∨ k = 9 ∨ k = 10 ∨ k = 11 ∨ k = 12 ∨ k = 13 ∨ k = 14 ∨ k = 15 ∨ k = 16 ∨ k = 17 ∨ k = 18 ∨ k = 19 := by omega
 rcases h with rfl | rfl | rfl | rfl | rfl | rfl | rfl | rfl | rfl | rfl | rfl | rfl | rfl | rfl | rfl | rfl | rfl | rfl | rfl | rfl <;> (show _ = _; kernel_rfl)
theorem place_none (a b : Int) (h : ∀ k : Nat, k < 20 → ¬ (nmA k = a ∧ nmB k = b)) : placeN a b = -1 := by
 have e1 : ¬ (a = 1 ∧ 0 ≤ b ∧ b ≤ 3) := by
   rintro ⟨rfl, h0, h1⟩
   have h2 : b = 0 ∨ b = 1 ∨ b = 2 ∨ b = 3 := by omega
   rcases h2 with rfl | rfl | rfl | rfl
   · exact h 0 (by omega) ⟨rfl, rfl⟩
   · exact h 1 (by omega) ⟨rfl, rfl⟩
   · exact h 2 (by omega) ⟨rfl, rfl⟩
   · exact h 3 (by omega) ⟨rfl, rfl⟩
 have e2 : ¬ (a = 2 ∧ 1 ≤ b ∧ b ≤ 6) := by
   rintro ⟨rfl, h0, h1⟩
   have h2 : b = 1 ∨ b = 2 ∨ b = 3 ∨ b = 4 ∨ b = 5 ∨ b = 6 := by omega
   rcases h2 with rfl | rfl | rfl | rfl | rfl | rfl
   · exact h 4 (by omega) ⟨rfl, rfl⟩
   · exact h 5 (by omega) ⟨rfl, rfl⟩
   · exact h 6 (by omega) ⟨rfl, rfl⟩
   · exact h 7 (by omega) ⟨rfl, rfl⟩
   · exact h 8 (by omega) ⟨rfl, rfl⟩
   · exact h 9 (by omega) ⟨rfl, rfl⟩
 have e3 : ¬ (a = 3 ∧ 0 ≤ b ∧ b ≤ 2) := by
   rintro ⟨rfl, h0, h1⟩
   have h2 : b = 0 ∨ b = 1 ∨ b = 2 := by omega
   rcases h2 with rfl | rfl | rfl
   · exact h 10 (by omega) ⟨rfl, rfl⟩
   · exact h 11 (by omega) ⟨rfl, rfl⟩
   · exact h 12 (by omega) ⟨rfl, rfl⟩
 have e4 : ¬ (a = 4 ∧ b = 0) := by
   rintro ⟨rfl, rfl⟩
   exact h 13 (by omega) ⟨rfl, rfl⟩
 have e5 : ¬ (a = 5 ∧ 1 ≤ b ∧ b ≤ 6) := by
   rintro ⟨rfl, h0, h1⟩
   have h2 : b = 1 ∨ b = 2 ∨ b = 3 ∨ b = 4 ∨ b = 5 ∨ b = 6 := by omega
   rcases h2 with rfl | rfl | rfl | rfl | rfl | rfl
   · exact h 14 (by omega) ⟨rfl, rfl⟩
   · exact h 15 (by omega) ⟨rfl, rfl⟩
   · exact h 16 (by omega) ⟨rfl, rfl⟩
   · exact h 17 (by omega) ⟨rfl, rfl⟩
   · exact h 18 (by omega) ⟨rfl, rfl⟩
   · exact h 19 (by omega) ⟨rfl, rfl⟩
 unfold placeN
 rw [if_neg e1, if_neg e2, if_neg e3, if_neg e4, if_neg e5]
theorem info_int : (Tryz.prog.info? 3).map (fun i => (i.zero, i.size, i.bytes)) = some (some (.int .i64 0), 1, 8) := by kernel_rfl
theorem cells_int : Tryz.prog.cellsOf 3 = 1 := by kernel_rfl
theorem part0 (x y : Int) (w : World) : (part 3 #[.int .i64 x, .int .i64 y] 0).run Tryz.prog w = .ok (.int .i64 x) w := by kernel_rfl
theorem part1 (x y : Int) (w : World) : (part 3 #[.int .i64 x, .int .i64 y] 1).run Tryz.prog w = .ok (.int .i64 y) w := by kernel_rfl
theorem eq_names (x y a b : Int) (w : World) : (binOp .eql 203 (.agg #[.int .i64 x, .int .i64 y]) (.agg #[.int .i64 a, .int .i64 b])).run Tryz.prog w = .ok (.bool (decide (x = a ∧ y = b))) w := by
 obtain ⟨i0, hi, hz0, hz1, hz2⟩ := info_parts info_int
 rw [run_eql_struct, run_equalIn_array w 9999 _ _ Tryz.underlying203 hi, cells_int, show List.range 2 = [0, 1] from rfl]
 simp only [Op.eqItems, Sem.run_bind, Nat.zero_mul, Nat.one_mul, part0, Result.andThen_ok, run_equalIn_int w 9998 3 .i64 .i64 _ _ Tryz.underlying3]
 by_cases h0 : x = a <;> by_cases h1 : y = b <;> simp [h0, h1, part1, run_equalIn_int w 9998 3 .i64 .i64 _ _ Tryz.underlying3]
theorem placeOf_any (a b : Int) (w : World) (hN : Names w) :
   Calls Tryz.prog 142 #[.agg #[.int .i64 a, .int .i64 b]] w fun e w' => e = .returned (.int .i64 (placeN a b)) ∧ Below w.heap.size w w' := by
 have hlt := hN.lt
 obtain ⟨tn, fr, hbl⟩ := (hN.below ((Below.refl _ w).alloc (Nat.le_refl _) (.cells #[.int .i64 a, .int .i64 b] 203)) hN.lt).block
 have hsz : nmCells.size = 40 := by decide +kernel
 have hix := index_names
 clear hN
 obtain ⟨C, hC⟩ : ∃ C, C = nmCells := ⟨_, rfl⟩
 rw [← hC] at hbl hsz hix
 have HC : Hid (C = nmCells) := hC
 have HB : Hid (_) := hbl
 have HS : Hid (_) := hsz
 clear hC hbl hsz
 go_enter Tryz.func142, Tryz.ntmps142
 iterate 15 (first | go_values | go_skip | go_guarded | go_step | go_upon)
 refine wpList_load_row rfl 236 (.global 4) rfl 4 ?q1 tn C fr _ HB.out Tryz.underlying236 rfl ?q3 ?_
 case q1 => rfl
 case q3 => rw [HS.out]; kernel_rfl
 go_wp2
 go_loopw [6] (fun i wr => ∃ k : Nat, i = .int .i64 (k : Int) ∧ k ≤ 20 ∧ (∀ j, j < k → ¬ (nmA j = a ∧ nmB j = b)) ∧ Below w.heap.size w wr ∧ wr.heap[w.heap.size]? = some (.cells #[.int .i64 a, .int .i64 b] 203 (0, 0))) (fun i _ => 20 - (intOf i).toNat)
 case atStart =>
   exact ⟨0, rfl, by omega, fun j hj => by omega, (Below.refl _ w).alloc (Nat.le_refl _) _, heap_alloc_new _ _⟩
 case round =>
   obtain ⟨k, rfl, hk, hno, hb, hnm⟩ := hrel
   have HNO : Hid (_) := hno
   have hB : w.heap.size < wr.heap.size := (Array.getElem?_eq_some_iff.1 hnm).1
   have c0 : wr.cell? ⟨w.heap.size, 0, none⟩ = some (.int .i64 a) := by rw [cell_of_row _ _ 0 _ _ _ hnm]; rfl
   have c1 : wr.cell? ⟨w.heap.size, 1, none⟩ = some (.int .i64 b) := by rw [cell_of_row _ _ 1 _ _ _ hnm]; rfl
   have HNM : Hid (_) := hnm
   clear hno hnm
   by_cases hlt : k < 20
   · obtain ⟨x, hx⟩ : ∃ x, x = nmA k := ⟨_, rfl⟩
     obtain ⟨y, hy⟩ : ∃ y, y = nmB k := ⟨_, rfl⟩
     have hi1 := hix k hlt
     rw [← hx, ← hy] at hi1
     have HX : Hid (_) := hx
     have HY : Hid (_) := hy
     clear hx hy hix
     have hq := eq_names x y a b
     by_cases he : x = a ∧ y = b
     · obtain ⟨rfl, rfl⟩ := he
       go_wp2
       go_ret
       exact ⟨by rw [HX.out, HY.out, place_at k hlt]; rfl, hb.alloc (Nat.le_of_lt hB) _⟩
     · go_wp2
       go_roundw
       case rel =>
         refine ⟨k + 1, by go_num, by omega, fun j hj => ?_, hb.alloc (Nat.le_of_lt hB) _, (Below.heap_alloc _ _ _ hB).trans HNM.out⟩
         by_cases hjk : j = k
         · subst hjk; rw [← HX.out, ← HY.out]; exact he
         · exact HNO.out j (by omega)
       case measure => simp [intOf]; omega
   · obtain rfl : k = 20 := by omega
     go_wp2
     go_ret
     exact ⟨by rw [place_none a b HNO.out]; rfl, hb⟩
theorem specRowAt_any (k : Int) (w : World) :
   Calls Tryz.prog 69 #[.int .i64 k] w fun e w' => e = .returned (.int .i64 (placeN 1 k)) ∧ w' = w := by
 by_cases h : 0 ≤ k ∧ k ≤ 3
 · have hp : placeN 1 k = k := by unfold placeN; repeat' split <;> omega
   rw [hp]
   clear hp
   obtain ⟨h0, h1⟩ := h
   go_enter Tryz.func69, Tryz.ntmps69
   go_wp2
   go_ret
   exact ⟨rfl, rfl⟩
 · have hp : placeN 1 k = -1 := by unfold placeN; repeat' split <;> omega
   rw [hp]
   clear hp
   by_cases h0 : 0 ≤ k
   · have h1 : ¬ k ≤ 3 := by omega
     clear h
     go_enter Tryz.func69, Tryz.ntmps69
     go_wp2
     go_ret
     exact ⟨rfl, rfl⟩
   · have h1 : k < 0 := by omega
     clear h h0
     go_enter Tryz.func69, Tryz.ntmps69
     go_wp2
     go_ret
     exact ⟨rfl, rfl⟩
theorem implRowAt_any (k : Int) (w : World) (hN : Names w) :
   Calls Tryz.prog 93 #[.int .i64 k] w fun e w' => e = .returned (.int .i64 (placeN 1 k)) ∧ Below w.heap.size w w' := by
 go_enter Tryz.func93, Tryz.ntmps93
 go_wp2_with (go_at_call 142; refine (placeOf_any 1 k _ hN).mono ?_; rintro e w1 ⟨rfl, hb⟩)
 go_ret
 exact ⟨rfl, hb⟩
theorem specOwnerAt_any (k : Int) (w : World) :
   Calls Tryz.prog 70 #[.int .i64 k] w fun e w' => e = .returned (.int .i64 (placeN 2 k)) ∧ w' = w := by
 by_cases h : 1 ≤ k ∧ k ≤ 6
 · have hp : placeN 2 k = 3 + k := by unfold placeN; repeat' split <;> omega
   rw [hp]
   clear hp
   obtain ⟨h0, h1⟩ := h
   go_enter Tryz.func70, Tryz.ntmps70
   go_wp2
   go_ret
   exact ⟨rfl, rfl⟩
 · have hp : placeN 2 k = -1 := by unfold placeN; repeat' split <;> omega
   rw [hp]
   clear hp
   by_cases h0 : 1 ≤ k
   · have h1 : ¬ k ≤ 6 := by omega
     clear h
     go_enter Tryz.func70, Tryz.ntmps70
     go_wp2
     go_ret
     exact ⟨rfl, rfl⟩
   · have h1 : k < 1 := by omega
     clear h h0
     go_enter Tryz.func70, Tryz.ntmps70
     go_wp2
     go_ret
     exact ⟨rfl, rfl⟩
theorem implOwnerAt_any (k : Int) (w : World) (hN : Names w) :
   Calls Tryz.prog 94 #[.int .i64 k] w fun e w' => e = .returned (.int .i64 (placeN 2 k)) ∧ Below w.heap.size w w' := by
 go_enter Tryz.func94, Tryz.ntmps94
 go_wp2_with (go_at_call 142; refine (placeOf_any 2 k _ hN).mono ?_; rintro e w1 ⟨rfl, hb⟩)
 go_ret
 exact ⟨rfl, hb⟩
theorem specCountAt_any (k : Int) (w : World) :
   Calls Tryz.prog 73 #[.int .i64 k] w fun e w' => e = .returned (.int .i64 (placeN 3 k)) ∧ w' = w := by
 by_cases h : 0 ≤ k ∧ k ≤ 2
 · have hp : placeN 3 k = 10 + k := by unfold placeN; repeat' split <;> omega
   rw [hp]
   clear hp
   obtain ⟨h0, h1⟩ := h
   go_enter Tryz.func73, Tryz.ntmps73
   go_wp2
   go_ret
   exact ⟨rfl, rfl⟩
 · have hp : placeN 3 k = -1 := by unfold placeN; repeat' split <;> omega
   rw [hp]
   clear hp
   by_cases h0 : 0 ≤ k
   · have h1 : ¬ k ≤ 2 := by omega
     clear h
     go_enter Tryz.func73, Tryz.ntmps73
     go_wp2
     go_ret
     exact ⟨rfl, rfl⟩
   · have h1 : k < 0 := by omega
     clear h h0
     go_enter Tryz.func73, Tryz.ntmps73
     go_wp2
     go_ret
     exact ⟨rfl, rfl⟩
theorem implCountAt_any (k : Int) (w : World) (hN : Names w) :
   Calls Tryz.prog 95 #[.int .i64 k] w fun e w' => e = .returned (.int .i64 (placeN 3 k)) ∧ Below w.heap.size w w' := by
 go_enter Tryz.func95, Tryz.ntmps95
 go_wp2_with (go_at_call 142; refine (placeOf_any 3 k _ hN).mono ?_; rintro e w1 ⟨rfl, hb⟩)
 go_ret
 exact ⟨rfl, hb⟩
theorem specStateAt_any (w : World) :
   Calls Tryz.prog 74 #[] w fun e w' => e = .returned (.int .i64 13) ∧ w' = w := by
 go_enter Tryz.func74, Tryz.ntmps74
 go_wp2
 go_ret
 exact ⟨rfl, rfl⟩
theorem implStateAt_any (w : World) (hN : Names w) :
   Calls Tryz.prog 91 #[] w fun e w' => e = .returned (.int .i64 13) ∧ Below w.heap.size w w' := by
 go_enter Tryz.func91, Tryz.ntmps91
 go_wp2_with (go_at_call 142; refine (placeOf_any 4 0 _ hN).mono ?_; rintro e w1 ⟨rfl, hb⟩)
 go_ret
 exact ⟨rfl, hb⟩
theorem specViaAt_any (k : Int) (w : World) :
   Calls Tryz.prog 71 #[.int .i64 k] w fun e w' => e = .returned (.int .i64 (placeN 5 k)) ∧ w' = w := by
 by_cases h : 1 ≤ k ∧ k ≤ 6
 · have hp : placeN 5 k = 13 + k := by unfold placeN; repeat' split <;> omega
   rw [hp]
   clear hp
   obtain ⟨h0, h1⟩ := h
   go_enter Tryz.func71, Tryz.ntmps71
   go_wp2
   go_ret
   exact ⟨rfl, rfl⟩
 · have hp : placeN 5 k = -1 := by unfold placeN; repeat' split <;> omega
   rw [hp]
   clear hp
   by_cases h0 : 1 ≤ k
   · have h1 : ¬ k ≤ 6 := by omega
     clear h
     go_enter Tryz.func71, Tryz.ntmps71
     go_wp2
     go_ret
     exact ⟨rfl, rfl⟩
   · have h1 : k < 1 := by omega
     clear h h0
     go_enter Tryz.func71, Tryz.ntmps71
     go_wp2
     go_ret
     exact ⟨rfl, rfl⟩
theorem implViaAt_any (k : Int) (w : World) (hN : Names w) :
   Calls Tryz.prog 97 #[.int .i64 k] w fun e w' => e = .returned (.int .i64 (placeN 5 k)) ∧ Below w.heap.size w w' := by
 go_enter Tryz.func97, Tryz.ntmps97
 go_wp2_with (go_at_call 142; refine (placeOf_any 5 k _ hN).mono ?_; rintro e w1 ⟨rfl, hb⟩)
 go_ret
 exact ⟨rfl, hb⟩
end
end Go.Proofs.YtbfolanfbagofaaGreatDoor
