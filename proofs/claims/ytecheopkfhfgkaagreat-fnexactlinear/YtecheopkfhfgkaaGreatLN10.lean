/- Texts joined: ImplTo, ConcI, Locks, TallyI, Comings. -/
import Derived.Test.YtecheopkfhfgkaaGreatLN04
import Derived.Test.YtecheopkfhfgkaaGreatLN09
import Derived.Test.YtecheopkfhfgkaaGreatLN05
import Derived.Maps.AppendAt
import Derived.Test.YtecheopkfhfgkaaGreatLN01
import Derived.Test.YtecheopkfhfgkaaGreatLN02
import Derived.Lib.AppendZerosOnto
import Derived.Lib.Walk
import Derived.Laws.AppendOwn
import Derived.Test.YtecheopkfhfgkaaGreatRows
import Derived.Conc.MuLib
import Derived.KernelRfl
import Derived.Conc.MuLone
import Derived.Defers
import Derived.WalkKit
import Derived.Handy
import Derived.OwnWalk
set_option maxHeartbeats 16000000
set_option maxRecDepth 100000
namespace Go.Proofs.YtecheopkfhfgkaaGreat
section
open Go.ChangeShapes Go.WideShapes Go.ChangeAt Go.RowKit Go.Joins
theorem infoCallU : (Tryz.prog.info? 52).map (fun i => (i.zero, i.size, i.bytes)) = some (some (.agg #[.int .i64 0, .int .i64 0, .int .i64 0, .int .i64 0, .int .i64 0, .int .i64 0, .int .i64 0, .int .i64 0, .slice none 0 0]), 9, 88) := by kernel_rfl
theorem nineU_of {w : World} {b : Nat} {v0 v1 v2 v3 v4 v5 v6 v7 v8 : Value} {T : TypeId} (h : Box w b #[v0, v1, v2, v3, v4, v5, v6, v7, v8] T) : w.cell? ⟨b, 0, none⟩ = some v0 ∧ w.cell? ⟨b, 1, none⟩ = some v1 ∧ w.cell? ⟨b, 2, none⟩ = some v2 ∧ w.cell? ⟨b, 3, none⟩ = some v3 ∧ w.cell? ⟨b, 4, none⟩ = some v4 ∧ w.cell? ⟨b, 5, none⟩ = some v5 ∧ w.cell? ⟨b, 6, none⟩ = some v6 ∧ w.cell? ⟨b, 7, none⟩ = some v7 ∧ w.cell? ⟨b, 8, none⟩ = some v8 ∧ w.frozen? ⟨b, 7, none⟩ = false ∧ w.frozen? ⟨b, 8, none⟩ = false := ⟨h.cell 0, h.cell 1, h.cell 2, h.cell 3, h.cell 4, h.cell 5, h.cell 6, h.cell 7, h.cell 8, h.frozen 7, h.frozen 8⟩
theorem callV_srcU (w : World) (d : CaD) (u : Value) (t : TypeId) : ∀ (j : Nat) (q : Value), (callV d u)[j]? = some q → (w.alloc (.cells (callV d u).toArray t)).cell? ((⟨w.heap.size, 0, none⟩ : Addr).add j) = some q := by
  intro j q hj
  have hx := (box_of w (callV d u).toArray t).cell j
  have e : (⟨w.heap.size, 0, none⟩ : Addr).add j = ⟨w.heap.size, j, none⟩ := by simp [Addr.add]; omega
  rw [e, hx]
  simpa using hj
theorem callV_oneU (d : CaD) (a : Option Addr) (n c : Nat) : ∀ u ∈ callV d (.slice a n c), u.oneCell' = true := by
  intro u hu
  simp [callV] at hu
  rcases hu with rfl | rfl | rfl | rfl | rfl | rfl | rfl | rfl | rfl <;> rfl
theorem told_nil {w : World} {base : Nat} : ToldAt w base (.slice none 0 0) [] := ⟨fun _ => False, .nil _ _ _ (fun _ h => h)⟩
theorem impl_toldOf (ca : Option Addr) (m cc : Nat) (f : Nat → CaD) (rs : Nat → List Int) (w : World) (hm : m ≤ 1048576) (h : CasN w ca m f rs) :
    Calls Tryz.prog 27 #[.slice ca m cc] w fun e w' => ∃ v, e = .returned v ∧ ToldAt w' w.heap.size v (toldL f rs m) ∧ Below w.heap.size w w' := by
  have HC : Hid (CasN w ca m f rs) := h
  obtain ⟨i0, hi, hz⟩ := Option.map_eq_some_iff.1 infoCallU
  have hz0 : i0.zero = some (.agg #[.int .i64 0, .int .i64 0, .int .i64 0, .int .i64 0, .int .i64 0, .int .i64 0, .int .i64 0, .int .i64 0, .slice none 0 0]) := congrArg Prod.fst hz
  have hz1 : i0.size = 9 := congrArg (fun p => p.2.1) hz
  have hz2 : i0.bytes = 88 := congrArg (fun p => p.2.2) hz
  obtain ⟨sz, hsz⟩ : ∃ sz, w.heap.size = sz := ⟨_, rfl⟩
  have HSZ : Hid (w.heap.size = sz) := hsz
  rw [hsz]
  clear h hz hsz
  go_enter Tryz.func27, Tryz.ntmps27
  go_wp2
  go_loopw [3, 8] (fun v i wr => ∃ k : Nat, k ≤ m ∧ i = .int .i64 (k : Int) ∧ ToldAt wr sz v (toldL f rs k) ∧ Below sz w wr) (fun _ i _ => m - (intOf i).toNat)
  case atStart => exact ⟨0, Nat.zero_le _, rfl, told_nil, Below.refl _ _⟩
  case round =>
    obtain ⟨k, hk, rfl, hT, hb⟩ := hrel
    have HT : Hid (ToldAt wr sz u3 (toldL f rs k)) := hT
    have HB : Hid (Below sz w wr) := hb
    clear hT hb
    by_cases hlt : k < m
    case neg =>
      obtain rfl : m = k := by omega
      go_wp2
      go_ret
      first | exact ⟨HT.out, HB.out⟩ | exact ⟨_, rfl, HT.out, HB.out⟩
    have hk0 : (0 : Int) ≤ (k : Int) := by omega
    have hk1 : (k : Int) < (m : Int) := by omega
    rcases HC.out.below HB.out (by rw [HSZ.out]; exact Nat.le_refl _) with h0 | ⟨p1, o1, rfl, g1⟩
    · omega
    obtain ⟨ra, rn, rc, ⟨e0, e1, e2, e3, e4, e5, e6, e7, e8⟩, hres, hnil, hrn⟩ := g1 k hlt
    obtain ⟨L, hL⟩ : ∃ L, rs k = L := ⟨_, rfl⟩
    obtain ⟨C, hC⟩ : ∃ C, f k = C := ⟨_, rfl⟩
    rw [hL] at hres
    rw [hC] at e0 e1 e2 e3 e4 e5 e6 e7
    have HFK : Hid (f k = C ∧ rs k = L) := ⟨hC, hL⟩
    obtain ⟨x0, x1, x2, x3, x4, x5, x6, x7⟩ := C
    dsimp only at e0 e1 e2 e3 e4 e5 e6 e7
    obtain ⟨q, hq⟩ : ∃ q, wr.heap.size = q := ⟨_, rfl⟩
    obtain ⟨X, hX⟩ : ∃ X, wr.alloc (.cells #[.int .i64 x0, .int .i64 x1, .int .i64 x2, .int .i64 x3, .int .i64 x4, .int .i64 x5, .int .i64 x6, .int .i64 x7, .slice ra rn rc] 52) = X := ⟨_, rfl⟩
    have hbx : Below q wr X := by rw [← hX, ← hq]; exact (Below.refl _ wr).alloc (Nat.le_refl _) _
    have BC : Hid (Box X q #[.int .i64 x0, .int .i64 x1, .int .i64 x2, .int .i64 x3, .int .i64 x4, .int .i64 x5, .int .i64 x6, .int .i64 x7, .slice ra rn rc] 52) := by rw [← hX, ← hq]; exact box_of wr _ _
    have HBX : Hid (Below q wr X) := hbx
    have HRES : Hid (IntAt X ra rn L) := hres.below hbx (by omega)
    have HNIL : Hid (ra = none → rc = 0) := hnil
    have HLEN : Hid (L.length = rn) := hres.1
    have HX : Hid (wr.alloc (.cells #[.int .i64 x0, .int .i64 x1, .int .i64 x2, .int .i64 x3, .int .i64 x4, .int .i64 x5, .int .i64 x6, .int .i64 x7, .slice ra rn rc] 52) = X) := hX
    have HQ : Hid (wr.heap.size = q) := hq
    have LQ : sz ≤ q := by have := HB.out.size; have := HSZ.out; omega
    have HQX : Hid (q + 1 = X.heap.size) := by show _ = _; rw [← hX, ← hq]; simp
    clear g1 hC hL hres hnil hbx hX
    go_upto_region 5 with (fail)
    rw [HX.out]
    (try rw [HQ.out])
    clear HX hq e0 e1 e2 e3 e4 e5 e6 e7 e8
    obtain ⟨u0, u1, u2, u3', u4, u5, u6, u7, u8, z7, z8⟩ := nineU_of BC.out
    by_cases hq : ToldQ (⟨x0, x1, x2, x3, x4, x5, x6, x7⟩ : CaD) = true
    case neg =>
      have h6 : ¬ 0 ≤ x6 := fun h => hq (by simp [ToldQ, h])
      have h5 : ¬ 0 ≤ x5 := fun h => hq (by simp [ToldQ, h])
      have HN : Hid (toldL f rs (k + 1) = toldL f rs k) := toldL_no (by rw [HFK.out.1]; simpa using hq)
      clear hq
      have D5 : Hid (decide (0 ≤ x5) = false) := decide_eq_false h5
      clear h5
      have D6 : Hid (decide (0 ≤ x6) = false) := decide_eq_false h6
      clear h6
      go_wp2_with fail
      refine (impl_ended ⟨x0, x1, x2, x3, x4, x5, x6, x7⟩ (.slice ra rn rc) X).mono ?_
      rintro e V0 ⟨rfl, hbv0⟩
      rw [show decide (0 ≤ (⟨x0, x1, x2, x3, x4, x5, x6, x7⟩ : CaD).en) = false from D6.out]
      clear u0 u1 u2 u3' u4 u5 u6 u7 u8 z7 z8
      obtain ⟨u0, u1, u2, u3', u4, u5, u6, u7, u8, z7, z8⟩ := nineU_of (BC.out.below hbv0 BC.out.lt)
      go_wp2_with fail
      refine (impl_wasSo ⟨x0, x1, x2, x3, x4, x5, x6, x7⟩ (.slice ra rn rc) V0).mono ?_
      rintro e V ⟨rfl, hbv1⟩
      rw [show decide (0 ≤ (⟨x0, x1, x2, x3, x4, x5, x6, x7⟩ : CaD).ln) = false from D5.out]
      have hbv : Below X.heap.size X V := hbv0.trans (hbv1.mono hbv0.size)
      clear hbv0 hbv1
      have HT2 : Hid (ToldAt V sz u3 (toldL f rs k)) := HT.out.on (HBX.out.trans (hbv.mono (by have := HQX.out; omega))) (by rw [HQ.out]; exact Nat.le_refl _)
      have HB2 : Hid (Below sz w V) := HB.out.trans ((HBX.out.trans (hbv.mono (by have := HQX.out; omega))).mono LQ)
      clear hbv
      go_wp2
      exact ⟨⟨k + 1, by omega, by go_num, by rw [HN.out]; exact HT2.out, HB2.out⟩, by simp [intOf]; omega⟩
    have HN : Hid (toldL f rs (k + 1) = toldL f rs k ++ [(⟨x0, x1, x2, x3, x4, x5, x6, x7⟩, L)]) := by
      show _ = _
      rw [toldL_yes (by rw [HFK.out.1]; exact hq), HFK.out.1, HFK.out.2]
    have hcase : 0 ≤ x6 ∨ (¬ 0 ≤ x6 ∧ 0 ≤ x5) := by
      by_cases h6 : 0 ≤ x6
      · exact .inl h6
      · by_cases h5 : 0 ≤ x5
        · exact .inr ⟨h6, h5⟩
        · exact absurd hq (by simp [ToldQ, h5, h6])
    clear hq
    rcases hcase with h6 | ⟨h6, h5⟩
    · have D6 : Hid (decide (0 ≤ x6) = true) := decide_eq_true h6
      clear h6
      go_wp2_with fail
      refine (impl_ended ⟨x0, x1, x2, x3, x4, x5, x6, x7⟩ (.slice ra rn rc) X).mono ?_
      rintro e V ⟨rfl, hbv⟩
      rw [show decide (0 ≤ (⟨x0, x1, x2, x3, x4, x5, x6, x7⟩ : CaD).en) = true from D6.out]
      have HBV : Hid (Below q wr V) := HBX.out.trans (hbv.mono (by have := HQX.out; omega))
      have BV : Hid (Box V q #[.int .i64 x0, .int .i64 x1, .int .i64 x2, .int .i64 x3, .int .i64 x4, .int .i64 x5, .int .i64 x6, .int .i64 x7, .slice ra rn rc] 52) := BC.out.below hbv BC.out.lt
      have HQV : Hid (q + 1 ≤ V.heap.size) := by have h1 := hbv.size; have h2 := HQX.out; show _ ≤ _; omega
      have HRES2 : Hid (IntAt V ra rn L) := HRES.out.below hbv (Nat.le_refl _)
      clear hbv u0 u1 u2 u3' u4 u5 u6 u7 u8 z7 z8
      obtain ⟨u0, u1, u2, u3', u4, u5, u6, u7, u8, z7, z8⟩ := nineU_of BV.out
      go_wp2_with fail
      refine (resAnew_o x7 ra rn rc L V HRES2.out HNIL.out).mono ?_
      rintro e w2 ⟨v, rfl, hown, hb2⟩
      obtain ⟨va, vc, rfl, _⟩ := owns_slice hown
      have HO2 : Hid (w2.ownsRow V.heap.size 3 1 (.slice va rn vc) rn (L.map I)) := hown
      have HB2 : Hid (Below q wr w2) := HBV.out.trans (hb2.mono (by have := HQV.out; omega))
      have BC2 : Hid (Box w2 q #[.int .i64 x0, .int .i64 x1, .int .i64 x2, .int .i64 x3, .int .i64 x4, .int .i64 x5, .int .i64 x6, .int .i64 x7, .slice ra rn rc] 52) := BV.out.below hb2 BV.out.lt
      obtain ⟨Y, hY⟩ : ∃ Y, (w2.setCell ⟨q, 7, none⟩ (.int .i64 x7)).setCell ⟨q, 8, none⟩ (.slice va rn vc) = Y := ⟨_, rfl⟩
      have BY : Hid (Box Y q #[.int .i64 x0, .int .i64 x1, .int .i64 x2, .int .i64 x3, .int .i64 x4, .int .i64 x5, .int .i64 x6, .int .i64 x7, .slice va rn vc] 52) := by rw [← hY]; exact (BC2.out.put 7 _).put 8 _
      have HBY : Hid (Below q wr Y) := by rw [← hY]; exact (HB2.out.setCell (Nat.le_refl _) _).setCell (Nat.le_refl _) _
      have HOY : Hid (Y.ownsRow q 3 1 (.slice va rn vc) rn (L.map I)) := by
        have hwb : (Value.slice va rn vc).ownBlock ≠ some q := fun e => by have := (HO2.out.lt _ e).1; have := HQV.out; omega
        rw [← hY]
        exact own_setCell_far (own_setCell_far (own_weaken HO2.out (by have := HQV.out; omega)) hwb _) hwb _
      have HY : Hid ((w2.setCell ⟨q, 7, none⟩ (.int .i64 x7)).setCell ⟨q, 8, none⟩ (.slice va rn vc) = Y) := hY
      clear hown hb2 hY u0 u1 u2 u3' u4 u5 u6 u7 u8 z7 z8
      obtain ⟨u0, u1, u2, u3', u4, u5, u6, u7, u8, z7, z8⟩ := nineU_of BC2.out
      go_upto_region 7 with (fail)
      rw [HY.out]
      clear u0 u1 u2 u3' u4 u5 u6 u7 u8 z7 z8 HY
      obtain ⟨u0, u1, u2, u3', u4, u5, u6, u7, u8, z7, z8⟩ := nineU_of BY.out
      obtain ⟨q4, hq4⟩ : ∃ q4, Y.heap.size = q4 := ⟨_, rfl⟩
      obtain ⟨Z, hZ⟩ : ∃ Z, Y.alloc (.cells #[.int .i64 x0, .int .i64 x1, .int .i64 x2, .int .i64 x3, .int .i64 x4, .int .i64 x5, .int .i64 x6, .int .i64 x7, .slice va rn vc] 52) = Z := ⟨_, rfl⟩
      have hbz : Below q wr Z := by rw [← hZ]; exact HBY.out.alloc (by have := HBY.out.size; have := HQ.out; omega) _
      have HOZ : Hid (Z.ownsRow q 3 1 (.slice va rn vc) rn (L.map I)) := by rw [← hZ]; exact HOY.out.alloc _
      have SRC : Hid (∀ (j : Nat) (y : Value), (callV ⟨x0, x1, x2, x3, x4, x5, x6, x7⟩ (.slice va rn vc))[j]? = some y → Z.cell? ((⟨q4, 0, none⟩ : Addr).add j) = some y) := by
        rw [← hZ, ← hq4]
        exact callV_srcU Y ⟨x0, x1, x2, x3, x4, x5, x6, x7⟩ (.slice va rn vc) 52
      have hll := toldL_len f rs k
      obtain ⟨vs, hrow, back⟩ := HT.out.app (by omega) hbz (by rw [HQ.out]; exact Nat.le_refl _) LQ
      have HROW : Hid (Z.ownsRow sz 52 9 u3 (toldL f rs k).length vs) := hrow
      have HBACK : Hid (∀ (v' : Value) (w' : World), w'.ownsRow sz 52 9 v' ((toldL f rs k).length + 1) (vs ++ callV ⟨x0, x1, x2, x3, x4, x5, x6, x7⟩ (.slice va rn vc)) → Z.grownBy w' u3.ownBlock → (v'.ownBlock = u3.ownBlock ∨ v'.ownBlock = some Z.heap.size) → ToldAt w' sz v' (toldL f rs (k + 1))) := fun v' w' h1 h2 h3 => by
        rw [HN.out]
        have hl := HLEN.out
        exact back v' (.slice va rn vc) w' (⟨x0, x1, x2, x3, x4, x5, x6, x7⟩, L) (by show World.ownsRow _ _ _ _ _ _ _; rw [show (((⟨x0, x1, x2, x3, x4, x5, x6, x7⟩ : CaD), L) : CaR).2.length = rn from hl]; exact HOZ.out) (by show L.length ≤ _; omega) h1 h2 h3
      have HBZ : Hid (Below sz w Z) := HB.out.trans (hbz.mono LQ)
      have LSZ : sz ≤ Z.heap.size := by have := hbz.size; have := HQ.out; omega
      have HZ : Hid (Y.alloc (.cells #[.int .i64 x0, .int .i64 x1, .int .i64 x2, .int .i64 x3, .int .i64 x4, .int .i64 x5, .int .i64 x6, .int .i64 x7, .slice va rn vc] 52) = Z) := hZ
      have HQ4 : Hid (Y.heap.size = q4) := hq4
      obtain ⟨nl, hnl⟩ : ∃ nl, (toldL f rs k).length = nl := ⟨_, rfl⟩
      have HNL : Hid ((toldL f rs k).length = nl) := hnl
      rw [hnl] at hll
      clear hZ hq4 hbz hrow back hnl
      go_wp2_with
        (at_builtin
         first | rw [HZ.out] | skip
         first | rw [HQ4.out] | skip
         refine wpList_append_own_at _ rfl _ _ 31 rfl sz 52 i0 (.agg #[.int .i64 0, .int .i64 0, .int .i64 0, .int .i64 0, .int .i64 0, .int .i64 0, .int .i64 0, .int .i64 0, .slice none 0 0]) 9 88 Tryz.underlying31 hi hz0 hz1 hz2 rfl (by decide) u3 nl vs rfl (by rw [← HNL.out]; exact HROW.out) ⟨q4, 0, none⟩ 1 1 (callV ⟨x0, x1, x2, x3, x4, x5, x6, x7⟩ (.slice va rn vc)) rfl rfl SRC.out (callV_oneU _ _ _ _) (by unfold maxLen; omega) (by omega) LSZ ?_
         intro v' w5 own' gr _ at'
         have HT5 : Hid (ToldAt w5 sz v' (toldL f rs (k + 1))) := HBACK.out v' w5 (by rw [HNL.out]; exact own') gr at'
         have HB5 : Hid (Below sz w w5) := HBZ.out.grown gr LSZ (fun b e => (HROW.out.lt b e).1)
         clear own' gr at')
      (try go_wp2)
      exact ⟨⟨k + 1, by omega, by go_num, HT5.out, HB5.out⟩, by simp [intOf]; omega⟩
    · have D5 : Hid (decide (0 ≤ x5) = true) := decide_eq_true h5
      clear h5
      have D6 : Hid (decide (0 ≤ x6) = false) := decide_eq_false h6
      clear h6
      go_wp2_with fail
      refine (impl_ended ⟨x0, x1, x2, x3, x4, x5, x6, x7⟩ (.slice ra rn rc) X).mono ?_
      rintro e V0 ⟨rfl, hbv0⟩
      rw [show decide (0 ≤ (⟨x0, x1, x2, x3, x4, x5, x6, x7⟩ : CaD).en) = false from D6.out]
      clear u0 u1 u2 u3' u4 u5 u6 u7 u8 z7 z8
      obtain ⟨u0, u1, u2, u3', u4, u5, u6, u7, u8, z7, z8⟩ := nineU_of (BC.out.below hbv0 BC.out.lt)
      go_wp2_with fail
      refine (impl_wasSo ⟨x0, x1, x2, x3, x4, x5, x6, x7⟩ (.slice ra rn rc) V0).mono ?_
      rintro e V ⟨rfl, hbv1⟩
      rw [show decide (0 ≤ (⟨x0, x1, x2, x3, x4, x5, x6, x7⟩ : CaD).ln) = true from D5.out]
      have hbv : Below X.heap.size X V := hbv0.trans (hbv1.mono hbv0.size)
      clear hbv0 hbv1
      have HBV : Hid (Below q wr V) := HBX.out.trans (hbv.mono (by have := HQX.out; omega))
      have BV : Hid (Box V q #[.int .i64 x0, .int .i64 x1, .int .i64 x2, .int .i64 x3, .int .i64 x4, .int .i64 x5, .int .i64 x6, .int .i64 x7, .slice ra rn rc] 52) := BC.out.below hbv BC.out.lt
      have HQV : Hid (q + 1 ≤ V.heap.size) := by have h1 := hbv.size; have h2 := HQX.out; show _ ≤ _; omega
      have HRES2 : Hid (IntAt V ra rn L) := HRES.out.below hbv (Nat.le_refl _)
      clear hbv u0 u1 u2 u3' u4 u5 u6 u7 u8 z7 z8
      obtain ⟨u0, u1, u2, u3', u4, u5, u6, u7, u8, z7, z8⟩ := nineU_of BV.out
      go_wp2_with fail
      refine (resAnew_o x7 ra rn rc L V HRES2.out HNIL.out).mono ?_
      rintro e w2 ⟨v, rfl, hown, hb2⟩
      obtain ⟨va, vc, rfl, _⟩ := owns_slice hown
      have HO2 : Hid (w2.ownsRow V.heap.size 3 1 (.slice va rn vc) rn (L.map I)) := hown
      have HB2 : Hid (Below q wr w2) := HBV.out.trans (hb2.mono (by have := HQV.out; omega))
      have BC2 : Hid (Box w2 q #[.int .i64 x0, .int .i64 x1, .int .i64 x2, .int .i64 x3, .int .i64 x4, .int .i64 x5, .int .i64 x6, .int .i64 x7, .slice ra rn rc] 52) := BV.out.below hb2 BV.out.lt
      obtain ⟨Y, hY⟩ : ∃ Y, (w2.setCell ⟨q, 7, none⟩ (.int .i64 x7)).setCell ⟨q, 8, none⟩ (.slice va rn vc) = Y := ⟨_, rfl⟩
      have BY : Hid (Box Y q #[.int .i64 x0, .int .i64 x1, .int .i64 x2, .int .i64 x3, .int .i64 x4, .int .i64 x5, .int .i64 x6, .int .i64 x7, .slice va rn vc] 52) := by rw [← hY]; exact (BC2.out.put 7 _).put 8 _
      have HBY : Hid (Below q wr Y) := by rw [← hY]; exact (HB2.out.setCell (Nat.le_refl _) _).setCell (Nat.le_refl _) _
      have HOY : Hid (Y.ownsRow q 3 1 (.slice va rn vc) rn (L.map I)) := by
        have hwb : (Value.slice va rn vc).ownBlock ≠ some q := fun e => by have := (HO2.out.lt _ e).1; have := HQV.out; omega
        rw [← hY]
        exact own_setCell_far (own_setCell_far (own_weaken HO2.out (by have := HQV.out; omega)) hwb _) hwb _
      have HY : Hid ((w2.setCell ⟨q, 7, none⟩ (.int .i64 x7)).setCell ⟨q, 8, none⟩ (.slice va rn vc) = Y) := hY
      clear hown hb2 hY u0 u1 u2 u3' u4 u5 u6 u7 u8 z7 z8
      obtain ⟨u0, u1, u2, u3', u4, u5, u6, u7, u8, z7, z8⟩ := nineU_of BC2.out
      go_upto_region 7 with (fail)
      rw [HY.out]
      clear u0 u1 u2 u3' u4 u5 u6 u7 u8 z7 z8 HY
      obtain ⟨u0, u1, u2, u3', u4, u5, u6, u7, u8, z7, z8⟩ := nineU_of BY.out
      obtain ⟨q4, hq4⟩ : ∃ q4, Y.heap.size = q4 := ⟨_, rfl⟩
      obtain ⟨Z, hZ⟩ : ∃ Z, Y.alloc (.cells #[.int .i64 x0, .int .i64 x1, .int .i64 x2, .int .i64 x3, .int .i64 x4, .int .i64 x5, .int .i64 x6, .int .i64 x7, .slice va rn vc] 52) = Z := ⟨_, rfl⟩
      have hbz : Below q wr Z := by rw [← hZ]; exact HBY.out.alloc (by have := HBY.out.size; have := HQ.out; omega) _
      have HOZ : Hid (Z.ownsRow q 3 1 (.slice va rn vc) rn (L.map I)) := by rw [← hZ]; exact HOY.out.alloc _
      have SRC : Hid (∀ (j : Nat) (y : Value), (callV ⟨x0, x1, x2, x3, x4, x5, x6, x7⟩ (.slice va rn vc))[j]? = some y → Z.cell? ((⟨q4, 0, none⟩ : Addr).add j) = some y) := by
        rw [← hZ, ← hq4]
        exact callV_srcU Y ⟨x0, x1, x2, x3, x4, x5, x6, x7⟩ (.slice va rn vc) 52
      have hll := toldL_len f rs k
      obtain ⟨vs, hrow, back⟩ := HT.out.app (by omega) hbz (by rw [HQ.out]; exact Nat.le_refl _) LQ
      have HROW : Hid (Z.ownsRow sz 52 9 u3 (toldL f rs k).length vs) := hrow
      have HBACK : Hid (∀ (v' : Value) (w' : World), w'.ownsRow sz 52 9 v' ((toldL f rs k).length + 1) (vs ++ callV ⟨x0, x1, x2, x3, x4, x5, x6, x7⟩ (.slice va rn vc)) → Z.grownBy w' u3.ownBlock → (v'.ownBlock = u3.ownBlock ∨ v'.ownBlock = some Z.heap.size) → ToldAt w' sz v' (toldL f rs (k + 1))) := fun v' w' h1 h2 h3 => by
        rw [HN.out]
        have hl := HLEN.out
        exact back v' (.slice va rn vc) w' (⟨x0, x1, x2, x3, x4, x5, x6, x7⟩, L) (by show World.ownsRow _ _ _ _ _ _ _; rw [show (((⟨x0, x1, x2, x3, x4, x5, x6, x7⟩ : CaD), L) : CaR).2.length = rn from hl]; exact HOZ.out) (by show L.length ≤ _; omega) h1 h2 h3
      have HBZ : Hid (Below sz w Z) := HB.out.trans (hbz.mono LQ)
      have LSZ : sz ≤ Z.heap.size := by have := hbz.size; have := HQ.out; omega
      have HZ : Hid (Y.alloc (.cells #[.int .i64 x0, .int .i64 x1, .int .i64 x2, .int .i64 x3, .int .i64 x4, .int .i64 x5, .int .i64 x6, .int .i64 x7, .slice va rn vc] 52) = Z) := hZ
      have HQ4 : Hid (Y.heap.size = q4) := hq4
      obtain ⟨nl, hnl⟩ : ∃ nl, (toldL f rs k).length = nl := ⟨_, rfl⟩
      have HNL : Hid ((toldL f rs k).length = nl) := hnl
      rw [hnl] at hll
      clear hZ hq4 hbz hrow back hnl
      go_wp2_with
        (at_builtin
         first | rw [HZ.out] | skip
         first | rw [HQ4.out] | skip
         refine wpList_append_own_at _ rfl _ _ 31 rfl sz 52 i0 (.agg #[.int .i64 0, .int .i64 0, .int .i64 0, .int .i64 0, .int .i64 0, .int .i64 0, .int .i64 0, .int .i64 0, .slice none 0 0]) 9 88 Tryz.underlying31 hi hz0 hz1 hz2 rfl (by decide) u3 nl vs rfl (by rw [← HNL.out]; exact HROW.out) ⟨q4, 0, none⟩ 1 1 (callV ⟨x0, x1, x2, x3, x4, x5, x6, x7⟩ (.slice va rn vc)) rfl rfl SRC.out (callV_oneU _ _ _ _) (by unfold maxLen; omega) (by omega) LSZ ?_
         intro v' w5 own' gr _ at'
         have HT5 : Hid (ToldAt w5 sz v' (toldL f rs (k + 1))) := HBACK.out v' w5 (by rw [HNL.out]; exact own') gr at'
         have HB5 : Hid (Below sz w w5) := HBZ.out.grown gr LSZ (fun b e => (HROW.out.lt b e).1)
         clear own' gr at')
      (try go_wp2)
      exact ⟨⟨k + 1, by omega, by go_num, HT5.out, HB5.out⟩, by simp [intOf]; omega⟩
end
section
open Go.ChangeShapes Go.WideShapes Go.ChangeAt Go.RowKit
theorem grow_nil (n : Nat) (hn : n ≤ 1000) (w : World) : Calls Tryz.prog 44 #[.slice none 0 0, .int .i64 (n : Int)] w fun e w' => ∃ v, e = .returned v ∧ w'.ownsRow w.heap.size 52 9 v 0 [] ∧ Below w.heap.size w w' := by
  obtain ⟨i0, hi, hz⟩ := Option.map_eq_some_iff.1 infoCallU
  have hz0 : i0.zero = some (.agg #[.int .i64 0, .int .i64 0, .int .i64 0, .int .i64 0, .int .i64 0, .int .i64 0, .int .i64 0, .int .i64 0, .slice none 0 0]) := congrArg Prod.fst hz
  have hz1 : i0.size = 9 := congrArg (fun p => p.2.1) hz
  have hz2 : i0.bytes = 88 := congrArg (fun p => p.2.2) hz
  have h1 : ¬ ((n : Int) < 0) := by omega
  by_cases h0 : n = 0
  · subst h0
    go_enter Tryz.func44, Tryz.ntmps44
    go_wp2
    go_ret
    first | exact ⟨World.ownsRow_nil _ _ _ _, Below.refl _ _⟩ | exact ⟨_, rfl, World.ownsRow_nil _ _ _ _, Below.refl _ _⟩
  have h4 : (n : Int) > 0 := by omega
  obtain ⟨G, hG⟩ : ∃ G, grownCap w (0 + n) 0 52 = G := ⟨_, rfl⟩
  have hGn : n ≤ G := by rw [← hG]; simpa using grownCap_ge w (0 + n) 0 52
  have hGm : G ≤ maxLen := by rw [← hG]; exact grownCap_le_maxLen w (0 + n) 0 52 (by unfold maxLen; omega)
  have hold : (Builtin.firstCells i0.size 0 (.slice none 0 0)).run Tryz.prog w.drew = .ok ([] : List Value).toArray w.drew := run_firstCells_none w.drew i0.size 0 0 0
  have hrz : ∀ ty, (Builtin.append_ #[31, 3] ty #[.slice none 0 0, .int .i64 (n : Int)]).run Tryz.prog w = .ok (.slice (some ⟨w.heap.size, 0, none⟩) (0 + n) G) (w.drew.alloc (.cells (([] : List Value).toArray ++ Builtin.zeroCells (.agg #[.int .i64 0, .int .i64 0, .int .i64 0, .int .i64 0, .int .i64 0, .int .i64 0, .int .i64 0, .int .i64 0, .slice none 0 0] : Value).cells n ++ Builtin.zeroCells (.agg #[.int .i64 0, .int .i64 0, .int .i64 0, .int .i64 0, .int .i64 0, .int .i64 0, .int .i64 0, .int .i64 0, .slice none 0 0] : Value).cells (G - (0 + n))) 52)) := fun ty => by
    have h := Lib.run_append_grow_zeros (P := Tryz.prog) w 31 3 ty 52 i0 (.agg #[.int .i64 0, .int .i64 0, .int .i64 0, .int .i64 0, .int .i64 0, .int .i64 0, .int .i64 0, .int .i64 0, .slice none 0 0]) .i64 .i64 Tryz.underlying31 Tryz.underlying3 hi hz0 none 0 0 [] hold n (by omega) (by omega) (by omega) (by omega) (by rw [hz2]; omega) (by
      rw [hz2]
      have : Builtin.nextslicecap (0 + n) 0 = n := by unfold Builtin.nextslicecap; rw [if_pos (by omega)]; omega
      rw [this]; omega)
    rw [hG] at h
    exact h
  obtain ⟨W, hW⟩ : ∃ W, w.drew.alloc (.cells (([] : List Value).toArray ++ Builtin.zeroCells (.agg #[.int .i64 0, .int .i64 0, .int .i64 0, .int .i64 0, .int .i64 0, .int .i64 0, .int .i64 0, .int .i64 0, .slice none 0 0] : Value).cells n ++ Builtin.zeroCells (.agg #[.int .i64 0, .int .i64 0, .int .i64 0, .int .i64 0, .int .i64 0, .int .i64 0, .int .i64 0, .int .i64 0, .slice none 0 0] : Value).cells (G - (0 + n))) 52) = W := ⟨_, rfl⟩
  have HO : Hid (W.ownsRow w.heap.size 52 9 (.slice (some ⟨w.heap.size, 0, none⟩) 0 G) 0 []) := by
    rw [← hW]
    refine World.ownsRow_made (base := w.heap.size) w.drew _ G (Nat.le_refl _) hGm ?_
    have e : ∀ k, (Builtin.zeroCells (.agg #[.int .i64 0, .int .i64 0, .int .i64 0, .int .i64 0, .int .i64 0, .int .i64 0, .int .i64 0, .int .i64 0, .slice none 0 0] : Value).cells k).size = k * 9 := fun k => by simp [Builtin.zeroCells, Value.cells]
    rw [Array.size_append, Array.size_append, e, e]
    simp
    omega
  have HB : Hid (Below w.heap.size w W) := by rw [← hW]; exact (Below.refl _ w).drew.alloc (Nat.le_refl _) _
  rw [hW] at hrz
  clear hW hold hG hz
  go_enter Tryz.func44, Tryz.ntmps44
  go_wp2_with (at_builtin; refine Lib.wpList_append_run _ rfl _ _ _ _ rfl _ _ rfl rfl _ _ (hrz _) ?_)
  go_ret
  first | exact ⟨HO.out, HB.out⟩ | exact ⟨_, rfl, HO.out, HB.out⟩
def ccN (n1 n2 : Nat) : Nat → Nat
  | 0 => 0
  | 1 => n1
  | _ => n1 + n2
def ccV (vs1 vs2 : List Value) : Nat → List Value
  | 0 => []
  | 1 => vs1
  | _ => vs1 ++ vs2
theorem concat_two (q c : Nat) (a1 a2 : Addr) (n1 c1 n2 c2 : Nat) (vs1 vs2 : List Value) (w : World) (hq0 : w.cell? ⟨q, 0, none⟩ = some (.slice (some a1) n1 c1)) (hq1 : w.cell? ⟨q, 1, none⟩ = some (.slice (some a2) n2 c2)) (hn : n1 + n2 ≤ 1000)
    (l1 : vs1.length = n1 * 9) (l2 : vs2.length = n2 * 9) (s1 : ∀ j u, vs1[j]? = some u → w.cell? (a1.add j) = some u) (s2 : ∀ j u, vs2[j]? = some u → w.cell? (a2.add j) = some u) (o1 : ∀ u ∈ vs1, u.oneCell' = true) (o2 : ∀ u ∈ vs2, u.oneCell' = true) :
    Calls Tryz.prog 22 #[.slice (some ⟨q, 0, none⟩) 2 c] w fun e w' => ∃ v, e = .returned v ∧ w'.ownsRow w.heap.size 52 9 v (n1 + n2) (vs1 ++ vs2) ∧ Below w.heap.size w w' := by
  obtain ⟨i0, hi, hz⟩ := Option.map_eq_some_iff.1 infoCallU
  have hz0 : i0.zero = some (.agg #[.int .i64 0, .int .i64 0, .int .i64 0, .int .i64 0, .int .i64 0, .int .i64 0, .int .i64 0, .int .i64 0, .slice none 0 0]) := congrArg Prod.fst hz
  have hz1 : i0.size = 9 := congrArg (fun p => p.2.1) hz
  have hz2 : i0.bytes = 88 := congrArg (fun p => p.2.2) hz
  have L1 : Hid (vs1.length = n1 * 9 ∧ vs2.length = n2 * 9) := ⟨l1, l2⟩
  have S1 : Hid (∀ y, Below w.heap.size w y → ∀ j u, vs1[j]? = some u → y.cell? (a1.add j) = some u) := fun y hb j u hj => (hb.cell (World.block_lt_of_cell? w _ (s1 j u hj))).trans (s1 j u hj)
  have S2 : Hid (∀ y, Below w.heap.size w y → ∀ j u, vs2[j]? = some u → y.cell? (a2.add j) = some u) := fun y hb j u hj => (hb.cell (World.block_lt_of_cell? w _ (s2 j u hj))).trans (s2 j u hj)
  have O1 : Hid ((∀ u ∈ vs1, u.oneCell' = true) ∧ ∀ u ∈ vs2, u.oneCell' = true) := ⟨o1, o2⟩
  have HQ : Hid (∀ y, Below w.heap.size w y → y.cell? ⟨q, 0, none⟩ = some (.slice (some a1) n1 c1) ∧ y.cell? ⟨q, 1, none⟩ = some (.slice (some a2) n2 c2)) := fun y hb => ⟨(hb.cell (World.block_lt_of_cell? w _ hq0)).trans hq0, (hb.cell (World.block_lt_of_cell? w _ hq1)).trans hq1⟩
  have g1 : ¬ ((n1 : Int) < 0) := by omega
  have g2 : ¬ ((n1 : Int) + (n2 : Int) < 0) := by omega
  clear hz l1 l2 s1 s2 o1 o2
  go_enter Tryz.func22, Tryz.ntmps22
  go_wp2
  go_loopw [3, 11] (fun s i wr => ∃ k : Nat, k ≤ 2 ∧ i = .int .i64 (k : Int) ∧ s = .int .i64 (ccN n1 n2 k : Int) ∧ wr = w) (fun _ i _ => 2 - (intOf i).toNat)
  case atStart => exact ⟨0, by omega, rfl, rfl, rfl⟩
  case round =>
    obtain ⟨k, hk, rfl, rfl, hwr⟩ := hrel
    obtain rfl : w = wr := hwr.symm
    rcases (show k = 0 ∨ k = 1 ∨ k = 2 by omega) with rfl | rfl | rfl
    · dsimp only [ccN]
      go_wp2
      exact ⟨⟨1, by omega, by go_num, by first | rfl | simp | simp [ccN], trivial⟩, by simp [intOf]⟩
    · dsimp only [ccN]
      go_wp2
      exact ⟨⟨2, by omega, by go_num, by first | rfl | simp | simp [ccN], trivial⟩, by simp [intOf]⟩
    · dsimp only [ccN]
      clear hq0 hq1
      go_wp2_with fail
      refine (grow_nil (n1 + n2) hn w).mono ?_
      rintro e w1 ⟨v, rfl, ho, hb⟩
      have HO : Hid (w1.ownsRow w.heap.size 52 9 v 0 []) := ho
      have HB : Hid (Below w.heap.size w w1) := hb
      clear ho hb
      go_wp2
      go_loopw [6, 27] (fun s i wr => ∃ k : Nat, k ≤ 2 ∧ i = .int .i64 (k : Int) ∧ wr.ownsRow w.heap.size 52 9 s (ccN n1 n2 k) (ccV vs1 vs2 k) ∧ Below w.heap.size w wr) (fun _ i _ => 2 - (intOf i).toNat)
      case atStart => exact ⟨0, by omega, rfl, HO.out, HB.out⟩
      case round =>
        obtain ⟨k, hk, rfl, ho, hb⟩ := hrel
        rcases (show k = 0 ∨ k = 1 ∨ k = 2 by omega) with rfl | rfl | rfl
        · dsimp only [ccN, ccV] at ho
          obtain ⟨y0, y1⟩ := HQ.out _ hb
          have HB2 : Hid (Below w.heap.size w wr) := hb
          have HO2 : Hid (wr.ownsRow w.heap.size 52 9 u6 0 []) := ho
          have hsz := hb.size
          clear ho hb
          go_wp2_with
            (at_builtin
             refine wpList_append_own _ rfl _ _ 31 rfl w.heap.size 52 i0 (.agg #[.int .i64 0, .int .i64 0, .int .i64 0, .int .i64 0, .int .i64 0, .int .i64 0, .int .i64 0, .int .i64 0, .slice none 0 0]) 9 88 Tryz.underlying31 hi hz0 hz1 hz2 rfl (by decide) u6 0 [] rfl HO2.out a1 n1 c1 vs1 rfl L1.out.1 (S1.out _ HB2.out) O1.out.1 (by unfold maxLen; omega) (by omega) hsz ?_
             intro v' w4 hown4 hgrow4 _
             have HB4 : Hid (Below w.heap.size w w4) := HB2.out.grown hgrow4 hsz (fun k e => (HO2.out.lt k e).1)
             have HO4 : Hid (w4.ownsRow w.heap.size 52 9 v' n1 (vs1)) := by first | exact hown4 | (rw [Nat.zero_add, List.nil_append] at hown4; exact hown4)
             clear hown4 hgrow4)
          (try go_wp2)
          exact ⟨⟨1, by omega, by go_num, HO4.out, HB4.out⟩, by simp [intOf]⟩
        · dsimp only [ccN, ccV] at ho
          obtain ⟨y0, y1⟩ := HQ.out _ hb
          have HB2 : Hid (Below w.heap.size w wr) := hb
          have HO2 : Hid (wr.ownsRow w.heap.size 52 9 u6 n1 vs1) := ho
          have hsz := hb.size
          clear ho hb
          go_wp2_with
            (at_builtin
             refine wpList_append_own _ rfl _ _ 31 rfl w.heap.size 52 i0 (.agg #[.int .i64 0, .int .i64 0, .int .i64 0, .int .i64 0, .int .i64 0, .int .i64 0, .int .i64 0, .int .i64 0, .slice none 0 0]) 9 88 Tryz.underlying31 hi hz0 hz1 hz2 rfl (by decide) u6 n1 vs1 rfl HO2.out a2 n2 c2 vs2 rfl L1.out.2 (S2.out _ HB2.out) O1.out.2 (by unfold maxLen; omega) (by omega) hsz ?_
             intro v' w4 hown4 hgrow4 _
             have HB4 : Hid (Below w.heap.size w w4) := HB2.out.grown hgrow4 hsz (fun k e => (HO2.out.lt k e).1)
             have HO4 : Hid (w4.ownsRow w.heap.size 52 9 v' (n1 + n2) (vs1 ++ vs2)) := by first | exact hown4 | (rw [Nat.zero_add, List.nil_append] at hown4; exact hown4)
             clear hown4 hgrow4)
          (try go_wp2)
          exact ⟨⟨2, by omega, by go_num, HO4.out, HB4.out⟩, by simp [intOf]⟩
        · dsimp only [ccN, ccV] at ho
          have HB2 : Hid (Below w.heap.size w wr) := hb
          have HO2 : Hid (wr.ownsRow w.heap.size 52 9 u6 (n1 + n2) (vs1 ++ vs2)) := ho
          clear ho hb
          go_wp2
          go_ret
          first | exact ⟨HO2.out, HB2.out⟩ | exact ⟨_, rfl, HO2.out, HB2.out⟩
end
abbrev muLink : Go.Conc.Locks.MuLink := { lock := 42, unlock := 43, ilock := 66, iunlock := 67, lockSlow := 84, unlockSlow := 87, disable := 80, enable := 82, acquire := 83, relMerge := 85, cas32 := 81, add32 := 86, tMutex := 60, tIMutex := 58, tPMutex := 102, tPIMutex := 116, tPI32 := 118, tUP := 120, tNoCopy := 55, tU32 := 56 }
theorem muLib : Go.Conc.Locks.MuLib Tryz.prog muLink :=
  ⟨Tryz.func42, Tryz.func43, Tryz.func66, Tryz.func67, Tryz.func80, Tryz.func82, Tryz.func83, Tryz.func85, Tryz.func81, Tryz.func86, Tryz.underlying58, Tryz.runUnderlying58, Tryz.sizeOf58, Tryz.isAgg58, Tryz.zeroValue58, Tryz.underlying60, Tryz.runUnderlying60, Tryz.sizeOf60, Tryz.isAgg60, Tryz.zeroValue60, Tryz.underlying102, Tryz.runUnderlying102, Tryz.sizeOf102, Tryz.isAgg102, Tryz.zeroValue102, Tryz.underlying116, Tryz.runUnderlying116, Tryz.sizeOf116, Tryz.isAgg116, Tryz.zeroValue116, Tryz.underlying118, Tryz.runUnderlying118, Tryz.sizeOf118, Tryz.isAgg118, Tryz.zeroValue118, Tryz.underlying120, Tryz.runUnderlying120, Tryz.sizeOf120, Tryz.isAgg120, Tryz.zeroValue120, Tryz.underlying55, Tryz.runUnderlying55, Tryz.sizeOf55, Tryz.isAgg55, Tryz.zeroValue55, Tryz.underlying21, Tryz.runUnderlying21, Tryz.sizeOf21, Tryz.isAgg21, Tryz.zeroValue21, (by kernel_rfl)⟩
section
open Go.ChangeShapes Go.WideShapes Go.ChangeAt Go.RowKit
open Go.MuLone

def Tally (w : World) (g : Nat) (k : Int) : Prop := Box w g #[.int .i32 0, .int .u32 0, .int .i64 k] 62
theorem Tally.below {w w' : World} {g : Nat} {k : Int} (h : Tally w g k) {B : Nat} (hb : Below B w w') (hB : w.heap.size ≤ B) : Tally w' g k := Box.below h hb (Nat.lt_of_lt_of_le (Box.lt h) hB)
theorem three_of {w : World} {b : Nat} {v0 v1 v2 : Value} {T : TypeId} (h : Box w b #[v0, v1, v2] T) : w.cell? ⟨b, 0, none⟩ = some v0 ∧ w.cell? ⟨b, 1, none⟩ = some v1 ∧ w.cell? ⟨b, 2, none⟩ = some v2 ∧ w.frozen? ⟨b, 0, none⟩ = false ∧ w.frozen? ⟨b, 2, none⟩ = false := ⟨h.cell 0, h.cell 1, h.cell 2, h.frozen 0, h.frozen 2⟩
theorem add_run (g : Nat) (w : World) (h0 : w.cell? ⟨g, 0, none⟩ = some (.int .i32 0)) (h2 : w.cell? ⟨g, 2, none⟩ = some (.int .i64 0)) (f0 : w.frozen? ⟨g, 0, none⟩ = false) (f2 : w.frozen? ⟨g, 2, none⟩ = false) :
    Calls Tryz.prog 21 #[.pointer (some ⟨g, 0, none⟩)] w fun e w' => e = .returned (.tuple #[]) ∧ w' = ((w.setCell ⟨g, 0, none⟩ (.int .i32 1)).setCell ⟨g, 2, none⟩ (.int .i64 1)).setCell ⟨g, 0, none⟩ (.int .i32 0) := by
  go_enter_defers Tryz.func21, Tryz.ntmps21
  go_wp2_with (go_at_call 42; refine (lock_free muLib ⟨g, 0, none⟩ _ h0 f0).mono ?_; rintro e w' ⟨rfl, rfl⟩)
  refine leaves_cons (f := 43) (args := #[.pointer (some ⟨g, 0, none⟩)]) (by simp) (by simp [go_sem]) ?_
  refine (unlock_deferred muLib ⟨g, 0, none⟩ .returning _ ?_ ?_).mono ?_
  · exact (World.cell?_setCell_other _ ⟨g, 2, none⟩ ⟨g, 0, none⟩ _ (by simp)).trans (World.cell?_setCell_same w ⟨g, 0, none⟩ (.int .i32 1) h0)
  · simp [f0]
  rintro e u' w'' ⟨rfl, rfl, rfl⟩
  exact ⟨_, results_none rfl _ _ _, rfl, rfl⟩
theorem some_run (g : Nat) (k : Int) (w : World) (h0 : w.cell? ⟨g, 0, none⟩ = some (.int .i32 0)) (h2 : w.cell? ⟨g, 2, none⟩ = some (.int .i64 k)) (f0 : w.frozen? ⟨g, 0, none⟩ = false) :
    Calls Tryz.prog 23 #[.pointer (some ⟨g, 0, none⟩)] w fun e w' => e = .returned (.bool (decide (k > 0))) ∧ w' = (w.setCell ⟨g, 0, none⟩ (.int .i32 1)).setCell ⟨g, 0, none⟩ (.int .i32 0) := by
  have h2' : (w.setCell ⟨g, 0, none⟩ (.int .i32 1)).cell? ⟨g, 2, none⟩ = some (.int .i64 k) := (World.cell?_setCell_other w ⟨g, 0, none⟩ ⟨g, 2, none⟩ _ (by simp)).trans h2
  go_enter_defers Tryz.func23, Tryz.ntmps23
  go_wp2_with (go_at_call 42; refine (lock_free muLib ⟨g, 0, none⟩ _ h0 f0).mono ?_; rintro e w' ⟨rfl, rfl⟩)
  refine leaves_cons (f := 43) (args := #[.pointer (some ⟨g, 0, none⟩)]) (by simp) (by simp [go_sem]) ?_
  refine (unlock_deferred muLib ⟨g, 0, none⟩ .returning _ ?_ ?_).mono ?_
  · exact World.cell?_setCell_same w ⟨g, 0, none⟩ (.int .i32 1) h0
  · simp [f0]
  rintro e u' w'' ⟨rfl, rfl, rfl⟩
  exact ⟨_, results_tmp rfl _ _ _, rfl, rfl⟩
theorem tally_add (g : Nat) (w : World) (h : Tally w g 0) : Calls Tryz.prog 21 #[.pointer (some ⟨g, 0, none⟩)] w fun e w' => e = .returned (.tuple #[]) ∧ Tally w' g 1 ∧ But g w w' := by
  obtain ⟨h0, _, h2, f0, f2⟩ := three_of h
  refine (add_run g w h0 h2 f0 f2).mono ?_
  rintro e w' ⟨rfl, rfl⟩
  refine ⟨rfl, ?_, (((But.refl g w).put 0 _).put 2 _).put 0 _⟩
  exact ((Box.put h 0 (.int .i32 1)).put 2 (.int .i64 1)).put 0 (.int .i32 0)
theorem tally_some (g : Nat) (k : Int) (w : World) (h : Tally w g k) : Calls Tryz.prog 23 #[.pointer (some ⟨g, 0, none⟩)] w fun e w' => e = .returned (.bool (decide (k > 0))) ∧ Tally w' g k ∧ But g w w' := by
  obtain ⟨h0, _, h2, f0, f2⟩ := three_of h
  refine (some_run g k w h0 h2 f0).mono ?_
  rintro e w' ⟨rfl, rfl⟩
  refine ⟨rfl, ?_, ((But.refl g w).put 0 _).put 0 _⟩
  exact (Box.put h 0 (.int .i32 1)).put 0 (.int .i32 0)
def cellsC (L : List (Int × Value)) : List Value := L.flatMap fun r => [.int .i64 r.1, r.2]
theorem cellsC_snoc (L : List (Int × Value)) (k : Int) (v : Value) : cellsC L ++ [.int .i64 k, v] = cellsC (L ++ [(k, v)]) := by simp [cellsC]
abbrev ComAt (w : World) (base : Nat) (v : Value) (L : List (Int × Value)) : Prop := w.ownsRow base 50 2 v L.length (cellsC L)
theorem com_empty {w : World} {base : Nat} (hb : base ≤ w.heap.size) : ComAt (w.alloc (.cells #[] 50)) base (.slice (some ⟨w.heap.size, 0, none⟩) 0 0) [] :=
  ⟨rfl, .inr ⟨w.heap.size, 0, #[], rfl, hb, (by show (w.heap.push _)[w.heap.size]? = _; simp), Nat.le_refl _, by unfold maxLen; omega, rfl, rfl⟩⟩

theorem cell_two_new (w : World) (x y : Value) (t : TypeId) : ∀ (j : Nat) (u : Value), [x, y][j]? = some u → (w.alloc (.cells #[x, y] t)).cell? ((⟨w.heap.size, 0, none⟩ : Addr).add j) = some u := by
  intro j u hj
  rcases j with _ | _ | j
  · simp only [List.getElem?_cons_zero, Option.some.injEq] at hj; subst hj; simp [Addr.add]
  · simp only [List.getElem?_cons_succ, List.getElem?_cons_zero, Option.some.injEq] at hj; subst hj; simp [Addr.add]
  · simp at hj

theorem or_yes (base : Nat) (code : Int) (a : Option Addr) (n c : Nat) (v : Value) (L : List (Int × Value)) (w : World) (h : ComAt w base v L) (hL : L.length ≤ 3) (hb : base ≤ w.heap.size) :
    Calls Tryz.prog 72 #[v, .bool true, .int .i64 code, .slice a n c] w fun e w' => ∃ v', e = .returned v' ∧ ComAt w' base v' (L ++ [(code, .slice a n c)]) ∧ w.grownBy w' v.ownBlock := by
  obtain ⟨i0, hin⟩ : ∃ i, Tryz.prog.info? 50 = some i := ⟨_, rfl⟩
  have hz0 : i0.zero = some (.agg #[.int .i64 0, .slice none 0 0]) := by cases hin; kernel_rfl
  have hz1 : i0.size = 2 := by cases hin; kernel_rfl
  have hz2 : i0.bytes = 32 := by cases hin; kernel_rfl
  go_enter Tryz.func72, Tryz.ntmps72
  go_wp2_with (first
    | (at_builtin; refine wpList_append_own _ rfl _ _ 89 rfl base 50 i0 (.agg #[.int .i64 0, .slice none 0 0]) 2 32 Tryz.underlying89 hin hz0 hz1 hz2 rfl (by decide) _ _ _ rfl (h.alloc _) ⟨w.heap.size, 0, none⟩ 1 1 [.int .i64 code, .slice a n c] rfl rfl (cell_two_new _ _ _ _) (by intro u hu; simp at hu; rcases hu with rfl | rfl <;> rfl) (by unfold maxLen; omega) (by omega) (by simp; omega) ?_; intro v' w' hown' hgrow hnil)
    | go_in)
  go_ret
  rw [cellsC_snoc] at hown'
  refine ⟨_, rfl, ?_, (World.grownBy_alloc w _ _).trans hgrow⟩
  rw [ComAt, List.length_append]
  exact hown'
theorem or_no (code : Int) (a : Option Addr) (n c : Nat) (v : Value) (w : World) :
    Calls Tryz.prog 72 #[v, .bool false, .int .i64 code, .slice a n c] w fun e w' => e = .returned v ∧ w' = w := by
  go_enter Tryz.func72, Tryz.ntmps72
  go_wp2
  go_ret
  exact ⟨rfl, rfl⟩
theorem or_on (base : Nat) (W0 : World) (code : Int) (a : Option Addr) (n c : Nat) (v : Value) (L : List (Int × Value)) (w : World) (h : ComAt w base v L) (hL : L.length ≤ 3) (hbl : Below base W0 w) (hs : base ≤ W0.heap.size) :
    Calls Tryz.prog 72 #[v, .bool true, .int .i64 code, .slice a n c] w fun e w' => ∃ v', e = .returned v' ∧ ComAt w' base v' (L ++ [(code, .slice a n c)]) ∧ w.grownBy w' v.ownBlock ∧ Below base W0 w' := by
  have hs' : base ≤ w.heap.size := Nat.le_trans hs hbl.size
  refine (or_yes base code a n c v L w h hL hs').mono ?_
  rintro e w' ⟨v', rfl, hc, hg⟩
  exact ⟨v', rfl, hc, hg, hbl.grown hg hs' fun j hj => (h.lt j hj).1⟩

def TellsAs (w : World) : List (Int × Value) → List (Int × List Int) → Prop
  | [], [] => True
  | r :: L, q :: LL => (r.1 = q.1 ∧ ∃ a n c, r.2 = .slice a n c ∧ IntAt w a n q.2) ∧ TellsAs w L LL
  | _, _ => False
def ComSays (e : Ending) (w w' : World) (LL : List (Int × List Int)) : Prop :=
  ∃ (v : Value) (L : List (Int × Value)), e = .returned v ∧ ComAt w' w.heap.size v L ∧ TellsAs w' L LL
theorem com_empty_at {w : World} {base g : Nat} (hg : w.heap.size = g) (hb : base ≤ g) : ComAt (w.alloc (.cells #[] 50)) base (.slice (some ⟨g, 0, none⟩) 0 0) [] := by
  subst hg
  exact com_empty hb
theorem com_empty_drew {w : World} {base g : Nat} (hg : w.heap.size = g) (hb : base ≤ g) : ComAt (w.alloc (.cells #[] 50)).drew base (.slice (some ⟨g, 0, none⟩) 0 0) [] := by
  subst hg
  exact com_empty hb
theorem nil_at (w : World) : IntAt w none 0 [] := ⟨rfl, by omega, .inl rfl⟩
theorem none_told (w : World) (k : Int) : (((k, Value.slice none 0 0) : Int × Value).1 = ((k, []) : Int × List Int).1 ∧ ∃ a n c, ((k, Value.slice none 0 0) : Int × Value).2 = .slice a n c ∧ IntAt w a n ((k, []) : Int × List Int).2) := ⟨rfl, none, 0, 0, rfl, nil_at w⟩
theorem tells_1 (w : World) (k : Int) : TellsAs w [(k, .slice none 0 0)] [(k, [])] := ⟨none_told w k, trivial⟩
theorem tells_2 (w : World) (k k' : Int) : TellsAs w [(k, .slice none 0 0), (k', .slice none 0 0)] [(k, []), (k', [])] := ⟨none_told w k, none_told w k', trivial⟩
theorem tells_l {w : World} {a : Option Addr} {n c : Nat} {xs : List Int} (h : IntAt w a n xs) (k : Int) : TellsAs w [(k, .slice a n c)] [(k, xs)] := ⟨⟨rfl, a, n, c, rfl, h⟩, trivial⟩
theorem one_at {w : World} {g : Nat} {x : Int} (h : w.cell? ⟨g, 0, none⟩ = some (.int .i64 x)) : IntAt w (some ⟨g, 0, none⟩) 1 [x] :=
  ⟨rfl, by omega, .inr ⟨g, 0, rfl, fun i hi => by obtain rfl : i = 0 := by omega
                                                  exact h⟩⟩
theorem com_done {w w' : World} {v : Value} {L : List (Int × Value)} {LL : List (Int × List Int)} {B : Nat} (hB : w.heap.size ≤ B) (hc : ComAt w' B v L) (ht : TellsAs w' L LL) : ComSays (.returned v) w w' LL := ⟨v, L, rfl, own_weaken hc hB, ht⟩
theorem told_first {W : World} {b : Nat} {x : Int} {ob : Obj} {t : TypeId} (hb : W.heap.size = b) : ((W.alloc (.cells #[I x] t)).alloc ob).cell? ⟨b, 0, none⟩ = some (.int .i64 x) := by
  subst hb
  rw [World.cell?_alloc_past _ _ _ (show W.heap.size < _ by simp)]
  simp
theorem told_second {W : World} {b : Nat} {x : Int} {ob : Obj} {t : TypeId} (hb : W.heap.size = b) : ((W.alloc ob).alloc (.cells #[I x] t)).cell? ⟨b + 1, 0, none⟩ = some (.int .i64 x) := by
  subst hb
  have e : (W.alloc ob).heap.size = W.heap.size + 1 := by simp
  rw [← e]
  simp
theorem told_first_drew {W : World} {b : Nat} {x : Int} {ob : Obj} {t : TypeId} (hb : W.heap.size = b) : ((W.alloc (.cells #[I x] t)).alloc ob).drew.cell? ⟨b, 0, none⟩ = some (.int .i64 x) := told_first hb
theorem told_second_drew {W : World} {b : Nat} {x : Int} {ob : Obj} {t : TypeId} (hb : W.heap.size = b) : ((W.alloc ob).alloc (.cells #[I x] t)).drew.cell? ⟨b + 1, 0, none⟩ = some (.int .i64 x) := told_second hb
end
end Go.Proofs.YtecheopkfhfgkaaGreat
