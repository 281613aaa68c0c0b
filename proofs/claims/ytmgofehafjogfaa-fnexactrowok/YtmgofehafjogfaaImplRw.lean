/- RowOk: each value stands in its column. -/
import Derived.Test.YtmgofehafjogfaaImplSm
import Derived.Test.YtmgofehafjogfaaImplVo
import Derived.Test.YtmgofehafjogfaaRowL
namespace Go.Proofs.Ytmgofehafjogfaa
open Go.ChangeShapes Go.WideShapes Go.ChangeAt Go.RowKit Go.Maps

set_option maxHeartbeats 8000000 in
set_option maxRecDepth 100000 in
theorem holds_any (nm : ByteArray) (kd : Int) (nl : Bool) (k m : Int) (s : ByteArray) (w : World) :
    Calls Try.prog 48 #[.agg #[.string nm, .int .i64 kd, .bool nl], VaV k m s] w fun e w' => e = .returned (.bool (decide (rowFit ((k, m, s), (nm, kd, nl))))) ∧ Below w.heap.size w w' := by
  obtain ⟨R, hR⟩ : ∃ R, decide (rowFit ((k, m, s), (nm, kd, nl))) = R := ⟨_, rfl⟩
  rw [hR]
  have HR : Hid (decide (rowFit ((k, m, s), (nm, kd, nl))) = R) := hR
  obtain ⟨g, hg⟩ : ∃ g, w.heap.size = g := ⟨_, rfl⟩
  obtain ⟨W, hW⟩ : ∃ W, w.alloc (.cells #[.string nm, .int .i64 kd, .bool nl] 75) = W := ⟨_, rfl⟩
  have HG : Hid (w.heap.size = g) := hg
  have B1 : Hid (Below g w W) := by rw [← hW, ← hg]; exact (Below.refl _ w).alloc (Nat.le_refl _) _
  have X1 : Hid (Box W g #[.string nm, .int .i64 kd, .bool nl] 75) := by rw [← hW, ← hg]; exact box_of w _ _
  have HW : Hid (w.alloc (.cells #[.string nm, .int .i64 kd, .bool nl] 75) = W) := hW
  obtain ⟨h, hh⟩ : ∃ h, W.heap.size = h := ⟨_, rfl⟩
  obtain ⟨V, hV⟩ : ∃ V, W.alloc (.cells #[.int .i64 k, .int .i64 m, .string s] 43) = V := ⟨_, rfl⟩
  have HQ : Hid (g + 1 = h) := by show _ = _; rw [← hh, ← hW, World.size_alloc, hg]
  have HV : Hid (W.alloc (.cells #[.int .i64 k, .int .i64 m, .string s] 43) = V) := hV
  have HLT : Hid (g < h) := by rw [← hh]; exact X1.out.lt
  have B2 : Hid (Below h W V) := by rw [← hV, ← hh]; exact (Below.refl _ W).alloc (Nat.le_refl _) _
  have X2 : Hid (Box V h #[.int .i64 k, .int .i64 m, .string s] 43) := by rw [← hV, ← hh]; exact box_of W _ _
  have X1V : Hid (Box V g #[.string nm, .int .i64 kd, .bool nl] 75) := X1.out.below B2.out HLT.out
  have BV : Hid (Below g w V) := B1.out.trans (B2.out.mono (Nat.le_of_lt HLT.out))
  have HVS : Hid (g ≤ V.heap.size) := Nat.le_of_lt X1V.out.lt
  have BX : Hid (∀ y, Below V.heap.size V y → (y.cell? ⟨g, 0, none⟩ = some (.string nm) ∧ y.cell? ⟨g, 1, none⟩ = some (.int .i64 kd) ∧ y.cell? ⟨g, 2, none⟩ = some (.bool nl)) ∧ (y.cell? ⟨h, 0, none⟩ = some (.int .i64 k) ∧ y.cell? ⟨h, 1, none⟩ = some (.int .i64 m) ∧ y.cell? ⟨h, 2, none⟩ = some (.string s))) := fun y hb => ⟨(X1V.out.below hb X1V.out.lt).triV, (X2.out.below hb X2.out.lt).triV⟩
  rw [hg]
  clear hR hg hW hh hV
  obtain ⟨⟨c0, c1', c2'⟩, d0, d1, d2⟩ := BX.out _ (Below.refl _ _)
  go_enter Try.func48, Try.ntmps48
  go_upto_region 1 with (fail)
  rw [HW.out, HG.out, HV.out, HQ.out]
  go_wp2_with fail
  refine (implValueOk_any k m s _).mono ?_
  rintro e w3 ⟨rfl, hb3⟩
  have Y3 : Hid (Below g w w3) := BV.out.trans (hb3.mono HVS.out)
  clear c0 c1' c2' d0 d1 d2
  obtain ⟨⟨c0, c1', c2'⟩, d0, d1, d2⟩ := BX.out _ hb3
  clear hb3
  by_cases hv : VaGood k m s
  case neg =>
    rw [decide_eq_false hv]
    have HNO : Hid (¬ rowFit ((k, m, s), (nm, kd, nl))) := fun hh => hv hh.1
    have HRV : Hid (R = false) := by
      show _ = _
      rw [← HR.out]
      exact decide_eq_false HNO.out
    go_wp2
    go_ret
    exact ⟨by rw [HRV.out]; rfl, Y3.out⟩
  rw [decide_eq_true hv]
  by_cases hkd : k = kd
  case pos =>
    have hkb : (k == kd) = true := by simpa using hkd
    have HYES : Hid (rowFit ((k, m, s), (nm, kd, nl))) := ⟨hv, .inl hkd⟩
    clear hkd
    have HRV : Hid (R = true) := by
      show _ = _
      rw [← HR.out]
      exact decide_eq_true HYES.out
    go_wp2
    go_ret
    exact ⟨by rw [HRV.out]; rfl, Y3.out⟩
  have hkb : (k == kd) = false := by simpa using hkd
  by_cases hk0 : k = 0
  case neg =>
    have hkz : (k == 0) = false := by simpa using hk0
    have HNO : Hid (¬ rowFit ((k, m, s), (nm, kd, nl))) := fun hh => hh.2.elim hkd (fun h1 => hk0 h1.2)
    clear hk0 hkd
    have HRV : Hid (R = false) := by
      show _ = _
      rw [← HR.out]
      exact decide_eq_false HNO.out
    go_wp2
    go_ret
    exact ⟨by rw [HRV.out]; rfl, Y3.out⟩
  have hkz : (k == 0) = true := by simpa using hk0
  cases nl
  case false =>
    have HNO : Hid (¬ rowFit ((k, m, s), (nm, kd, false))) := fun hh => hh.2.elim hkd (fun h1 => by cases h1.1)
    clear hk0 hkd
    have HRV : Hid (R = false) := by
      show _ = _
      rw [← HR.out]
      exact decide_eq_false HNO.out
    go_wp2
    go_ret
    exact ⟨by rw [HRV.out]; rfl, Y3.out⟩
  case true =>
    have HYES : Hid (rowFit ((k, m, s), (nm, kd, true))) := ⟨hv, .inr ⟨rfl, hk0⟩⟩
    clear hk0 hkd
    have HRV : Hid (R = true) := by
      show _ = _
      rw [← HR.out]
      exact decide_eq_true HYES.out
    go_wp2
    go_ret
    exact ⟨by rw [HRV.out]; rfl, Y3.out⟩
set_option maxHeartbeats 8000000 in
set_option maxRecDepth 100000 in
theorem implRowOk_any (a1 : Option Addr) (n1 c1 : Nat) (a2 : Option Addr) (n2 c2 : Nat) (a3 : Option Addr) (n3 c3 : Nat) (S : SchD) (ra : Option Addr) (rn rc : Nat) (L : List Va3) (w : World) (h : SchAt w a1 n1 c1 a2 n2 c2 a3 n3 c3 S) (hz : SchSz S) (hA : VasAt w ra rn L) (_ : rn ≤ rc) :
    Calls Try.prog 15 #[ScV a1 n1 c1 a2 n2 c2 a3 n3 c3, .slice ra rn rc] w fun e w' => e = .returned (.bool (decide (RowGood S L))) ∧ Below w.heap.size w w' := by
  obtain ⟨R, hR⟩ : ∃ R, decide (RowGood S L) = R := ⟨_, rfl⟩
  rw [hR]
  have HR : Hid (decide (RowGood S L) = R) := hR
  have HZ : Hid (SchSz S) := hz
  clear hR hz
  obtain ⟨W, hW⟩ : ∃ W, w.alloc (.cells #[.slice a1 n1 c1, .slice a2 n2 c2, .slice a3 n3 c3] 28) = W := ⟨_, rfl⟩
  obtain ⟨g, hg⟩ : ∃ g, w.heap.size = g := ⟨_, rfl⟩
  have HG : Hid (w.heap.size = g) := hg
  have HB0 : Hid (Below g w W) := by rw [← hW, ← hg]; exact (Below.refl _ w).alloc (Nat.le_refl _) _
  have X0 : Hid (Box W g #[.slice a1 n1 c1, .slice a2 n2 c2, .slice a3 n3 c3] 28) := by rw [← hW, ← hg]; exact box_of w _ _
  have HW : Hid (w.alloc (.cells #[.slice a1 n1 c1, .slice a2 n2 c2, .slice a3 n3 c3] 28) = W) := hW
  have HSA : Hid (SchAt W a1 n1 c1 a2 n2 c2 a3 n3 c3 S) := h.below HB0.out (Nat.le_of_eq hg)
  have BX : Hid (∀ y, Below W.heap.size W y → y.cell? ⟨g, 0, none⟩ = some (.slice a1 n1 c1) ∧ y.cell? ⟨g, 1, none⟩ = some (.slice a2 n2 c2) ∧ y.cell? ⟨g, 2, none⟩ = some (.slice a3 n3 c3)) := fun y hb => (X0.out.below hb X0.out.lt).triV
  have HGS : Hid (g ≤ W.heap.size) := Nat.le_of_lt X0.out.lt
  rw [hg]
  clear hW hg h
  have HLA : Hid (VasAt W ra rn L) := hA.below HB0.out (Nat.le_of_eq HG.out)
  have hl := HSA.out.cols.1
  have hn := HSA.out.cols.2.1
  have hrl := hA.1
  have hrn := hA.2.1
  clear hA
  obtain ⟨c0, c1', c2'⟩ := BX.out _ (Below.refl _ _)
  go_enter Try.func15, Try.ntmps15
  go_upto_region 1 with (fail)
  rw [HW.out, HG.out]
  go_wp2_with fail
  refine (implSchemaOk_any a1 n1 c1 a2 n2 c2 a3 n3 c3 S _ HSA.out HZ.out).mono ?_
  rintro e w1 ⟨rfl, hb1⟩
  have Y1 : Hid (Below W.heap.size W w1) := hb1
  clear hb1 c0 c1' c2'
  obtain ⟨c0, c1', c2'⟩ := BX.out _ Y1.out
  by_cases hsg : ScGood S
  case neg =>
    rw [decide_eq_false hsg]
    have HRV : Hid (R = false) := by
      show _ = _
      rw [← HR.out]
      exact decide_eq_false fun hh => hsg hh.1
    go_wp2
    go_ret
    exact ⟨by rw [HRV.out]; rfl, HB0.out.trans (Y1.out.mono HGS.out)⟩
  rw [decide_eq_true hsg]
  by_cases hle : rn = n1
  case neg =>
    have HRV : Hid (R = false) := by
      show _ = _
      rw [← HR.out]
      exact decide_eq_false fun hh => hle (by have := hh.2.1; omega)
    have hbe : ((rn : Int) != (n1 : Int)) = true := by simp; omega
    go_wp2
    go_ret
    exact ⟨by rw [HRV.out]; rfl, HB0.out.trans (Y1.out.mono HGS.out)⟩
  subst hle
  have hbe : ((rn : Int) != (rn : Int)) = false := by simp
  have HSG : Hid (ScGood S) := hsg
  have hzl : (L.zip S.cols).length = rn := by rw [List.length_zip]; omega
  clear hsg
  go_wp2
  clear c0 c1' c2' hbe
  go_loopw [21] (fun i wr => ∃ j : Nat, j ≤ rn ∧ i = .int .i64 (j : Int) ∧ (∀ p ∈ (L.zip S.cols).take j, rowFit p) ∧ Below W.heap.size W wr) (fun i _ => rn - (RowKit.intOf i).toNat)
  case atStart => exact ⟨0, Nat.zero_le _, rfl, fun x hx => (by simp at hx), Y1.out⟩
  case round =>
    obtain ⟨j, hj, rfl, hq, hb⟩ := hrel
    have HQ : Hid (∀ p ∈ (L.zip S.cols).take j, rowFit p) := hq
    have HBW : Hid (Below W.heap.size W wr) := hb
    clear hq hb
    by_cases hlt : j < rn
    · rcases (HSA.out.cols.below HBW.out (Nat.le_refl _)).2.2 with h0 | ⟨p1, o1, rfl, g1⟩
      · omega
      obtain ⟨x, hx⟩ : ∃ x, L[j]? = some x := ⟨_, List.getElem?_eq_getElem (by omega)⟩
      obtain ⟨y, hy⟩ : ∃ y, S.cols[j]? = some y := ⟨_, List.getElem?_eq_getElem (by omega)⟩
      obtain ⟨e0, e1, e2⟩ := g1 j y hy
      have HZJ : Hid ((L.zip S.cols)[j]? = some (x, y)) := zip_at hx hy
      have HX : Hid (L[j]? = some x) := hx
      obtain ⟨k, m, s⟩ := x
      obtain ⟨nm, kd, nl⟩ := y
      dsimp only at e0 e1 e2
      have hk0 : (0 : Int) ≤ (j : Int) := by omega
      have hk1 : (j : Int) < (rn : Int) := by omega
      obtain ⟨q, hq⟩ : ∃ q, wr.heap.size = q := ⟨_, rfl⟩
      obtain ⟨V, hV⟩ : ∃ V, wr.alloc (.cells #[.string nm, .int .i64 kd, .bool nl] 75) = V := ⟨_, rfl⟩
      have HQ0 : Hid (wr.heap.size = q) := hq
      have HV : Hid (wr.alloc (.cells #[.string nm, .int .i64 kd, .bool nl] 75) = V) := hV
      have BV : Hid (Below wr.heap.size wr V) := by rw [← hV]; exact (Below.refl _ wr).alloc (Nat.le_refl _) _
      have XV : Hid (Box V q #[.string nm, .int .i64 kd, .bool nl] 75) := by rw [← hV, ← hq]; exact box_of wr _ _
      have HBV : Hid (Below W.heap.size W V) := HBW.out.trans (BV.out.mono HBW.out.size)
      clear g1 hx hy hq hV
      go_upto_region 6 with (fail)
      rw [HV.out, HQ0.out]
      clear e0 e1 e2
      rcases (HLA.out.below HBV.out (Nat.le_refl _)).2.2 with h0 | ⟨pr, or_, rfl, g2⟩
      · omega
      obtain ⟨d0, d1, d2⟩ := g2 j (k, m, s) HX.out
      dsimp only at d0 d1 d2
      obtain ⟨x0, x1, x2⟩ := XV.out.triV
      clear g2
      have HBD : Hid (Below V.heap.size V V.drew) := (Below.refl _ _).drew
      have CEL : Hid (∀ y, Below V.heap.size V y → (fun w' => w'.cell? ⟨q, 0, none⟩ = some (.string nm) ∧ w'.cell? ⟨q, 1, none⟩ = some (.int .i64 kd) ∧ w'.cell? ⟨q, 2, none⟩ = some (.bool nl) ∧ w'.cell? ⟨pr, or_ + j * 3, none⟩ = some (.int .i64 k) ∧ w'.cell? ⟨pr, or_ + j * 3 + 1, none⟩ = some (.int .i64 m) ∧ w'.cell? ⟨pr, or_ + j * 3 + 2, none⟩ = some (.string s)) y) := fun y hb => by
        have hpl : pr < V.heap.size := World.block_lt_of_cell? V _ d0
        obtain ⟨x0, x1, x2⟩ := (XV.out.below hb XV.out.lt).triV
        exact ⟨x0, x1, x2, (hb.cell hpl).trans d0, (hb.cell hpl).trans d1, (hb.cell hpl).trans d2⟩
      have K0 : Hid ((fun w' => w'.cell? ⟨q, 0, none⟩ = some (.string nm) ∧ w'.cell? ⟨q, 1, none⟩ = some (.int .i64 kd) ∧ w'.cell? ⟨q, 2, none⟩ = some (.bool nl) ∧ w'.cell? ⟨pr, or_ + j * 3, none⟩ = some (.int .i64 k) ∧ w'.cell? ⟨pr, or_ + j * 3 + 1, none⟩ = some (.int .i64 m) ∧ w'.cell? ⟨pr, or_ + j * 3 + 2, none⟩ = some (.string s)) V.drew) := CEL.out _ HBD.out
      clear x0 x1 x2 d0 d1 d2
      by_cases hf : rowFit ((k, m, s), (nm, kd, nl))
      case pos =>
        have HQ1 : Hid (∀ p ∈ (L.zip S.cols).take (j + 1), rowFit p) := take_all HQ.out HZJ.out hf
        refine wp_region_held_drew (S := fun w' => w'.cell? ⟨q, 0, none⟩ = some (.string nm) ∧ w'.cell? ⟨q, 1, none⟩ = some (.int .i64 kd) ∧ w'.cell? ⟨q, 2, none⟩ = some (.bool nl) ∧ w'.cell? ⟨pr, or_ + j * 3, none⟩ = some (.int .i64 k) ∧ w'.cell? ⟨pr, or_ + j * 3 + 1, none⟩ = some (.int .i64 m) ∧ w'.cell? ⟨pr, or_ + j * 3 + 2, none⟩ = some (.string s)) (by kernel_rfl) K0.out (fun hHeld => ?_)
        refine wpAnyH_take (i := 0) (oi := _) (v := ?v5_0) (by rw [List.getElem?_toArray]; exact rfl) (by kernel_rfl) (by kernel_rfl) (by kernel_rfl) (by intro _ _ _ h; exact h) (Or.inl ⟨by kernel_rfl, ?y5_0⟩) hHeld ?_
        case y5_0 =>
          intro w hSw
          obtain ⟨x0, x1, x2, d0, d1, d2⟩ := hSw
          go_simp
          (try with_reducible rfl)
        (try simp only [Act.put, List.setIfInBounds_toArray, List.set_cons_zero, List.set_cons_succ])
        refine wpAnyH_take (i := 1) (oi := _) (v := ?v5_1) (by rw [List.getElem?_toArray]; exact rfl) (by kernel_rfl) (by kernel_rfl) (by kernel_rfl) (by intro _ _ _ h; exact h) (Or.inl ⟨by kernel_rfl, ?y5_1⟩) hHeld ?_
        case y5_1 =>
          intro w hSw
          obtain ⟨x0, x1, x2, d0, d1, d2⟩ := hSw
          go_simp
          (try with_reducible rfl)
        (try simp only [Act.put, List.setIfInBounds_toArray, List.set_cons_zero, List.set_cons_succ])
        refine wpAnyH_take (i := 2) (oi := _) (v := ?v5_2) (by rw [List.getElem?_toArray]; exact rfl) (by kernel_rfl) (by kernel_rfl) (by kernel_rfl) (by intro _ _ _ h; exact h) (Or.inl ⟨by kernel_rfl, ?y5_2⟩) hHeld ?_
        case y5_2 =>
          intro w hSw
          obtain ⟨x0, x1, x2, d0, d1, d2⟩ := hSw
          go_simp
          (try with_reducible rfl)
        (try simp only [Act.put, List.setIfInBounds_toArray, List.set_cons_zero, List.set_cons_succ])
        refine wpAnyH_take (i := 3) (oi := _) (v := ?v5_3) (by rw [List.getElem?_toArray]; exact rfl) (by kernel_rfl) (by kernel_rfl) (by kernel_rfl) (by intro _ _ _ h; exact h) (Or.inl ⟨by kernel_rfl, ?y5_3⟩) hHeld ?_
        case y5_3 =>
          intro w hSw
          obtain ⟨x0, x1, x2, d0, d1, d2⟩ := hSw
          go_simp
          (try with_reducible rfl)
        (try simp only [Act.put, List.setIfInBounds_toArray, List.set_cons_zero, List.set_cons_succ])
        refine wpAnyH_take (i := 4) (oi := _) (v := ?v5_4) (by rw [List.getElem?_toArray]; exact rfl) (by kernel_rfl) (by kernel_rfl) (by kernel_rfl) (by intro _ _ _ h; exact h) (Or.inl ⟨by kernel_rfl, ?y5_4⟩) hHeld ?_
        case y5_4 =>
          intro w hSw
          obtain ⟨x0, x1, x2, d0, d1, d2⟩ := hSw
          go_simp
          (try with_reducible rfl)
        (try simp only [Act.put, List.setIfInBounds_toArray, List.set_cons_zero, List.set_cons_succ])
        refine wpAnyH_ready (rs := [5]) (by kernel_rfl) (by simp) ?_
        refine AllReadyH.cons (o := _) (by rw [List.getElem?_toArray]; exact rfl) (fun K hK => ?_) AllReadyH.nil
        rw [if_pos (by kernel_rfl)]
        go_simp
        refine (holds_any nm kd nl k m s _).mono ?_
        rintro e w2 ⟨rfl, hb2⟩
        rw [decide_eq_true hf]
        have Y4 : Hid (Below V.heap.size V w2) := HBD.out.trans (hb2.mono HBD.out.size)
        clear hb2
        refine hK.out _ _ (CEL.out _ Y4.out) (fun hHeld => ?_)
        clear hK K
        (try simp only [Act.put, List.setIfInBounds_toArray, List.set_cons_zero, List.set_cons_succ])
        refine wpAnyH_take (i := 6) (oi := _) (v := .bool false) (by rw [List.getElem?_toArray]; exact rfl) (by kernel_rfl) (by kernel_rfl) (by kernel_rfl) (by intro _ _ _ h; exact h) (Or.inl ⟨by kernel_rfl, ?y5_6⟩) hHeld ?_
        case y5_6 =>
          intro w hSw
          obtain ⟨x0, x1, x2, d0, d1, d2⟩ := hSw
          go_simp
          (try with_reducible rfl)
        (try simp only [Act.put, List.setIfInBounds_toArray, List.set_cons_zero, List.set_cons_succ])
        refine wpAnyH_done (by kernel_rfl) ?_ _
        (try simp only [Exit.then])
        go_wp2
        exact ⟨⟨j + 1, by omega, by go_num, HQ1.out, HBV.out.trans (Y4.out.mono HBV.out.size)⟩, by simp [RowKit.intOf]; omega⟩
      case neg =>
        have HRV : Hid (R = false) := by
          show _ = _
          rw [← HR.out]
          exact decide_eq_false fun hh => hf (hh.2.2 _ (List.mem_of_getElem? HZJ.out))
        refine wp_region_held_drew (S := fun w' => w'.cell? ⟨q, 0, none⟩ = some (.string nm) ∧ w'.cell? ⟨q, 1, none⟩ = some (.int .i64 kd) ∧ w'.cell? ⟨q, 2, none⟩ = some (.bool nl) ∧ w'.cell? ⟨pr, or_ + j * 3, none⟩ = some (.int .i64 k) ∧ w'.cell? ⟨pr, or_ + j * 3 + 1, none⟩ = some (.int .i64 m) ∧ w'.cell? ⟨pr, or_ + j * 3 + 2, none⟩ = some (.string s)) (by kernel_rfl) K0.out (fun hHeld => ?_)
        refine wpAnyH_take (i := 0) (oi := _) (v := ?v6_0) (by rw [List.getElem?_toArray]; exact rfl) (by kernel_rfl) (by kernel_rfl) (by kernel_rfl) (by intro _ _ _ h; exact h) (Or.inl ⟨by kernel_rfl, ?y6_0⟩) hHeld ?_
        case y6_0 =>
          intro w hSw
          obtain ⟨x0, x1, x2, d0, d1, d2⟩ := hSw
          go_simp
          (try with_reducible rfl)
        (try simp only [Act.put, List.setIfInBounds_toArray, List.set_cons_zero, List.set_cons_succ])
        refine wpAnyH_take (i := 1) (oi := _) (v := ?v6_1) (by rw [List.getElem?_toArray]; exact rfl) (by kernel_rfl) (by kernel_rfl) (by kernel_rfl) (by intro _ _ _ h; exact h) (Or.inl ⟨by kernel_rfl, ?y6_1⟩) hHeld ?_
        case y6_1 =>
          intro w hSw
          obtain ⟨x0, x1, x2, d0, d1, d2⟩ := hSw
          go_simp
          (try with_reducible rfl)
        (try simp only [Act.put, List.setIfInBounds_toArray, List.set_cons_zero, List.set_cons_succ])
        refine wpAnyH_take (i := 2) (oi := _) (v := ?v6_2) (by rw [List.getElem?_toArray]; exact rfl) (by kernel_rfl) (by kernel_rfl) (by kernel_rfl) (by intro _ _ _ h; exact h) (Or.inl ⟨by kernel_rfl, ?y6_2⟩) hHeld ?_
        case y6_2 =>
          intro w hSw
          obtain ⟨x0, x1, x2, d0, d1, d2⟩ := hSw
          go_simp
          (try with_reducible rfl)
        (try simp only [Act.put, List.setIfInBounds_toArray, List.set_cons_zero, List.set_cons_succ])
        refine wpAnyH_take (i := 3) (oi := _) (v := ?v6_3) (by rw [List.getElem?_toArray]; exact rfl) (by kernel_rfl) (by kernel_rfl) (by kernel_rfl) (by intro _ _ _ h; exact h) (Or.inl ⟨by kernel_rfl, ?y6_3⟩) hHeld ?_
        case y6_3 =>
          intro w hSw
          obtain ⟨x0, x1, x2, d0, d1, d2⟩ := hSw
          go_simp
          (try with_reducible rfl)
        (try simp only [Act.put, List.setIfInBounds_toArray, List.set_cons_zero, List.set_cons_succ])
        refine wpAnyH_take (i := 4) (oi := _) (v := ?v6_4) (by rw [List.getElem?_toArray]; exact rfl) (by kernel_rfl) (by kernel_rfl) (by kernel_rfl) (by intro _ _ _ h; exact h) (Or.inl ⟨by kernel_rfl, ?y6_4⟩) hHeld ?_
        case y6_4 =>
          intro w hSw
          obtain ⟨x0, x1, x2, d0, d1, d2⟩ := hSw
          go_simp
          (try with_reducible rfl)
        (try simp only [Act.put, List.setIfInBounds_toArray, List.set_cons_zero, List.set_cons_succ])
        refine wpAnyH_ready (rs := [5]) (by kernel_rfl) (by simp) ?_
        refine AllReadyH.cons (o := _) (by rw [List.getElem?_toArray]; exact rfl) (fun K hK => ?_) AllReadyH.nil
        rw [if_pos (by kernel_rfl)]
        go_simp
        refine (holds_any nm kd nl k m s _).mono ?_
        rintro e w2 ⟨rfl, hb2⟩
        rw [decide_eq_false hf]
        have Y4 : Hid (Below V.heap.size V w2) := HBD.out.trans (hb2.mono HBD.out.size)
        clear hb2
        refine hK.out _ _ (CEL.out _ Y4.out) (fun hHeld => ?_)
        clear hK K
        (try simp only [Act.put, List.setIfInBounds_toArray, List.set_cons_zero, List.set_cons_succ])
        refine wpAnyH_take (i := 6) (oi := _) (v := .bool true) (by rw [List.getElem?_toArray]; exact rfl) (by kernel_rfl) (by kernel_rfl) (by kernel_rfl) (by intro _ _ _ h; exact h) (Or.inl ⟨by kernel_rfl, ?y6_6⟩) hHeld ?_
        case y6_6 =>
          intro w hSw
          obtain ⟨x0, x1, x2, d0, d1, d2⟩ := hSw
          go_simp
          (try with_reducible rfl)
        (try simp only [Act.put, List.setIfInBounds_toArray, List.set_cons_zero, List.set_cons_succ])
        refine wpAnyH_done (by kernel_rfl) ?_ _
        (try simp only [Exit.then])
        go_wp2
        go_ret
        exact ⟨by rw [HRV.out]; rfl, HB0.out.trans ((HBV.out.trans (Y4.out.mono HBV.out.size)).mono HGS.out)⟩
    · obtain rfl : j = rn := by omega
      have HRV : Hid (R = true) := by
        have h1 := HQ.out
        rw [List.take_of_length_le (by omega)] at h1
        show _ = _
        rw [← HR.out]
        exact decide_eq_true ⟨HSG.out, by omega, h1⟩
      go_wp2
      go_ret
      exact ⟨by rw [HRV.out]; rfl, HB0.out.trans (HBW.out.mono HGS.out)⟩
end Go.Proofs.Ytmgofehafjogfaa
