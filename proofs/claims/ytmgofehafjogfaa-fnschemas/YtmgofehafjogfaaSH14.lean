/- Texts joined: ImplRw, ImplCo, Shelf, ImplPj, ImplKr, ImplTok, SpecPj, SpecKr, EqText. -/
import Derived.Test.YtmgofehafjogfaaSH13
import Derived.Test.YtmgofehafjogfaaSH10
import Derived.Test.YtmgofehafjogfaaSH02
import Derived.Deep.RegionHeld3
import Derived.Deep.Cut
import Derived.Shelf.LaysM
import Derived.Shelf.Strconv.Clone
import Derived.Test.YtmgofehafjogfaaProg
import Derived.Test.YtmgofehafjogfaaSH01
import Derived.Test.YtmgofehafjogfaaSH07
import Derived.Test.YtmgofehafjogfaaSH09
import Derived.Test.YtmgofehafjogfaaRows
set_option maxHeartbeats 8000000
set_option maxRecDepth 100000
namespace Go.Proofs.Ytmgofehafjogfaa
section
open Go.ChangeShapes Go.WideShapes Go.ChangeAt Go.RowKit Go.Maps
theorem holds_any (nm : ByteArray) (kd : Int) (nl : Bool) (k m : Int) (s : ByteArray) (w : World) :
    Calls Try.prog 48 #[.agg #[.string nm, .int .i64 kd, .bool nl], VaV k m s] w fun e w' => e = .returned (.bool (decide (rowFit ((k, m, s), (nm, kd, nl))))) ∧ Below w.heap.size w w' := by
  obtain ⟨R, hR⟩ : ∃ R, decide (rowFit ((k, m, s), (nm, kd, nl))) = R := ⟨_, rfl⟩
  rw [hR]
  have HR : Hid (decide (rowFit ((k, m, s), (nm, kd, nl))) = R) := hR
  obtain ⟨g, hg⟩ : ∃ g, w.heap.size = g := ⟨_, rfl⟩
  obtain ⟨W, hW⟩ : ∃ W, w.alloc (.cells #[.string nm, .int .i64 kd, .bool nl] 75) = W := ⟨_, rfl⟩
  have HG : Hid (w.heap.size = g) := hg
  have B1 : Hid (Below g w W) := by rw [← hW, ← hg]; exact (Below.refl _ w).alloc (Nat.le_refl _) _
  have X1 : Hid (Box W g #[.string nm, .int .i64 kd, .bool nl] 75) := by rw [← hW, ← hg]; exact box_of w _ _
  have HW : Hid (w.alloc (.cells #[.string nm, .int .i64 kd, .bool nl] 75) = W) := hW
  obtain ⟨h, hh⟩ : ∃ h, W.heap.size = h := ⟨_, rfl⟩
  obtain ⟨V, hV⟩ : ∃ V, W.alloc (.cells #[.int .i64 k, .int .i64 m, .string s] 43) = V := ⟨_, rfl⟩
  have HQ : Hid (g + 1 = h) := by show _ = _; rw [← hh, ← hW, World.size_alloc, hg]
  have HV : Hid (W.alloc (.cells #[.int .i64 k, .int .i64 m, .string s] 43) = V) := hV
  have HLT : Hid (g < h) := by rw [← hh]; exact X1.out.lt
  have B2 : Hid (Below h W V) := by rw [← hV, ← hh]; exact (Below.refl _ W).alloc (Nat.le_refl _) _
  have X2 : Hid (Box V h #[.int .i64 k, .int .i64 m, .string s] 43) := by rw [← hV, ← hh]; exact box_of W _ _
  have X1V : Hid (Box V g #[.string nm, .int .i64 kd, .bool nl] 75) := X1.out.below B2.out HLT.out
  have BV : Hid (Below g w V) := B1.out.trans (B2.out.mono (Nat.le_of_lt HLT.out))
  have HVS : Hid (g ≤ V.heap.size) := Nat.le_of_lt X1V.out.lt
  have BX : Hid (∀ y, Below V.heap.size V y → (y.cell? ⟨g, 0, none⟩ = some (.string nm) ∧ y.cell? ⟨g, 1, none⟩ = some (.int .i64 kd) ∧ y.cell? ⟨g, 2, none⟩ = some (.bool nl)) ∧ (y.cell? ⟨h, 0, none⟩ = some (.int .i64 k) ∧ y.cell? ⟨h, 1, none⟩ = some (.int .i64 m) ∧ y.cell? ⟨h, 2, none⟩ = some (.string s))) := fun y hb => ⟨(X1V.out.below hb X1V.out.lt).triV, (X2.out.below hb X2.out.lt).triV⟩
  rw [hg]
  clear hR hg hW hh hV
  obtain ⟨⟨c0, c1', c2'⟩, d0, d1, d2⟩ := BX.out _ (Below.refl _ _)
  go_enter Try.func48, Try.ntmps48
  go_upto_region 1 with (fail)
  rw [HW.out, HG.out, HV.out, HQ.out]
  go_wp2_with fail
  refine (implValueOk_any k m s _).mono ?_
  rintro e w3 ⟨rfl, hb3⟩
  have Y3 : Hid (Below g w w3) := BV.out.trans (hb3.mono HVS.out)
  clear c0 c1' c2' d0 d1 d2
  obtain ⟨⟨c0, c1', c2'⟩, d0, d1, d2⟩ := BX.out _ hb3
  clear hb3
  by_cases hv : VaGood k m s
  case neg =>
    rw [decide_eq_false hv]
    have HNO : Hid (¬ rowFit ((k, m, s), (nm, kd, nl))) := fun hh => hv hh.1
    have HRV : Hid (R = false) := by
      show _ = _
      rw [← HR.out]
      exact decide_eq_false HNO.out
    go_wp2
    go_ret
    exact ⟨by rw [HRV.out]; rfl, Y3.out⟩
  rw [decide_eq_true hv]
  by_cases hkd : k = kd
  case pos =>
    have hkb : (k == kd) = true := by simpa using hkd
    have HYES : Hid (rowFit ((k, m, s), (nm, kd, nl))) := ⟨hv, .inl hkd⟩
    clear hkd
    have HRV : Hid (R = true) := by
      show _ = _
      rw [← HR.out]
      exact decide_eq_true HYES.out
    go_wp2
    go_ret
    exact ⟨by rw [HRV.out]; rfl, Y3.out⟩
  have hkb : (k == kd) = false := by simpa using hkd
  by_cases hk0 : k = 0
  case neg =>
    have hkz : (k == 0) = false := by simpa using hk0
    have HNO : Hid (¬ rowFit ((k, m, s), (nm, kd, nl))) := fun hh => hh.2.elim hkd (fun h1 => hk0 h1.2)
    clear hk0 hkd
    have HRV : Hid (R = false) := by
      show _ = _
      rw [← HR.out]
      exact decide_eq_false HNO.out
    go_wp2
    go_ret
    exact ⟨by rw [HRV.out]; rfl, Y3.out⟩
  have hkz : (k == 0) = true := by simpa using hk0
  cases nl
  case false =>
    have HNO : Hid (¬ rowFit ((k, m, s), (nm, kd, false))) := fun hh => hh.2.elim hkd (fun h1 => by cases h1.1)
    clear hk0 hkd
    have HRV : Hid (R = false) := by
      show _ = _
      rw [← HR.out]
      exact decide_eq_false HNO.out
    go_wp2
    go_ret
    exact ⟨by rw [HRV.out]; rfl, Y3.out⟩
  case true =>
    have HYES : Hid (rowFit ((k, m, s), (nm, kd, true))) := ⟨hv, .inr ⟨rfl, hk0⟩⟩
    clear hk0 hkd
    have HRV : Hid (R = true) := by
      show _ = _
      rw [← HR.out]
      exact decide_eq_true HYES.out
    go_wp2
    go_ret
    exact ⟨by rw [HRV.out]; rfl, Y3.out⟩
theorem implRowOk_any (a1 : Option Addr) (n1 c1 : Nat) (a2 : Option Addr) (n2 c2 : Nat) (a3 : Option Addr) (n3 c3 : Nat) (S : SchD) (ra : Option Addr) (rn rc : Nat) (L : List Va3) (w : World) (h : SchAt w a1 n1 c1 a2 n2 c2 a3 n3 c3 S) (hz : SchSz S) (hA : VasAt w ra rn L) (_ : rn ≤ rc) :
    Calls Try.prog 15 #[ScV a1 n1 c1 a2 n2 c2 a3 n3 c3, .slice ra rn rc] w fun e w' => e = .returned (.bool (decide (RowGood S L))) ∧ Below w.heap.size w w' := by
  obtain ⟨R, hR⟩ : ∃ R, decide (RowGood S L) = R := ⟨_, rfl⟩
  rw [hR]
  have HR : Hid (decide (RowGood S L) = R) := hR
  have HZ : Hid (SchSz S) := hz
  clear hR hz
  obtain ⟨W, hW⟩ : ∃ W, w.alloc (.cells #[.slice a1 n1 c1, .slice a2 n2 c2, .slice a3 n3 c3] 28) = W := ⟨_, rfl⟩
  obtain ⟨g, hg⟩ : ∃ g, w.heap.size = g := ⟨_, rfl⟩
  have HG : Hid (w.heap.size = g) := hg
  have HB0 : Hid (Below g w W) := by rw [← hW, ← hg]; exact (Below.refl _ w).alloc (Nat.le_refl _) _
  have X0 : Hid (Box W g #[.slice a1 n1 c1, .slice a2 n2 c2, .slice a3 n3 c3] 28) := by rw [← hW, ← hg]; exact box_of w _ _
  have HW : Hid (w.alloc (.cells #[.slice a1 n1 c1, .slice a2 n2 c2, .slice a3 n3 c3] 28) = W) := hW
  have HSA : Hid (SchAt W a1 n1 c1 a2 n2 c2 a3 n3 c3 S) := h.below HB0.out (Nat.le_of_eq hg)
  have BX : Hid (∀ y, Below W.heap.size W y → y.cell? ⟨g, 0, none⟩ = some (.slice a1 n1 c1) ∧ y.cell? ⟨g, 1, none⟩ = some (.slice a2 n2 c2) ∧ y.cell? ⟨g, 2, none⟩ = some (.slice a3 n3 c3)) := fun y hb => (X0.out.below hb X0.out.lt).triV
  have HGS : Hid (g ≤ W.heap.size) := Nat.le_of_lt X0.out.lt
  rw [hg]
  clear hW hg h
  have HLA : Hid (VasAt W ra rn L) := hA.below HB0.out (Nat.le_of_eq HG.out)
  have hl := HSA.out.cols.1
  have hn := HSA.out.cols.2.1
  have hrl := hA.1
  have hrn := hA.2.1
  clear hA
  obtain ⟨c0, c1', c2'⟩ := BX.out _ (Below.refl _ _)
  go_enter Try.func15, Try.ntmps15
  go_upto_region 1 with (fail)
  rw [HW.out, HG.out]
  go_wp2_with fail
  refine (implSchemaOk_any a1 n1 c1 a2 n2 c2 a3 n3 c3 S _ HSA.out HZ.out).mono ?_
  rintro e w1 ⟨rfl, hb1⟩
  have Y1 : Hid (Below W.heap.size W w1) := hb1
  clear hb1 c0 c1' c2'
  obtain ⟨c0, c1', c2'⟩ := BX.out _ Y1.out
  by_cases hsg : ScGood S
  case neg =>
    rw [decide_eq_false hsg]
    have HRV : Hid (R = false) := by
      show _ = _
      rw [← HR.out]
      exact decide_eq_false fun hh => hsg hh.1
    go_wp2
    go_ret
    exact ⟨by rw [HRV.out]; rfl, HB0.out.trans (Y1.out.mono HGS.out)⟩
  rw [decide_eq_true hsg]
  by_cases hle : rn = n1
  case neg =>
    have HRV : Hid (R = false) := by
      show _ = _
      rw [← HR.out]
      exact decide_eq_false fun hh => hle (by have := hh.2.1; omega)
    have hbe : ((rn : Int) != (n1 : Int)) = true := by simp; omega
    go_wp2
    go_ret
    exact ⟨by rw [HRV.out]; rfl, HB0.out.trans (Y1.out.mono HGS.out)⟩
  subst hle
  have hbe : ((rn : Int) != (rn : Int)) = false := by simp
  have HSG : Hid (ScGood S) := hsg
  have hzl : (L.zip S.cols).length = rn := by rw [List.length_zip]; omega
  clear hsg
  go_wp2
  clear c0 c1' c2' hbe
  go_loopw [21] (fun i wr => ∃ j : Nat, j ≤ rn ∧ i = .int .i64 (j : Int) ∧ (∀ p ∈ (L.zip S.cols).take j, rowFit p) ∧ Below W.heap.size W wr) (fun i _ => rn - (RowKit.intOf i).toNat)
  case atStart => exact ⟨0, Nat.zero_le _, rfl, fun x hx => (by simp at hx), Y1.out⟩
  case round =>
    obtain ⟨j, hj, rfl, hq, hb⟩ := hrel
    have HQ : Hid (∀ p ∈ (L.zip S.cols).take j, rowFit p) := hq
    have HBW : Hid (Below W.heap.size W wr) := hb
    clear hq hb
    by_cases hlt : j < rn
    · rcases (HSA.out.cols.below HBW.out (Nat.le_refl _)).2.2 with h0 | ⟨p1, o1, rfl, g1⟩
      · omega
      obtain ⟨x, hx⟩ : ∃ x, L[j]? = some x := ⟨_, List.getElem?_eq_getElem (by omega)⟩
      obtain ⟨y, hy⟩ : ∃ y, S.cols[j]? = some y := ⟨_, List.getElem?_eq_getElem (by omega)⟩
      obtain ⟨e0, e1, e2⟩ := g1 j y hy
      have HZJ : Hid ((L.zip S.cols)[j]? = some (x, y)) := zip_at hx hy
      have HX : Hid (L[j]? = some x) := hx
      obtain ⟨k, m, s⟩ := x
      obtain ⟨nm, kd, nl⟩ := y
      dsimp only at e0 e1 e2
      have hk0 : (0 : Int) ≤ (j : Int) := by omega
      have hk1 : (j : Int) < (rn : Int) := by omega
      obtain ⟨q, hq⟩ : ∃ q, wr.heap.size = q := ⟨_, rfl⟩
      obtain ⟨V, hV⟩ : ∃ V, wr.alloc (.cells #[.string nm, .int .i64 kd, .bool nl] 75) = V := ⟨_, rfl⟩
      have HQ0 : Hid (wr.heap.size = q) := hq
      have HV : Hid (wr.alloc (.cells #[.string nm, .int .i64 kd, .bool nl] 75) = V) := hV
      have BV : Hid (Below wr.heap.size wr V) := by rw [← hV]; exact (Below.refl _ wr).alloc (Nat.le_refl _) _
      have XV : Hid (Box V q #[.string nm, .int .i64 kd, .bool nl] 75) := by rw [← hV, ← hq]; exact box_of wr _ _
      have HBV : Hid (Below W.heap.size W V) := HBW.out.trans (BV.out.mono HBW.out.size)
      clear g1 hx hy hq hV
      go_upto_region 6 with (fail)
      rw [HV.out, HQ0.out]
      clear e0 e1 e2
      rcases (HLA.out.below HBV.out (Nat.le_refl _)).2.2 with h0 | ⟨pr, or_, rfl, g2⟩
      · omega
      obtain ⟨d0, d1, d2⟩ := g2 j (k, m, s) HX.out
      dsimp only at d0 d1 d2
      obtain ⟨x0, x1, x2⟩ := XV.out.triV
      clear g2
      have HBD : Hid (Below V.heap.size V V.drew) := (Below.refl _ _).drew
      have CEL : Hid (∀ y, Below V.heap.size V y → (fun w' => w'.cell? ⟨q, 0, none⟩ = some (.string nm) ∧ w'.cell? ⟨q, 1, none⟩ = some (.int .i64 kd) ∧ w'.cell? ⟨q, 2, none⟩ = some (.bool nl) ∧ w'.cell? ⟨pr, or_ + j * 3, none⟩ = some (.int .i64 k) ∧ w'.cell? ⟨pr, or_ + j * 3 + 1, none⟩ = some (.int .i64 m) ∧ w'.cell? ⟨pr, or_ + j * 3 + 2, none⟩ = some (.string s)) y) := fun y hb => by
        have hpl : pr < V.heap.size := World.block_lt_of_cell? V _ d0
        obtain ⟨x0, x1, x2⟩ := (XV.out.below hb XV.out.lt).triV
        exact ⟨x0, x1, x2, (hb.cell hpl).trans d0, (hb.cell hpl).trans d1, (hb.cell hpl).trans d2⟩
      have K0 : Hid ((fun w' => w'.cell? ⟨q, 0, none⟩ = some (.string nm) ∧ w'.cell? ⟨q, 1, none⟩ = some (.int .i64 kd) ∧ w'.cell? ⟨q, 2, none⟩ = some (.bool nl) ∧ w'.cell? ⟨pr, or_ + j * 3, none⟩ = some (.int .i64 k) ∧ w'.cell? ⟨pr, or_ + j * 3 + 1, none⟩ = some (.int .i64 m) ∧ w'.cell? ⟨pr, or_ + j * 3 + 2, none⟩ = some (.string s)) V.drew) := CEL.out _ HBD.out
      clear x0 x1 x2 d0 d1 d2
      by_cases hf : rowFit ((k, m, s), (nm, kd, nl))
      case pos =>
        have HQ1 : Hid (∀ p ∈ (L.zip S.cols).take (j + 1), rowFit p) := take_all HQ.out HZJ.out hf
        refine wp_region_held_drew (S := fun w' => w'.cell? ⟨q, 0, none⟩ = some (.string nm) ∧ w'.cell? ⟨q, 1, none⟩ = some (.int .i64 kd) ∧ w'.cell? ⟨q, 2, none⟩ = some (.bool nl) ∧ w'.cell? ⟨pr, or_ + j * 3, none⟩ = some (.int .i64 k) ∧ w'.cell? ⟨pr, or_ + j * 3 + 1, none⟩ = some (.int .i64 m) ∧ w'.cell? ⟨pr, or_ + j * 3 + 2, none⟩ = some (.string s)) (by kernel_rfl) K0.out (fun hHeld => ?_)
        refine wpAnyH_take (i := 0) (oi := _) (v := ?v5_0) (by rw [List.getElem?_toArray]; exact rfl) (by kernel_rfl) (by kernel_rfl) (by kernel_rfl) (by intro _ _ _ h; exact h) (Or.inl ⟨by kernel_rfl, ?y5_0⟩) hHeld ?_
        case y5_0 =>
          intro w hSw
          obtain ⟨x0, x1, x2, d0, d1, d2⟩ := hSw
          go_simp
          (try with_reducible rfl)
        (try simp only [Act.put, List.setIfInBounds_toArray, List.set_cons_zero, List.set_cons_succ])
        refine wpAnyH_take (i := 1) (oi := _) (v := ?v5_1) (by rw [List.getElem?_toArray]; exact rfl) (by kernel_rfl) (by kernel_rfl) (by kernel_rfl) (by intro _ _ _ h; exact h) (Or.inl ⟨by kernel_rfl, ?y5_1⟩) hHeld ?_
        case y5_1 =>
          intro w hSw
          obtain ⟨x0, x1, x2, d0, d1, d2⟩ := hSw
          go_simp
          (try with_reducible rfl)
        (try simp only [Act.put, List.setIfInBounds_toArray, List.set_cons_zero, List.set_cons_succ])
        refine wpAnyH_take (i := 2) (oi := _) (v := ?v5_2) (by rw [List.getElem?_toArray]; exact rfl) (by kernel_rfl) (by kernel_rfl) (by kernel_rfl) (by intro _ _ _ h; exact h) (Or.inl ⟨by kernel_rfl, ?y5_2⟩) hHeld ?_
        case y5_2 =>
          intro w hSw
          obtain ⟨x0, x1, x2, d0, d1, d2⟩ := hSw
          go_simp
          (try with_reducible rfl)
        (try simp only [Act.put, List.setIfInBounds_toArray, List.set_cons_zero, List.set_cons_succ])
        refine wpAnyH_take (i := 3) (oi := _) (v := ?v5_3) (by rw [List.getElem?_toArray]; exact rfl) (by kernel_rfl) (by kernel_rfl) (by kernel_rfl) (by intro _ _ _ h; exact h) (Or.inl ⟨by kernel_rfl, ?y5_3⟩) hHeld ?_
        case y5_3 =>
          intro w hSw
          obtain ⟨x0, x1, x2, d0, d1, d2⟩ := hSw
          go_simp
          (try with_reducible rfl)
        (try simp only [Act.put, List.setIfInBounds_toArray, List.set_cons_zero, List.set_cons_succ])
        refine wpAnyH_take (i := 4) (oi := _) (v := ?v5_4) (by rw [List.getElem?_toArray]; exact rfl) (by kernel_rfl) (by kernel_rfl) (by kernel_rfl) (by intro _ _ _ h; exact h) (Or.inl ⟨by kernel_rfl, ?y5_4⟩) hHeld ?_
        case y5_4 =>
          intro w hSw
          obtain ⟨x0, x1, x2, d0, d1, d2⟩ := hSw
          go_simp
          (try with_reducible rfl)
        (try simp only [Act.put, List.setIfInBounds_toArray, List.set_cons_zero, List.set_cons_succ])
        refine wpAnyH_ready (rs := [5]) (by kernel_rfl) (by simp) ?_
        refine AllReadyH.cons (o := _) (by rw [List.getElem?_toArray]; exact rfl) (fun K hK => ?_) AllReadyH.nil
        rw [if_pos (by kernel_rfl)]
        go_simp
        refine (holds_any nm kd nl k m s _).mono ?_
        rintro e w2 ⟨rfl, hb2⟩
        rw [decide_eq_true hf]
        have Y4 : Hid (Below V.heap.size V w2) := HBD.out.trans (hb2.mono HBD.out.size)
        clear hb2
        refine hK.out _ _ (CEL.out _ Y4.out) (fun hHeld => ?_)
        clear hK K
        (try simp only [Act.put, List.setIfInBounds_toArray, List.set_cons_zero, List.set_cons_succ])
        refine wpAnyH_take (i := 6) (oi := _) (v := .bool false) (by rw [List.getElem?_toArray]; exact rfl) (by kernel_rfl) (by kernel_rfl) (by kernel_rfl) (by intro _ _ _ h; exact h) (Or.inl ⟨by kernel_rfl, ?y5_6⟩) hHeld ?_
        case y5_6 =>
          intro w hSw
          obtain ⟨x0, x1, x2, d0, d1, d2⟩ := hSw
          go_simp
          (try with_reducible rfl)
        (try simp only [Act.put, List.setIfInBounds_toArray, List.set_cons_zero, List.set_cons_succ])
        refine wpAnyH_done (by kernel_rfl) ?_ _
        (try simp only [Exit.then])
        go_wp2
        exact ⟨⟨j + 1, by omega, by go_num, HQ1.out, HBV.out.trans (Y4.out.mono HBV.out.size)⟩, by simp [RowKit.intOf]; omega⟩
      case neg =>
        have HRV : Hid (R = false) := by
          show _ = _
          rw [← HR.out]
          exact decide_eq_false fun hh => hf (hh.2.2 _ (List.mem_of_getElem? HZJ.out))
        refine wp_region_held_drew (S := fun w' => w'.cell? ⟨q, 0, none⟩ = some (.string nm) ∧ w'.cell? ⟨q, 1, none⟩ = some (.int .i64 kd) ∧ w'.cell? ⟨q, 2, none⟩ = some (.bool nl) ∧ w'.cell? ⟨pr, or_ + j * 3, none⟩ = some (.int .i64 k) ∧ w'.cell? ⟨pr, or_ + j * 3 + 1, none⟩ = some (.int .i64 m) ∧ w'.cell? ⟨pr, or_ + j * 3 + 2, none⟩ = some (.string s)) (by kernel_rfl) K0.out (fun hHeld => ?_)
        refine wpAnyH_take (i := 0) (oi := _) (v := ?v6_0) (by rw [List.getElem?_toArray]; exact rfl) (by kernel_rfl) (by kernel_rfl) (by kernel_rfl) (by intro _ _ _ h; exact h) (Or.inl ⟨by kernel_rfl, ?y6_0⟩) hHeld ?_
        case y6_0 =>
          intro w hSw
          obtain ⟨x0, x1, x2, d0, d1, d2⟩ := hSw
          go_simp
          (try with_reducible rfl)
        (try simp only [Act.put, List.setIfInBounds_toArray, List.set_cons_zero, List.set_cons_succ])
        refine wpAnyH_take (i := 1) (oi := _) (v := ?v6_1) (by rw [List.getElem?_toArray]; exact rfl) (by kernel_rfl) (by kernel_rfl) (by kernel_rfl) (by intro _ _ _ h; exact h) (Or.inl ⟨by kernel_rfl, ?y6_1⟩) hHeld ?_
        case y6_1 =>
          intro w hSw
          obtain ⟨x0, x1, x2, d0, d1, d2⟩ := hSw
          go_simp
          (try with_reducible rfl)
        (try simp only [Act.put, List.setIfInBounds_toArray, List.set_cons_zero, List.set_cons_succ])
        refine wpAnyH_take (i := 2) (oi := _) (v := ?v6_2) (by rw [List.getElem?_toArray]; exact rfl) (by kernel_rfl) (by kernel_rfl) (by kernel_rfl) (by intro _ _ _ h; exact h) (Or.inl ⟨by kernel_rfl, ?y6_2⟩) hHeld ?_
        case y6_2 =>
          intro w hSw
          obtain ⟨x0, x1, x2, d0, d1, d2⟩ := hSw
          go_simp
          (try with_reducible rfl)
        (try simp only [Act.put, List.setIfInBounds_toArray, List.set_cons_zero, List.set_cons_succ])
        refine wpAnyH_take (i := 3) (oi := _) (v := ?v6_3) (by rw [List.getElem?_toArray]; exact rfl) (by kernel_rfl) (by kernel_rfl) (by kernel_rfl) (by intro _ _ _ h; exact h) (Or.inl ⟨by kernel_rfl, ?y6_3⟩) hHeld ?_
        case y6_3 =>
          intro w hSw
          obtain ⟨x0, x1, x2, d0, d1, d2⟩ := hSw
          go_simp
          (try with_reducible rfl)
        (try simp only [Act.put, List.setIfInBounds_toArray, List.set_cons_zero, List.set_cons_succ])
        refine wpAnyH_take (i := 4) (oi := _) (v := ?v6_4) (by rw [List.getElem?_toArray]; exact rfl) (by kernel_rfl) (by kernel_rfl) (by kernel_rfl) (by intro _ _ _ h; exact h) (Or.inl ⟨by kernel_rfl, ?y6_4⟩) hHeld ?_
        case y6_4 =>
          intro w hSw
          obtain ⟨x0, x1, x2, d0, d1, d2⟩ := hSw
          go_simp
          (try with_reducible rfl)
        (try simp only [Act.put, List.setIfInBounds_toArray, List.set_cons_zero, List.set_cons_succ])
        refine wpAnyH_ready (rs := [5]) (by kernel_rfl) (by simp) ?_
        refine AllReadyH.cons (o := _) (by rw [List.getElem?_toArray]; exact rfl) (fun K hK => ?_) AllReadyH.nil
        rw [if_pos (by kernel_rfl)]
        go_simp
        refine (holds_any nm kd nl k m s _).mono ?_
        rintro e w2 ⟨rfl, hb2⟩
        rw [decide_eq_false hf]
        have Y4 : Hid (Below V.heap.size V w2) := HBD.out.trans (hb2.mono HBD.out.size)
        clear hb2
        refine hK.out _ _ (CEL.out _ Y4.out) (fun hHeld => ?_)
        clear hK K
        (try simp only [Act.put, List.setIfInBounds_toArray, List.set_cons_zero, List.set_cons_succ])
        refine wpAnyH_take (i := 6) (oi := _) (v := .bool true) (by rw [List.getElem?_toArray]; exact rfl) (by kernel_rfl) (by kernel_rfl) (by kernel_rfl) (by intro _ _ _ h; exact h) (Or.inl ⟨by kernel_rfl, ?y6_6⟩) hHeld ?_
        case y6_6 =>
          intro w hSw
          obtain ⟨x0, x1, x2, d0, d1, d2⟩ := hSw
          go_simp
          (try with_reducible rfl)
        (try simp only [Act.put, List.setIfInBounds_toArray, List.set_cons_zero, List.set_cons_succ])
        refine wpAnyH_done (by kernel_rfl) ?_ _
        (try simp only [Exit.then])
        go_wp2
        go_ret
        exact ⟨by rw [HRV.out]; rfl, HB0.out.trans ((HBV.out.trans (Y4.out.mono HBV.out.size)).mono HGS.out)⟩
    · obtain rfl : j = rn := by omega
      have HRV : Hid (R = true) := by
        have h1 := HQ.out
        rw [List.take_of_length_le (by omega)] at h1
        show _ = _
        rw [← HR.out]
        exact decide_eq_true ⟨HSG.out, by omega, h1⟩
      go_wp2
      go_ret
      exact ⟨by rw [HRV.out]; rfl, HB0.out.trans (HBW.out.mono HGS.out)⟩
theorem posN_asc (nm : List ByteArray) (k : Nat) (t : List UInt8) : (posN nm k t).Pairwise (· < ·) := by
  unfold posN
  exact List.Pairwise.map _ (fun a b h => by omega) (List.Pairwise.filter _ List.pairwise_lt_range)
theorem nm_at {L : List Col3} {i : Nat} {x : Col3} (h : L[i]? = some x) : (L.map (·.1)).getD i ⟨#[]⟩ = x.1 := by
  rw [List.getD, List.getElem?_map, h]
  rfl
theorem posN_none {L : List Col3} {s : ByteArray} (h : posN (L.map (·.1)) L.length s.data.toList = []) : colAt L s = -1 := by
  refine col_none L s fun x hx e => ?_
  obtain ⟨i, hi, rfl⟩ := List.getElem_of_mem hx
  have h1 : (i : Int) ∈ posN (L.map (·.1)) L.length s.data.toList := posN_mem.2 ⟨i, hi, by rw [nm_at (List.getElem?_eq_getElem hi), e], rfl⟩
  rw [h] at h1
  cases h1
theorem posN_first {L : List Col3} {s : ByteArray} {z : Int} {r : List Int} (h : posN (L.map (·.1)) L.length s.data.toList = z :: r) : colAt L s = z := by
  have ha := posN_asc (L.map (·.1)) L.length s.data.toList
  have hm : z ∈ posN (L.map (·.1)) L.length s.data.toList := by rw [h]; exact List.mem_cons_self
  obtain ⟨i, hi, e, rfl⟩ := posN_mem.1 hm
  rw [nm_at (List.getElem?_eq_getElem hi)] at e
  refine col_at L s i _ (List.getElem?_eq_getElem hi) (str_eq e) fun y hy e2 => ?_
  obtain ⟨k, hk, rfl⟩ := List.getElem_of_mem hy
  rw [List.length_take] at hk
  rw [List.getElem_take] at e2
  have h1 : (k : Int) ∈ posN (L.map (·.1)) L.length s.data.toList := posN_mem.2 ⟨k, by omega, by rw [nm_at (List.getElem?_eq_getElem (by omega)), e2], rfl⟩
  rw [h] at h1 ha
  rcases List.mem_cons.1 h1 with h2 | h2
  · omega
  · have := (List.pairwise_cons.1 ha).1 _ h2
    omega
theorem implColAt_any (a1 : Option Addr) (n1 c1 : Nat) (a2 : Option Addr) (n2 c2 : Nat) (a3 : Option Addr) (n3 c3 : Nat) (S : SchD) (t : ByteArray) (w : World) (h : SchAt w a1 n1 c1 a2 n2 c2 a3 n3 c3 S) (hz : SchSz S) (ht : t.size ≤ 1048576) :
    Calls Try.prog 21 #[ScV a1 n1 c1 a2 n2 c2 a3 n3 c3, .string t] w fun e w' => e = .returned (.int .i64 (colAt S.cols t)) ∧ Below w.heap.size w w' := by
  obtain ⟨R, hR⟩ : ∃ R, colAt S.cols t = R := ⟨_, rfl⟩
  rw [hR]
  have HR : Hid (colAt S.cols t = R) := hR
  have HSZ : Hid (∀ x ∈ S.cols, x.1.size ≤ 1048576) := hz.cols
  have HT : Hid (t.size ≤ 1048576) := ht
  clear hR hz ht
  obtain ⟨W, hW⟩ : ∃ W, w.alloc (.cells #[.slice a1 n1 c1, .slice a2 n2 c2, .slice a3 n3 c3] 28) = W := ⟨_, rfl⟩
  obtain ⟨g, hg⟩ : ∃ g, w.heap.size = g := ⟨_, rfl⟩
  have HG : Hid (w.heap.size = g) := hg
  have HB0 : Hid (Below g w W) := by rw [← hW, ← hg]; exact (Below.refl _ w).alloc (Nat.le_refl _) _
  have X0 : Hid (Box W g #[.slice a1 n1 c1, .slice a2 n2 c2, .slice a3 n3 c3] 28) := by rw [← hW, ← hg]; exact box_of w _ _
  have HW : Hid (w.alloc (.cells #[.slice a1 n1 c1, .slice a2 n2 c2, .slice a3 n3 c3] 28) = W) := hW
  have HSA : Hid (SchAt W a1 n1 c1 a2 n2 c2 a3 n3 c3 S) := h.below HB0.out (Nat.le_of_eq hg)
  have BX : Hid (∀ y, Below W.heap.size W y → y.cell? ⟨g, 0, none⟩ = some (.slice a1 n1 c1) ∧ y.cell? ⟨g, 1, none⟩ = some (.slice a2 n2 c2) ∧ y.cell? ⟨g, 2, none⟩ = some (.slice a3 n3 c3)) := fun y hb => (X0.out.below hb X0.out.lt).triV
  have HGS : Hid (g ≤ W.heap.size) := Nat.le_of_lt X0.out.lt
  rw [hg]
  clear hW hg h
  have HLN : Hid (S.cols.length = n1) := HSA.out.cols.1
  have HN1 : Hid (n1 ≤ 2097152) := HSA.out.cols.2.1
  obtain ⟨c0, c1', c2'⟩ := BX.out _ (Below.refl _ _)
  go_enter Try.func21, Try.ntmps21
  go_upto_region 1 with (fail)
  rw [HW.out, HG.out]
  go_wp2_with fail
  refine (byNameCol_any a1 n1 c1 S.cols _ HSA.out.cols HSZ.out).mono ?_
  rintro e w2 ⟨⟨rfl, D, hown, hd⟩, hb2⟩
  have HB2 : Hid (Below W.heap.size W w2) := hb2
  obtain ⟨v, zs, hrun, hat, hoi, hzl, -⟩ := hown.at mapLawN Try.underlying85 (zeroIntsN w2) (by have := HN1.out; unfold maxLen; omega) (keyN (s := t) (by have := HT.out; unfold maxLen; omega))
  have HZE : Hid (zs = posN (S.cols.map (·.1)) n1 t.data.toList) := ND_zs hd hat hoi
  obtain ⟨⟨p, l, c⟩, rfl⟩ := rowN_slice hoi
  have hlz : l = zs.length := rowN_len hoi
  dsimp only at hrun hoi hlz
  clear hown hd hat hb2 c0 c1' c2'
  subst hlz
  cases zs with
  | nil =>
    have HRV : Hid ((-1 : Int) = R) := by
      show _ = _
      rw [← HR.out]
      exact (posN_none (by rw [HLN.out]; exact HZE.out.symm)).symm
    clear hoi hzl
    go_wp2
    go_ret
    exact ⟨by rw [← HRV.out]; rfl, HB0.out.trans (HB2.out.mono HGS.out)⟩
  | cons z r =>
    have HRV : Hid (z = R) := by
      show _ = _
      rw [← HR.out]
      exact (posN_first (by rw [HLN.out]; exact HZE.out.symm)).symm
    obtain ⟨g3, rfl, hia, -, -⟩ := rowN_at hoi (by simp) (by have := HN1.out; omega)
    have hia2 := hia.2.2
    rcases hia2 with h0 | ⟨p2, o2, hpe, g4⟩
    · cases h0
    cases hpe
    have e0 := g4 0 (by simp)
    have hlr : (0 : Int) < ((r.length + 1 : Nat) : Int) := by omega
    clear hoi hzl hia g4
    go_wp2
    go_ret
    exact ⟨by rw [← HRV.out]; rfl, HB0.out.trans (HB2.out.mono HGS.out)⟩
end
end Go.Proofs.Ytmgofehafjogfaa
namespace Go.Proofs
open Go.Shelf
def Try.laysM316_ren : Go.Shelf.Ren := ⟨fun | 316 => 107 | n => n, fun | 9 => 9 | 3 => 3 | 4 => 4 | 37 => 22 | 0 => 0 | 127 => 139 | 5 => 5 | n => n, fun | n => n⟩
theorem Try.laysM316 : Go.Proofs.LaysM.n316 Try.prog Try.laysM316_ren := {
  mixed := by kernel_rfl
  f316 := Try.func107.trans (congrArg some (by kernel_rfl))
  t0 := Try.underlying0
  a0 := Try.isAgg0
  z0 := Try.sizeOf0
  v0 := Try.zeroValue0
  t3 := Try.underlying3
  a3 := Try.isAgg3
  z3 := Try.sizeOf3
  v3 := Try.zeroValue3
  t4 := Try.underlying4
  a4 := Try.isAgg4
  z4 := Try.sizeOf4
  v4 := Try.zeroValue4
  t9 := Try.underlying9
  a9 := Try.isAgg9
  z9 := Try.sizeOf9
  v9 := Try.zeroValue9
  t37 := Try.underlying22
  a37 := Try.isAgg22
  z37 := Try.sizeOf22
  v37 := Try.zeroValue22
  t127 := Try.underlying139
  a127 := Try.isAgg139
  z127 := Try.sizeOf139
  v127 := Try.zeroValue139
  t5 := Try.underlying5
  a5 := Try.isAgg5
  z5 := Try.sizeOf5
  v5 := Try.zeroValue5
  i0 := by kernel_rfl
  i3 := by kernel_rfl
  i4 := by kernel_rfl
  i5 := by kernel_rfl
  i9 := by kernel_rfl
  i37 := by kernel_rfl
  i127 := by kernel_rfl }
open Go.RowKit in
theorem Try.stringslite_Clone (s : ByteArray) (w : World) (hlim : s.size ≤ 281474976710656) :
    Calls Try.prog 107 #[.string s] w fun e w' => e = .returned (.string s) ∧ Below w.heap.size w w' := Any.stringslite_Clone Try.laysM316 s w hlim
end Go.Proofs
namespace Go.Proofs.Ytmgofehafjogfaa
section
open Go.ChangeShapes Go.WideShapes Go.ChangeAt Go.RowKit
theorem withinPj (x lo hi : Int) (w : World) : Calls Try.prog 57 #[.int .i64 x, .int .i64 lo, .int .i64 hi] w fun e w' => e = .returned (.bool (inB x lo hi)) ∧ w' = w := by
  by_cases h0 : lo ≤ x
  · by_cases h1 : x ≤ hi
    · rw [inB_yes ⟨h0, h1⟩]
      go_enter Try.func57, Try.ntmps57
      go_wp2
      go_ret
      exact ⟨rfl, rfl⟩
    · rw [inB_no (fun h => h1 h.2)]
      go_enter Try.func57, Try.ntmps57
      go_wp2
      go_ret
      exact ⟨rfl, rfl⟩
  · rw [inB_no (fun h => h0 h.1)]
    go_enter Try.func57, Try.ntmps57
    go_wp2
    go_ret
    exact ⟨rfl, rfl⟩
theorem clone_any (s : ByteArray) (w : World) (hs : s.size ≤ 2097152) :
    Calls Try.prog 94 #[.string s] w fun e w' => e = .returned (.string s) ∧ Below w.heap.size w w' := by
  go_enter Try.func94, Try.ntmps94
  go_wp2_with fail
  refine (Try.stringslite_Clone s _ (by omega)).mono ?_
  rintro e w1 ⟨rfl, hb⟩
  go_wp2
  go_ret
  exact ⟨rfl, hb⟩
theorem valueAnew_any (k m : Int) (s : ByteArray) (w : World) (hs : s.size ≤ 2097152) :
    Calls Try.prog 65 #[VaV k m s] w fun e w' => e = .returned (VaV k m s) ∧ Below w.heap.size w w' := by
  have HS : Hid (s.size ≤ 2097152) := hs
  obtain ⟨g, hg⟩ : ∃ g, w.heap.size = g := ⟨_, rfl⟩
  obtain ⟨W, hW⟩ : ∃ W, w.alloc (.cells #[.int .i64 k, .int .i64 m, .string s] 43) = W := ⟨_, rfl⟩
  have HG : Hid (w.heap.size = g) := hg
  have HW : Hid (w.alloc (.cells #[.int .i64 k, .int .i64 m, .string s] 43) = W) := hW
  have B1 : Hid (Below g w W) := by rw [← hW, ← hg]; exact (Below.refl _ w).alloc (Nat.le_refl _) _
  have X1 : Hid (Box W g #[.int .i64 k, .int .i64 m, .string s] 43) := by rw [← hW, ← hg]; exact box_of w _ _
  have HQ : Hid (W.heap.size = g + 1) := by show _ = _; rw [← hW, World.size_alloc, hg]
  obtain ⟨V, hV⟩ : ∃ V, W.alloc (.cells #[.int .i64 0, .int .i64 0, .string ⟨#[]⟩] 43) = V := ⟨_, rfl⟩
  have HV : Hid (W.alloc (.cells #[.int .i64 0, .int .i64 0, .string ⟨#[]⟩] 43) = V) := hV
  have B2 : Hid (Below (g + 1) W V) := by rw [← hV]; exact (Below.refl _ W).alloc (Nat.le_of_eq HQ.out.symm) _
  have X2 : Hid (Box V (g + 1) #[.int .i64 0, .int .i64 0, .string ⟨#[]⟩] 43) := by rw [← hV, ← HQ.out]; exact box_of W _ _
  have XV : Hid (Box V g #[.int .i64 k, .int .i64 m, .string s] 43) := X1.out.below B2.out (Nat.lt_succ_self g)
  have BV : Hid (Below g w V) := B1.out.trans (B2.out.mono (Nat.le_succ g))
  rw [hg]
  clear hs hg hW hV
  obtain ⟨c0, c1, c2⟩ := XV.out.triV
  go_enter Try.func65, Try.ntmps65
  go_upto_region 1 with (fail)
  rw [HW.out, HG.out, HV.out]
  go_wp2_with fail
  refine (clone_any s _ HS.out).mono ?_
  rintro e w3 ⟨rfl, hb3⟩
  have Y3 : Hid (Below g w w3) := BV.out.trans (hb3.mono (Nat.le_of_lt XV.out.lt))
  have XA : Hid (Box w3 g #[.int .i64 k, .int .i64 m, .string s] 43) := XV.out.below hb3 XV.out.lt
  have XB : Hid (Box w3 (g + 1) #[.int .i64 0, .int .i64 0, .string ⟨#[]⟩] 43) := X2.out.below hb3 X2.out.lt
  clear c0 c1 c2 hb3
  obtain ⟨c0, c1, c2⟩ := XA.out.triV
  have fA := XA.out.frozen 2
  have fB0 := XB.out.frozen 0
  have fB1 := XB.out.frozen 1
  have fB2 := XB.out.frozen 2
  obtain ⟨d0, d1, d2⟩ := XB.out.triV
  go_wp2
  obtain ⟨F, hF⟩ : ∃ F, ((((w3.setCell ⟨g, 2, none⟩ (.string s)).setCell ⟨g + 1, 0, none⟩ (.int .i64 k)).setCell ⟨g + 1, 1, none⟩ (.int .i64 m)).setCell ⟨g + 1, 2, none⟩ (.string s)) = F := ⟨_, rfl⟩
  have XF : Box F (g + 1) #[.int .i64 k, .int .i64 m, .string s] 43 := by
    rw [← hF]
    exact (((XB.out.set (q := ⟨g, 2, none⟩) (by simp) _).put 0 (.int .i64 k)).put 1 (.int .i64 m)).put 2 (.string s)
  have BF : Below g w F := by
    rw [← hF]
    exact (((Y3.out.setCell (Nat.le_refl _) _).setCell (Nat.le_succ g) _).setCell (Nat.le_succ g) _).setCell (Nat.le_succ g) _
  rw [hF]
  exact bodyPost_ret (results_cell_row Try.results65 _ F (g + 1) 43 _ _ _ rfl XF Try.underlying43 rfl (by kernel_rfl)) rfl ⟨rfl, BF⟩
theorem implProject_any (a : Option Addr) (n c : Nat) (L : List Va3) (b : Option Addr) (m d : Nat) (xs : List Int) (w : World) (h : VasAt w a n L) (_ : n ≤ c) (hz : VasSz L) (hb : IntAt w b m xs) (_ : m ≤ d) (hm : m ≤ 2097152) :
    Calls Try.prog 28 #[.slice a n c, .slice b m d] w fun e w' => (∃ v, e = .returned v ∧ VOwn w' w.heap.size v (projL L xs)) ∧ Below w.heap.size w w' := by
  have HL : Hid (VasAt w a n L) := h
  have HX : Hid (IntAt w b m xs) := hb
  have HZ : Hid (VasSz L) := hz
  have hl := h.1
  have hn := h.2.1
  have hxl := hb.1
  obtain ⟨g, hg⟩ : ∃ g, w.heap.size = g := ⟨_, rfl⟩
  have HG : Hid (w.heap.size = g) := hg
  have WSUB : Hid (IntKind.i64.wrap ((n : Int) - 1) = (n : Int) - 1) := by show _ = _; rw [IntKind.wrap_i64]; omega
  have hwz : IntKind.i64.wrap ((n : Int) - 1) = (n : Int) - 1 := WSUB.out
  rw [hg]
  clear hg h hb hz
  go_enter Try.func28, Try.ntmps28
  go_wp2
  go_loopw [5, 10] (fun v i wr => ∃ j : Nat, j ≤ m ∧ i = .int .i64 (j : Int) ∧ VOwn wr g v (projL L (xs.take j)) ∧ Below g w wr ∧ g ≤ wr.heap.size) (fun _ i _ => m - (RowKit.intOf i).toNat)
  case atStart => exact ⟨0, Nat.zero_le _, rfl, ⟨rfl, .inl ⟨rfl, rfl⟩⟩, Below.refl _ _, Nat.le_of_eq HG.out.symm⟩
  case round =>
    obtain ⟨j, hj, rfl, ho, hb, hs⟩ := hrel
    have HO : Hid (VOwn wr g u5 (projL L (xs.take j))) := ho
    have HBW : Hid (Below g w wr) := hb
    have HSZ : Hid (g ≤ wr.heap.size) := hs
    clear ho hb hs
    by_cases hlt : j < m
    · rcases (HX.out.below HBW.out (Nat.le_of_eq HG.out)).2.2 with h0 | ⟨p2, o2, rfl, g2⟩
      · omega
      obtain ⟨x, hx⟩ : ∃ x, xs[j]? = some x := ⟨_, List.getElem?_eq_getElem (by omega)⟩
      have hxd : xs.getD j 0 = x := by simp [List.getD, hx]
      have e0 := g2 j hlt
      rw [hxd] at e0
      have HSN : Hid (projL L (xs.take (j + 1)) = projL L (xs.take j) ++ projOne L x) := proj_snoc L hx
      have HPL : Hid ((projL L (xs.take j)).length ≤ j) := Nat.le_trans (proj_len L _) (by rw [List.length_take]; omega)
      have hk0 : (0 : Int) ≤ (j : Int) := by omega
      have hk1 : (j : Int) < (m : Int) := by omega
      clear hx hxd g2
      obtain ⟨bi, hbi⟩ : ∃ b, inB x 0 ((n : Int) - 1) = b := ⟨_, rfl⟩
      have HBI : Hid (inB x 0 ((n : Int) - 1) = bi) := hbi
      clear hbi
      go_wp2_with fail
      refine (withinPj _ _ _ _).mono ?_
      rintro e w2 ⟨rfl, rfl⟩
      rw [HBI.out]
      cases bi
      · have HPO : Hid (projOne L x = []) := by
          show _ = _
          unfold projOne
          rw [if_neg]
          intro hv
          have h1 := inB_yes (show 0 ≤ x ∧ x ≤ (n : Int) - 1 by omega)
          rw [HBI.out] at h1
          cases h1
        go_wp2
        exact ⟨⟨j + 1, by omega, by go_num, by rw [HSN.out, HPO.out, List.append_nil]; exact HO.out, HBW.out, HSZ.out⟩, by simp [RowKit.intOf]; omega⟩
      · have hv := inB_val HBI.out
        obtain ⟨k, rfl⟩ : ∃ k : Nat, x = (k : Int) := ⟨x.toNat, by omega⟩
        rcases (HL.out.below HBW.out (Nat.le_of_eq HG.out)).2.2 with h0 | ⟨p1, o1, rfl, g1⟩
        · omega
        obtain ⟨y, hy⟩ : ∃ y, L[k]? = some y := ⟨_, List.getElem?_eq_getElem (by omega)⟩
        have HPO : Hid (projOne L (k : Int) = [y]) := proj_yes hy
        have HSY : Hid (y.2.2.size ≤ 2097152) := HZ.out _ (List.mem_of_getElem? hy)
        obtain ⟨d0, d1, d2⟩ := g1 k y hy
        obtain ⟨ky, my, sy⟩ := y
        dsimp only at d0 d1 d2
        have hk2 : (0 : Int) ≤ (k : Int) := by omega
        have hk3 : (k : Int) < (n : Int) := by omega
        clear g1 hy hv
        go_wp2_with (first
          | (go_at_call 65
             refine (valueAnew_any ky my sy _ HSY.out).mono ?_
             rintro e w3 ⟨rfl, hb3⟩
             have HB3 : Hid (Below w2.heap.size w2 w3) := hb3
             have HO3 : Hid (VOwn w3 g u5 (projL L (xs.take j))) := owns_below HO.out hb3 (Nat.le_refl _)
             have HSZ3 : Hid (g ≤ w3.heap.size) := Nat.le_trans HSZ.out hb3.size
             have HBW3 : Hid (Below g w w3) := HBW.out.trans (hb3.mono HSZ.out)
             clear hb3 d0 d1 d2)
          | (at_builtin
             refine list_appV _ rfl _ _ rfl g u5 _ rfl (owns_below HO3.out ((Below.refl _ _).alloc (Nat.le_refl _) _) (Nat.le_refl _)) ⟨w3.heap.size, 0, none⟩ 1 1 [(ky, my, sy)] rfl rfl (vnews _ _ rfl (ky, my, sy)) (by have := HPL.out; omega) (by have := HSZ3.out; simp; omega) ?_
             intro v4 w4 hown hbel hnil
             have O4 : Hid (VOwn w4 g v4 (projL L (xs.take (j + 1)))) := by rw [HSN.out, HPO.out]; exact hown
             have hb4 : Below g w3 w4 := hbel w3 g (Nat.le_refl _) ((Below.refl g w3).alloc HSZ3.out _)
             have B4 : Hid (Below g w w4) := HBW3.out.trans hb4
             have Z4 : Hid (g ≤ w4.heap.size) := Nat.le_trans HSZ3.out hb4.size
             clear hown hbel hb4 hnil))
        exact ⟨⟨j + 1, by omega, by go_num, O4.out, B4.out, Z4.out⟩, by simp [RowKit.intOf]; omega⟩
    · obtain rfl : j = m := by omega
      have HE : Hid (xs.take j = xs) := List.take_of_length_le (by omega)
      have ho := HO.out
      rw [HE.out] at ho
      have HOE : Hid (VOwn wr g u5 (projL L xs)) := ho
      clear ho
      go_wp2
      go_ret
      exact ⟨⟨_, rfl, HOE.out⟩, HBW.out⟩
theorem implKeyOfRow_any (a1 : Option Addr) (n1 c1 : Nat) (a2 : Option Addr) (n2 c2 : Nat) (a3 : Option Addr) (n3 c3 : Nat) (S : SchD) (ra : Option Addr) (rn rc : Nat) (L : List Va3) (w : World) (h : SchAt w a1 n1 c1 a2 n2 c2 a3 n3 c3 S) (_ : SchSz S) (hA : VasAt w ra rn L) (hrc : rn ≤ rc) (hv : VasSz L) :
    Calls Try.prog 24 #[ScV a1 n1 c1 a2 n2 c2 a3 n3 c3, .slice ra rn rc] w fun e w' => (∃ v, e = .returned v ∧ VOwn w' w.heap.size v (projL L S.key)) ∧ Below w.heap.size w w' := by
  have HRC : Hid (rn ≤ rc) := hrc
  have HVS : Hid (VasSz L) := hv
  clear hrc hv
  obtain ⟨W, hW⟩ : ∃ W, w.alloc (.cells #[.slice a1 n1 c1, .slice a2 n2 c2, .slice a3 n3 c3] 28) = W := ⟨_, rfl⟩
  obtain ⟨g, hg⟩ : ∃ g, w.heap.size = g := ⟨_, rfl⟩
  have HG : Hid (w.heap.size = g) := hg
  have HB0 : Hid (Below g w W) := by rw [← hW, ← hg]; exact (Below.refl _ w).alloc (Nat.le_refl _) _
  have X0 : Hid (Box W g #[.slice a1 n1 c1, .slice a2 n2 c2, .slice a3 n3 c3] 28) := by rw [← hW, ← hg]; exact box_of w _ _
  have HW : Hid (w.alloc (.cells #[.slice a1 n1 c1, .slice a2 n2 c2, .slice a3 n3 c3] 28) = W) := hW
  have HSA : Hid (SchAt W a1 n1 c1 a2 n2 c2 a3 n3 c3 S) := h.below HB0.out (Nat.le_of_eq hg)
  have BX : Hid (∀ y, Below W.heap.size W y → y.cell? ⟨g, 0, none⟩ = some (.slice a1 n1 c1) ∧ y.cell? ⟨g, 1, none⟩ = some (.slice a2 n2 c2) ∧ y.cell? ⟨g, 2, none⟩ = some (.slice a3 n3 c3)) := fun y hb => (X0.out.below hb X0.out.lt).triV
  have HGS : Hid (g ≤ W.heap.size) := Nat.le_of_lt X0.out.lt
  rw [hg]
  clear hW hg h
  have HLA : Hid (VasAt W ra rn L) := hA.below HB0.out (Nat.le_of_eq HG.out)
  clear hA
  obtain ⟨c0, c1', c2'⟩ := BX.out _ (Below.refl _ _)
  go_enter Try.func24, Try.ntmps24
  go_upto_region 1 with (fail)
  rw [HW.out, HG.out]
  go_wp2_with fail
  refine (implProject_any ra rn rc L a2 n2 c2 S.key _ HLA.out HRC.out HVS.out HSA.out.key HSA.out.r2 HSA.out.k2).mono ?_
  rintro e w1 ⟨⟨v, rfl, ho⟩, hb1⟩
  have O1 : Hid (VOwn w1 W.heap.size v (projL L S.key)) := ho
  have HB1 : Hid (Below W.heap.size W w1) := hb1
  clear ho hb1
  go_wp2
  go_ret
  exact ⟨⟨_, rfl, own_weaken O1.out HGS.out⟩, HB0.out.trans (HB1.out.mono HGS.out)⟩
theorem tokBad_any (k n : Int) (s : ByteArray) (w : World) :
    Calls Try.prog 61 #[VaV k n s] w fun e w' => e = .returned (.bool !(decide (VaGood k n s))) ∧ Below w.heap.size w w' := by
  obtain ⟨B, hB⟩ : ∃ B, decide (VaGood k n s) = B := ⟨_, rfl⟩
  rw [hB]
  have HB : Hid (decide (VaGood k n s) = B) := hB
  clear hB
  obtain ⟨W, hW⟩ : ∃ W, w.alloc (.cells #[.int .i64 k, .int .i64 n, .string s] 43) = W := ⟨_, rfl⟩
  have HB0 : Hid (Below w.heap.size w W) := by rw [← hW]; exact (Below.refl _ w).alloc (Nat.le_refl _) _
  have X0 : Hid (Box W w.heap.size #[.int .i64 k, .int .i64 n, .string s] 43) := by rw [← hW]; exact box_of w _ _
  have HW : Hid (w.alloc (.cells #[.int .i64 k, .int .i64 n, .string s] 43) = W) := hW
  obtain ⟨c0, c1, c2⟩ := X0.out.triV
  clear hW
  go_enter Try.func61, Try.ntmps61
  go_upto_region 1 with (fail)
  rw [HW.out]
  go_wp2_with fail
  refine (implValueOk_any k n s _).mono ?_
  rintro e w1 ⟨rfl, hb1⟩
  rw [HB.out]
  have HB1 : Hid (Below w.heap.size w w1) := HB0.out.trans (hb1.mono HB0.out.size)
  clear hb1 c0 c1 c2
  go_wp2
  go_ret
  exact ⟨rfl, HB1.out⟩
theorem tokIndex_any (a : Option Addr) (n c : Nat) (L : List Va3) (w : World) (h : VasAt w a n L) :
    Calls Try.prog 93 #[.slice a n c, .func (.func 61) #[] #[]] w fun e w' => ∃ r : Int, (e = .returned (.int .i64 r) ∧ (0 ≤ r ↔ ¬ ∀ x ∈ L, VaGood x.1 x.2.1 x.2.2)) ∧ Below w.heap.size w w' := by
  have HL : Hid (VasAt w a n L) := h
  have hl := h.1
  have hn := h.2.1
  clear h
  go_enter Try.func93, Try.ntmps93
  go_wp2
  go_loopw [8] (fun i wr => ∃ j : Nat, j ≤ n ∧ i = .int .i64 (j : Int) ∧ (∀ x ∈ L.take j, VaGood x.1 x.2.1 x.2.2) ∧ Below w.heap.size w wr) (fun i _ => n - (RowKit.intOf i).toNat)
  case atStart => exact ⟨0, Nat.zero_le _, rfl, fun x hx => by simp at hx, Below.refl _ _⟩
  case round =>
    obtain ⟨j, hj, rfl, hg, hb⟩ := hrel
    have HG : Hid (∀ x ∈ L.take j, VaGood x.1 x.2.1 x.2.2) := hg
    have HBW : Hid (Below w.heap.size w wr) := hb
    clear hg hb
    by_cases hlt : j < n
    · rcases (HL.out.below HBW.out (Nat.le_refl _)).2.2 with h0 | ⟨p1, o1, rfl, g1⟩
      · omega
      obtain ⟨x, hx⟩ : ∃ x, L[j]? = some x := ⟨_, List.getElem?_eq_getElem (by omega)⟩
      obtain ⟨e0, e1, e2⟩ := g1 j x hx
      have HX : Hid (L[j]? = some x) := hx
      have HT : Hid (L.take (j + 1) = L.take j ++ [x]) := by
        show _ = _
        rw [List.take_succ_eq_append_getElem (by omega), ← (List.getElem?_eq_some_iff.1 hx).2]
      obtain ⟨k, m, s⟩ := x
      dsimp only at e0 e1 e2
      have hk0 : (0 : Int) ≤ (j : Int) := by omega
      have hk1 : (j : Int) < (n : Int) := by omega
      clear g1 hx
      go_wp2_with fail
      refine (tokBad_any k m s _).mono ?_
      rintro e w2 ⟨rfl, hb2⟩
      have HB2 : Hid (Below w.heap.size w w2) := HBW.out.trans (hb2.mono HBW.out.size)
      clear hb2 e0 e1 e2
      by_cases hv : VaGood k m s
      · rw [decide_eq_true hv]
        have hall : ∀ x ∈ L.take (j + 1), VaGood x.1 x.2.1 x.2.2 := by
          rw [HT.out]
          intro x hx
          rcases List.mem_append.1 hx with h1 | h1
          · exact HG.out x h1
          · simp at h1; subst h1; exact hv
        go_wp2
        go_roundw
        case rel => exact ⟨j + 1, by omega, by go_num, hall, HB2.out⟩
        case measure => simp [RowKit.intOf]; omega
      · rw [decide_eq_false hv]
        have HV : Hid (¬ ∀ x ∈ L, VaGood x.1 x.2.1 x.2.2) := fun h => hv (h _ (List.mem_of_getElem? HX.out))
        clear hv
        go_wp2
        go_ret
        exact ⟨(j : Int), ⟨rfl, ⟨fun _ => HV.out, fun _ => by omega⟩⟩, HB2.out⟩
    · obtain rfl : j = n := by omega
      have HALL : Hid (∀ x ∈ L, VaGood x.1 x.2.1 x.2.2) := by
        have h1 := HG.out
        rwa [List.take_of_length_le (by omega)] at h1
      go_wp2
      go_ret
      exact ⟨-1, ⟨rfl, ⟨fun h => by omega, fun h => absurd HALL.out h⟩⟩, HBW.out⟩
theorem tokContains_any (a : Option Addr) (n c : Nat) (L : List Va3) (w : World) (h : VasAt w a n L) :
    Calls Try.prog 63 #[.slice a n c, .func (.func 61) #[] #[]] w fun e w' => e = .returned (.bool !(decide (∀ x ∈ L, VaGood x.1 x.2.1 x.2.2))) ∧ Below w.heap.size w w' := by
  have HL : Hid (VasAt w a n L) := h
  clear h
  obtain ⟨B, hB⟩ : ∃ B, decide (∀ x ∈ L, VaGood x.1 x.2.1 x.2.2) = B := ⟨_, rfl⟩
  rw [hB]
  have HB : Hid (decide (∀ x ∈ L, VaGood x.1 x.2.1 x.2.2) = B) := hB
  clear hB
  go_enter Try.func63, Try.ntmps63
  go_wp2_with fail
  refine (tokIndex_any a n c L w HL.out).mono ?_
  rintro e w1 ⟨r, ⟨rfl, hr⟩, hb1⟩
  have HB1 : Hid (Below w.heap.size w w1) := hb1
  by_cases hall : ∀ x ∈ L, VaGood x.1 x.2.1 x.2.2
  · obtain rfl : true = B := (decide_eq_true hall).symm.trans HB.out
    have h1 : Hid (decide (0 ≤ r) = false) := decide_eq_false fun h => hr.1 h hall
    clear hr hall hb1
    go_wp2
    go_ret
    exact ⟨by show Ending.returned (.bool (decide (0 ≤ r))) = _; rw [h1.out]; rfl, HB1.out⟩
  · obtain rfl : false = B := (decide_eq_false hall).symm.trans HB.out
    have h1 : Hid (decide (0 ≤ r) = true) := decide_eq_true (hr.2 hall)
    clear hr hall hb1
    go_wp2
    go_ret
    exact ⟨by show Ending.returned (.bool (decide (0 ≤ r))) = _; rw [h1.out]; rfl, HB1.out⟩
theorem implTupleOk_any (a : Option Addr) (n c : Nat) (L : List Va3) (w : World) (h : VasAt w a n L) :
    Calls Try.prog 26 #[.slice a n c] w fun e w' => e = .returned (.bool (decide (TupGood L))) ∧ Below w.heap.size w w' := by
  have HL : Hid (VasAt w a n L) := h
  have hl := h.1
  have hn := h.2.1
  clear h
  by_cases h4 : n ≤ 4
  · have h5 : (n : Int) ≤ 4 := by omega
    have HD : Hid (decide (TupGood L) = decide (∀ x ∈ L, VaGood x.1 x.2.1 x.2.2)) := decide_eq_decide.2 ⟨fun h => h.1, fun h => ⟨h, by omega⟩⟩
    rw [HD.out]
    obtain ⟨B, hB⟩ : ∃ B, decide (∀ x ∈ L, VaGood x.1 x.2.1 x.2.2) = B := ⟨_, rfl⟩
    have HB : Hid (decide (∀ x ∈ L, VaGood x.1 x.2.1 x.2.2) = B) := hB
    rw [hB]
    clear hB
    go_enter Try.func26, Try.ntmps26
    go_wp2_with fail
    refine (tokContains_any a n c L w HL.out).mono ?_
    rintro e w1 ⟨rfl, hb1⟩
    rw [HB.out]
    have HB1 : Hid (Below w.heap.size w w1) := hb1
    clear hb1
    go_wp2
    go_ret
    cases B <;> exact ⟨rfl, HB1.out⟩
  · have h5 : ¬ (n : Int) ≤ 4 := by omega
    have HD : Hid (decide (TupGood L) = false) := decide_eq_false fun h => by have := h.2; omega
    rw [HD.out]
    go_enter Try.func26, Try.ntmps26
    go_wp2
    go_ret
    exact ⟨rfl, Below.refl _ _⟩
theorem specProject_any (a : Option Addr) (n c : Nat) (L : List Va3) (b : Option Addr) (m d : Nat) (xs : List Int) (w : World) (h : VasAt w a n L) (hb : IntAt w b m xs) (hm : m ≤ 2097152) :
    Calls Try.prog 29 #[.slice a n c, .slice b m d] w fun e w' => (∃ v, e = .returned v ∧ VOwn w' w.heap.size v (projL L xs)) ∧ Below w.heap.size w w' := by
  have HL : Hid (VasAt w a n L) := h
  have HX : Hid (IntAt w b m xs) := hb
  have hl := h.1
  have hn := h.2.1
  have hxl := hb.1
  obtain ⟨g, hg⟩ : ∃ g, w.heap.size = g := ⟨_, rfl⟩
  obtain ⟨W, hW⟩ : ∃ W, w.alloc (.cells #[] 43) = W := ⟨_, rfl⟩
  have HG : Hid (w.heap.size = g) := hg
  have HW : Hid (w.alloc (.cells #[] 43) = W) := hW
  have O0 : Hid (VOwn W g (.slice (some ⟨g, 0, none⟩) 0 0) []) := by rw [← hW]; exact vown_nil w hg (Nat.le_refl _)
  have HB0 : Hid (Below g w W) := by rw [← hW]; exact (Below.refl _ w).alloc (Nat.le_of_eq hg.symm) _
  have HS0 : Hid (g ≤ W.heap.size) := by show g ≤ W.heap.size; rw [← hW, World.size_alloc, hg]; exact Nat.le_succ _
  have WSUB : Hid (IntKind.i64.wrap ((n : Int) - 1) = (n : Int) - 1) := by show _ = _; rw [IntKind.wrap_i64]; omega
  have hwz : IntKind.i64.wrap ((n : Int) - 1) = (n : Int) - 1 := WSUB.out
  rw [hg]
  clear hW hg h hb
  go_enter Try.func29, Try.ntmps29
  go_upto_region 2 with (fail)
  rw [HW.out, HG.out]
  go_wp2
  go_loopw [5, 6] (fun v i wr => ∃ j : Nat, j ≤ m ∧ i = .int .i64 (j : Int) ∧ VOwn wr g v (projL L (xs.take j)) ∧ Below g w wr ∧ g ≤ wr.heap.size) (fun _ i _ => m - (RowKit.intOf i).toNat)
  case atStart => exact ⟨0, Nat.zero_le _, rfl, by simpa [projL] using O0.out, HB0.out, HS0.out⟩
  case round =>
    obtain ⟨j, hj, rfl, ho, hb, hs⟩ := hrel
    have HO : Hid (VOwn wr g u5 (projL L (xs.take j))) := ho
    have HBW : Hid (Below g w wr) := hb
    have HSZ : Hid (g ≤ wr.heap.size) := hs
    clear ho hb hs
    by_cases hlt : j < m
    · rcases (HX.out.below HBW.out (Nat.le_of_eq HG.out)).2.2 with h0 | ⟨p2, o2, rfl, g2⟩
      · omega
      obtain ⟨x, hx⟩ : ∃ x, xs[j]? = some x := ⟨_, List.getElem?_eq_getElem (by omega)⟩
      have hxd : xs.getD j 0 = x := by simp [List.getD, hx]
      have e0 := g2 j hlt
      rw [hxd] at e0
      have HSN : Hid (projL L (xs.take (j + 1)) = projL L (xs.take j) ++ projOne L x) := proj_snoc L hx
      have HPL : Hid ((projL L (xs.take j)).length ≤ j) := Nat.le_trans (proj_len L _) (by rw [List.length_take]; omega)
      have hk0 : (0 : Int) ≤ (j : Int) := by omega
      have hk1 : (j : Int) < (m : Int) := by omega
      clear hx hxd g2
      obtain ⟨bi, hbi⟩ : ∃ b, inB x 0 ((n : Int) - 1) = b := ⟨_, rfl⟩
      have HBI : Hid (inB x 0 ((n : Int) - 1) = bi) := hbi
      clear hbi
      go_wp2_with fail
      refine (l1In_g _ _ _ _).mono ?_
      rintro e w2 ⟨rfl, rfl⟩
      rw [HBI.out]
      cases bi
      · have HPO : Hid (projOne L x = []) := by
          show _ = _
          unfold projOne
          rw [if_neg]
          intro hv
          have h1 := inB_yes (show 0 ≤ x ∧ x ≤ (n : Int) - 1 by omega)
          rw [HBI.out] at h1
          cases h1
        go_wp2
        exact ⟨⟨j + 1, by omega, by go_num, by rw [HSN.out, HPO.out, List.append_nil]; exact HO.out, HBW.out, HSZ.out⟩, by simp [RowKit.intOf]; omega⟩
      · have hv := inB_val HBI.out
        obtain ⟨k, rfl⟩ : ∃ k : Nat, x = (k : Int) := ⟨x.toNat, by omega⟩
        rcases (HL.out.below HBW.out (Nat.le_of_eq HG.out)).2.2 with h0 | ⟨p1, o1, rfl, g1⟩
        · omega
        obtain ⟨y, hy⟩ : ∃ y, L[k]? = some y := ⟨_, List.getElem?_eq_getElem (by omega)⟩
        have HPO : Hid (projOne L (k : Int) = [y]) := proj_yes hy
        obtain ⟨d0, d1, d2⟩ := g1 k y hy
        obtain ⟨ky, my, sy⟩ := y
        dsimp only at d0 d1 d2
        have hk2 : (0 : Int) ≤ (k : Int) := by omega
        have hk3 : (k : Int) < (n : Int) := by omega
        clear g1 hy hv
        go_wp2_with
          (at_builtin
           refine list_appV _ rfl _ _ rfl g u5 _ rfl (owns_below HO.out ((Below.refl _ _).alloc (Nat.le_refl _) _) (Nat.le_refl _)) ⟨w2.heap.size, 0, none⟩ 1 1 [(ky, my, sy)] rfl rfl (vnews _ _ rfl (ky, my, sy)) (by have := HPL.out; omega) (by have := HSZ.out; simp; omega) ?_
           intro v4 w4 hown hbel hnil
           have O4 : Hid (VOwn w4 g v4 (projL L (xs.take (j + 1)))) := by rw [HSN.out, HPO.out]; exact hown
           have hb4 : Below g w2 w4 := hbel w2 g (Nat.le_refl _) ((Below.refl g w2).alloc HSZ.out _)
           have B4 : Hid (Below g w w4) := HBW.out.trans hb4
           have Z4 : Hid (g ≤ w4.heap.size) := Nat.le_trans HSZ.out hb4.size
           clear hown hbel hb4 hnil)
        exact ⟨⟨j + 1, by omega, by go_num, O4.out, B4.out, Z4.out⟩, by simp [RowKit.intOf]; omega⟩
    · obtain rfl : j = m := by omega
      have HE : Hid (xs.take j = xs) := List.take_of_length_le (by omega)
      have ho := HO.out
      rw [HE.out] at ho
      have HOE : Hid (VOwn wr g u5 (projL L xs)) := ho
      clear ho
      go_wp2
      go_ret
      exact ⟨⟨_, rfl, HOE.out⟩, HBW.out⟩
theorem specKeyOfRow_any (a1 : Option Addr) (n1 c1 : Nat) (a2 : Option Addr) (n2 c2 : Nat) (a3 : Option Addr) (n3 c3 : Nat) (S : SchD) (ra : Option Addr) (rn rc : Nat) (L : List Va3) (w : World) (h : SchAt w a1 n1 c1 a2 n2 c2 a3 n3 c3 S) (hA : VasAt w ra rn L) :
    Calls Try.prog 25 #[ScV a1 n1 c1 a2 n2 c2 a3 n3 c3, .slice ra rn rc] w fun e w' => (∃ v, e = .returned v ∧ VOwn w' w.heap.size v (projL L S.key)) ∧ Below w.heap.size w w' := by
  obtain ⟨W, hW⟩ : ∃ W, w.alloc (.cells #[.slice a1 n1 c1, .slice a2 n2 c2, .slice a3 n3 c3] 28) = W := ⟨_, rfl⟩
  obtain ⟨g, hg⟩ : ∃ g, w.heap.size = g := ⟨_, rfl⟩
  have HG : Hid (w.heap.size = g) := hg
  have HB0 : Hid (Below g w W) := by rw [← hW, ← hg]; exact (Below.refl _ w).alloc (Nat.le_refl _) _
  have X0 : Hid (Box W g #[.slice a1 n1 c1, .slice a2 n2 c2, .slice a3 n3 c3] 28) := by rw [← hW, ← hg]; exact box_of w _ _
  have HW : Hid (w.alloc (.cells #[.slice a1 n1 c1, .slice a2 n2 c2, .slice a3 n3 c3] 28) = W) := hW
  have HSA : Hid (SchAt W a1 n1 c1 a2 n2 c2 a3 n3 c3 S) := h.below HB0.out (Nat.le_of_eq hg)
  have BX : Hid (∀ y, Below W.heap.size W y → y.cell? ⟨g, 0, none⟩ = some (.slice a1 n1 c1) ∧ y.cell? ⟨g, 1, none⟩ = some (.slice a2 n2 c2) ∧ y.cell? ⟨g, 2, none⟩ = some (.slice a3 n3 c3)) := fun y hb => (X0.out.below hb X0.out.lt).triV
  have HGS : Hid (g ≤ W.heap.size) := Nat.le_of_lt X0.out.lt
  rw [hg]
  clear hW hg h
  have HLA : Hid (VasAt W ra rn L) := hA.below HB0.out (Nat.le_of_eq HG.out)
  clear hA
  go_enter Try.func25, Try.ntmps25
  go_upto_region 1 with (fail)
  rw [HW.out, HG.out]
  obtain ⟨c0, c1', c2'⟩ := BX.out _ (Below.refl _ _)
  go_wp2_with fail
  refine (specProject_any ra rn rc L a2 n2 c2 S.key _ HLA.out HSA.out.key HSA.out.k2).mono ?_
  rintro e w1 ⟨⟨v, rfl, ho⟩, hb1⟩
  have O1 : Hid (VOwn w1 W.heap.size v (projL L S.key)) := ho
  have HB1 : Hid (Below W.heap.size W w1) := hb1
  clear ho hb1
  go_wp2
  go_ret
  exact ⟨⟨_, rfl, own_weaken O1.out HGS.out⟩, HB0.out.trans (HB1.out.mono HGS.out)⟩
theorem eqT_yes {a b : ByteArray} (h : a = b) : (a.toList == b.toList) = true := by subst h; simp
theorem eqT_no {a b : ByteArray} (h : ¬ a = b) : (a.toList == b.toList) = false := by
  rw [ByteArray.toList_eq, ByteArray.toList_eq, beq_eq_false_iff_ne]
  exact fun e => h (str_eq e)
end
end Go.Proofs.Ytmgofehafjogfaa
