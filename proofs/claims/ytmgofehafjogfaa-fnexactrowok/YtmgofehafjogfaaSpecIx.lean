/- spec.l19Indexes, walked. -/
import Derived.Test.YtmgofehafjogfaaSpecPl
import Derived.Test.YtmgofehafjogfaaSpecCn
import Derived.Test.YtmgofehafjogfaaEqText
namespace Go.Proofs.Ytmgofehafjogfaa
open Go.ChangeShapes Go.WideShapes Go.ChangeAt Go.RowKit

set_option maxHeartbeats 4000000 in
set_option maxRecDepth 100000 in
theorem specIndexes_any (a1 : Option Addr) (n1 c1 : Nat) (a2 : Option Addr) (n2 c2 : Nat) (a3 : Option Addr) (n3 c3 : Nat) (S : SchD) (hsz : ∀ x ∈ S.idx, x.1.size ≤ 9223372036854775807) (w : World) (h : SchAt w a1 n1 c1 a2 n2 c2 a3 n3 c3 S) :
    Calls Try.prog 56 #[ScV a1 n1 c1 a2 n2 c2 a3 n3 c3] w fun e w' => e = .returned (.bool (decide (IxGood S.cols.length S.idx))) ∧ Below w.heap.size w w' := by
  obtain ⟨R, hR⟩ : ∃ R, decide (IxGood S.cols.length S.idx) = R := ⟨_, rfl⟩
  rw [hR]
  have HR : Hid (decide (IxGood S.cols.length S.idx) = R) := hR
  have HSZ : Hid (∀ x ∈ S.idx, x.1.size ≤ 9223372036854775807) := hsz
  clear hR hsz
  obtain ⟨W, hW⟩ : ∃ W, w.alloc (.cells #[.slice a1 n1 c1, .slice a2 n2 c2, .slice a3 n3 c3] 28) = W := ⟨_, rfl⟩
  obtain ⟨g, hg⟩ : ∃ g, w.heap.size = g := ⟨_, rfl⟩
  have HG : Hid (w.heap.size = g) := hg
  have HB0 : Hid (Below g w W) := by rw [← hW, ← hg]; exact (Below.refl _ w).alloc (Nat.le_refl _) _
  have X0 : Hid (Box W g #[.slice a1 n1 c1, .slice a2 n2 c2, .slice a3 n3 c3] 28) := by rw [← hW, ← hg]; exact box_of w _ _
  have HW : Hid (w.alloc (.cells #[.slice a1 n1 c1, .slice a2 n2 c2, .slice a3 n3 c3] 28) = W) := hW
  have HSA : Hid (SchAt W a1 n1 c1 a2 n2 c2 a3 n3 c3 S) := h.below HB0.out (Nat.le_of_eq hg)
  have BX : Hid (∀ y, Below W.heap.size W y → y.cell? ⟨g, 0, none⟩ = some (.slice a1 n1 c1) ∧ y.cell? ⟨g, 1, none⟩ = some (.slice a2 n2 c2) ∧ y.cell? ⟨g, 2, none⟩ = some (.slice a3 n3 c3)) := fun y hb => (X0.out.below hb X0.out.lt).triV
  have HGS : Hid (g ≤ W.heap.size) := Nat.le_of_lt X0.out.lt
  rw [hg]
  clear hW hg h
  have hl := HSA.out.idx.1
  have hn := HSA.out.idx.2.1
  go_enter Try.func56, Try.ntmps56
  go_upto_region 1 with (fail)
  rw [HW.out, HG.out]
  obtain ⟨c0, c1', c2'⟩ := BX.out _ (Below.refl _ _)
  go_wp2
  clear c0 c1' c2'
  go_loopw [3] (fun i wr => ∃ j : Nat, j ≤ n3 ∧ i = .int .i64 (j : Int) ∧ (∀ x ∈ S.idx.take j, CnGood x.1 ∧ PlGood S.cols.length x.2.1 3) ∧ ((S.idx.take j).map (·.1)).Nodup ∧ Below W.heap.size W wr) (fun i _ => n3 - (RowKit.intOf i).toNat)
  case atStart => exact ⟨0, Nat.zero_le _, rfl, fun x hx => (by simp at hx), (by simp), Below.refl _ _⟩
  case round =>
    obtain ⟨j, hj, rfl, hq, hnd, hb⟩ := hrel
    have HQ : Hid (∀ x ∈ S.idx.take j, CnGood x.1 ∧ PlGood S.cols.length x.2.1 3) := hq
    have HN : Hid (((S.idx.take j).map (·.1)).Nodup) := hnd
    have HBW : Hid (Below W.heap.size W wr) := hb
    obtain ⟨c0, c1', c2'⟩ := BX.out _ HBW.out
    clear hq hnd hb
    by_cases hlt : j < n3
    · rcases (HSA.out.idx.below HBW.out (Nat.le_refl _)).2.2 with h0 | ⟨p1, o1, rfl, g1⟩
      · omega
      obtain ⟨x, hx⟩ : ∃ x, S.idx[j]? = some x := ⟨_, List.getElem?_eq_getElem (by omega)⟩
      obtain ⟨e0, ⟨ai, ni, ci, e1, hni, hni2, hia⟩, e2⟩ := g1 j x hx
      have HX : Hid (S.idx[j]? = some x) := hx
      have hsn := HSZ.out x (List.mem_of_getElem? hx)
      obtain ⟨nm, L, un⟩ := x
      dsimp only at e0 e1 e2 hia hsn
      have HIA : Hid (IntAt wr ai ni L) := hia
      have hk0 : (0 : Int) ≤ (j : Int) := by omega
      have hk1 : (j : Int) < (n3 : Int) := by omega
      obtain ⟨Y, hY⟩ : ∃ Y, wr.alloc (.cells #[.string nm, .slice ai ni ci, .bool un] 105) = Y := ⟨_, rfl⟩
      obtain ⟨q, hqz⟩ : ∃ q, wr.heap.size = q := ⟨_, rfl⟩
      have HQZ : Hid (wr.heap.size = q) := hqz
      have HY : Hid (wr.alloc (.cells #[.string nm, .slice ai ni ci, .bool un] 105) = Y) := hY
      have YB : Hid (Below W.heap.size W Y) := by rw [← hY]; exact HBW.out.alloc HBW.out.size _
      have YX : Hid (Box Y q #[.string nm, .slice ai ni ci, .bool un] 105) := by rw [← hY, ← hqz]; exact box_of wr _ _
      have YI : Hid (IntAt Y ai ni L) := by rw [← hY]; exact HIA.out.below ((Below.refl _ wr).alloc (Nat.le_refl _) _) (Nat.le_refl _)
      have CEL : Hid (∀ y, Below Y.heap.size Y y → (y.cell? ⟨g, 0, none⟩ = some (.slice a1 n1 c1) ∧ y.cell? ⟨g, 1, none⟩ = some (.slice a2 n2 c2) ∧ y.cell? ⟨g, 2, none⟩ = some (.slice (some ⟨p1, o1, none⟩) n3 c3)) ∧ y.cell? ⟨q, 0, none⟩ = some (.string nm) ∧ y.cell? ⟨q, 1, none⟩ = some (.slice ai ni ci)) := fun y hb => ⟨BX.out y (YB.out.trans (hb.mono YB.out.size)), ((YX.out.below hb YX.out.lt).triV).1, ((YX.out.below hb YX.out.lt).triV).2.1⟩
      have ON : Hid (∀ y, Below Y.heap.size Y y → Below W.heap.size W y) := fun y hb => YB.out.trans (hb.mono YB.out.size)
      clear g1 hx hqz hia hY
      go_upto_region 5 with (fail)
      rw [HY.out, HQZ.out]
      clear c0 c1' c2' e0 e1 e2
      obtain ⟨⟨c0, c1', c2'⟩, x0, x1⟩ := CEL.out _ (Below.refl _ _)
      go_wp2_with fail
      refine (specColNameOk_any nm hsn _).mono ?_
      rintro e w2 ⟨rfl, rfl⟩
      by_cases hv : CnGood nm
      case neg =>
        rw [decide_eq_false hv]
        have HRV : Hid (R = false) := by
          show _ = _
          rw [← HR.out]
          exact decide_eq_false fun hh => hv (hh.1 _ (List.mem_of_getElem? HX.out)).1
        go_wp2
        go_ret
        exact ⟨by rw [HRV.out]; rfl, HB0.out.trans (YB.out.mono HGS.out)⟩
      rw [decide_eq_true hv]
      have HV1 : Hid (CnGood nm) := hv
      clear hv
      go_wp2_with fail
      refine (specPlaces_any a1 n1 c1 a2 n2 c2 (some ⟨p1, o1, none⟩) n3 c3 S ai ni ci L 3 _ (HSA.out.below YB.out (Nat.le_refl _)) YI.out hni2).mono ?_
      rintro e w3 ⟨rfl, hb3⟩
      have Y3 : Hid (Below w2.heap.size w2 w3) := hb3
      clear hb3 c0 c1' c2' x0 x1
      by_cases hv : PlGood S.cols.length L 3
      case neg =>
        rw [decide_eq_false hv]
        have HRV : Hid (R = false) := by
          show _ = _
          rw [← HR.out]
          exact decide_eq_false fun hh => hv (hh.1 _ (List.mem_of_getElem? HX.out)).2
        go_wp2
        go_ret
        exact ⟨by rw [HRV.out]; rfl, HB0.out.trans ((ON.out _ Y3.out).mono HGS.out)⟩
      rw [decide_eq_true hv]
      have HQ1 : Hid (∀ x ∈ S.idx.take (j + 1), CnGood x.1 ∧ PlGood S.cols.length x.2.1 3) := take_all HQ.out HX.out ⟨HV1.out, hv⟩
      clear hv
      go_wp2
      go_loopw [5] (fun i wr => ∃ k : Nat, k ≤ j ∧ i = .int .i64 (k : Int) ∧ (∀ y ∈ (S.idx.map (·.1)).take k, ¬ y = nm) ∧ Below w2.heap.size w2 wr) (fun i _ => j - (RowKit.intOf i).toNat)
      case atStart => exact ⟨0, Nat.zero_le _, rfl, fun y hy => (by simp at hy), Y3.out⟩
      case round =>
        obtain ⟨k, hk, rfl, hq, hb⟩ := hrel
        have HK : Hid (∀ y ∈ (S.idx.map (·.1)).take k, ¬ y = nm) := hq
        have HBV : Hid (Below w2.heap.size w2 _) := hb
        clear hq hb
        by_cases hlk : k < j
        · rcases (HSA.out.idx.below (ON.out _ HBV.out) (Nat.le_refl _)).2.2 with h0 | ⟨p1', o1', hpe, g1⟩
          · omega
          cases hpe
          obtain ⟨y, hy⟩ : ∃ y, S.idx[k]? = some y := ⟨_, List.getElem?_eq_getElem (by omega)⟩
          have HYK : Hid ((S.idx.map (·.1))[k]? = some y.1) := by show _ = _; rw [List.getElem?_map, hy]; rfl
          have e0 := (g1 k y hy).1
          obtain ⟨nk, hnk⟩ : ∃ nk, y.1 = nk := ⟨_, rfl⟩
          rw [hnk] at HYK e0
          have hk2 : (0 : Int) ≤ (k : Int) := by omega
          have hk3 : (k : Int) < (j : Int) := by omega
          have hk4 : (k : Int) < (n3 : Int) := by omega
          obtain ⟨⟨c0, c1', c2'⟩, x0, x1⟩ := CEL.out _ HBV.out
          clear g1 hy hnk
          by_cases hyx : nk = nm
          · have HRV : Hid (R = false) := by
              show _ = _
              rw [← HR.out]
              refine decide_eq_false fun hh => nodup_take (j := j) (x := nm) hh.2.1 (by rw [List.getElem?_map, HX.out]; rfl) nk ?_ hyx
              exact List.mem_iff_getElem?.2 ⟨k, by rw [List.getElem?_take, if_pos hlk]; exact HYK.out⟩
            have hbe := eqT_yes hyx
            clear hyx
            go_wp2
            go_region
            go_wp2
            go_ret
            exact ⟨by rw [HRV.out]; rfl, HB0.out.trans ((ON.out _ HBV.out.drew).mono HGS.out)⟩
          · have hbe := eqT_no hyx
            have HK1 : Hid (∀ z ∈ (S.idx.map (·.1)).take (k + 1), ¬ z = nm) := take_all HK.out HYK.out hyx
            clear hyx
            go_wp2
            go_region
            go_wp2
            exact ⟨⟨k + 1, by omega, by go_num, HK1.out, HBV.out.drew⟩, by simp [RowKit.intOf]; omega⟩
        · obtain rfl : k = j := by omega
          have HN1 : Hid (((S.idx.take (k + 1)).map (·.1)).Nodup) := by
            show List.Nodup _
            have h1 := HN.out
            rw [List.map_take] at h1 ⊢
            exact take_nodup h1 (by rw [List.getElem?_map, HX.out]; rfl) HK.out
          go_wp2
          exact ⟨⟨k + 1, by omega, by go_num, HQ1.out, HN1.out, ON.out _ HBV.out⟩, by simp [RowKit.intOf]; omega⟩
    · obtain rfl : j = n3 := by omega
      have HRV : Hid (decide ((j : Int) ≤ 3) = R) := by
        have h1 := HQ.out
        have h2 := HN.out
        rw [List.take_of_length_le (by omega)] at h1 h2
        show _ = _
        rw [← HR.out]
        exact decide_eq_decide.2 ⟨fun hh => ⟨h1, h2, by omega⟩, fun hh => by have := hh.2.2; omega⟩
      go_wp2
      go_ret
      exact ⟨by rw [← HRV.out]; rfl, HB0.out.trans (HBW.out.mono HGS.out)⟩
end Go.Proofs.Ytmgofehafjogfaa
