/- Texts joined: SpecCo, SpecPl, SpecCn, SpecIx. -/
import Derived.Test.YtmgofehafjogfaaSH01
import Derived.Test.YtmgofehafjogfaaSH14
import Derived.Test.YtmgofehafjogfaaRows
import Derived.Deep.Cut
import Derived.Test.YtmgofehafjogfaaSH09
import Derived.Deep.RegionHeld3
set_option maxHeartbeats 4000000
set_option maxRecDepth 100000
namespace Go.Proofs.Ytmgofehafjogfaa
section
open Go.ChangeShapes Go.WideShapes Go.ChangeAt Go.RowKit
theorem specColAt_any (a1 : Option Addr) (n1 c1 : Nat) (a2 : Option Addr) (n2 c2 : Nat) (a3 : Option Addr) (n3 c3 : Nat) (S : SchD) (s : ByteArray) (w : World) (h : SchAt w a1 n1 c1 a2 n2 c2 a3 n3 c3 S) :
    Calls Try.prog 22 #[ScV a1 n1 c1 a2 n2 c2 a3 n3 c3, .string s] w fun e w' => e = .returned (.int .i64 (colAt S.cols s)) ∧ Below w.heap.size w w' := by
  obtain ⟨R, hR⟩ : ∃ R, colAt S.cols s = R := ⟨_, rfl⟩
  rw [hR]
  have HR : Hid (colAt S.cols s = R) := hR
  clear hR
  obtain ⟨W, hW⟩ : ∃ W, w.alloc (.cells #[.slice a1 n1 c1, .slice a2 n2 c2, .slice a3 n3 c3] 28) = W := ⟨_, rfl⟩
  obtain ⟨g, hg⟩ : ∃ g, w.heap.size = g := ⟨_, rfl⟩
  have HG : Hid (w.heap.size = g) := hg
  have HB0 : Hid (Below g w W) := by rw [← hW, ← hg]; exact (Below.refl _ w).alloc (Nat.le_refl _) _
  have X0 : Hid (Box W g #[.slice a1 n1 c1, .slice a2 n2 c2, .slice a3 n3 c3] 28) := by rw [← hW, ← hg]; exact box_of w _ _
  have HW : Hid (w.alloc (.cells #[.slice a1 n1 c1, .slice a2 n2 c2, .slice a3 n3 c3] 28) = W) := hW
  have HSA : Hid (SchAt W a1 n1 c1 a2 n2 c2 a3 n3 c3 S) := h.below HB0.out (Nat.le_of_eq hg)
  have BX : Hid (∀ y, Below W.heap.size W y → y.cell? ⟨g, 0, none⟩ = some (.slice a1 n1 c1) ∧ y.cell? ⟨g, 1, none⟩ = some (.slice a2 n2 c2) ∧ y.cell? ⟨g, 2, none⟩ = some (.slice a3 n3 c3)) := fun y hb => (X0.out.below hb X0.out.lt).triV
  have HGS : Hid (g ≤ W.heap.size) := Nat.le_of_lt X0.out.lt
  rw [hg]
  clear hW hg h
  go_enter Try.func22, Try.ntmps22
  go_upto_region 1 with (fail)
  rw [HW.out, HG.out]
  have hl := HSA.out.cols.1
  have hn := HSA.out.cols.2.1
  go_wp2
  go_loopw [5] (fun i wr => ∃ j : Nat, j ≤ n1 ∧ i = .int .i64 (j : Int) ∧ (∀ x ∈ S.cols.take j, ¬ x.1 = s) ∧ wr = W) (fun i _ => n1 - (RowKit.intOf i).toNat)
  case atStart => exact ⟨0, Nat.zero_le _, rfl, fun x hx => by simp at hx, rfl⟩
  case round =>
    obtain ⟨j, hj, rfl, hq, rfl⟩ := hrel
    have HQ : Hid (∀ x ∈ S.cols.take j, ¬ x.1 = s) := hq
    obtain ⟨c0, c1', c2'⟩ := BX.out _ (Below.refl _ _)
    clear hq
    by_cases hlt : j < n1
    · rcases HSA.out.cols.2.2 with h0 | ⟨p1, o1, rfl, g1⟩
      · omega
      obtain ⟨x, hx⟩ : ∃ x, S.cols[j]? = some x := ⟨_, List.getElem?_eq_getElem (by omega)⟩
      obtain ⟨e0, e1, e2⟩ := g1 j x hx
      have HX : Hid (S.cols[j]? = some x) := hx
      obtain ⟨nm, kd, nl⟩ := x
      dsimp only at e0 e1 e2
      have hk0 : (0 : Int) ≤ (j : Int) := by omega
      have hk1 : (j : Int) < (n1 : Int) := by omega
      clear g1 hx
      by_cases hv : nm = s
      · have hvb := eqT_yes hv
        have HRV : Hid ((j : Int) = R) := by
          show _ = _
          rw [← HR.out]
          exact (col_at S.cols s j _ HX.out hv HQ.out).symm
        go_wp2
        go_ret
        exact ⟨by rw [← HRV.out]; rfl, HB0.out⟩
      · have hvb := eqT_no hv
        have hall : Hid (∀ x ∈ S.cols.take (j + 1), ¬ x.1 = s) := take_all HQ.out HX.out hv
        go_wp2
        go_roundw
        case rel => exact ⟨j + 1, by omega, by go_num, hall.out, trivial⟩
        case measure => simp [RowKit.intOf]; omega
    · obtain rfl : j = n1 := by omega
      have HRV : Hid ((-1 : Int) = R) := by
        have h1 := HQ.out
        rw [List.take_of_length_le (by omega)] at h1
        show _ = _
        rw [← HR.out]
        exact (col_none S.cols s h1).symm
      go_wp2
      go_ret
      exact ⟨by rw [← HRV.out]; rfl, HB0.out⟩
theorem specPlaces_any (a1 : Option Addr) (n1 c1 : Nat) (a2 : Option Addr) (n2 c2 : Nat) (a3 : Option Addr) (n3 c3 : Nat) (S : SchD) (a : Option Addr) (n c : Nat) (L : List Int) (most : Nat) (w : World) (h : SchAt w a1 n1 c1 a2 n2 c2 a3 n3 c3 S) (hA : IntAt w a n L) (hn : n ≤ 2097152) :
    Calls Try.prog 55 #[ScV a1 n1 c1 a2 n2 c2 a3 n3 c3, .slice a n c, .int .i64 (most : Int)] w fun e w' => e = .returned (.bool (decide (PlGood S.cols.length L most))) ∧ Below w.heap.size w w' := by
  obtain ⟨R, hR⟩ : ∃ R, decide (PlGood S.cols.length L most) = R := ⟨_, rfl⟩
  rw [hR]
  have HR : Hid (decide (PlGood S.cols.length L most) = R) := hR
  clear hR
  obtain ⟨W, hW⟩ : ∃ W, w.alloc (.cells #[.slice a1 n1 c1, .slice a2 n2 c2, .slice a3 n3 c3] 28) = W := ⟨_, rfl⟩
  obtain ⟨g, hg⟩ : ∃ g, w.heap.size = g := ⟨_, rfl⟩
  have HG : Hid (w.heap.size = g) := hg
  have HB0 : Hid (Below g w W) := by rw [← hW, ← hg]; exact (Below.refl _ w).alloc (Nat.le_refl _) _
  have X0 : Hid (Box W g #[.slice a1 n1 c1, .slice a2 n2 c2, .slice a3 n3 c3] 28) := by rw [← hW, ← hg]; exact box_of w _ _
  have HW : Hid (w.alloc (.cells #[.slice a1 n1 c1, .slice a2 n2 c2, .slice a3 n3 c3] 28) = W) := hW
  have HSA : Hid (SchAt W a1 n1 c1 a2 n2 c2 a3 n3 c3 S) := h.below HB0.out (Nat.le_of_eq hg)
  have BX : Hid (∀ y, Below W.heap.size W y → y.cell? ⟨g, 0, none⟩ = some (.slice a1 n1 c1) ∧ y.cell? ⟨g, 1, none⟩ = some (.slice a2 n2 c2) ∧ y.cell? ⟨g, 2, none⟩ = some (.slice a3 n3 c3)) := fun y hb => (X0.out.below hb X0.out.lt).triV
  have HGS : Hid (g ≤ W.heap.size) := Nat.le_of_lt X0.out.lt
  rw [hg]
  clear hW hg h
  have HLA : Hid (IntAt W a n L) := hA.below HB0.out (Nat.le_of_eq HG.out)
  have hl := hA.1
  have hl1 := HSA.out.cols.1
  have hn1 := HSA.out.cols.2.1
  have WSUB : Hid (IntKind.i64.wrap ((n1 : Int) - 1) = (n1 : Int) - 1) := by show _ = _; rw [IntKind.wrap_i64]; omega
  clear hA
  go_enter Try.func55, Try.ntmps55
  go_upto_region 1 with (fail)
  rw [HW.out, HG.out]
  go_wp2
  go_loopw [7] (fun i wr => ∃ j : Nat, j ≤ n ∧ i = .int .i64 (j : Int) ∧ (∀ x ∈ L.take j, 0 ≤ x ∧ x < (S.cols.length : Int)) ∧ (L.take j).Nodup ∧ Below W.heap.size W wr) (fun i _ => n - (RowKit.intOf i).toNat)
  case atStart => exact ⟨0, Nat.zero_le _, rfl, fun x hx => (by simp at hx), (by simp), Below.refl _ _⟩
  case round =>
    obtain ⟨j, hj, rfl, hq, hnd, hb⟩ := hrel
    have HQ : Hid (∀ x ∈ L.take j, 0 ≤ x ∧ x < (S.cols.length : Int)) := hq
    have HN : Hid ((L.take j).Nodup) := hnd
    have HBW : Hid (Below W.heap.size W wr) := hb
    clear hq hnd hb
    by_cases hlt : j < n
    · rcases (HLA.out.below HBW.out (Nat.le_refl _)).2.2 with h0 | ⟨p1, o1, rfl, g1⟩
      · omega
      obtain ⟨x, hx⟩ : ∃ x, L[j]? = some x := ⟨_, List.getElem?_eq_getElem (by omega)⟩
      have HX : Hid (L[j]? = some x) := hx
      have hxd : L.getD j 0 = x := by simp [List.getD, hx]
      have e0 := g1 j hlt
      rw [hxd] at e0
      obtain ⟨c0, c1', c2'⟩ := BX.out _ HBW.out
      have K0 : Hid (wr.drew.cell? ⟨g, 0, none⟩ = some (.slice a1 n1 c1) ∧ wr.drew.cell? ⟨p1, o1 + j, none⟩ = some (.int .i64 x)) := ⟨c0, e0⟩
      have hk0 : (0 : Int) ≤ (j : Int) := by omega
      have hk1 : (j : Int) < (n : Int) := by omega
      obtain ⟨bi, hbi⟩ : ∃ b, inB x 0 ((n1 : Int) - 1) = b := ⟨_, rfl⟩
      have HBI : Hid (inB x 0 ((n1 : Int) - 1) = bi) := hbi
      clear hx hxd e0 c0 c1' c2' g1 hbi
      go_upto_region 4 with (fail)
      go_region_held3 (fun w' => w'.cell? ⟨g, 0, none⟩ = some (.slice a1 n1 c1) ∧ w'.cell? ⟨p1, o1 + j, none⟩ = some (.int .i64 x))
        (first | (with_reducible exact K0.out) | go_keep)
        (first
        | (go_at_call 54
           rw [WSUB.out]
           refine (l1In_g _ _ _ _).mono ?_
           rintro e w2 ⟨rfl, rfl⟩
           rw [HBI.out]))
      cases bi
      case false =>
        have hv : ¬ (0 ≤ x ∧ x ≤ (n1 : Int) - 1) := fun hv => by have h1 := inB_yes hv; rw [HBI.out] at h1; cases h1
        have HRV : Hid (R = false) := by
          show _ = _
          rw [← HR.out]
          exact decide_eq_false fun hh => hv (by have := hh.1 x (List.mem_of_getElem? HX.out); omega)
        go_wp2
        go_ret
        exact ⟨by rw [HRV.out]; rfl, HB0.out.trans (HBW.out.drew.mono HGS.out)⟩
      have hv := inB_val HBI.out
      have HQ1 : Hid (∀ y ∈ L.take (j + 1), 0 ≤ y ∧ y < (S.cols.length : Int)) := take_all HQ.out HX.out (by omega)
      have HBD : Hid (Below W.heap.size W wr.drew) := HBW.out.drew
      clear hv K0
      go_wp2
      go_loopw [8] (fun i wr => ∃ k : Nat, k ≤ j ∧ i = .int .i64 (k : Int) ∧ (∀ y ∈ L.take k, ¬ y = x) ∧ Below W.heap.size W wr) (fun i _ => j - (RowKit.intOf i).toNat)
      case atStart => exact ⟨0, Nat.zero_le _, rfl, fun y hy => (by simp at hy), HBD.out⟩
      case round =>
        obtain ⟨k, hk, rfl, hq, hb⟩ := hrel
        have HK : Hid (∀ y ∈ L.take k, ¬ y = x) := hq
        have HBV : Hid (Below W.heap.size W _) := hb
        clear hq hb
        by_cases hlk : k < j
        · rcases (HLA.out.below HBV.out (Nat.le_refl _)).2.2 with h0 | ⟨p1', o1', hpe, g1⟩
          · omega
          cases hpe
          obtain ⟨y, hy⟩ : ∃ y, L[k]? = some y := ⟨_, List.getElem?_eq_getElem (by omega)⟩
          have HY : Hid (L[k]? = some y) := hy
          have hyd : L.getD k 0 = y := by simp [List.getD, hy]
          have hxd : L.getD j 0 = x := by simp [List.getD, HX.out]
          have e0 := g1 k (by omega)
          have e1 := g1 j hlt
          rw [hyd] at e0
          rw [hxd] at e1
          have hk2 : (0 : Int) ≤ (k : Int) := by omega
          have hk3 : (k : Int) < (j : Int) := by omega
          have hk4 : (k : Int) < (n : Int) := by omega
          clear hy hyd hxd g1
          by_cases hyx : y = x
          · have HRV : Hid (R = false) := by
              show _ = _
              rw [← HR.out]
              refine decide_eq_false fun hh => nodup_take hh.2.1 HX.out y ?_ hyx
              have h1 := List.getElem?_eq_some_iff.1 HY.out
              exact List.mem_iff_getElem?.2 ⟨k, by rw [List.getElem?_take, if_pos hlk]; exact HY.out⟩
            have hbe : (y == x) = true := by simpa using hyx
            clear hyx
            go_wp2
            go_region
            go_wp2
            go_ret
            exact ⟨by rw [HRV.out]; rfl, HB0.out.trans (HBV.out.drew.mono HGS.out)⟩
          · have hbe : (y == x) = false := by simpa using hyx
            have HK1 : Hid (∀ z ∈ L.take (k + 1), ¬ z = x) := take_all HK.out HY.out hyx
            clear hyx
            go_wp2
            go_region
            go_wp2
            exact ⟨⟨k + 1, by omega, by go_num, HK1.out, HBV.out.drew⟩, by simp [RowKit.intOf]; omega⟩
        · obtain rfl : k = j := by omega
          have HN1 : Hid ((L.take (k + 1)).Nodup) := take_nodup HN.out HX.out HK.out
          go_wp2
          exact ⟨⟨k + 1, by omega, by go_num, HQ1.out, HN1.out, HBV.out⟩, by simp [RowKit.intOf]; omega⟩
    · obtain rfl : j = n := by omega
      have HRV : Hid (inB (j : Int) 1 (most : Int) = R) := by
        have h1 := HQ.out
        have h2 := HN.out
        rw [List.take_of_length_le (by omega)] at h1 h2
        show _ = _
        rw [← HR.out]
        unfold inB
        exact decide_eq_decide.2 ⟨fun hh => ⟨h1, h2, by omega, by omega⟩, fun hh => by have := hh.2.2; omega⟩
      go_wp2_with fail
      refine (l1In_g _ _ _ _).mono ?_
      rintro e w2 ⟨rfl, rfl⟩
      go_wp2
      go_ret
      exact ⟨by rw [← HRV.out]; rfl, HB0.out.trans (HBW.out.mono HGS.out)⟩
theorem specColNameOk_any (s : ByteArray) (hs : s.size ≤ 9223372036854775807) (w : World) :
    Calls Try.prog 20 #[.string s] w fun e w' => e = .returned (.bool (decide (CnGood s))) ∧ w' = w := by
  obtain ⟨B, hB⟩ : ∃ B, decide (CnGood s) = B := ⟨_, rfl⟩
  rw [hB]
  have HB : Hid (decide (CnGood s) = B) := hB
  clear hB
  go_enter Try.func20, Try.ntmps20
  go_wp2
  go_loopw [3] (fun i wr => ∃ j : Nat, j ≤ s.size ∧ i = .int .i64 (j : Int) ∧ (∀ b ∈ s.data.toList.take j, lowB b) ∧ wr = w) (fun i _ => s.size - (RowKit.intOf i).toNat)
  case atStart => exact ⟨0, Nat.zero_le _, rfl, fun x hx => by simp at hx, rfl⟩
  case round =>
    obtain ⟨j, hj, rfl, hg, rfl⟩ := hrel
    have HG : Hid (∀ b ∈ s.data.toList.take j, lowB b) := hg
    clear hg
    by_cases hlt : j < s.size
    · have hk0 : (0 : Int) ≤ (j : Int) := by omega
      have hk1 : (j : Int) < (s.size : Int) := by omega
      have hb? : s.data.toList[j]? = some (s[j]'hlt) := by
        rw [Array.getElem?_toList]
        exact Array.getElem?_eq_getElem hlt
      have hbd : j < s.data.size := hlt
      obtain ⟨b, hbq⟩ : ∃ b, s[j]'hlt = b := ⟨_, rfl⟩
      rw [hbq] at hb?
      have HQ : Hid (s.data.toList[j]? = some b) := hb?
      clear hb?
      by_cases h1 : (b.toNat : Int) < 97
      · have HBV : Hid (B = false) := by
          show _ = _
          rw [← HB.out]
          exact decide_eq_false fun h => by have := (h.1 _ (List.mem_of_getElem? HQ.out)).1; omega
        go_wp2
        go_ret
        exact ⟨by rw [HBV.out]; rfl, rfl⟩
      by_cases h2 : (122 : Int) < (b.toNat : Int)
      · have HBV : Hid (B = false) := by
          show _ = _
          rw [← HB.out]
          exact decide_eq_false fun h => by have := (h.1 _ (List.mem_of_getElem? HQ.out)).2; omega
        go_wp2
        go_ret
        exact ⟨by rw [HBV.out]; rfl, rfl⟩
      have hall : Hid (∀ x ∈ s.data.toList.take (j + 1), lowB x) := take_all HG.out HQ.out ⟨by omega, by omega⟩
      go_wp2
      go_roundw
      case rel => exact ⟨j + 1, by omega, by go_num, hall.out, trivial⟩
      case measure => simp [RowKit.intOf]; omega
    · obtain rfl : j = s.size := by omega
      have HBV : Hid (inB (s.size : Int) 1 12 = B) := by
        have h1 := HG.out
        rw [List.take_of_length_le (by simp)] at h1
        show _ = _
        rw [← HB.out]
        unfold inB
        exact decide_eq_decide.2 ⟨fun h => ⟨h1, by omega, by omega⟩, fun h => by have := h.2; omega⟩
      go_wp2_with fail
      refine (l1In_g _ _ _ _).mono ?_
      rintro e w2 ⟨rfl, rfl⟩
      rw [HBV.out]
      go_wp2
      go_ret
      exact ⟨rfl, rfl⟩
theorem specIndexes_any (a1 : Option Addr) (n1 c1 : Nat) (a2 : Option Addr) (n2 c2 : Nat) (a3 : Option Addr) (n3 c3 : Nat) (S : SchD) (hsz : ∀ x ∈ S.idx, x.1.size ≤ 9223372036854775807) (w : World) (h : SchAt w a1 n1 c1 a2 n2 c2 a3 n3 c3 S) :
    Calls Try.prog 56 #[ScV a1 n1 c1 a2 n2 c2 a3 n3 c3] w fun e w' => e = .returned (.bool (decide (IxGood S.cols.length S.idx))) ∧ Below w.heap.size w w' := by
  obtain ⟨R, hR⟩ : ∃ R, decide (IxGood S.cols.length S.idx) = R := ⟨_, rfl⟩
  rw [hR]
  have HR : Hid (decide (IxGood S.cols.length S.idx) = R) := hR
  have HSZ : Hid (∀ x ∈ S.idx, x.1.size ≤ 9223372036854775807) := hsz
  clear hR hsz
  obtain ⟨W, hW⟩ : ∃ W, w.alloc (.cells #[.slice a1 n1 c1, .slice a2 n2 c2, .slice a3 n3 c3] 28) = W := ⟨_, rfl⟩
  obtain ⟨g, hg⟩ : ∃ g, w.heap.size = g := ⟨_, rfl⟩
  have HG : Hid (w.heap.size = g) := hg
  have HB0 : Hid (Below g w W) := by rw [← hW, ← hg]; exact (Below.refl _ w).alloc (Nat.le_refl _) _
  have X0 : Hid (Box W g #[.slice a1 n1 c1, .slice a2 n2 c2, .slice a3 n3 c3] 28) := by rw [← hW, ← hg]; exact box_of w _ _
  have HW : Hid (w.alloc (.cells #[.slice a1 n1 c1, .slice a2 n2 c2, .slice a3 n3 c3] 28) = W) := hW
  have HSA : Hid (SchAt W a1 n1 c1 a2 n2 c2 a3 n3 c3 S) := h.below HB0.out (Nat.le_of_eq hg)
  have BX : Hid (∀ y, Below W.heap.size W y → y.cell? ⟨g, 0, none⟩ = some (.slice a1 n1 c1) ∧ y.cell? ⟨g, 1, none⟩ = some (.slice a2 n2 c2) ∧ y.cell? ⟨g, 2, none⟩ = some (.slice a3 n3 c3)) := fun y hb => (X0.out.below hb X0.out.lt).triV
  have HGS : Hid (g ≤ W.heap.size) := Nat.le_of_lt X0.out.lt
  rw [hg]
  clear hW hg h
  have hl := HSA.out.idx.1
  have hn := HSA.out.idx.2.1
  go_enter Try.func56, Try.ntmps56
  go_upto_region 1 with (fail)
  rw [HW.out, HG.out]
  obtain ⟨c0, c1', c2'⟩ := BX.out _ (Below.refl _ _)
  go_wp2
  clear c0 c1' c2'
  go_loopw [3] (fun i wr => ∃ j : Nat, j ≤ n3 ∧ i = .int .i64 (j : Int) ∧ (∀ x ∈ S.idx.take j, CnGood x.1 ∧ PlGood S.cols.length x.2.1 3) ∧ ((S.idx.take j).map (·.1)).Nodup ∧ Below W.heap.size W wr) (fun i _ => n3 - (RowKit.intOf i).toNat)
  case atStart => exact ⟨0, Nat.zero_le _, rfl, fun x hx => (by simp at hx), (by simp), Below.refl _ _⟩
  case round =>
    obtain ⟨j, hj, rfl, hq, hnd, hb⟩ := hrel
    have HQ : Hid (∀ x ∈ S.idx.take j, CnGood x.1 ∧ PlGood S.cols.length x.2.1 3) := hq
    have HN : Hid (((S.idx.take j).map (·.1)).Nodup) := hnd
    have HBW : Hid (Below W.heap.size W wr) := hb
    obtain ⟨c0, c1', c2'⟩ := BX.out _ HBW.out
    clear hq hnd hb
    by_cases hlt : j < n3
    · rcases (HSA.out.idx.below HBW.out (Nat.le_refl _)).2.2 with h0 | ⟨p1, o1, rfl, g1⟩
      · omega
      obtain ⟨x, hx⟩ : ∃ x, S.idx[j]? = some x := ⟨_, List.getElem?_eq_getElem (by omega)⟩
      obtain ⟨e0, ⟨ai, ni, ci, e1, hni, hni2, hia⟩, e2⟩ := g1 j x hx
      have HX : Hid (S.idx[j]? = some x) := hx
      have hsn := HSZ.out x (List.mem_of_getElem? hx)
      obtain ⟨nm, L, un⟩ := x
      dsimp only at e0 e1 e2 hia hsn
      have HIA : Hid (IntAt wr ai ni L) := hia
      have hk0 : (0 : Int) ≤ (j : Int) := by omega
      have hk1 : (j : Int) < (n3 : Int) := by omega
      obtain ⟨Y, hY⟩ : ∃ Y, wr.alloc (.cells #[.string nm, .slice ai ni ci, .bool un] 105) = Y := ⟨_, rfl⟩
      obtain ⟨q, hqz⟩ : ∃ q, wr.heap.size = q := ⟨_, rfl⟩
      have HQZ : Hid (wr.heap.size = q) := hqz
      have HY : Hid (wr.alloc (.cells #[.string nm, .slice ai ni ci, .bool un] 105) = Y) := hY
      have YB : Hid (Below W.heap.size W Y) := by rw [← hY]; exact HBW.out.alloc HBW.out.size _
      have YX : Hid (Box Y q #[.string nm, .slice ai ni ci, .bool un] 105) := by rw [← hY, ← hqz]; exact box_of wr _ _
      have YI : Hid (IntAt Y ai ni L) := by rw [← hY]; exact HIA.out.below ((Below.refl _ wr).alloc (Nat.le_refl _) _) (Nat.le_refl _)
      have CEL : Hid (∀ y, Below Y.heap.size Y y → (y.cell? ⟨g, 0, none⟩ = some (.slice a1 n1 c1) ∧ y.cell? ⟨g, 1, none⟩ = some (.slice a2 n2 c2) ∧ y.cell? ⟨g, 2, none⟩ = some (.slice (some ⟨p1, o1, none⟩) n3 c3)) ∧ y.cell? ⟨q, 0, none⟩ = some (.string nm) ∧ y.cell? ⟨q, 1, none⟩ = some (.slice ai ni ci)) := fun y hb => ⟨BX.out y (YB.out.trans (hb.mono YB.out.size)), ((YX.out.below hb YX.out.lt).triV).1, ((YX.out.below hb YX.out.lt).triV).2.1⟩
      have ON : Hid (∀ y, Below Y.heap.size Y y → Below W.heap.size W y) := fun y hb => YB.out.trans (hb.mono YB.out.size)
      clear g1 hx hqz hia hY
      go_upto_region 5 with (fail)
      rw [HY.out, HQZ.out]
      clear c0 c1' c2' e0 e1 e2
      obtain ⟨⟨c0, c1', c2'⟩, x0, x1⟩ := CEL.out _ (Below.refl _ _)
      go_wp2_with fail
      refine (specColNameOk_any nm hsn _).mono ?_
      rintro e w2 ⟨rfl, rfl⟩
      by_cases hv : CnGood nm
      case neg =>
        rw [decide_eq_false hv]
        have HRV : Hid (R = false) := by
          show _ = _
          rw [← HR.out]
          exact decide_eq_false fun hh => hv (hh.1 _ (List.mem_of_getElem? HX.out)).1
        go_wp2
        go_ret
        exact ⟨by rw [HRV.out]; rfl, HB0.out.trans (YB.out.mono HGS.out)⟩
      rw [decide_eq_true hv]
      have HV1 : Hid (CnGood nm) := hv
      clear hv
      go_wp2_with fail
      refine (specPlaces_any a1 n1 c1 a2 n2 c2 (some ⟨p1, o1, none⟩) n3 c3 S ai ni ci L 3 _ (HSA.out.below YB.out (Nat.le_refl _)) YI.out hni2).mono ?_
      rintro e w3 ⟨rfl, hb3⟩
      have Y3 : Hid (Below w2.heap.size w2 w3) := hb3
      clear hb3 c0 c1' c2' x0 x1
      by_cases hv : PlGood S.cols.length L 3
      case neg =>
        rw [decide_eq_false hv]
        have HRV : Hid (R = false) := by
          show _ = _
          rw [← HR.out]
          exact decide_eq_false fun hh => hv (hh.1 _ (List.mem_of_getElem? HX.out)).2
        go_wp2
        go_ret
        exact ⟨by rw [HRV.out]; rfl, HB0.out.trans ((ON.out _ Y3.out).mono HGS.out)⟩
      rw [decide_eq_true hv]
      have HQ1 : Hid (∀ x ∈ S.idx.take (j + 1), CnGood x.1 ∧ PlGood S.cols.length x.2.1 3) := take_all HQ.out HX.out ⟨HV1.out, hv⟩
      clear hv
      go_wp2
      go_loopw [5] (fun i wr => ∃ k : Nat, k ≤ j ∧ i = .int .i64 (k : Int) ∧ (∀ y ∈ (S.idx.map (·.1)).take k, ¬ y = nm) ∧ Below w2.heap.size w2 wr) (fun i _ => j - (RowKit.intOf i).toNat)
      case atStart => exact ⟨0, Nat.zero_le _, rfl, fun y hy => (by simp at hy), Y3.out⟩
      case round =>
        obtain ⟨k, hk, rfl, hq, hb⟩ := hrel
        have HK : Hid (∀ y ∈ (S.idx.map (·.1)).take k, ¬ y = nm) := hq
        have HBV : Hid (Below w2.heap.size w2 _) := hb
        clear hq hb
        by_cases hlk : k < j
        · rcases (HSA.out.idx.below (ON.out _ HBV.out) (Nat.le_refl _)).2.2 with h0 | ⟨p1', o1', hpe, g1⟩
          · omega
          cases hpe
          obtain ⟨y, hy⟩ : ∃ y, S.idx[k]? = some y := ⟨_, List.getElem?_eq_getElem (by omega)⟩
          have HYK : Hid ((S.idx.map (·.1))[k]? = some y.1) := by show _ = _; rw [List.getElem?_map, hy]; rfl
          have e0 := (g1 k y hy).1
          obtain ⟨nk, hnk⟩ : ∃ nk, y.1 = nk := ⟨_, rfl⟩
          rw [hnk] at HYK e0
          have hk2 : (0 : Int) ≤ (k : Int) := by omega
          have hk3 : (k : Int) < (j : Int) := by omega
          have hk4 : (k : Int) < (n3 : Int) := by omega
          obtain ⟨⟨c0, c1', c2'⟩, x0, x1⟩ := CEL.out _ HBV.out
          clear g1 hy hnk
          by_cases hyx : nk = nm
          · have HRV : Hid (R = false) := by
              show _ = _
              rw [← HR.out]
              refine decide_eq_false fun hh => nodup_take (j := j) (x := nm) hh.2.1 (by rw [List.getElem?_map, HX.out]; rfl) nk ?_ hyx
              exact List.mem_iff_getElem?.2 ⟨k, by rw [List.getElem?_take, if_pos hlk]; exact HYK.out⟩
            have hbe := eqT_yes hyx
            clear hyx
            go_wp2
            go_region
            go_wp2
            go_ret
            exact ⟨by rw [HRV.out]; rfl, HB0.out.trans ((ON.out _ HBV.out.drew).mono HGS.out)⟩
          · have hbe := eqT_no hyx
            have HK1 : Hid (∀ z ∈ (S.idx.map (·.1)).take (k + 1), ¬ z = nm) := take_all HK.out HYK.out hyx
            clear hyx
            go_wp2
            go_region
            go_wp2
            exact ⟨⟨k + 1, by omega, by go_num, HK1.out, HBV.out.drew⟩, by simp [RowKit.intOf]; omega⟩
        · obtain rfl : k = j := by omega
          have HN1 : Hid (((S.idx.take (k + 1)).map (·.1)).Nodup) := by
            show List.Nodup _
            have h1 := HN.out
            rw [List.map_take] at h1 ⊢
            exact take_nodup h1 (by rw [List.getElem?_map, HX.out]; rfl) HK.out
          go_wp2
          exact ⟨⟨k + 1, by omega, by go_num, HQ1.out, HN1.out, ON.out _ HBV.out⟩, by simp [RowKit.intOf]; omega⟩
    · obtain rfl : j = n3 := by omega
      have HRV : Hid (decide ((j : Int) ≤ 3) = R) := by
        have h1 := HQ.out
        have h2 := HN.out
        rw [List.take_of_length_le (by omega)] at h1 h2
        show _ = _
        rw [← HR.out]
        exact decide_eq_decide.2 ⟨fun hh => ⟨h1, h2, by omega⟩, fun hh => by have := hh.2.2; omega⟩
      go_wp2
      go_ret
      exact ⟨by rw [← HRV.out]; rfl, HB0.out.trans (HBW.out.mono HGS.out)⟩
end
end Go.Proofs.Ytmgofehafjogfaa
