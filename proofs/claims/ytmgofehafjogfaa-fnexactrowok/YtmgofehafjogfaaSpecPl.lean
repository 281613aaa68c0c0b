/- spec.l19Places, walked. -/
import Derived.Test.YtmgofehafjogfaaSchL
import Derived.Test.YtmgofehafjogfaaInB
import Derived.Test.YtmgofehafjogfaaRows
import Derived.Deep.RegionHeld3
import Derived.Deep.Cut
namespace Go.Proofs.Ytmgofehafjogfaa
open Go.ChangeShapes Go.WideShapes Go.ChangeAt Go.RowKit

set_option maxHeartbeats 4000000 in
set_option maxRecDepth 100000 in
theorem specPlaces_any (a1 : Option Addr) (n1 c1 : Nat) (a2 : Option Addr) (n2 c2 : Nat) (a3 : Option Addr) (n3 c3 : Nat) (S : SchD) (a : Option Addr) (n c : Nat) (L : List Int) (most : Nat) (w : World) (h : SchAt w a1 n1 c1 a2 n2 c2 a3 n3 c3 S) (hA : IntAt w a n L) (hn : n ≤ 2097152) :
    Calls Try.prog 55 #[ScV a1 n1 c1 a2 n2 c2 a3 n3 c3, .slice a n c, .int .i64 (most : Int)] w fun e w' => e = .returned (.bool (decide (PlGood S.cols.length L most))) ∧ Below w.heap.size w w' := by
  obtain ⟨R, hR⟩ : ∃ R, decide (PlGood S.cols.length L most) = R := ⟨_, rfl⟩
  rw [hR]
  have HR : Hid (decide (PlGood S.cols.length L most) = R) := hR
  clear hR
  obtain ⟨W, hW⟩ : ∃ W, w.alloc (.cells #[.slice a1 n1 c1, .slice a2 n2 c2, .slice a3 n3 c3] 28) = W := ⟨_, rfl⟩
  obtain ⟨g, hg⟩ : ∃ g, w.heap.size = g := ⟨_, rfl⟩
  have HG : Hid (w.heap.size = g) := hg
  have HB0 : Hid (Below g w W) := by rw [← hW, ← hg]; exact (Below.refl _ w).alloc (Nat.le_refl _) _
  have X0 : Hid (Box W g #[.slice a1 n1 c1, .slice a2 n2 c2, .slice a3 n3 c3] 28) := by rw [← hW, ← hg]; exact box_of w _ _
  have HW : Hid (w.alloc (.cells #[.slice a1 n1 c1, .slice a2 n2 c2, .slice a3 n3 c3] 28) = W) := hW
  have HSA : Hid (SchAt W a1 n1 c1 a2 n2 c2 a3 n3 c3 S) := h.below HB0.out (Nat.le_of_eq hg)
  have BX : Hid (∀ y, Below W.heap.size W y → y.cell? ⟨g, 0, none⟩ = some (.slice a1 n1 c1) ∧ y.cell? ⟨g, 1, none⟩ = some (.slice a2 n2 c2) ∧ y.cell? ⟨g, 2, none⟩ = some (.slice a3 n3 c3)) := fun y hb => (X0.out.below hb X0.out.lt).triV
  have HGS : Hid (g ≤ W.heap.size) := Nat.le_of_lt X0.out.lt
  rw [hg]
  clear hW hg h
  have HLA : Hid (IntAt W a n L) := hA.below HB0.out (Nat.le_of_eq HG.out)
  have hl := hA.1
  have hl1 := HSA.out.cols.1
  have hn1 := HSA.out.cols.2.1
  have WSUB : Hid (IntKind.i64.wrap ((n1 : Int) - 1) = (n1 : Int) - 1) := by show _ = _; rw [IntKind.wrap_i64]; omega
  clear hA
  go_enter Try.func55, Try.ntmps55
  go_upto_region 1 with (fail)
  rw [HW.out, HG.out]
  go_wp2
  go_loopw [7] (fun i wr => ∃ j : Nat, j ≤ n ∧ i = .int .i64 (j : Int) ∧ (∀ x ∈ L.take j, 0 ≤ x ∧ x < (S.cols.length : Int)) ∧ (L.take j).Nodup ∧ Below W.heap.size W wr) (fun i _ => n - (RowKit.intOf i).toNat)
  case atStart => exact ⟨0, Nat.zero_le _, rfl, fun x hx => (by simp at hx), (by simp), Below.refl _ _⟩
  case round =>
    obtain ⟨j, hj, rfl, hq, hnd, hb⟩ := hrel
    have HQ : Hid (∀ x ∈ L.take j, 0 ≤ x ∧ x < (S.cols.length : Int)) := hq
    have HN : Hid ((L.take j).Nodup) := hnd
    have HBW : Hid (Below W.heap.size W wr) := hb
    clear hq hnd hb
    by_cases hlt : j < n
    · rcases (HLA.out.below HBW.out (Nat.le_refl _)).2.2 with h0 | ⟨p1, o1, rfl, g1⟩
      · omega
      obtain ⟨x, hx⟩ : ∃ x, L[j]? = some x := ⟨_, List.getElem?_eq_getElem (by omega)⟩
      have HX : Hid (L[j]? = some x) := hx
      have hxd : L.getD j 0 = x := by simp [List.getD, hx]
      have e0 := g1 j hlt
      rw [hxd] at e0
      obtain ⟨c0, c1', c2'⟩ := BX.out _ HBW.out
      have K0 : Hid (wr.drew.cell? ⟨g, 0, none⟩ = some (.slice a1 n1 c1) ∧ wr.drew.cell? ⟨p1, o1 + j, none⟩ = some (.int .i64 x)) := ⟨c0, e0⟩
      have hk0 : (0 : Int) ≤ (j : Int) := by omega
      have hk1 : (j : Int) < (n : Int) := by omega
      obtain ⟨bi, hbi⟩ : ∃ b, inB x 0 ((n1 : Int) - 1) = b := ⟨_, rfl⟩
      have HBI : Hid (inB x 0 ((n1 : Int) - 1) = bi) := hbi
      clear hx hxd e0 c0 c1' c2' g1 hbi
      go_upto_region 4 with (fail)
      go_region_held3 (fun w' => w'.cell? ⟨g, 0, none⟩ = some (.slice a1 n1 c1) ∧ w'.cell? ⟨p1, o1 + j, none⟩ = some (.int .i64 x))
        (first | (with_reducible exact K0.out) | go_keep)
        (first
        | (go_at_call 54
           rw [WSUB.out]
           refine (l1In_g _ _ _ _).mono ?_
           rintro e w2 ⟨rfl, rfl⟩
           rw [HBI.out]))
      cases bi
      case false =>
        have hv : ¬ (0 ≤ x ∧ x ≤ (n1 : Int) - 1) := fun hv => by have h1 := inB_yes hv; rw [HBI.out] at h1; cases h1
        have HRV : Hid (R = false) := by
          show _ = _
          rw [← HR.out]
          exact decide_eq_false fun hh => hv (by have := hh.1 x (List.mem_of_getElem? HX.out); omega)
        go_wp2
        go_ret
        exact ⟨by rw [HRV.out]; rfl, HB0.out.trans (HBW.out.drew.mono HGS.out)⟩
      have hv := inB_val HBI.out
      have HQ1 : Hid (∀ y ∈ L.take (j + 1), 0 ≤ y ∧ y < (S.cols.length : Int)) := take_all HQ.out HX.out (by omega)
      have HBD : Hid (Below W.heap.size W wr.drew) := HBW.out.drew
      clear hv K0
      go_wp2
      go_loopw [8] (fun i wr => ∃ k : Nat, k ≤ j ∧ i = .int .i64 (k : Int) ∧ (∀ y ∈ L.take k, ¬ y = x) ∧ Below W.heap.size W wr) (fun i _ => j - (RowKit.intOf i).toNat)
      case atStart => exact ⟨0, Nat.zero_le _, rfl, fun y hy => (by simp at hy), HBD.out⟩
      case round =>
        obtain ⟨k, hk, rfl, hq, hb⟩ := hrel
        have HK : Hid (∀ y ∈ L.take k, ¬ y = x) := hq
        have HBV : Hid (Below W.heap.size W _) := hb
        clear hq hb
        by_cases hlk : k < j
        · rcases (HLA.out.below HBV.out (Nat.le_refl _)).2.2 with h0 | ⟨p1', o1', hpe, g1⟩
          · omega
          cases hpe
          obtain ⟨y, hy⟩ : ∃ y, L[k]? = some y := ⟨_, List.getElem?_eq_getElem (by omega)⟩
          have HY : Hid (L[k]? = some y) := hy
          have hyd : L.getD k 0 = y := by simp [List.getD, hy]
          have hxd : L.getD j 0 = x := by simp [List.getD, HX.out]
          have e0 := g1 k (by omega)
          have e1 := g1 j hlt
          rw [hyd] at e0
          rw [hxd] at e1
          have hk2 : (0 : Int) ≤ (k : Int) := by omega
          have hk3 : (k : Int) < (j : Int) := by omega
          have hk4 : (k : Int) < (n : Int) := by omega
          clear hy hyd hxd g1
          by_cases hyx : y = x
          · have HRV : Hid (R = false) := by
              show _ = _
              rw [← HR.out]
              refine decide_eq_false fun hh => nodup_take hh.2.1 HX.out y ?_ hyx
              have h1 := List.getElem?_eq_some_iff.1 HY.out
              exact List.mem_iff_getElem?.2 ⟨k, by rw [List.getElem?_take, if_pos hlk]; exact HY.out⟩
            have hbe : (y == x) = true := by simpa using hyx
            clear hyx
            go_wp2
            go_region
            go_wp2
            go_ret
            exact ⟨by rw [HRV.out]; rfl, HB0.out.trans (HBV.out.drew.mono HGS.out)⟩
          · have hbe : (y == x) = false := by simpa using hyx
            have HK1 : Hid (∀ z ∈ L.take (k + 1), ¬ z = x) := take_all HK.out HY.out hyx
            clear hyx
            go_wp2
            go_region
            go_wp2
            exact ⟨⟨k + 1, by omega, by go_num, HK1.out, HBV.out.drew⟩, by simp [RowKit.intOf]; omega⟩
        · obtain rfl : k = j := by omega
          have HN1 : Hid ((L.take (k + 1)).Nodup) := take_nodup HN.out HX.out HK.out
          go_wp2
          exact ⟨⟨k + 1, by omega, by go_num, HQ1.out, HN1.out, HBV.out⟩, by simp [RowKit.intOf]; omega⟩
    · obtain rfl : j = n := by omega
      have HRV : Hid (inB (j : Int) 1 (most : Int) = R) := by
        have h1 := HQ.out
        have h2 := HN.out
        rw [List.take_of_length_le (by omega)] at h1 h2
        show _ = _
        rw [← HR.out]
        unfold inB
        exact decide_eq_decide.2 ⟨fun hh => ⟨h1, h2, by omega, by omega⟩, fun hh => by have := hh.2.2; omega⟩
      go_wp2_with fail
      refine (l1In_g _ _ _ _).mono ?_
      rintro e w2 ⟨rfl, rfl⟩
      go_wp2
      go_ret
      exact ⟨by rw [← HRV.out]; rfl, HB0.out.trans (HBW.out.mono HGS.out)⟩
end Go.Proofs.Ytmgofehafjogfaa
