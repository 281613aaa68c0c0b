/- spec.Project, walked. -/
import Derived.Test.YtmgofehafjogfaaProjL
import Derived.Test.YtmgofehafjogfaaVasO
import Derived.Test.YtmgofehafjogfaaIntAt
import Derived.Test.YtmgofehafjogfaaInB
import Derived.Deep.RegionHeld3
import Derived.Deep.Cut
namespace Go.Proofs.Ytmgofehafjogfaa
open Go.ChangeShapes Go.WideShapes Go.ChangeAt Go.RowKit

set_option maxHeartbeats 4000000 in
set_option maxRecDepth 100000 in
theorem specProject_any (a : Option Addr) (n c : Nat) (L : List Va3) (b : Option Addr) (m d : Nat) (xs : List Int) (w : World) (h : VasAt w a n L) (hb : IntAt w b m xs) (hm : m ≤ 2097152) :
    Calls Try.prog 29 #[.slice a n c, .slice b m d] w fun e w' => (∃ v, e = .returned v ∧ VOwn w' w.heap.size v (projL L xs)) ∧ Below w.heap.size w w' := by
  have HL : Hid (VasAt w a n L) := h
  have HX : Hid (IntAt w b m xs) := hb
  have hl := h.1
  have hn := h.2.1
  have hxl := hb.1
  obtain ⟨g, hg⟩ : ∃ g, w.heap.size = g := ⟨_, rfl⟩
  obtain ⟨W, hW⟩ : ∃ W, w.alloc (.cells #[] 43) = W := ⟨_, rfl⟩
  have HG : Hid (w.heap.size = g) := hg
  have HW : Hid (w.alloc (.cells #[] 43) = W) := hW
  have O0 : Hid (VOwn W g (.slice (some ⟨g, 0, none⟩) 0 0) []) := by rw [← hW]; exact vown_nil w hg (Nat.le_refl _)
  have HB0 : Hid (Below g w W) := by rw [← hW]; exact (Below.refl _ w).alloc (Nat.le_of_eq hg.symm) _
  have HS0 : Hid (g ≤ W.heap.size) := by show g ≤ W.heap.size; rw [← hW, World.size_alloc, hg]; exact Nat.le_succ _
  have WSUB : Hid (IntKind.i64.wrap ((n : Int) - 1) = (n : Int) - 1) := by show _ = _; rw [IntKind.wrap_i64]; omega
  have hwz : IntKind.i64.wrap ((n : Int) - 1) = (n : Int) - 1 := WSUB.out
  rw [hg]
  clear hW hg h hb
  go_enter Try.func29, Try.ntmps29
  go_upto_region 2 with (fail)
  rw [HW.out, HG.out]
  go_wp2
  go_loopw [5, 6] (fun v i wr => ∃ j : Nat, j ≤ m ∧ i = .int .i64 (j : Int) ∧ VOwn wr g v (projL L (xs.take j)) ∧ Below g w wr ∧ g ≤ wr.heap.size) (fun _ i _ => m - (RowKit.intOf i).toNat)
  case atStart => exact ⟨0, Nat.zero_le _, rfl, by simpa [projL] using O0.out, HB0.out, HS0.out⟩
  case round =>
    obtain ⟨j, hj, rfl, ho, hb, hs⟩ := hrel
    have HO : Hid (VOwn wr g u5 (projL L (xs.take j))) := ho
    have HBW : Hid (Below g w wr) := hb
    have HSZ : Hid (g ≤ wr.heap.size) := hs
    clear ho hb hs
    by_cases hlt : j < m
    · rcases (HX.out.below HBW.out (Nat.le_of_eq HG.out)).2.2 with h0 | ⟨p2, o2, rfl, g2⟩
      · omega
      obtain ⟨x, hx⟩ : ∃ x, xs[j]? = some x := ⟨_, List.getElem?_eq_getElem (by omega)⟩
      have hxd : xs.getD j 0 = x := by simp [List.getD, hx]
      have e0 := g2 j hlt
      rw [hxd] at e0
      have HSN : Hid (projL L (xs.take (j + 1)) = projL L (xs.take j) ++ projOne L x) := proj_snoc L hx
      have HPL : Hid ((projL L (xs.take j)).length ≤ j) := Nat.le_trans (proj_len L _) (by rw [List.length_take]; omega)
      have hk0 : (0 : Int) ≤ (j : Int) := by omega
      have hk1 : (j : Int) < (m : Int) := by omega
      clear hx hxd g2
      obtain ⟨bi, hbi⟩ : ∃ b, inB x 0 ((n : Int) - 1) = b := ⟨_, rfl⟩
      have HBI : Hid (inB x 0 ((n : Int) - 1) = bi) := hbi
      clear hbi
      go_wp2_with fail
      refine (l1In_g _ _ _ _).mono ?_
      rintro e w2 ⟨rfl, rfl⟩
      rw [HBI.out]
      cases bi
      · have HPO : Hid (projOne L x = []) := by
          show _ = _
          unfold projOne
          rw [if_neg]
          intro hv
          have h1 := inB_yes (show 0 ≤ x ∧ x ≤ (n : Int) - 1 by omega)
          rw [HBI.out] at h1
          cases h1
        go_wp2
        exact ⟨⟨j + 1, by omega, by go_num, by rw [HSN.out, HPO.out, List.append_nil]; exact HO.out, HBW.out, HSZ.out⟩, by simp [RowKit.intOf]; omega⟩
      · have hv := inB_val HBI.out
        obtain ⟨k, rfl⟩ : ∃ k : Nat, x = (k : Int) := ⟨x.toNat, by omega⟩
        rcases (HL.out.below HBW.out (Nat.le_of_eq HG.out)).2.2 with h0 | ⟨p1, o1, rfl, g1⟩
        · omega
        obtain ⟨y, hy⟩ : ∃ y, L[k]? = some y := ⟨_, List.getElem?_eq_getElem (by omega)⟩
        have HPO : Hid (projOne L (k : Int) = [y]) := proj_yes hy
        obtain ⟨d0, d1, d2⟩ := g1 k y hy
        obtain ⟨ky, my, sy⟩ := y
        dsimp only at d0 d1 d2
        have hk2 : (0 : Int) ≤ (k : Int) := by omega
        have hk3 : (k : Int) < (n : Int) := by omega
        clear g1 hy hv
        go_wp2_with
          (at_builtin
           refine list_appV _ rfl _ _ rfl g u5 _ rfl (owns_below HO.out ((Below.refl _ _).alloc (Nat.le_refl _) _) (Nat.le_refl _)) ⟨w2.heap.size, 0, none⟩ 1 1 [(ky, my, sy)] rfl rfl (vnews _ _ rfl (ky, my, sy)) (by have := HPL.out; omega) (by have := HSZ.out; simp; omega) ?_
           intro v4 w4 hown hbel hnil
           have O4 : Hid (VOwn w4 g v4 (projL L (xs.take (j + 1)))) := by rw [HSN.out, HPO.out]; exact hown
           have hb4 : Below g w2 w4 := hbel w2 g (Nat.le_refl _) ((Below.refl g w2).alloc HSZ.out _)
           have B4 : Hid (Below g w w4) := HBW.out.trans hb4
           have Z4 : Hid (g ≤ w4.heap.size) := Nat.le_trans HSZ.out hb4.size
           clear hown hbel hb4 hnil)
        exact ⟨⟨j + 1, by omega, by go_num, O4.out, B4.out, Z4.out⟩, by simp [RowKit.intOf]; omega⟩
    · obtain rfl : j = m := by omega
      have HE : Hid (xs.take j = xs) := List.take_of_length_le (by omega)
      have ho := HO.out
      rw [HE.out] at ho
      have HOE : Hid (VOwn wr g u5 (projL L xs)) := ho
      clear ho
      go_wp2
      go_ret
      exact ⟨⟨_, rfl, HOE.out⟩, HBW.out⟩
end Go.Proofs.Ytmgofehafjogfaa
