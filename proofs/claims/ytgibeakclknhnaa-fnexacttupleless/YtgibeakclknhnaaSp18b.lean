/- spec.TupleLess, walked. -/
import Derived.Test.YtgibeakclknhnaaTup18
import Derived.Test.YtgibeakclknhnaaSpecVl
import Derived.Test.YtgibeakclknhnaaSpecVs
import Derived.Deep.RegionHeld3
import Derived.Deep.Cut
namespace Go.Proofs.Ytgibeakclknhnaa
open Go.ChangeShapes Go.WideShapes Go.ChangeAt Go.RowKit

set_option maxHeartbeats 4000000 in
set_option maxRecDepth 100000 in
theorem specTupleLess_any (a1 a2 : Option Addr) (n1 n2 c1 c2 : Nat) (L M : List Va3) (w : World) (h : VasAt w a1 n1 L) (h' : VasAt w a2 n2 M) :
    Calls Try.prog 11 #[.slice a1 n1 c1, .slice a2 n2 c2] w fun e w' => e = .returned (.bool (tupLess L M)) ∧ Below w.heap.size w w' := by
  obtain ⟨B, hB⟩ : ∃ B, tupLess L M = B := ⟨_, rfl⟩
  rw [hB]
  have HB : Hid (tupLess (L.drop 0) (M.drop 0) = B) := hB
  have HL : Hid (VasAt w a1 n1 L) := h
  have HM : Hid (VasAt w a2 n2 M) := h'
  have hl := h.1
  have hn := h.2.1
  have hl' := h'.1
  have hn' := h'.2.1
  clear hB h h'
  go_enter Try.func11, Try.ntmps11
  go_wp2
  go_loopw [5] (fun i wr => ∃ j : Nat, j ≤ n1 ∧ j ≤ n2 ∧ i = .int .i64 (j : Int) ∧ tupLess (L.drop j) (M.drop j) = B ∧ Below w.heap.size w wr) (fun i _ => n1 - (RowKit.intOf i).toNat)
  case atStart => exact ⟨0, Nat.zero_le _, Nat.zero_le _, rfl, HB.out, Below.refl _ _⟩
  case round =>
    obtain ⟨j, hj, hj', rfl, ht, hb⟩ := hrel
    have HT : Hid (tupLess (L.drop j) (M.drop j) = B) := ht
    have HBW : Hid (Below w.heap.size w wr) := hb
    clear ht hb
    by_cases hlt : j < n1 ∧ j < n2
    · obtain ⟨hlt1, hlt2⟩ := hlt
      rcases (HL.out.below HBW.out (Nat.le_refl _)).2.2 with h0 | ⟨p1, o1, rfl, g1⟩
      · omega
      rcases (HM.out.below HBW.out (Nat.le_refl _)).2.2 with h0 | ⟨p2, o2, rfl, g2⟩
      · omega
      obtain ⟨x, hx⟩ : ∃ x, L[j]? = some x := ⟨_, List.getElem?_eq_getElem (by omega)⟩
      obtain ⟨y, hy⟩ : ∃ y, M[j]? = some y := ⟨_, List.getElem?_eq_getElem (by omega)⟩
      obtain ⟨e0, e1, e2⟩ := g1 j x hx
      obtain ⟨f0, f1, f2⟩ := g2 j y hy
      have hstep := tup_step hx hy
      rw [HT.out] at hstep
      obtain ⟨k, m, s⟩ := x
      obtain ⟨k', m', s'⟩ := y
      dsimp only at e0 e1 e2 f0 f1 f2 hstep
      have HST : Hid (B = if sameV k m s k' m' s' = true then tupLess (L.drop (j + 1)) (M.drop (j + 1)) else lessV k m s k' m' s') := hstep
      have LP1 : p1 < wr.heap.size := World.block_lt_of_cell? wr _ e0
      have LP2 : p2 < wr.heap.size := World.block_lt_of_cell? wr _ f0
      have KS : Hid (∀ z, Below wr.heap.size wr z → z.cell? ⟨p1, o1 + j * 3, none⟩ = some (.int .i64 k) ∧ z.cell? ⟨p1, o1 + j * 3 + 1, none⟩ = some (.int .i64 m) ∧ z.cell? ⟨p1, o1 + j * 3 + 2, none⟩ = some (.string s) ∧ z.cell? ⟨p2, o2 + j * 3, none⟩ = some (.int .i64 k') ∧ z.cell? ⟨p2, o2 + j * 3 + 1, none⟩ = some (.int .i64 m') ∧ z.cell? ⟨p2, o2 + j * 3 + 2, none⟩ = some (.string s')) := fun z hb => ⟨(hb.cell LP1).trans e0, (hb.cell LP1).trans e1, (hb.cell LP1).trans e2, (hb.cell LP2).trans f0, (hb.cell LP2).trans f1, (hb.cell LP2).trans f2⟩
      have HD0 : Hid (Below wr.heap.size wr wr.drew) := (Below.refl _ _).drew
      have K0 : Hid (wr.drew.cell? ⟨p1, o1 + j * 3, none⟩ = some (.int .i64 k) ∧ wr.drew.cell? ⟨p1, o1 + j * 3 + 1, none⟩ = some (.int .i64 m) ∧ wr.drew.cell? ⟨p1, o1 + j * 3 + 2, none⟩ = some (.string s) ∧ wr.drew.cell? ⟨p2, o2 + j * 3, none⟩ = some (.int .i64 k') ∧ wr.drew.cell? ⟨p2, o2 + j * 3 + 1, none⟩ = some (.int .i64 m') ∧ wr.drew.cell? ⟨p2, o2 + j * 3 + 2, none⟩ = some (.string s')) := KS.out _ HD0.out
      have hk0 : (0 : Int) ≤ (j : Int) := by omega
      have hk1 : (j : Int) < (n1 : Int) := by omega
      have hk2 : (j : Int) < (n2 : Int) := by omega
      obtain ⟨b1, hb1⟩ : ∃ b1, sameV k m s k' m' s' = b1 := ⟨_, rfl⟩
      have HB1 : Hid (sameV k m s k' m' s' = b1) := hb1
      clear g1 g2 hx hy hstep hb1 e0 e1 e2 f0 f1 f2
      go_upto_region 4 with (fail)
      go_region_held3 (fun w' => w'.cell? ⟨p1, o1 + j * 3, none⟩ = some (.int .i64 k) ∧ w'.cell? ⟨p1, o1 + j * 3 + 1, none⟩ = some (.int .i64 m) ∧ w'.cell? ⟨p1, o1 + j * 3 + 2, none⟩ = some (.string s) ∧ w'.cell? ⟨p2, o2 + j * 3, none⟩ = some (.int .i64 k') ∧ w'.cell? ⟨p2, o2 + j * 3 + 1, none⟩ = some (.int .i64 m') ∧ w'.cell? ⟨p2, o2 + j * 3 + 2, none⟩ = some (.string s'))
        (first | (with_reducible exact K1.out) | (with_reducible exact K0.out) | go_keep)
        (first
        | (go_at_call 32
           refine (specValueSame_any k m s k' m' s' wr.drew).mono ?_
           rintro e w1 ⟨rfl, hb⟩
           rw [HB1.out]
           have hb' : Below wr.heap.size wr w1 := HD0.out.trans hb
           have HW1 : Hid (Below wr.heap.size wr w1) := hb'
           have K1 : Hid (w1.cell? ⟨p1, o1 + j * 3, none⟩ = some (.int .i64 k) ∧ w1.cell? ⟨p1, o1 + j * 3 + 1, none⟩ = some (.int .i64 m) ∧ w1.cell? ⟨p1, o1 + j * 3 + 2, none⟩ = some (.string s) ∧ w1.cell? ⟨p2, o2 + j * 3, none⟩ = some (.int .i64 k') ∧ w1.cell? ⟨p2, o2 + j * 3 + 1, none⟩ = some (.int .i64 m') ∧ w1.cell? ⟨p2, o2 + j * 3 + 2, none⟩ = some (.string s')) := KS.out _ hb'
           clear hb hb'))
      have HW01 : Hid (Below w.heap.size w w1) := HBW.out.trans (HW1.out.mono HBW.out.size)
      rcases b1 with _ | _
      · have HBL : Hid (lessV k m s k' m' s' = B) := by
          have h1 := HST.out
          rw [HB1.out, if_neg (by decide)] at h1
          exact h1.symm
        have HD1 : Hid (Below wr.heap.size wr w1.drew) := HW1.out.drew
        have K2 : Hid (w1.drew.cell? ⟨p1, o1 + j * 3, none⟩ = some (.int .i64 k) ∧ w1.drew.cell? ⟨p1, o1 + j * 3 + 1, none⟩ = some (.int .i64 m) ∧ w1.drew.cell? ⟨p1, o1 + j * 3 + 2, none⟩ = some (.string s) ∧ w1.drew.cell? ⟨p2, o2 + j * 3, none⟩ = some (.int .i64 k') ∧ w1.drew.cell? ⟨p2, o2 + j * 3 + 1, none⟩ = some (.int .i64 m') ∧ w1.drew.cell? ⟨p2, o2 + j * 3 + 2, none⟩ = some (.string s')) := KS.out _ HD1.out
        go_upto_region 5 with (fail)
        go_region_held3 (fun w' => w'.cell? ⟨p1, o1 + j * 3, none⟩ = some (.int .i64 k) ∧ w'.cell? ⟨p1, o1 + j * 3 + 1, none⟩ = some (.int .i64 m) ∧ w'.cell? ⟨p1, o1 + j * 3 + 2, none⟩ = some (.string s) ∧ w'.cell? ⟨p2, o2 + j * 3, none⟩ = some (.int .i64 k') ∧ w'.cell? ⟨p2, o2 + j * 3 + 1, none⟩ = some (.int .i64 m') ∧ w'.cell? ⟨p2, o2 + j * 3 + 2, none⟩ = some (.string s'))
          (first | (with_reducible exact K3.out) | (with_reducible exact K2.out) | go_keep)
          (first
          | (go_at_call 33
             refine (specValueLess_any k m s k' m' s' w1.drew).mono ?_
             rintro e w2 ⟨rfl, hb⟩
             rw [HBL.out]
             have hb' : Below wr.heap.size wr w2 := HD1.out.trans (hb.mono HW1.out.size)
             have HW2 : Hid (Below wr.heap.size wr w2) := hb'
             have K3 : Hid (w2.cell? ⟨p1, o1 + j * 3, none⟩ = some (.int .i64 k) ∧ w2.cell? ⟨p1, o1 + j * 3 + 1, none⟩ = some (.int .i64 m) ∧ w2.cell? ⟨p1, o1 + j * 3 + 2, none⟩ = some (.string s) ∧ w2.cell? ⟨p2, o2 + j * 3, none⟩ = some (.int .i64 k') ∧ w2.cell? ⟨p2, o2 + j * 3 + 1, none⟩ = some (.int .i64 m') ∧ w2.cell? ⟨p2, o2 + j * 3 + 2, none⟩ = some (.string s')) := KS.out _ hb'
             clear hb hb'))
        go_wp2
        go_ret
        exact ⟨rfl, HBW.out.trans (HW2.out.mono HBW.out.size)⟩
      · have HNX : Hid (tupLess (L.drop (j + 1)) (M.drop (j + 1)) = B) := by
          have h1 := HST.out
          rw [HB1.out, if_pos rfl] at h1
          exact h1.symm
        go_wp2
        go_roundw
        case rel => exact ⟨j + 1, by omega, by omega, by go_num, HNX.out, HW01.out⟩
        case measure => simp [RowKit.intOf]; omega
    · have HE : Hid (decide (n1 < n2) = B) := by
        show _ = _
        rw [← HT.out, tup_end (by omega) (by omega) (by rw [hl, hl']; exact hlt), hl, hl']
      by_cases h1 : j < n1
      · have h2 : ¬ (j < n2) := by omega
        go_wp2
        go_ret
        exact ⟨by rw [← HE.out]; rfl, HBW.out⟩
      · go_wp2
        go_ret
        exact ⟨by rw [← HE.out]; rfl, HBW.out⟩
end Go.Proofs.Ytgibeakclknhnaa
