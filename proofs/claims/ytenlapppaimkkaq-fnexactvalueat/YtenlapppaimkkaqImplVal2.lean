/- impl.ValueAt, walked at any words, Descs and place. -/
import Derived.Test.YtenlapppaimkkaqImplVal
import Derived.Deep.RegionHeld3
namespace Go.Proofs.Ytenlapppaimkkaq
open Go.ChangeShapes Go.WideShapes Go.ChangeAt Go.RowKit

set_option maxHeartbeats 4000000 in
set_option maxRecDepth 100000 in
theorem implValueAt_any (a : Option Addr) (m c : Nat) (fs : List Int) (da : Option Addr) (dn dc : Nat) (ds : List DK) (at_ : Int) (w : World) (h1 : TripAt w a m fs) (h2 : DescAt w da dn ds) :
    Calls Try.prog 11 #[.slice a m c, .slice da dn dc, .int .i64 at_] w fun e w' => e = .returned (.int .i64 (valM fs m ds at_)) ∧ Below w.heap.size w w' := by
  have H1 : Hid (TripAt w a m fs) := h1
  have H2 : Hid (DescAt w da dn ds) := h2
  have hm := h1.2.1
  have hdn := h2.2.1
  obtain ⟨V, hV⟩ : ∃ V, valM fs m ds at_ = V := ⟨_, rfl⟩
  rw [hV]
  have HV : Hid (valM fs m ds at_ = V) := hV
  clear h1 h2 hV
  by_cases hneg : at_ < 0
  · obtain rfl : V = 0 := by rw [← HV.out]; unfold valM; rw [if_neg (by omega)]
    clear HV
    go_enter Try.func11, Try.ntmps11
    go_wp2
    go_ret
    exact ⟨rfl, Below.refl _ _⟩
  by_cases hbig : (m : Int) ≤ at_
  · obtain rfl : V = 0 := by rw [← HV.out]; unfold valM; rw [if_neg (by omega)]
    clear HV
    go_enter Try.func11, Try.ntmps11
    go_wp2
    go_ret
    exact ⟨rfl, Below.refl _ _⟩
  obtain ⟨i, rfl⟩ : ∃ i : Nat, at_ = (i : Int) := ⟨at_.toNat, by omega⟩
  have hi0 : (0 : Int) ≤ (i : Int) := by omega
  have hi1 : (i : Int) < (m : Int) := by omega
  rcases H1.out.2.2 with h0 | ⟨p1, o1, rfl, g1⟩
  · omega
  have e1 := g1 (i * 3) (by omega)
  have e2 := g1 (i * 3 + 1) (by omega)
  have e3 := g1 (i * 3 + 2) (by omega)
  have HV2 : Hid (wordM (fs.getD (i * 3) 0) (fs.getD (i * 3 + 1) 0) (fs.getD (i * 3 + 2) 0) ds i = V) := by
    show _ = _
    rw [← HV.out]
    unfold valM
    rw [if_pos ⟨hi0, hi1⟩]
    simp
  obtain ⟨x, hx⟩ : ∃ x, fs.getD (i * 3) 0 = x := ⟨_, rfl⟩
  obtain ⟨t, ht⟩ : ∃ y, fs.getD (i * 3 + 1) 0 = y := ⟨_, rfl⟩
  obtain ⟨s, hs⟩ : ∃ z, fs.getD (i * 3 + 2) 0 = z := ⟨_, rfl⟩
  rw [hx, ht, hs] at HV2
  rw [hx] at e1
  rw [ht, ← Nat.add_assoc] at e2
  rw [hs, ← Nat.add_assoc] at e3
  clear g1 hx ht hs HV
  have HBX : Hid (Below w.heap.size w (w.alloc (.cells #[.int .i64 x, .int .i64 t, .int .i64 s] 58))) := (Below.refl _ w).alloc (Nat.le_refl _) _
  go_enter Try.func11, Try.ntmps11
  go_wp2_with fail
  refine (isMark_any x t s _).mono ?_
  rintro e w1 ⟨rfl, hb1⟩
  have X1 : Hid (Box w1 w.heap.size #[.int .i64 x, .int .i64 t, .int .i64 s] 58) := (box_of w _ _).below hb1 (by simp)
  have HB1 : Hid (Below w.heap.size w w1) := HBX.out.trans (hb1.mono (by simp))
  have hlt : w.heap.size < w1.heap.size := X1.out.lt
  obtain ⟨x0, x1, x2, _, _, _⟩ := X1.out.three
  clear hb1 e1 e2 e3 HBX
  by_cases ht : t = 0
  · subst ht
    obtain rfl : V = x := by rw [← HV2.out]; simp [wordM]
    rw [show ((0 : Int) != 0) = false from rfl]
    clear HV2
    go_wp2
    go_ret
    exact ⟨rfl, HB1.out⟩
  · rw [show (t != 0) = true by simpa using ht]
    have K0 : Hid (w1.cell? ⟨w.heap.size, 0, none⟩ = some (.int .i64 x) ∧ w1.cell? ⟨w.heap.size, 1, none⟩ = some (.int .i64 t) ∧ w1.cell? ⟨w.heap.size, 2, none⟩ = some (.int .i64 s)) := ⟨x0, x1, x2⟩
    rcases hT : inB t 1 (dn : Int) with _ | _
    · have HT : Hid (inB t 1 (dn : Int) = false) := hT
      obtain rfl : V = 0 := by rw [← HV2.out]; unfold wordM; rw [if_neg ht, H2.out.1, hT]; rfl
      clear HV2 hT ht
      go_wp2_with fail
      go_region_held3 (fun w' => w'.cell? ⟨w.heap.size, 0, none⟩ = some (.int .i64 x) ∧ w'.cell? ⟨w.heap.size, 1, none⟩ = some (.int .i64 t) ∧ w'.cell? ⟨w.heap.size, 2, none⟩ = some (.int .i64 s))
        (first | (with_reducible exact K2.out) | (with_reducible exact K1.out) | (with_reducible exact K0.out) | go_keep)
        (first
        | (go_at_call 32
           refine (tryOf_none x t s da dn dc _ HT.out).mono ?_
           rintro e w2 ⟨rfl, hb2⟩
           have hb2' : Below w1.heap.size w1 w2 := (Below.refl _ w1).drew.trans hb2
           have hs2 := hb2'.size
           have HB2 : Hid (Below w.heap.size w w2) := HB1.out.trans (hb2'.mono HB1.out.size)
           have K1 : Hid (w2.cell? ⟨w.heap.size, 0, none⟩ = some (.int .i64 x) ∧ w2.cell? ⟨w.heap.size, 1, none⟩ = some (.int .i64 t) ∧ w2.cell? ⟨w.heap.size, 2, none⟩ = some (.int .i64 s)) := ⟨(hb2'.cell hlt).trans x0, (hb2'.cell hlt).trans x1, (hb2'.cell hlt).trans x2⟩
           clear hb2)
        | (go_at_call 33
           refine (meansAt_nil s i _).mono ?_
           rintro e w3 ⟨rfl, hb3⟩
           have HB3 : Hid (Below w.heap.size w w3) := HB2.out.trans (hb3.mono HB2.out.size)
           have K2 : Hid (w3.cell? ⟨w.heap.size, 0, none⟩ = some (.int .i64 x) ∧ w3.cell? ⟨w.heap.size, 1, none⟩ = some (.int .i64 t) ∧ w3.cell? ⟨w.heap.size, 2, none⟩ = some (.int .i64 s)) := ⟨(hb3.cell (Nat.lt_of_lt_of_le hlt hs2)).trans K1.out.1, (hb3.cell (Nat.lt_of_lt_of_le hlt hs2)).trans K1.out.2.1, (hb3.cell (Nat.lt_of_lt_of_le hlt hs2)).trans K1.out.2.2⟩
           clear hb3))
      clear K0 K1 K2 x0 x1 x2
      go_wp2
      go_ret
      exact ⟨rfl, HB3.out⟩
    · have htv := inB_val hT
      obtain ⟨j, rfl⟩ : ∃ j : Nat, t = (j : Int) + 1 := ⟨(t - 1).toNat, by omega⟩
      have HV3 : Hid ((if (dk ds j).sq = s ∧ (dk ds j).st = 2 then (entM (dk ds j).es (dk ds j).en i).2.2.1 else (entM (dk ds j).es (dk ds j).en i).2.1) = V) := by
        show _ = _
        rw [← HV2.out]
        unfold wordM
        rw [if_neg ht, H2.out.1, if_pos hT, show ((j : Int) + 1 - 1).toNat = j by omega]
      clear HV2 hT ht
      rcases (H2.out.below HB1.out (Nat.le_refl _)).2.2 with h0 | ⟨q1, o2, rfl, g2⟩
      · omega
      obtain ⟨ea, ec, ra, rc, h5, h6, h7⟩ := g2 j (by omega)
      have H5 : Hid (Five w1 q1 (o2 + j * 5) (dk ds j) ea ec ra rc) := h5
      have H6 : Hid (TripAt w1 ea (dk ds j).en (dk ds j).es) := h6
      have hj : j < dn := by omega
      clear g2 h5 h6 h7 htv
      go_wp2_with fail
      go_region_held3 (fun w' => w'.cell? ⟨w.heap.size, 0, none⟩ = some (.int .i64 x) ∧ w'.cell? ⟨w.heap.size, 1, none⟩ = some (.int .i64 ((j : Int) + 1)) ∧ w'.cell? ⟨w.heap.size, 2, none⟩ = some (.int .i64 s))
        (first | (with_reducible exact K2.out) | (with_reducible exact K1.out) | (with_reducible exact K0.out) | go_keep)
        (first
        | (go_at_call 32
           refine (tryOf_some x s j q1 o2 dn dc (dk ds j) ea ec ra rc _ hj hdn (H5.out.below (Below.refl w1.heap.size w1).drew (Nat.le_refl _)) (H6.out.below (Below.refl w1.heap.size w1).drew (Nat.le_refl _))).mono ?_
           rintro e w2 ⟨tt, gg, rfl, hbx2, ht2, hb2⟩
           have BX2 : Hid (Box w2 tt (TryC (dk ds j).sq ((dk ds j).st == 2) gg (dk ds j).en) 84) := hbx2
           have T2 : Hid (TripAt w2 (some ⟨gg, 0, none⟩) (dk ds j).en (dk ds j).es) := ht2
           have hb2' : Below w1.heap.size w1 w2 := (Below.refl _ w1).drew.trans hb2
           have hs2 := hb2'.size
           have HB2 : Hid (Below w.heap.size w w2) := HB1.out.trans (hb2'.mono HB1.out.size)
           have K1 : Hid (w2.cell? ⟨w.heap.size, 0, none⟩ = some (.int .i64 x) ∧ w2.cell? ⟨w.heap.size, 1, none⟩ = some (.int .i64 ((j : Int) + 1)) ∧ w2.cell? ⟨w.heap.size, 2, none⟩ = some (.int .i64 s)) := ⟨(hb2'.cell hlt).trans x0, (hb2'.cell hlt).trans x1, (hb2'.cell hlt).trans x2⟩
           clear hb2 hbx2 ht2)
        | (go_at_call 33
           refine (meansAt_some tt gg (dk ds j).sq (dk ds j).st (dk ds j).en (dk ds j).es s i _ BX2.out T2.out).mono ?_
           rintro e w3 ⟨rfl, hb3⟩
           rw [HV3.out]
           have HB3 : Hid (Below w.heap.size w w3) := HB2.out.trans (hb3.mono HB2.out.size)
           have K2 : Hid (w3.cell? ⟨w.heap.size, 0, none⟩ = some (.int .i64 x) ∧ w3.cell? ⟨w.heap.size, 1, none⟩ = some (.int .i64 ((j : Int) + 1)) ∧ w3.cell? ⟨w.heap.size, 2, none⟩ = some (.int .i64 s)) := ⟨(hb3.cell (Nat.lt_of_lt_of_le hlt hs2)).trans K1.out.1, (hb3.cell (Nat.lt_of_lt_of_le hlt hs2)).trans K1.out.2.1, (hb3.cell (Nat.lt_of_lt_of_le hlt hs2)).trans K1.out.2.2⟩
           clear hb3))
      clear K0 K1 K2 x0 x1 x2
      go_wp2
      go_ret
      exact ⟨rfl, HB3.out⟩
end Go.Proofs.Ytenlapppaimkkaq
