/- Texts joined: DatE. -/
import Derived.Test.YtkbodiggdajbeaaGreatDoorMT05
import Derived.Deep.RegionHeld3
import Derived.Deep.Cut
import Derived.Handy
/- The laws' own functions on data. -/
namespace Go.Proofs.YtkbodiggdajbeaaGreatDoor
open Go.ChangeShapes Go.WideShapes Go.ChangeAt Go.RowKit Go.Joins

set_option maxHeartbeats 2000000 in
theorem dEqIntS (v u : Value) (n : Nat) (cs : List Cel) (w : World) (h : At false w v (.l 3 1 n cs)) (h' : At false w u (.l 3 1 n cs)) (hs : Has (.l 3 1 n cs) (.l 3 1 [.i])) :
    Calls Tryz.prog 31 #[v, u] w (Yes w) := by
  obtain ⟨a, c, vs, rfl, h1, h2, hn, -, h3, h4⟩ := h.openL
  have SRC : Hid (n = 0 ∨ ∃ b o, a = some ⟨b, o, none⟩ ∧ ∀ j, j < n * 1 → w.cell? ⟨b, o + j, none⟩ = vs[j]?) := h3
  have HV : Hid (∀ j, j < n → AtL false w ((vs.drop (j * 1)).take 1) (row cs 1 j)) := fun j hj => rowVals h1 h2 h4 hj
  have Lvs : Hid (vs.length = n * 1) := h1
  clear h1 h2 h3 h4 hn
  obtain ⟨a', c', us, rfl, h1, h2, hn, -, h3, h4⟩ := h'.openL
  have SRD : Hid (n = 0 ∨ ∃ b o, a' = some ⟨b, o, none⟩ ∧ ∀ j, j < n * 1 → w.cell? ⟨b, o + j, none⟩ = us[j]?) := h3
  have HU : Hid (∀ j, j < n → AtL false w ((us.drop (j * 1)).take 1) (row cs 1 j)) := fun j hj => rowVals h1 h2 h4 hj
  have Lus : Hid (us.length = n * 1) := h1
  clear h1 h2 h3 h4 
  have HR : Hid (∀ j, j < n → HasL (row cs 1 j) [.i]) := fun j hj => hs.rowL hj
  clear h h' hs
  go_enter Tryz.func31, Tryz.ntmps31
  go_wp2
  go_loopw [5] (fun i wr => ∃ j : Nat, j ≤ n ∧ i = .int .i64 j ∧ Below w.heap.size w wr) (fun i _ => n - (intOf i).toNat)
  case atStart => exact ⟨0, Nat.zero_le _, rfl, Below.refl _ _⟩
  case round =>
    obtain ⟨j, hj, rfl, hb⟩ := hrel
    by_cases hlt : j < n
    · have hk0 : (0 : Int) ≤ (j : Int) := by omega
      have hk1 : (j : Int) < (n : Int) := by omega
      have hle : j * 1 + 1 ≤ n * 1 := by omega
      have hH := HR.out j hlt
      obtain ⟨rs, hrs⟩ : ∃ rs, row cs 1 j = rs := ⟨_, rfl⟩
      rw [hrs] at hH
      rcases SRC.out with h0 | ⟨p1, o1, rfl, g1⟩
      · omega
      have hA := HV.out j hlt
      have ce : ∀ i, i < 1 → wr.cell? ⟨p1, o1 + (j * 1 + i), none⟩ = ((vs.drop (j * 1)).take 1)[i]? := fun i hi => by
        have h5 := g1 (j * 1 + i) (by omega)
        rw [List.getElem?_take_of_lt hi, List.getElem?_drop, ← h5]
        have h6 : w.cell? ⟨p1, o1 + (j * 1 + i), none⟩ = some (vs[j * 1 + i]'(by have := Lvs.out; omega)) := by rw [h5, List.getElem?_eq_getElem (by have := Lvs.out; omega)]
        exact hb.cell (show p1 < w.heap.size from World.block_lt_of_cell? w _ h6)
      obtain ⟨ws, hws⟩ : ∃ ws, (vs.drop (j * 1)).take 1 = ws := ⟨_, rfl⟩
      rw [hrs] at hA
      rw [hws] at hA ce
      clear g1 hws
      rcases SRD.out with h0 | ⟨p2, o2, rfl, g2⟩
      · omega
      have hB := HU.out j hlt
      have cf : ∀ i, i < 1 → wr.cell? ⟨p2, o2 + (j * 1 + i), none⟩ = ((us.drop (j * 1)).take 1)[i]? := fun i hi => by
        have h5 := g2 (j * 1 + i) (by omega)
        rw [List.getElem?_take_of_lt hi, List.getElem?_drop, ← h5]
        have h6 : w.cell? ⟨p2, o2 + (j * 1 + i), none⟩ = some (us[j * 1 + i]'(by have := Lus.out; omega)) := by rw [h5, List.getElem?_eq_getElem (by have := Lus.out; omega)]
        exact hb.cell (show p2 < w.heap.size from World.block_lt_of_cell? w _ h6)
      obtain ⟨ws', hws⟩ : ∃ ws, (us.drop (j * 1)).take 1 = ws := ⟨_, rfl⟩
      rw [hrs] at hB
      rw [hws] at hB cf
      clear g2 hws
      obtain ⟨c0, r0, rfl, T0, hH0⟩ := hH.cons
      obtain rfl := hH0.nil
      have HL0 : Hid (HasL [c0] [.i]) := hH
      obtain ⟨v0, vr0, rfl, A0, hA0⟩ := hA.consE
      obtain rfl := hA0.nilE
      obtain ⟨u0, ur0, rfl, B0, hB0⟩ := hB.consE
      obtain rfl := hB0.nilE
      have HA0 : Hid (AtL false w [v0] [c0]) := hA
      have HB0 : Hid (AtL false w [u0] [c0]) := hB
      have e0 : wr.cell? ⟨p1, o1 + j * 1, none⟩ = some v0 := ce 0 (by omega)
      have f0 : wr.cell? ⟨p2, o2 + j * 1, none⟩ = some u0 := cf 0 (by omega)
      obtain ⟨x0, rfl⟩ := T0.int
      obtain rfl := A0.int
      obtain rfl := B0.int
      simp only [Nat.mul_one] at e0 f0
      have ne0 : (x0 != x0) = false := by simp
      clear ce cf hrs hA0 hB0 hH0 hA hB hH T0 A0 B0
      go_wp2
      go_region
      go_wp2
      exact ⟨⟨j + 1, by omega, by go_num, hb.drew⟩, by simp [intOf]; omega⟩
    · obtain rfl : j = n := by omega
      go_wp2
      go_ret
      exact ⟨rfl, hb⟩
set_option maxHeartbeats 2000000 in
theorem dEqOp (vs us : List Value) (cs : List Cel) (w : World) (h : AtL false w vs cs) (h' : AtL false w us cs) (hs : HasL cs tyOp) : Calls Tryz.prog 95 #[.agg vs.toArray, .agg us.toArray] w (Yes w) := by
  obtain ⟨c0, r0, rfl, T0, hH0⟩ := hs.cons
  obtain ⟨c1, r1, rfl, T1, hH1⟩ := hH0.cons
  obtain ⟨c2, r2, rfl, T2, hH2⟩ := hH1.cons
  obtain rfl := hH2.nil
  obtain ⟨v0, vr0, rfl, A0, hA0⟩ := h.consE
  obtain ⟨v1, vr1, rfl, A1, hA1⟩ := hA0.consE
  obtain ⟨v2, vr2, rfl, A2, hA2⟩ := hA1.consE
  obtain rfl := hA2.nilE
  obtain ⟨u0, ur0, rfl, B0, hB0⟩ := h'.consE
  obtain ⟨u1, ur1, rfl, B1, hB1⟩ := hB0.consE
  obtain ⟨u2, ur2, rfl, B2, hB2⟩ := hB1.consE
  obtain rfl := hB2.nilE
  obtain ⟨x0, rfl⟩ := T0.int
  obtain rfl := A0.int
  obtain rfl := B0.int
  have ne0 : (x0 != x0) = false := by simp
  obtain ⟨x1, rfl⟩ := T1.int
  obtain rfl := A1.int
  obtain rfl := B1.int
  have ne1 : (x1 != x1) = false := by simp
  obtain ⟨x2, rfl⟩ := T2.int
  obtain rfl := A2.int
  obtain rfl := B2.int
  have ne2 : (x2 != x2) = false := by simp
  clear hs h h' hA0 hB0 hH0 T0 A0 B0 hA1 hB1 hH1 T1 A1 B1 hA2 hB2 hH2 T2 A2 B2
  obtain ⟨W, hW⟩ : ∃ W, (w.alloc (.cells #[.int .i64 x0, .int .i64 x1, .int .i64 x2] 57)).alloc (.cells #[.int .i64 x0, .int .i64 x1, .int .i64 x2] 57) = W := ⟨_, rfl⟩
  have t0 : Hid (Two w W #[.int .i64 x0, .int .i64 x1, .int .i64 x2] #[.int .i64 x0, .int .i64 x1, .int .i64 x2] 57) := by rw [← hW]; exact two_new w _ _ _
  have HW : Hid _ := hW
  clear hW
  go_enter Tryz.func95, Tryz.ntmps95
  go_upto_region 1 with (fail)
  rw [HW.out]
  have ax0 : W.cell? ⟨w.heap.size, 0, none⟩ = some (.int .i64 x0) := t0.out.a.cell 0
  have bx0 : W.cell? ⟨w.heap.size + 1, 0, none⟩ = some (.int .i64 x0) := t0.out.b.cell 0
  have ax1 : W.cell? ⟨w.heap.size, 1, none⟩ = some (.int .i64 x1) := t0.out.a.cell 1
  have bx1 : W.cell? ⟨w.heap.size + 1, 1, none⟩ = some (.int .i64 x1) := t0.out.b.cell 1
  have ax2 : W.cell? ⟨w.heap.size, 2, none⟩ = some (.int .i64 x2) := t0.out.a.cell 2
  have bx2 : W.cell? ⟨w.heap.size + 1, 2, none⟩ = some (.int .i64 x2) := t0.out.b.cell 2
  go_wp2
  go_ret
  exact ⟨rfl, t0.out.on⟩
set_option maxHeartbeats 2000000 in
theorem dEqOpS (v u : Value) (n : Nat) (cs : List Cel) (w : World) (h : At false w v (.l 57 3 n cs)) (h' : At false w u (.l 57 3 n cs)) (hs : Has (.l 57 3 n cs) (.l 57 3 tyOp)) :
    Calls Tryz.prog 92 #[v, u] w (Yes w) := by
  obtain ⟨a, c, vs, rfl, h1, h2, hn, -, h3, h4⟩ := h.openL
  have SRC : Hid (n = 0 ∨ ∃ b o, a = some ⟨b, o, none⟩ ∧ ∀ j, j < n * 3 → w.cell? ⟨b, o + j, none⟩ = vs[j]?) := h3
  have HV : Hid (∀ j, j < n → AtL false w ((vs.drop (j * 3)).take 3) (row cs 3 j)) := fun j hj => rowVals h1 h2 h4 hj
  have Lvs : Hid (vs.length = n * 3) := h1
  clear h1 h2 h3 h4 hn
  obtain ⟨a', c', us, rfl, h1, h2, hn, -, h3, h4⟩ := h'.openL
  have SRD : Hid (n = 0 ∨ ∃ b o, a' = some ⟨b, o, none⟩ ∧ ∀ j, j < n * 3 → w.cell? ⟨b, o + j, none⟩ = us[j]?) := h3
  have HU : Hid (∀ j, j < n → AtL false w ((us.drop (j * 3)).take 3) (row cs 3 j)) := fun j hj => rowVals h1 h2 h4 hj
  have Lus : Hid (us.length = n * 3) := h1
  clear h1 h2 h3 h4 
  have HR : Hid (∀ j, j < n → HasL (row cs 3 j) tyOp) := fun j hj => hs.rowL hj
  clear h h' hs
  go_enter Tryz.func92, Tryz.ntmps92
  go_wp2
  go_loopw [5] (fun i wr => ∃ j : Nat, j ≤ n ∧ i = .int .i64 j ∧ Below w.heap.size w wr) (fun i _ => n - (intOf i).toNat)
  case atStart => exact ⟨0, Nat.zero_le _, rfl, Below.refl _ _⟩
  case round =>
    obtain ⟨j, hj, rfl, hb⟩ := hrel
    by_cases hlt : j < n
    · have hk0 : (0 : Int) ≤ (j : Int) := by omega
      have hk1 : (j : Int) < (n : Int) := by omega
      have hle : j * 3 + 3 ≤ n * 3 := by omega
      have hH := HR.out j hlt
      obtain ⟨rs, hrs⟩ : ∃ rs, row cs 3 j = rs := ⟨_, rfl⟩
      rw [hrs] at hH
      rcases SRC.out with h0 | ⟨p1, o1, rfl, g1⟩
      · omega
      have hA := HV.out j hlt
      have ce : ∀ i, i < 3 → wr.cell? ⟨p1, o1 + (j * 3 + i), none⟩ = ((vs.drop (j * 3)).take 3)[i]? := fun i hi => by
        have h5 := g1 (j * 3 + i) (by omega)
        rw [List.getElem?_take_of_lt hi, List.getElem?_drop, ← h5]
        have h6 : w.cell? ⟨p1, o1 + (j * 3 + i), none⟩ = some (vs[j * 3 + i]'(by have := Lvs.out; omega)) := by rw [h5, List.getElem?_eq_getElem (by have := Lvs.out; omega)]
        exact hb.cell (show p1 < w.heap.size from World.block_lt_of_cell? w _ h6)
      obtain ⟨ws, hws⟩ : ∃ ws, (vs.drop (j * 3)).take 3 = ws := ⟨_, rfl⟩
      rw [hrs] at hA
      rw [hws] at hA ce
      clear g1 hws
      rcases SRD.out with h0 | ⟨p2, o2, rfl, g2⟩
      · omega
      have hB := HU.out j hlt
      have cf : ∀ i, i < 3 → wr.cell? ⟨p2, o2 + (j * 3 + i), none⟩ = ((us.drop (j * 3)).take 3)[i]? := fun i hi => by
        have h5 := g2 (j * 3 + i) (by omega)
        rw [List.getElem?_take_of_lt hi, List.getElem?_drop, ← h5]
        have h6 : w.cell? ⟨p2, o2 + (j * 3 + i), none⟩ = some (us[j * 3 + i]'(by have := Lus.out; omega)) := by rw [h5, List.getElem?_eq_getElem (by have := Lus.out; omega)]
        exact hb.cell (show p2 < w.heap.size from World.block_lt_of_cell? w _ h6)
      obtain ⟨ws', hws⟩ : ∃ ws, (us.drop (j * 3)).take 3 = ws := ⟨_, rfl⟩
      rw [hrs] at hB
      rw [hws] at hB cf
      clear g2 hws
      obtain ⟨c0, r0, rfl, T0, hH0⟩ := hH.cons
      obtain ⟨c1, r1, rfl, T1, hH1⟩ := hH0.cons
      obtain ⟨c2, r2, rfl, T2, hH2⟩ := hH1.cons
      obtain rfl := hH2.nil
      have HL0 : Hid (HasL [c0, c1, c2] tyOp) := hH
      obtain ⟨v0, vr0, rfl, A0, hA0⟩ := hA.consE
      obtain ⟨v1, vr1, rfl, A1, hA1⟩ := hA0.consE
      obtain ⟨v2, vr2, rfl, A2, hA2⟩ := hA1.consE
      obtain rfl := hA2.nilE
      obtain ⟨u0, ur0, rfl, B0, hB0⟩ := hB.consE
      obtain ⟨u1, ur1, rfl, B1, hB1⟩ := hB0.consE
      obtain ⟨u2, ur2, rfl, B2, hB2⟩ := hB1.consE
      obtain rfl := hB2.nilE
      have HA0 : Hid (AtL false w [v0, v1, v2] [c0, c1, c2]) := hA
      have HB0 : Hid (AtL false w [u0, u1, u2] [c0, c1, c2]) := hB
      have e0 : wr.cell? ⟨p1, o1 + j * 3, none⟩ = some v0 := ce 0 (by omega)
      have f0 : wr.cell? ⟨p2, o2 + j * 3, none⟩ = some u0 := cf 0 (by omega)
      have e1 : wr.cell? ⟨p1, o1 + j * 3 + 1, none⟩ = some v1 := ce 1 (by omega)
      have f1 : wr.cell? ⟨p2, o2 + j * 3 + 1, none⟩ = some u1 := cf 1 (by omega)
      have e2 : wr.cell? ⟨p1, o1 + j * 3 + 2, none⟩ = some v2 := ce 2 (by omega)
      have f2 : wr.cell? ⟨p2, o2 + j * 3 + 2, none⟩ = some u2 := cf 2 (by omega)
      clear ce cf hrs hA0 hB0 hH0 hA1 hB1 hH1 hA2 hB2 hH2 T0 A0 B0 T1 A1 B1 T2 A2 B2 hA hB hH
      have q1 : p1 < wr.heap.size := World.block_lt_of_cell? wr _ e0
      have q2 : p2 < wr.heap.size := World.block_lt_of_cell? wr _ f0
      go_wp2_with fail
      go_region_held3 (fun w' => w'.cell? ⟨p1, o1 + j * 3, none⟩ = some v0 ∧ w'.cell? ⟨p1, o1 + j * 3 + 1, none⟩ = some v1 ∧ w'.cell? ⟨p1, o1 + j * 3 + 2, none⟩ = some v2 ∧ w'.cell? ⟨p2, o2 + j * 3, none⟩ = some u0 ∧ w'.cell? ⟨p2, o2 + j * 3 + 1, none⟩ = some u1 ∧ w'.cell? ⟨p2, o2 + j * 3 + 2, none⟩ = some u2)
        (first | (with_reducible exact K2.out) | go_keep)
        (first
        | (go_at_call 95
           refine (dEqOp [v0, v1, v2] [u0, u1, u2] [c0, c1, c2] _ (HA0.out.on (hb.drew) (Nat.le_refl _)) (HB0.out.on (hb.drew) (Nat.le_refl _)) HL0.out).mono ?_
           rintro e w2 ⟨rfl, hb2⟩
           have hb2' : Below wr.heap.size wr w2 := (Below.refl _ wr).drew.trans hb2
           have K2 : Hid (w2.cell? ⟨p1, o1 + j * 3, none⟩ = some v0 ∧ w2.cell? ⟨p1, o1 + j * 3 + 1, none⟩ = some v1 ∧ w2.cell? ⟨p1, o1 + j * 3 + 2, none⟩ = some v2 ∧ w2.cell? ⟨p2, o2 + j * 3, none⟩ = some u0 ∧ w2.cell? ⟨p2, o2 + j * 3 + 1, none⟩ = some u1 ∧ w2.cell? ⟨p2, o2 + j * 3 + 2, none⟩ = some u2) := ⟨(hb2'.cell (show p1 < _ from q1)).trans e0, (hb2'.cell (show p1 < _ from q1)).trans e1, (hb2'.cell (show p1 < _ from q1)).trans e2, (hb2'.cell (show p2 < _ from q2)).trans f0, (hb2'.cell (show p2 < _ from q2)).trans f1, (hb2'.cell (show p2 < _ from q2)).trans f2⟩
           have hb02 : Below w.heap.size w w2 := hb.trans (hb2'.mono hb.size)
           clear hb2 hb2'))
      clear e0 f0 e1 f1 e2 f2 K2
      go_wp2
      exact ⟨⟨j + 1, by omega, by go_num, hb02⟩, by simp [intOf]; omega⟩
    · obtain rfl : j = n := by omega
      go_wp2
      go_ret
      exact ⟨rfl, hb⟩
set_option maxHeartbeats 2000000 in
theorem dEqPair (vs us : List Value) (cs : List Cel) (w : World) (h : AtL false w vs cs) (h' : AtL false w us cs) (hs : HasL cs tyPair) : Calls Tryz.prog 110 #[.agg vs.toArray, .agg us.toArray] w (Yes w) := by
  obtain ⟨c0, r0, rfl, T0, hH0⟩ := hs.cons
  obtain ⟨c1, r1, rfl, T1, hH1⟩ := hH0.cons
  obtain rfl := hH1.nil
  obtain ⟨v0, vr0, rfl, A0, hA0⟩ := h.consE
  obtain ⟨v1, vr1, rfl, A1, hA1⟩ := hA0.consE
  obtain rfl := hA1.nilE
  obtain ⟨u0, ur0, rfl, B0, hB0⟩ := h'.consE
  obtain ⟨u1, ur1, rfl, B1, hB1⟩ := hB0.consE
  obtain rfl := hB1.nilE
  obtain ⟨x0, rfl⟩ := T0.int
  obtain rfl := A0.int
  obtain rfl := B0.int
  have ne0 : (x0 != x0) = false := by simp
  obtain ⟨x1, rfl⟩ := T1.int
  obtain rfl := A1.int
  obtain rfl := B1.int
  have ne1 : (x1 != x1) = false := by simp
  clear hs h h' hA0 hB0 hH0 T0 A0 B0 hA1 hB1 hH1 T1 A1 B1
  obtain ⟨W, hW⟩ : ∃ W, (w.alloc (.cells #[.int .i64 x0, .int .i64 x1] 176)).alloc (.cells #[.int .i64 x0, .int .i64 x1] 176) = W := ⟨_, rfl⟩
  have t0 : Hid (Two w W #[.int .i64 x0, .int .i64 x1] #[.int .i64 x0, .int .i64 x1] 176) := by rw [← hW]; exact two_new w _ _ _
  have HW : Hid _ := hW
  clear hW
  go_enter Tryz.func110, Tryz.ntmps110
  go_upto_region 1 with (fail)
  rw [HW.out]
  have ax0 : W.cell? ⟨w.heap.size, 0, none⟩ = some (.int .i64 x0) := t0.out.a.cell 0
  have bx0 : W.cell? ⟨w.heap.size + 1, 0, none⟩ = some (.int .i64 x0) := t0.out.b.cell 0
  have ax1 : W.cell? ⟨w.heap.size, 1, none⟩ = some (.int .i64 x1) := t0.out.a.cell 1
  have bx1 : W.cell? ⟨w.heap.size + 1, 1, none⟩ = some (.int .i64 x1) := t0.out.b.cell 1
  go_wp2
  go_ret
  exact ⟨rfl, t0.out.on⟩
set_option maxHeartbeats 2000000 in
theorem dEqPairS (v u : Value) (n : Nat) (cs : List Cel) (w : World) (h : At false w v (.l 176 2 n cs)) (h' : At false w u (.l 176 2 n cs)) (hs : Has (.l 176 2 n cs) (.l 176 2 tyPair)) :
    Calls Tryz.prog 93 #[v, u] w (Yes w) := by
  obtain ⟨a, c, vs, rfl, h1, h2, hn, -, h3, h4⟩ := h.openL
  have SRC : Hid (n = 0 ∨ ∃ b o, a = some ⟨b, o, none⟩ ∧ ∀ j, j < n * 2 → w.cell? ⟨b, o + j, none⟩ = vs[j]?) := h3
  have HV : Hid (∀ j, j < n → AtL false w ((vs.drop (j * 2)).take 2) (row cs 2 j)) := fun j hj => rowVals h1 h2 h4 hj
  have Lvs : Hid (vs.length = n * 2) := h1
  clear h1 h2 h3 h4 hn
  obtain ⟨a', c', us, rfl, h1, h2, hn, -, h3, h4⟩ := h'.openL
  have SRD : Hid (n = 0 ∨ ∃ b o, a' = some ⟨b, o, none⟩ ∧ ∀ j, j < n * 2 → w.cell? ⟨b, o + j, none⟩ = us[j]?) := h3
  have HU : Hid (∀ j, j < n → AtL false w ((us.drop (j * 2)).take 2) (row cs 2 j)) := fun j hj => rowVals h1 h2 h4 hj
  have Lus : Hid (us.length = n * 2) := h1
  clear h1 h2 h3 h4 
  have HR : Hid (∀ j, j < n → HasL (row cs 2 j) tyPair) := fun j hj => hs.rowL hj
  clear h h' hs
  go_enter Tryz.func93, Tryz.ntmps93
  go_wp2
  go_loopw [5] (fun i wr => ∃ j : Nat, j ≤ n ∧ i = .int .i64 j ∧ Below w.heap.size w wr) (fun i _ => n - (intOf i).toNat)
  case atStart => exact ⟨0, Nat.zero_le _, rfl, Below.refl _ _⟩
  case round =>
    obtain ⟨j, hj, rfl, hb⟩ := hrel
    by_cases hlt : j < n
    · have hk0 : (0 : Int) ≤ (j : Int) := by omega
      have hk1 : (j : Int) < (n : Int) := by omega
      have hle : j * 2 + 2 ≤ n * 2 := by omega
      have hH := HR.out j hlt
      obtain ⟨rs, hrs⟩ : ∃ rs, row cs 2 j = rs := ⟨_, rfl⟩
      rw [hrs] at hH
      rcases SRC.out with h0 | ⟨p1, o1, rfl, g1⟩
      · omega
      have hA := HV.out j hlt
      have ce : ∀ i, i < 2 → wr.cell? ⟨p1, o1 + (j * 2 + i), none⟩ = ((vs.drop (j * 2)).take 2)[i]? := fun i hi => by
        have h5 := g1 (j * 2 + i) (by omega)
        rw [List.getElem?_take_of_lt hi, List.getElem?_drop, ← h5]
        have h6 : w.cell? ⟨p1, o1 + (j * 2 + i), none⟩ = some (vs[j * 2 + i]'(by have := Lvs.out; omega)) := by rw [h5, List.getElem?_eq_getElem (by have := Lvs.out; omega)]
        exact hb.cell (show p1 < w.heap.size from World.block_lt_of_cell? w _ h6)
      obtain ⟨ws, hws⟩ : ∃ ws, (vs.drop (j * 2)).take 2 = ws := ⟨_, rfl⟩
      rw [hrs] at hA
      rw [hws] at hA ce
      clear g1 hws
      rcases SRD.out with h0 | ⟨p2, o2, rfl, g2⟩
      · omega
      have hB := HU.out j hlt
      have cf : ∀ i, i < 2 → wr.cell? ⟨p2, o2 + (j * 2 + i), none⟩ = ((us.drop (j * 2)).take 2)[i]? := fun i hi => by
        have h5 := g2 (j * 2 + i) (by omega)
        rw [List.getElem?_take_of_lt hi, List.getElem?_drop, ← h5]
        have h6 : w.cell? ⟨p2, o2 + (j * 2 + i), none⟩ = some (us[j * 2 + i]'(by have := Lus.out; omega)) := by rw [h5, List.getElem?_eq_getElem (by have := Lus.out; omega)]
        exact hb.cell (show p2 < w.heap.size from World.block_lt_of_cell? w _ h6)
      obtain ⟨ws', hws⟩ : ∃ ws, (us.drop (j * 2)).take 2 = ws := ⟨_, rfl⟩
      rw [hrs] at hB
      rw [hws] at hB cf
      clear g2 hws
      obtain ⟨c0, r0, rfl, T0, hH0⟩ := hH.cons
      obtain ⟨c1, r1, rfl, T1, hH1⟩ := hH0.cons
      obtain rfl := hH1.nil
      have HL0 : Hid (HasL [c0, c1] tyPair) := hH
      obtain ⟨v0, vr0, rfl, A0, hA0⟩ := hA.consE
      obtain ⟨v1, vr1, rfl, A1, hA1⟩ := hA0.consE
      obtain rfl := hA1.nilE
      obtain ⟨u0, ur0, rfl, B0, hB0⟩ := hB.consE
      obtain ⟨u1, ur1, rfl, B1, hB1⟩ := hB0.consE
      obtain rfl := hB1.nilE
      have HA0 : Hid (AtL false w [v0, v1] [c0, c1]) := hA
      have HB0 : Hid (AtL false w [u0, u1] [c0, c1]) := hB
      have e0 : wr.cell? ⟨p1, o1 + j * 2, none⟩ = some v0 := ce 0 (by omega)
      have f0 : wr.cell? ⟨p2, o2 + j * 2, none⟩ = some u0 := cf 0 (by omega)
      have e1 : wr.cell? ⟨p1, o1 + j * 2 + 1, none⟩ = some v1 := ce 1 (by omega)
      have f1 : wr.cell? ⟨p2, o2 + j * 2 + 1, none⟩ = some u1 := cf 1 (by omega)
      clear ce cf hrs hA0 hB0 hH0 hA1 hB1 hH1 T0 A0 B0 T1 A1 B1 hA hB hH
      have q1 : p1 < wr.heap.size := World.block_lt_of_cell? wr _ e0
      have q2 : p2 < wr.heap.size := World.block_lt_of_cell? wr _ f0
      go_wp2_with fail
      go_region_held3 (fun w' => w'.cell? ⟨p1, o1 + j * 2, none⟩ = some v0 ∧ w'.cell? ⟨p1, o1 + j * 2 + 1, none⟩ = some v1 ∧ w'.cell? ⟨p2, o2 + j * 2, none⟩ = some u0 ∧ w'.cell? ⟨p2, o2 + j * 2 + 1, none⟩ = some u1)
        (first | (with_reducible exact K2.out) | go_keep)
        (first
        | (go_at_call 110
           refine (dEqPair [v0, v1] [u0, u1] [c0, c1] _ (HA0.out.on (hb.drew) (Nat.le_refl _)) (HB0.out.on (hb.drew) (Nat.le_refl _)) HL0.out).mono ?_
           rintro e w2 ⟨rfl, hb2⟩
           have hb2' : Below wr.heap.size wr w2 := (Below.refl _ wr).drew.trans hb2
           have K2 : Hid (w2.cell? ⟨p1, o1 + j * 2, none⟩ = some v0 ∧ w2.cell? ⟨p1, o1 + j * 2 + 1, none⟩ = some v1 ∧ w2.cell? ⟨p2, o2 + j * 2, none⟩ = some u0 ∧ w2.cell? ⟨p2, o2 + j * 2 + 1, none⟩ = some u1) := ⟨(hb2'.cell (show p1 < _ from q1)).trans e0, (hb2'.cell (show p1 < _ from q1)).trans e1, (hb2'.cell (show p2 < _ from q2)).trans f0, (hb2'.cell (show p2 < _ from q2)).trans f1⟩
           have hb02 : Below w.heap.size w w2 := hb.trans (hb2'.mono hb.size)
           clear hb2 hb2'))
      clear e0 f0 e1 f1 K2
      go_wp2
      exact ⟨⟨j + 1, by omega, by go_num, hb02⟩, by simp [intOf]; omega⟩
    · obtain rfl : j = n := by omega
      go_wp2
      go_ret
      exact ⟨rfl, hb⟩
set_option maxHeartbeats 2000000 in
theorem dEqHelp (vs us : List Value) (cs : List Cel) (w : World) (h : AtL false w vs cs) (h' : AtL false w us cs) (hs : HasL cs tyHelp) : Calls Tryz.prog 111 #[.agg vs.toArray, .agg us.toArray] w (Yes w) := by
  obtain ⟨c0, r0, rfl, T0, hH0⟩ := hs.cons
  obtain ⟨c1, r1, rfl, T1, hH1⟩ := hH0.cons
  obtain ⟨c2, r2, rfl, T2, hH2⟩ := hH1.cons
  obtain ⟨c3, r3, rfl, T3, hH3⟩ := hH2.cons
  obtain rfl := hH3.nil
  obtain ⟨v0, vr0, rfl, A0, hA0⟩ := h.consE
  obtain ⟨v1, vr1, rfl, A1, hA1⟩ := hA0.consE
  obtain ⟨v2, vr2, rfl, A2, hA2⟩ := hA1.consE
  obtain ⟨v3, vr3, rfl, A3, hA3⟩ := hA2.consE
  obtain rfl := hA3.nilE
  obtain ⟨u0, ur0, rfl, B0, hB0⟩ := h'.consE
  obtain ⟨u1, ur1, rfl, B1, hB1⟩ := hB0.consE
  obtain ⟨u2, ur2, rfl, B2, hB2⟩ := hB1.consE
  obtain ⟨u3, ur3, rfl, B3, hB3⟩ := hB2.consE
  obtain rfl := hB3.nilE
  obtain ⟨x0, rfl⟩ := T0.int
  obtain rfl := A0.int
  obtain rfl := B0.int
  have ne0 : (x0 != x0) = false := by simp
  obtain ⟨x1, rfl⟩ := T1.int
  obtain rfl := A1.int
  obtain rfl := B1.int
  have ne1 : (x1 != x1) = false := by simp
  obtain ⟨x2, rfl⟩ := T2.int
  obtain rfl := A2.int
  obtain rfl := B2.int
  have ne2 : (x2 != x2) = false := by simp
  obtain ⟨x3, rfl⟩ := T3.int
  obtain rfl := A3.int
  obtain rfl := B3.int
  have ne3 : (x3 != x3) = false := by simp
  clear hs h h' hA0 hB0 hH0 T0 A0 B0 hA1 hB1 hH1 T1 A1 B1 hA2 hB2 hH2 T2 A2 B2 hA3 hB3 hH3 T3 A3 B3
  obtain ⟨W, hW⟩ : ∃ W, (w.alloc (.cells #[.int .i64 x0, .int .i64 x1, .int .i64 x2, .int .i64 x3] 180)).alloc (.cells #[.int .i64 x0, .int .i64 x1, .int .i64 x2, .int .i64 x3] 180) = W := ⟨_, rfl⟩
  have t0 : Hid (Two w W #[.int .i64 x0, .int .i64 x1, .int .i64 x2, .int .i64 x3] #[.int .i64 x0, .int .i64 x1, .int .i64 x2, .int .i64 x3] 180) := by rw [← hW]; exact two_new w _ _ _
  have HW : Hid _ := hW
  clear hW
  go_enter Tryz.func111, Tryz.ntmps111
  go_upto_region 1 with (fail)
  rw [HW.out]
  have ax0 : W.cell? ⟨w.heap.size, 0, none⟩ = some (.int .i64 x0) := t0.out.a.cell 0
  have bx0 : W.cell? ⟨w.heap.size + 1, 0, none⟩ = some (.int .i64 x0) := t0.out.b.cell 0
  have ax1 : W.cell? ⟨w.heap.size, 1, none⟩ = some (.int .i64 x1) := t0.out.a.cell 1
  have bx1 : W.cell? ⟨w.heap.size + 1, 1, none⟩ = some (.int .i64 x1) := t0.out.b.cell 1
  have ax2 : W.cell? ⟨w.heap.size, 2, none⟩ = some (.int .i64 x2) := t0.out.a.cell 2
  have bx2 : W.cell? ⟨w.heap.size + 1, 2, none⟩ = some (.int .i64 x2) := t0.out.b.cell 2
  have ax3 : W.cell? ⟨w.heap.size, 3, none⟩ = some (.int .i64 x3) := t0.out.a.cell 3
  have bx3 : W.cell? ⟨w.heap.size + 1, 3, none⟩ = some (.int .i64 x3) := t0.out.b.cell 3
  go_wp2
  go_ret
  exact ⟨rfl, t0.out.on⟩
set_option maxHeartbeats 2000000 in
theorem dEqHelpS (v u : Value) (n : Nat) (cs : List Cel) (w : World) (h : At false w v (.l 180 4 n cs)) (h' : At false w u (.l 180 4 n cs)) (hs : Has (.l 180 4 n cs) (.l 180 4 tyHelp)) :
    Calls Tryz.prog 94 #[v, u] w (Yes w) := by
  obtain ⟨a, c, vs, rfl, h1, h2, hn, -, h3, h4⟩ := h.openL
  have SRC : Hid (n = 0 ∨ ∃ b o, a = some ⟨b, o, none⟩ ∧ ∀ j, j < n * 4 → w.cell? ⟨b, o + j, none⟩ = vs[j]?) := h3
  have HV : Hid (∀ j, j < n → AtL false w ((vs.drop (j * 4)).take 4) (row cs 4 j)) := fun j hj => rowVals h1 h2 h4 hj
  have Lvs : Hid (vs.length = n * 4) := h1
  clear h1 h2 h3 h4 hn
  obtain ⟨a', c', us, rfl, h1, h2, hn, -, h3, h4⟩ := h'.openL
  have SRD : Hid (n = 0 ∨ ∃ b o, a' = some ⟨b, o, none⟩ ∧ ∀ j, j < n * 4 → w.cell? ⟨b, o + j, none⟩ = us[j]?) := h3
  have HU : Hid (∀ j, j < n → AtL false w ((us.drop (j * 4)).take 4) (row cs 4 j)) := fun j hj => rowVals h1 h2 h4 hj
  have Lus : Hid (us.length = n * 4) := h1
  clear h1 h2 h3 h4 
  have HR : Hid (∀ j, j < n → HasL (row cs 4 j) tyHelp) := fun j hj => hs.rowL hj
  clear h h' hs
  go_enter Tryz.func94, Tryz.ntmps94
  go_wp2
  go_loopw [5] (fun i wr => ∃ j : Nat, j ≤ n ∧ i = .int .i64 j ∧ Below w.heap.size w wr) (fun i _ => n - (intOf i).toNat)
  case atStart => exact ⟨0, Nat.zero_le _, rfl, Below.refl _ _⟩
  case round =>
    obtain ⟨j, hj, rfl, hb⟩ := hrel
    by_cases hlt : j < n
    · have hk0 : (0 : Int) ≤ (j : Int) := by omega
      have hk1 : (j : Int) < (n : Int) := by omega
      have hle : j * 4 + 4 ≤ n * 4 := by omega
      have hH := HR.out j hlt
      obtain ⟨rs, hrs⟩ : ∃ rs, row cs 4 j = rs := ⟨_, rfl⟩
      rw [hrs] at hH
      rcases SRC.out with h0 | ⟨p1, o1, rfl, g1⟩
      · omega
      have hA := HV.out j hlt
      have ce : ∀ i, i < 4 → wr.cell? ⟨p1, o1 + (j * 4 + i), none⟩ = ((vs.drop (j * 4)).take 4)[i]? := fun i hi => by
        have h5 := g1 (j * 4 + i) (by omega)
        rw [List.getElem?_take_of_lt hi, List.getElem?_drop, ← h5]
        have h6 : w.cell? ⟨p1, o1 + (j * 4 + i), none⟩ = some (vs[j * 4 + i]'(by have := Lvs.out; omega)) := by rw [h5, List.getElem?_eq_getElem (by have := Lvs.out; omega)]
        exact hb.cell (show p1 < w.heap.size from World.block_lt_of_cell? w _ h6)
      obtain ⟨ws, hws⟩ : ∃ ws, (vs.drop (j * 4)).take 4 = ws := ⟨_, rfl⟩
      rw [hrs] at hA
      rw [hws] at hA ce
      clear g1 hws
      rcases SRD.out with h0 | ⟨p2, o2, rfl, g2⟩
      · omega
      have hB := HU.out j hlt
      have cf : ∀ i, i < 4 → wr.cell? ⟨p2, o2 + (j * 4 + i), none⟩ = ((us.drop (j * 4)).take 4)[i]? := fun i hi => by
        have h5 := g2 (j * 4 + i) (by omega)
        rw [List.getElem?_take_of_lt hi, List.getElem?_drop, ← h5]
        have h6 : w.cell? ⟨p2, o2 + (j * 4 + i), none⟩ = some (us[j * 4 + i]'(by have := Lus.out; omega)) := by rw [h5, List.getElem?_eq_getElem (by have := Lus.out; omega)]
        exact hb.cell (show p2 < w.heap.size from World.block_lt_of_cell? w _ h6)
      obtain ⟨ws', hws⟩ : ∃ ws, (us.drop (j * 4)).take 4 = ws := ⟨_, rfl⟩
      rw [hrs] at hB
      rw [hws] at hB cf
      clear g2 hws
      obtain ⟨c0, r0, rfl, T0, hH0⟩ := hH.cons
      obtain ⟨c1, r1, rfl, T1, hH1⟩ := hH0.cons
      obtain ⟨c2, r2, rfl, T2, hH2⟩ := hH1.cons
      obtain ⟨c3, r3, rfl, T3, hH3⟩ := hH2.cons
      obtain rfl := hH3.nil
      have HL0 : Hid (HasL [c0, c1, c2, c3] tyHelp) := hH
      obtain ⟨v0, vr0, rfl, A0, hA0⟩ := hA.consE
      obtain ⟨v1, vr1, rfl, A1, hA1⟩ := hA0.consE
      obtain ⟨v2, vr2, rfl, A2, hA2⟩ := hA1.consE
      obtain ⟨v3, vr3, rfl, A3, hA3⟩ := hA2.consE
      obtain rfl := hA3.nilE
      obtain ⟨u0, ur0, rfl, B0, hB0⟩ := hB.consE
      obtain ⟨u1, ur1, rfl, B1, hB1⟩ := hB0.consE
      obtain ⟨u2, ur2, rfl, B2, hB2⟩ := hB1.consE
      obtain ⟨u3, ur3, rfl, B3, hB3⟩ := hB2.consE
      obtain rfl := hB3.nilE
      have HA0 : Hid (AtL false w [v0, v1, v2, v3] [c0, c1, c2, c3]) := hA
      have HB0 : Hid (AtL false w [u0, u1, u2, u3] [c0, c1, c2, c3]) := hB
      have e0 : wr.cell? ⟨p1, o1 + j * 4, none⟩ = some v0 := ce 0 (by omega)
      have f0 : wr.cell? ⟨p2, o2 + j * 4, none⟩ = some u0 := cf 0 (by omega)
      have e1 : wr.cell? ⟨p1, o1 + j * 4 + 1, none⟩ = some v1 := ce 1 (by omega)
      have f1 : wr.cell? ⟨p2, o2 + j * 4 + 1, none⟩ = some u1 := cf 1 (by omega)
      have e2 : wr.cell? ⟨p1, o1 + j * 4 + 2, none⟩ = some v2 := ce 2 (by omega)
      have f2 : wr.cell? ⟨p2, o2 + j * 4 + 2, none⟩ = some u2 := cf 2 (by omega)
      have e3 : wr.cell? ⟨p1, o1 + j * 4 + 3, none⟩ = some v3 := ce 3 (by omega)
      have f3 : wr.cell? ⟨p2, o2 + j * 4 + 3, none⟩ = some u3 := cf 3 (by omega)
      clear ce cf hrs hA0 hB0 hH0 hA1 hB1 hH1 hA2 hB2 hH2 hA3 hB3 hH3 T0 A0 B0 T1 A1 B1 T2 A2 B2 T3 A3 B3 hA hB hH
      have q1 : p1 < wr.heap.size := World.block_lt_of_cell? wr _ e0
      have q2 : p2 < wr.heap.size := World.block_lt_of_cell? wr _ f0
      go_wp2_with fail
      go_region_held3 (fun w' => w'.cell? ⟨p1, o1 + j * 4, none⟩ = some v0 ∧ w'.cell? ⟨p1, o1 + j * 4 + 1, none⟩ = some v1 ∧ w'.cell? ⟨p1, o1 + j * 4 + 2, none⟩ = some v2 ∧ w'.cell? ⟨p1, o1 + j * 4 + 3, none⟩ = some v3 ∧ w'.cell? ⟨p2, o2 + j * 4, none⟩ = some u0 ∧ w'.cell? ⟨p2, o2 + j * 4 + 1, none⟩ = some u1 ∧ w'.cell? ⟨p2, o2 + j * 4 + 2, none⟩ = some u2 ∧ w'.cell? ⟨p2, o2 + j * 4 + 3, none⟩ = some u3)
        (first | (with_reducible exact K2.out) | go_keep)
        (first
        | (go_at_call 111
           refine (dEqHelp [v0, v1, v2, v3] [u0, u1, u2, u3] [c0, c1, c2, c3] _ (HA0.out.on (hb.drew) (Nat.le_refl _)) (HB0.out.on (hb.drew) (Nat.le_refl _)) HL0.out).mono ?_
           rintro e w2 ⟨rfl, hb2⟩
           have hb2' : Below wr.heap.size wr w2 := (Below.refl _ wr).drew.trans hb2
           have K2 : Hid (w2.cell? ⟨p1, o1 + j * 4, none⟩ = some v0 ∧ w2.cell? ⟨p1, o1 + j * 4 + 1, none⟩ = some v1 ∧ w2.cell? ⟨p1, o1 + j * 4 + 2, none⟩ = some v2 ∧ w2.cell? ⟨p1, o1 + j * 4 + 3, none⟩ = some v3 ∧ w2.cell? ⟨p2, o2 + j * 4, none⟩ = some u0 ∧ w2.cell? ⟨p2, o2 + j * 4 + 1, none⟩ = some u1 ∧ w2.cell? ⟨p2, o2 + j * 4 + 2, none⟩ = some u2 ∧ w2.cell? ⟨p2, o2 + j * 4 + 3, none⟩ = some u3) := ⟨(hb2'.cell (show p1 < _ from q1)).trans e0, (hb2'.cell (show p1 < _ from q1)).trans e1, (hb2'.cell (show p1 < _ from q1)).trans e2, (hb2'.cell (show p1 < _ from q1)).trans e3, (hb2'.cell (show p2 < _ from q2)).trans f0, (hb2'.cell (show p2 < _ from q2)).trans f1, (hb2'.cell (show p2 < _ from q2)).trans f2, (hb2'.cell (show p2 < _ from q2)).trans f3⟩
           have hb02 : Below w.heap.size w w2 := hb.trans (hb2'.mono hb.size)
           clear hb2 hb2'))
      clear e0 f0 e1 f1 e2 f2 e3 f3 K2
      go_wp2
      exact ⟨⟨j + 1, by omega, by go_num, hb02⟩, by simp [intOf]; omega⟩
    · obtain rfl : j = n := by omega
      go_wp2
      go_ret
      exact ⟨rfl, hb⟩
set_option maxHeartbeats 2000000 in
theorem dEqEntry (vs us : List Value) (cs : List Cel) (w : World) (h : AtL false w vs cs) (h' : AtL false w us cs) (hs : HasL cs tyEntry) : Calls Tryz.prog 117 #[.agg vs.toArray, .agg us.toArray] w (Yes w) := by
  obtain ⟨c0, r0, rfl, T0, hH0⟩ := hs.cons
  obtain ⟨c1, r1, rfl, T1, hH1⟩ := hH0.cons
  obtain ⟨c2, r2, rfl, T2, hH2⟩ := hH1.cons
  obtain rfl := hH2.nil
  obtain ⟨v0, vr0, rfl, A0, hA0⟩ := h.consE
  obtain ⟨v1, vr1, rfl, A1, hA1⟩ := hA0.consE
  obtain ⟨v2, vr2, rfl, A2, hA2⟩ := hA1.consE
  obtain rfl := hA2.nilE
  obtain ⟨u0, ur0, rfl, B0, hB0⟩ := h'.consE
  obtain ⟨u1, ur1, rfl, B1, hB1⟩ := hB0.consE
  obtain ⟨u2, ur2, rfl, B2, hB2⟩ := hB1.consE
  obtain rfl := hB2.nilE
  obtain ⟨x0, rfl⟩ := T0.int
  obtain rfl := A0.int
  obtain rfl := B0.int
  have ne0 : (x0 != x0) = false := by simp
  obtain ⟨x1, rfl⟩ := T1.int
  obtain rfl := A1.int
  obtain rfl := B1.int
  have ne1 : (x1 != x1) = false := by simp
  obtain ⟨x2, rfl⟩ := T2.int
  obtain rfl := A2.int
  obtain rfl := B2.int
  have ne2 : (x2 != x2) = false := by simp
  clear hs h h' hA0 hB0 hH0 T0 A0 B0 hA1 hB1 hH1 T1 A1 B1 hA2 hB2 hH2 T2 A2 B2
  obtain ⟨W, hW⟩ : ∃ W, (w.alloc (.cells #[.int .i64 x0, .int .i64 x1, .int .i64 x2] 139)).alloc (.cells #[.int .i64 x0, .int .i64 x1, .int .i64 x2] 139) = W := ⟨_, rfl⟩
  have t0 : Hid (Two w W #[.int .i64 x0, .int .i64 x1, .int .i64 x2] #[.int .i64 x0, .int .i64 x1, .int .i64 x2] 139) := by rw [← hW]; exact two_new w _ _ _
  have HW : Hid _ := hW
  clear hW
  go_enter Tryz.func117, Tryz.ntmps117
  go_upto_region 1 with (fail)
  rw [HW.out]
  have ax0 : W.cell? ⟨w.heap.size, 0, none⟩ = some (.int .i64 x0) := t0.out.a.cell 0
  have bx0 : W.cell? ⟨w.heap.size + 1, 0, none⟩ = some (.int .i64 x0) := t0.out.b.cell 0
  have ax1 : W.cell? ⟨w.heap.size, 1, none⟩ = some (.int .i64 x1) := t0.out.a.cell 1
  have bx1 : W.cell? ⟨w.heap.size + 1, 1, none⟩ = some (.int .i64 x1) := t0.out.b.cell 1
  have ax2 : W.cell? ⟨w.heap.size, 2, none⟩ = some (.int .i64 x2) := t0.out.a.cell 2
  have bx2 : W.cell? ⟨w.heap.size + 1, 2, none⟩ = some (.int .i64 x2) := t0.out.b.cell 2
  go_wp2
  go_ret
  exact ⟨rfl, t0.out.on⟩
set_option maxHeartbeats 2000000 in
theorem dEqEntryS (v u : Value) (n : Nat) (cs : List Cel) (w : World) (h : At false w v (.l 139 3 n cs)) (h' : At false w u (.l 139 3 n cs)) (hs : Has (.l 139 3 n cs) (.l 139 3 tyEntry)) :
    Calls Tryz.prog 109 #[v, u] w (Yes w) := by
  obtain ⟨a, c, vs, rfl, h1, h2, hn, -, h3, h4⟩ := h.openL
  have SRC : Hid (n = 0 ∨ ∃ b o, a = some ⟨b, o, none⟩ ∧ ∀ j, j < n * 3 → w.cell? ⟨b, o + j, none⟩ = vs[j]?) := h3
  have HV : Hid (∀ j, j < n → AtL false w ((vs.drop (j * 3)).take 3) (row cs 3 j)) := fun j hj => rowVals h1 h2 h4 hj
  have Lvs : Hid (vs.length = n * 3) := h1
  clear h1 h2 h3 h4 hn
  obtain ⟨a', c', us, rfl, h1, h2, hn, -, h3, h4⟩ := h'.openL
  have SRD : Hid (n = 0 ∨ ∃ b o, a' = some ⟨b, o, none⟩ ∧ ∀ j, j < n * 3 → w.cell? ⟨b, o + j, none⟩ = us[j]?) := h3
  have HU : Hid (∀ j, j < n → AtL false w ((us.drop (j * 3)).take 3) (row cs 3 j)) := fun j hj => rowVals h1 h2 h4 hj
  have Lus : Hid (us.length = n * 3) := h1
  clear h1 h2 h3 h4 
  have HR : Hid (∀ j, j < n → HasL (row cs 3 j) tyEntry) := fun j hj => hs.rowL hj
  clear h h' hs
  go_enter Tryz.func109, Tryz.ntmps109
  go_wp2
  go_loopw [5] (fun i wr => ∃ j : Nat, j ≤ n ∧ i = .int .i64 j ∧ Below w.heap.size w wr) (fun i _ => n - (intOf i).toNat)
  case atStart => exact ⟨0, Nat.zero_le _, rfl, Below.refl _ _⟩
  case round =>
    obtain ⟨j, hj, rfl, hb⟩ := hrel
    by_cases hlt : j < n
    · have hk0 : (0 : Int) ≤ (j : Int) := by omega
      have hk1 : (j : Int) < (n : Int) := by omega
      have hle : j * 3 + 3 ≤ n * 3 := by omega
      have hH := HR.out j hlt
      obtain ⟨rs, hrs⟩ : ∃ rs, row cs 3 j = rs := ⟨_, rfl⟩
      rw [hrs] at hH
      rcases SRC.out with h0 | ⟨p1, o1, rfl, g1⟩
      · omega
      have hA := HV.out j hlt
      have ce : ∀ i, i < 3 → wr.cell? ⟨p1, o1 + (j * 3 + i), none⟩ = ((vs.drop (j * 3)).take 3)[i]? := fun i hi => by
        have h5 := g1 (j * 3 + i) (by omega)
        rw [List.getElem?_take_of_lt hi, List.getElem?_drop, ← h5]
        have h6 : w.cell? ⟨p1, o1 + (j * 3 + i), none⟩ = some (vs[j * 3 + i]'(by have := Lvs.out; omega)) := by rw [h5, List.getElem?_eq_getElem (by have := Lvs.out; omega)]
        exact hb.cell (show p1 < w.heap.size from World.block_lt_of_cell? w _ h6)
      obtain ⟨ws, hws⟩ : ∃ ws, (vs.drop (j * 3)).take 3 = ws := ⟨_, rfl⟩
      rw [hrs] at hA
      rw [hws] at hA ce
      clear g1 hws
      rcases SRD.out with h0 | ⟨p2, o2, rfl, g2⟩
      · omega
      have hB := HU.out j hlt
      have cf : ∀ i, i < 3 → wr.cell? ⟨p2, o2 + (j * 3 + i), none⟩ = ((us.drop (j * 3)).take 3)[i]? := fun i hi => by
        have h5 := g2 (j * 3 + i) (by omega)
        rw [List.getElem?_take_of_lt hi, List.getElem?_drop, ← h5]
        have h6 : w.cell? ⟨p2, o2 + (j * 3 + i), none⟩ = some (us[j * 3 + i]'(by have := Lus.out; omega)) := by rw [h5, List.getElem?_eq_getElem (by have := Lus.out; omega)]
        exact hb.cell (show p2 < w.heap.size from World.block_lt_of_cell? w _ h6)
      obtain ⟨ws', hws⟩ : ∃ ws, (us.drop (j * 3)).take 3 = ws := ⟨_, rfl⟩
      rw [hrs] at hB
      rw [hws] at hB cf
      clear g2 hws
      obtain ⟨c0, r0, rfl, T0, hH0⟩ := hH.cons
      obtain ⟨c1, r1, rfl, T1, hH1⟩ := hH0.cons
      obtain ⟨c2, r2, rfl, T2, hH2⟩ := hH1.cons
      obtain rfl := hH2.nil
      have HL0 : Hid (HasL [c0, c1, c2] tyEntry) := hH
      obtain ⟨v0, vr0, rfl, A0, hA0⟩ := hA.consE
      obtain ⟨v1, vr1, rfl, A1, hA1⟩ := hA0.consE
      obtain ⟨v2, vr2, rfl, A2, hA2⟩ := hA1.consE
      obtain rfl := hA2.nilE
      obtain ⟨u0, ur0, rfl, B0, hB0⟩ := hB.consE
      obtain ⟨u1, ur1, rfl, B1, hB1⟩ := hB0.consE
      obtain ⟨u2, ur2, rfl, B2, hB2⟩ := hB1.consE
      obtain rfl := hB2.nilE
      have HA0 : Hid (AtL false w [v0, v1, v2] [c0, c1, c2]) := hA
      have HB0 : Hid (AtL false w [u0, u1, u2] [c0, c1, c2]) := hB
      have e0 : wr.cell? ⟨p1, o1 + j * 3, none⟩ = some v0 := ce 0 (by omega)
      have f0 : wr.cell? ⟨p2, o2 + j * 3, none⟩ = some u0 := cf 0 (by omega)
      have e1 : wr.cell? ⟨p1, o1 + j * 3 + 1, none⟩ = some v1 := ce 1 (by omega)
      have f1 : wr.cell? ⟨p2, o2 + j * 3 + 1, none⟩ = some u1 := cf 1 (by omega)
      have e2 : wr.cell? ⟨p1, o1 + j * 3 + 2, none⟩ = some v2 := ce 2 (by omega)
      have f2 : wr.cell? ⟨p2, o2 + j * 3 + 2, none⟩ = some u2 := cf 2 (by omega)
      clear ce cf hrs hA0 hB0 hH0 hA1 hB1 hH1 hA2 hB2 hH2 T0 A0 B0 T1 A1 B1 T2 A2 B2 hA hB hH
      have q1 : p1 < wr.heap.size := World.block_lt_of_cell? wr _ e0
      have q2 : p2 < wr.heap.size := World.block_lt_of_cell? wr _ f0
      go_wp2_with fail
      go_region_held3 (fun w' => w'.cell? ⟨p1, o1 + j * 3, none⟩ = some v0 ∧ w'.cell? ⟨p1, o1 + j * 3 + 1, none⟩ = some v1 ∧ w'.cell? ⟨p1, o1 + j * 3 + 2, none⟩ = some v2 ∧ w'.cell? ⟨p2, o2 + j * 3, none⟩ = some u0 ∧ w'.cell? ⟨p2, o2 + j * 3 + 1, none⟩ = some u1 ∧ w'.cell? ⟨p2, o2 + j * 3 + 2, none⟩ = some u2)
        (first | (with_reducible exact K2.out) | go_keep)
        (first
        | (go_at_call 117
           refine (dEqEntry [v0, v1, v2] [u0, u1, u2] [c0, c1, c2] _ (HA0.out.on (hb.drew) (Nat.le_refl _)) (HB0.out.on (hb.drew) (Nat.le_refl _)) HL0.out).mono ?_
           rintro e w2 ⟨rfl, hb2⟩
           have hb2' : Below wr.heap.size wr w2 := (Below.refl _ wr).drew.trans hb2
           have K2 : Hid (w2.cell? ⟨p1, o1 + j * 3, none⟩ = some v0 ∧ w2.cell? ⟨p1, o1 + j * 3 + 1, none⟩ = some v1 ∧ w2.cell? ⟨p1, o1 + j * 3 + 2, none⟩ = some v2 ∧ w2.cell? ⟨p2, o2 + j * 3, none⟩ = some u0 ∧ w2.cell? ⟨p2, o2 + j * 3 + 1, none⟩ = some u1 ∧ w2.cell? ⟨p2, o2 + j * 3 + 2, none⟩ = some u2) := ⟨(hb2'.cell (show p1 < _ from q1)).trans e0, (hb2'.cell (show p1 < _ from q1)).trans e1, (hb2'.cell (show p1 < _ from q1)).trans e2, (hb2'.cell (show p2 < _ from q2)).trans f0, (hb2'.cell (show p2 < _ from q2)).trans f1, (hb2'.cell (show p2 < _ from q2)).trans f2⟩
           have hb02 : Below w.heap.size w w2 := hb.trans (hb2'.mono hb.size)
           clear hb2 hb2'))
      clear e0 f0 e1 f1 e2 f2 K2
      go_wp2
      exact ⟨⟨j + 1, by omega, by go_num, hb02⟩, by simp [intOf]; omega⟩
    · obtain rfl : j = n := by omega
      go_wp2
      go_ret
      exact ⟨rfl, hb⟩
set_option maxHeartbeats 2000000 in
theorem dEqWord (vs us : List Value) (cs : List Cel) (w : World) (h : AtL false w vs cs) (h' : AtL false w us cs) (hs : HasL cs tyWord) : Calls Tryz.prog 90 #[.agg vs.toArray, .agg us.toArray] w (Yes w) := by
  obtain ⟨c0, r0, rfl, T0, hH0⟩ := hs.cons
  obtain ⟨c1, r1, rfl, T1, hH1⟩ := hH0.cons
  obtain ⟨c2, r2, rfl, T2, hH2⟩ := hH1.cons
  obtain rfl := hH2.nil
  obtain ⟨v0, vr0, rfl, A0, hA0⟩ := h.consE
  obtain ⟨v1, vr1, rfl, A1, hA1⟩ := hA0.consE
  obtain ⟨v2, vr2, rfl, A2, hA2⟩ := hA1.consE
  obtain rfl := hA2.nilE
  obtain ⟨u0, ur0, rfl, B0, hB0⟩ := h'.consE
  obtain ⟨u1, ur1, rfl, B1, hB1⟩ := hB0.consE
  obtain ⟨u2, ur2, rfl, B2, hB2⟩ := hB1.consE
  obtain rfl := hB2.nilE
  obtain ⟨x0, rfl⟩ := T0.int
  obtain rfl := A0.int
  obtain rfl := B0.int
  have ne0 : (x0 != x0) = false := by simp
  obtain ⟨x1, rfl⟩ := T1.int
  obtain rfl := A1.int
  obtain rfl := B1.int
  have ne1 : (x1 != x1) = false := by simp
  obtain ⟨x2, rfl⟩ := T2.int
  obtain rfl := A2.int
  obtain rfl := B2.int
  have ne2 : (x2 != x2) = false := by simp
  clear hs h h' hA0 hB0 hH0 T0 A0 B0 hA1 hB1 hH1 T1 A1 B1 hA2 hB2 hH2 T2 A2 B2
  obtain ⟨W, hW⟩ : ∃ W, (w.alloc (.cells #[.int .i64 x0, .int .i64 x1, .int .i64 x2] 134)).alloc (.cells #[.int .i64 x0, .int .i64 x1, .int .i64 x2] 134) = W := ⟨_, rfl⟩
  have t0 : Hid (Two w W #[.int .i64 x0, .int .i64 x1, .int .i64 x2] #[.int .i64 x0, .int .i64 x1, .int .i64 x2] 134) := by rw [← hW]; exact two_new w _ _ _
  have HW : Hid _ := hW
  clear hW
  go_enter Tryz.func90, Tryz.ntmps90
  go_upto_region 1 with (fail)
  rw [HW.out]
  have ax0 : W.cell? ⟨w.heap.size, 0, none⟩ = some (.int .i64 x0) := t0.out.a.cell 0
  have bx0 : W.cell? ⟨w.heap.size + 1, 0, none⟩ = some (.int .i64 x0) := t0.out.b.cell 0
  have ax1 : W.cell? ⟨w.heap.size, 1, none⟩ = some (.int .i64 x1) := t0.out.a.cell 1
  have bx1 : W.cell? ⟨w.heap.size + 1, 1, none⟩ = some (.int .i64 x1) := t0.out.b.cell 1
  have ax2 : W.cell? ⟨w.heap.size, 2, none⟩ = some (.int .i64 x2) := t0.out.a.cell 2
  have bx2 : W.cell? ⟨w.heap.size + 1, 2, none⟩ = some (.int .i64 x2) := t0.out.b.cell 2
  go_wp2
  go_ret
  exact ⟨rfl, t0.out.on⟩
set_option maxHeartbeats 2000000 in
theorem dEqWordS (v u : Value) (n : Nat) (cs : List Cel) (w : World) (h : At false w v (.l 134 3 n cs)) (h' : At false w u (.l 134 3 n cs)) (hs : Has (.l 134 3 n cs) (.l 134 3 tyWord)) :
    Calls Tryz.prog 56 #[v, u] w (Yes w) := by
  obtain ⟨a, c, vs, rfl, h1, h2, hn, -, h3, h4⟩ := h.openL
  have SRC : Hid (n = 0 ∨ ∃ b o, a = some ⟨b, o, none⟩ ∧ ∀ j, j < n * 3 → w.cell? ⟨b, o + j, none⟩ = vs[j]?) := h3
  have HV : Hid (∀ j, j < n → AtL false w ((vs.drop (j * 3)).take 3) (row cs 3 j)) := fun j hj => rowVals h1 h2 h4 hj
  have Lvs : Hid (vs.length = n * 3) := h1
  clear h1 h2 h3 h4 hn
  obtain ⟨a', c', us, rfl, h1, h2, hn, -, h3, h4⟩ := h'.openL
  have SRD : Hid (n = 0 ∨ ∃ b o, a' = some ⟨b, o, none⟩ ∧ ∀ j, j < n * 3 → w.cell? ⟨b, o + j, none⟩ = us[j]?) := h3
  have HU : Hid (∀ j, j < n → AtL false w ((us.drop (j * 3)).take 3) (row cs 3 j)) := fun j hj => rowVals h1 h2 h4 hj
  have Lus : Hid (us.length = n * 3) := h1
  clear h1 h2 h3 h4 
  have HR : Hid (∀ j, j < n → HasL (row cs 3 j) tyWord) := fun j hj => hs.rowL hj
  clear h h' hs
  go_enter Tryz.func56, Tryz.ntmps56
  go_wp2
  go_loopw [5] (fun i wr => ∃ j : Nat, j ≤ n ∧ i = .int .i64 j ∧ Below w.heap.size w wr) (fun i _ => n - (intOf i).toNat)
  case atStart => exact ⟨0, Nat.zero_le _, rfl, Below.refl _ _⟩
  case round =>
    obtain ⟨j, hj, rfl, hb⟩ := hrel
    by_cases hlt : j < n
    · have hk0 : (0 : Int) ≤ (j : Int) := by omega
      have hk1 : (j : Int) < (n : Int) := by omega
      have hle : j * 3 + 3 ≤ n * 3 := by omega
      have hH := HR.out j hlt
      obtain ⟨rs, hrs⟩ : ∃ rs, row cs 3 j = rs := ⟨_, rfl⟩
      rw [hrs] at hH
      rcases SRC.out with h0 | ⟨p1, o1, rfl, g1⟩
      · omega
      have hA := HV.out j hlt
      have ce : ∀ i, i < 3 → wr.cell? ⟨p1, o1 + (j * 3 + i), none⟩ = ((vs.drop (j * 3)).take 3)[i]? := fun i hi => by
        have h5 := g1 (j * 3 + i) (by omega)
        rw [List.getElem?_take_of_lt hi, List.getElem?_drop, ← h5]
        have h6 : w.cell? ⟨p1, o1 + (j * 3 + i), none⟩ = some (vs[j * 3 + i]'(by have := Lvs.out; omega)) := by rw [h5, List.getElem?_eq_getElem (by have := Lvs.out; omega)]
        exact hb.cell (show p1 < w.heap.size from World.block_lt_of_cell? w _ h6)
      obtain ⟨ws, hws⟩ : ∃ ws, (vs.drop (j * 3)).take 3 = ws := ⟨_, rfl⟩
      rw [hrs] at hA
      rw [hws] at hA ce
      clear g1 hws
      rcases SRD.out with h0 | ⟨p2, o2, rfl, g2⟩
      · omega
      have hB := HU.out j hlt
      have cf : ∀ i, i < 3 → wr.cell? ⟨p2, o2 + (j * 3 + i), none⟩ = ((us.drop (j * 3)).take 3)[i]? := fun i hi => by
        have h5 := g2 (j * 3 + i) (by omega)
        rw [List.getElem?_take_of_lt hi, List.getElem?_drop, ← h5]
        have h6 : w.cell? ⟨p2, o2 + (j * 3 + i), none⟩ = some (us[j * 3 + i]'(by have := Lus.out; omega)) := by rw [h5, List.getElem?_eq_getElem (by have := Lus.out; omega)]
        exact hb.cell (show p2 < w.heap.size from World.block_lt_of_cell? w _ h6)
      obtain ⟨ws', hws⟩ : ∃ ws, (us.drop (j * 3)).take 3 = ws := ⟨_, rfl⟩
      rw [hrs] at hB
      rw [hws] at hB cf
      clear g2 hws
      obtain ⟨c0, r0, rfl, T0, hH0⟩ := hH.cons
      obtain ⟨c1, r1, rfl, T1, hH1⟩ := hH0.cons
      obtain ⟨c2, r2, rfl, T2, hH2⟩ := hH1.cons
      obtain rfl := hH2.nil
      have HL0 : Hid (HasL [c0, c1, c2] tyWord) := hH
      obtain ⟨v0, vr0, rfl, A0, hA0⟩ := hA.consE
      obtain ⟨v1, vr1, rfl, A1, hA1⟩ := hA0.consE
      obtain ⟨v2, vr2, rfl, A2, hA2⟩ := hA1.consE
      obtain rfl := hA2.nilE
      obtain ⟨u0, ur0, rfl, B0, hB0⟩ := hB.consE
      obtain ⟨u1, ur1, rfl, B1, hB1⟩ := hB0.consE
      obtain ⟨u2, ur2, rfl, B2, hB2⟩ := hB1.consE
      obtain rfl := hB2.nilE
      have HA0 : Hid (AtL false w [v0, v1, v2] [c0, c1, c2]) := hA
      have HB0 : Hid (AtL false w [u0, u1, u2] [c0, c1, c2]) := hB
      have e0 : wr.cell? ⟨p1, o1 + j * 3, none⟩ = some v0 := ce 0 (by omega)
      have f0 : wr.cell? ⟨p2, o2 + j * 3, none⟩ = some u0 := cf 0 (by omega)
      have e1 : wr.cell? ⟨p1, o1 + j * 3 + 1, none⟩ = some v1 := ce 1 (by omega)
      have f1 : wr.cell? ⟨p2, o2 + j * 3 + 1, none⟩ = some u1 := cf 1 (by omega)
      have e2 : wr.cell? ⟨p1, o1 + j * 3 + 2, none⟩ = some v2 := ce 2 (by omega)
      have f2 : wr.cell? ⟨p2, o2 + j * 3 + 2, none⟩ = some u2 := cf 2 (by omega)
      clear ce cf hrs hA0 hB0 hH0 hA1 hB1 hH1 hA2 hB2 hH2 T0 A0 B0 T1 A1 B1 T2 A2 B2 hA hB hH
      have q1 : p1 < wr.heap.size := World.block_lt_of_cell? wr _ e0
      have q2 : p2 < wr.heap.size := World.block_lt_of_cell? wr _ f0
      go_wp2_with fail
      go_region_held3 (fun w' => w'.cell? ⟨p1, o1 + j * 3, none⟩ = some v0 ∧ w'.cell? ⟨p1, o1 + j * 3 + 1, none⟩ = some v1 ∧ w'.cell? ⟨p1, o1 + j * 3 + 2, none⟩ = some v2 ∧ w'.cell? ⟨p2, o2 + j * 3, none⟩ = some u0 ∧ w'.cell? ⟨p2, o2 + j * 3 + 1, none⟩ = some u1 ∧ w'.cell? ⟨p2, o2 + j * 3 + 2, none⟩ = some u2)
        (first | (with_reducible exact K2.out) | go_keep)
        (first
        | (go_at_call 90
           refine (dEqWord [v0, v1, v2] [u0, u1, u2] [c0, c1, c2] _ (HA0.out.on (hb.drew) (Nat.le_refl _)) (HB0.out.on (hb.drew) (Nat.le_refl _)) HL0.out).mono ?_
           rintro e w2 ⟨rfl, hb2⟩
           have hb2' : Below wr.heap.size wr w2 := (Below.refl _ wr).drew.trans hb2
           have K2 : Hid (w2.cell? ⟨p1, o1 + j * 3, none⟩ = some v0 ∧ w2.cell? ⟨p1, o1 + j * 3 + 1, none⟩ = some v1 ∧ w2.cell? ⟨p1, o1 + j * 3 + 2, none⟩ = some v2 ∧ w2.cell? ⟨p2, o2 + j * 3, none⟩ = some u0 ∧ w2.cell? ⟨p2, o2 + j * 3 + 1, none⟩ = some u1 ∧ w2.cell? ⟨p2, o2 + j * 3 + 2, none⟩ = some u2) := ⟨(hb2'.cell (show p1 < _ from q1)).trans e0, (hb2'.cell (show p1 < _ from q1)).trans e1, (hb2'.cell (show p1 < _ from q1)).trans e2, (hb2'.cell (show p2 < _ from q2)).trans f0, (hb2'.cell (show p2 < _ from q2)).trans f1, (hb2'.cell (show p2 < _ from q2)).trans f2⟩
           have hb02 : Below w.heap.size w w2 := hb.trans (hb2'.mono hb.size)
           clear hb2 hb2'))
      clear e0 f0 e1 f1 e2 f2 K2
      go_wp2
      exact ⟨⟨j + 1, by omega, by go_num, hb02⟩, by simp [intOf]; omega⟩
    · obtain rfl : j = n := by omega
      go_wp2
      go_ret
      exact ⟨rfl, hb⟩
set_option maxHeartbeats 2000000 in
theorem dEqThread (vs us : List Value) (cs : List Cel) (w : World) (h : AtL false w vs cs) (h' : AtL false w us cs) (hs : HasL cs tyThread) : Calls Tryz.prog 58 #[.agg vs.toArray, .agg us.toArray] w (Yes w) := by
  obtain ⟨c0, r0, rfl, T0, hH0⟩ := hs.cons
  obtain ⟨c1, r1, rfl, T1, hH1⟩ := hH0.cons
  obtain ⟨c2, r2, rfl, T2, hH2⟩ := hH1.cons
  obtain ⟨c3, r3, rfl, T3, hH3⟩ := hH2.cons
  obtain ⟨c4, r4, rfl, T4, hH4⟩ := hH3.cons
  obtain rfl := hH4.nil
  obtain ⟨v0, vr0, rfl, A0, hA0⟩ := h.consE
  obtain ⟨v1, vr1, rfl, A1, hA1⟩ := hA0.consE
  obtain ⟨v2, vr2, rfl, A2, hA2⟩ := hA1.consE
  obtain ⟨v3, vr3, rfl, A3, hA3⟩ := hA2.consE
  obtain ⟨v4, vr4, rfl, A4, hA4⟩ := hA3.consE
  obtain rfl := hA4.nilE
  obtain ⟨u0, ur0, rfl, B0, hB0⟩ := h'.consE
  obtain ⟨u1, ur1, rfl, B1, hB1⟩ := hB0.consE
  obtain ⟨u2, ur2, rfl, B2, hB2⟩ := hB1.consE
  obtain ⟨u3, ur3, rfl, B3, hB3⟩ := hB2.consE
  obtain ⟨u4, ur4, rfl, B4, hB4⟩ := hB3.consE
  obtain rfl := hB4.nilE
  obtain ⟨n0, cs0, rfl, -⟩ := T0.list
  have HT0 : Hid (Has (.l 57 3 n0 cs0) (.l 57 3 tyOp)) := T0
  obtain ⟨p0, d0, rfl⟩ := A0.slice
  obtain ⟨q0, e0, rfl⟩ := B0.slice
  have hA0' : Hid (At false w (.slice p0 n0 d0) (.l 57 3 n0 cs0)) := A0
  have hB0' : Hid (At false w (.slice q0 n0 e0) (.l 57 3 n0 cs0)) := B0
  obtain ⟨x1, rfl⟩ := T1.int
  obtain rfl := A1.int
  obtain rfl := B1.int
  have ne1 : (x1 != x1) = false := by simp
  obtain ⟨x2, rfl⟩ := T2.bool
  obtain rfl := A2.bool
  obtain rfl := B2.bool
  have ne2 : (x2 != x2) = false := by simp
  obtain ⟨n3, cs3, rfl, -⟩ := T3.list
  have HT3 : Hid (Has (.l 176 2 n3 cs3) (.l 176 2 tyPair)) := T3
  obtain ⟨p3, d3, rfl⟩ := A3.slice
  obtain ⟨q3, e3, rfl⟩ := B3.slice
  have hA3' : Hid (At false w (.slice p3 n3 d3) (.l 176 2 n3 cs3)) := A3
  have hB3' : Hid (At false w (.slice q3 n3 e3) (.l 176 2 n3 cs3)) := B3
  obtain ⟨n4, cs4, rfl, -⟩ := T4.list
  have HT4 : Hid (Has (.l 180 4 n4 cs4) (.l 180 4 tyHelp)) := T4
  obtain ⟨p4, d4, rfl⟩ := A4.slice
  obtain ⟨q4, e4, rfl⟩ := B4.slice
  have hA4' : Hid (At false w (.slice p4 n4 d4) (.l 180 4 n4 cs4)) := A4
  have hB4' : Hid (At false w (.slice q4 n4 e4) (.l 180 4 n4 cs4)) := B4
  clear hs h h' hA0 hB0 hH0 T0 A0 B0 hA1 hB1 hH1 T1 A1 B1 hA2 hB2 hH2 T2 A2 B2 hA3 hB3 hH3 T3 A3 B3 hA4 hB4 hH4 T4 A4 B4
  obtain ⟨W, hW⟩ : ∃ W, (w.alloc (.cells #[.slice p0 n0 d0, .int .i64 x1, .bool x2, .slice p3 n3 d3, .slice p4 n4 d4] 100)).alloc (.cells #[.slice q0 n0 e0, .int .i64 x1, .bool x2, .slice q3 n3 e3, .slice q4 n4 e4] 100) = W := ⟨_, rfl⟩
  have t0 : Hid (Two w W #[.slice p0 n0 d0, .int .i64 x1, .bool x2, .slice p3 n3 d3, .slice p4 n4 d4] #[.slice q0 n0 e0, .int .i64 x1, .bool x2, .slice q3 n3 e3, .slice q4 n4 e4] 100) := by rw [← hW]; exact two_new w _ _ _
  have HW : Hid _ := hW
  clear hW
  go_enter Tryz.func58, Tryz.ntmps58
  go_upto_region 1 with (fail)
  rw [HW.out]
  have ax0 : W.cell? ⟨w.heap.size, 0, none⟩ = some (.slice p0 n0 d0) := t0.out.a.cell 0
  have bx0 : W.cell? ⟨w.heap.size + 1, 0, none⟩ = some (.slice q0 n0 e0) := t0.out.b.cell 0
  have ax1 : W.cell? ⟨w.heap.size, 1, none⟩ = some (.int .i64 x1) := t0.out.a.cell 1
  have bx1 : W.cell? ⟨w.heap.size + 1, 1, none⟩ = some (.int .i64 x1) := t0.out.b.cell 1
  have ax2 : W.cell? ⟨w.heap.size, 2, none⟩ = some (.bool x2) := t0.out.a.cell 2
  have bx2 : W.cell? ⟨w.heap.size + 1, 2, none⟩ = some (.bool x2) := t0.out.b.cell 2
  have ax3 : W.cell? ⟨w.heap.size, 3, none⟩ = some (.slice p3 n3 d3) := t0.out.a.cell 3
  have bx3 : W.cell? ⟨w.heap.size + 1, 3, none⟩ = some (.slice q3 n3 e3) := t0.out.b.cell 3
  have ax4 : W.cell? ⟨w.heap.size, 4, none⟩ = some (.slice p4 n4 d4) := t0.out.a.cell 4
  have bx4 : W.cell? ⟨w.heap.size + 1, 4, none⟩ = some (.slice q4 n4 e4) := t0.out.b.cell 4
  go_wp2_with fail
  refine (dEqOpS _ _ n0 cs0 _ (hA0'.out.on t0.out.on (Nat.le_refl _)) (hB0'.out.on t0.out.on (Nat.le_refl _)) HT0.out).mono ?_
  rintro e w1 ⟨rfl, hb⟩
  have t1 : Hid (Two w w1 #[.slice p0 n0 d0, .int .i64 x1, .bool x2, .slice p3 n3 d3, .slice p4 n4 d4] #[.slice q0 n0 e0, .int .i64 x1, .bool x2, .slice q3 n3 e3, .slice q4 n4 e4] 100) := t0.out.call hb
  clear hb ax0 bx0 ax1 bx1 ax2 bx2 ax3 bx3 ax4 bx4
  have ax0 : w1.cell? ⟨w.heap.size, 0, none⟩ = some (.slice p0 n0 d0) := t1.out.a.cell 0
  have bx0 : w1.cell? ⟨w.heap.size + 1, 0, none⟩ = some (.slice q0 n0 e0) := t1.out.b.cell 0
  have ax1 : w1.cell? ⟨w.heap.size, 1, none⟩ = some (.int .i64 x1) := t1.out.a.cell 1
  have bx1 : w1.cell? ⟨w.heap.size + 1, 1, none⟩ = some (.int .i64 x1) := t1.out.b.cell 1
  have ax2 : w1.cell? ⟨w.heap.size, 2, none⟩ = some (.bool x2) := t1.out.a.cell 2
  have bx2 : w1.cell? ⟨w.heap.size + 1, 2, none⟩ = some (.bool x2) := t1.out.b.cell 2
  have ax3 : w1.cell? ⟨w.heap.size, 3, none⟩ = some (.slice p3 n3 d3) := t1.out.a.cell 3
  have bx3 : w1.cell? ⟨w.heap.size + 1, 3, none⟩ = some (.slice q3 n3 e3) := t1.out.b.cell 3
  have ax4 : w1.cell? ⟨w.heap.size, 4, none⟩ = some (.slice p4 n4 d4) := t1.out.a.cell 4
  have bx4 : w1.cell? ⟨w.heap.size + 1, 4, none⟩ = some (.slice q4 n4 e4) := t1.out.b.cell 4
  go_wp2_with fail
  refine (dEqPairS _ _ n3 cs3 _ (hA3'.out.on t1.out.on (Nat.le_refl _)) (hB3'.out.on t1.out.on (Nat.le_refl _)) HT3.out).mono ?_
  rintro e w2 ⟨rfl, hb⟩
  have t2 : Hid (Two w w2 #[.slice p0 n0 d0, .int .i64 x1, .bool x2, .slice p3 n3 d3, .slice p4 n4 d4] #[.slice q0 n0 e0, .int .i64 x1, .bool x2, .slice q3 n3 e3, .slice q4 n4 e4] 100) := t1.out.call hb
  clear hb ax0 bx0 ax1 bx1 ax2 bx2 ax3 bx3 ax4 bx4
  have ax0 : w2.cell? ⟨w.heap.size, 0, none⟩ = some (.slice p0 n0 d0) := t2.out.a.cell 0
  have bx0 : w2.cell? ⟨w.heap.size + 1, 0, none⟩ = some (.slice q0 n0 e0) := t2.out.b.cell 0
  have ax1 : w2.cell? ⟨w.heap.size, 1, none⟩ = some (.int .i64 x1) := t2.out.a.cell 1
  have bx1 : w2.cell? ⟨w.heap.size + 1, 1, none⟩ = some (.int .i64 x1) := t2.out.b.cell 1
  have ax2 : w2.cell? ⟨w.heap.size, 2, none⟩ = some (.bool x2) := t2.out.a.cell 2
  have bx2 : w2.cell? ⟨w.heap.size + 1, 2, none⟩ = some (.bool x2) := t2.out.b.cell 2
  have ax3 : w2.cell? ⟨w.heap.size, 3, none⟩ = some (.slice p3 n3 d3) := t2.out.a.cell 3
  have bx3 : w2.cell? ⟨w.heap.size + 1, 3, none⟩ = some (.slice q3 n3 e3) := t2.out.b.cell 3
  have ax4 : w2.cell? ⟨w.heap.size, 4, none⟩ = some (.slice p4 n4 d4) := t2.out.a.cell 4
  have bx4 : w2.cell? ⟨w.heap.size + 1, 4, none⟩ = some (.slice q4 n4 e4) := t2.out.b.cell 4
  go_wp2_with fail
  refine (dEqHelpS _ _ n4 cs4 _ (hA4'.out.on t2.out.on (Nat.le_refl _)) (hB4'.out.on t2.out.on (Nat.le_refl _)) HT4.out).mono ?_
  rintro e w3 ⟨rfl, hb⟩
  have t3 : Hid (Two w w3 #[.slice p0 n0 d0, .int .i64 x1, .bool x2, .slice p3 n3 d3, .slice p4 n4 d4] #[.slice q0 n0 e0, .int .i64 x1, .bool x2, .slice q3 n3 e3, .slice q4 n4 e4] 100) := t2.out.call hb
  clear hb ax0 bx0 ax1 bx1 ax2 bx2 ax3 bx3 ax4 bx4
  have ax0 : w3.cell? ⟨w.heap.size, 0, none⟩ = some (.slice p0 n0 d0) := t3.out.a.cell 0
  have bx0 : w3.cell? ⟨w.heap.size + 1, 0, none⟩ = some (.slice q0 n0 e0) := t3.out.b.cell 0
  have ax1 : w3.cell? ⟨w.heap.size, 1, none⟩ = some (.int .i64 x1) := t3.out.a.cell 1
  have bx1 : w3.cell? ⟨w.heap.size + 1, 1, none⟩ = some (.int .i64 x1) := t3.out.b.cell 1
  have ax2 : w3.cell? ⟨w.heap.size, 2, none⟩ = some (.bool x2) := t3.out.a.cell 2
  have bx2 : w3.cell? ⟨w.heap.size + 1, 2, none⟩ = some (.bool x2) := t3.out.b.cell 2
  have ax3 : w3.cell? ⟨w.heap.size, 3, none⟩ = some (.slice p3 n3 d3) := t3.out.a.cell 3
  have bx3 : w3.cell? ⟨w.heap.size + 1, 3, none⟩ = some (.slice q3 n3 e3) := t3.out.b.cell 3
  have ax4 : w3.cell? ⟨w.heap.size, 4, none⟩ = some (.slice p4 n4 d4) := t3.out.a.cell 4
  have bx4 : w3.cell? ⟨w.heap.size + 1, 4, none⟩ = some (.slice q4 n4 e4) := t3.out.b.cell 4
  go_wp2
  go_ret
  exact ⟨rfl, t3.out.on⟩
set_option maxHeartbeats 2000000 in
theorem dEqThreadS (v u : Value) (n : Nat) (cs : List Cel) (w : World) (h : At false w v (.l 100 5 n cs)) (h' : At false w u (.l 100 5 n cs)) (hs : Has (.l 100 5 n cs) (.l 100 5 tyThread)) :
    Calls Tryz.prog 29 #[v, u] w (Yes w) := by
  obtain ⟨a, c, vs, rfl, h1, h2, hn, -, h3, h4⟩ := h.openL
  have SRC : Hid (n = 0 ∨ ∃ b o, a = some ⟨b, o, none⟩ ∧ ∀ j, j < n * 5 → w.cell? ⟨b, o + j, none⟩ = vs[j]?) := h3
  have HV : Hid (∀ j, j < n → AtL false w ((vs.drop (j * 5)).take 5) (row cs 5 j)) := fun j hj => rowVals h1 h2 h4 hj
  have Lvs : Hid (vs.length = n * 5) := h1
  clear h1 h2 h3 h4 hn
  obtain ⟨a', c', us, rfl, h1, h2, hn, -, h3, h4⟩ := h'.openL
  have SRD : Hid (n = 0 ∨ ∃ b o, a' = some ⟨b, o, none⟩ ∧ ∀ j, j < n * 5 → w.cell? ⟨b, o + j, none⟩ = us[j]?) := h3
  have HU : Hid (∀ j, j < n → AtL false w ((us.drop (j * 5)).take 5) (row cs 5 j)) := fun j hj => rowVals h1 h2 h4 hj
  have Lus : Hid (us.length = n * 5) := h1
  clear h1 h2 h3 h4 
  have HR : Hid (∀ j, j < n → HasL (row cs 5 j) tyThread) := fun j hj => hs.rowL hj
  clear h h' hs
  go_enter Tryz.func29, Tryz.ntmps29
  go_wp2
  go_loopw [5] (fun i wr => ∃ j : Nat, j ≤ n ∧ i = .int .i64 j ∧ Below w.heap.size w wr) (fun i _ => n - (intOf i).toNat)
  case atStart => exact ⟨0, Nat.zero_le _, rfl, Below.refl _ _⟩
  case round =>
    obtain ⟨j, hj, rfl, hb⟩ := hrel
    by_cases hlt : j < n
    · have hk0 : (0 : Int) ≤ (j : Int) := by omega
      have hk1 : (j : Int) < (n : Int) := by omega
      have hle : j * 5 + 5 ≤ n * 5 := by omega
      have hH := HR.out j hlt
      obtain ⟨rs, hrs⟩ : ∃ rs, row cs 5 j = rs := ⟨_, rfl⟩
      rw [hrs] at hH
      rcases SRC.out with h0 | ⟨p1, o1, rfl, g1⟩
      · omega
      have hA := HV.out j hlt
      have ce : ∀ i, i < 5 → wr.cell? ⟨p1, o1 + (j * 5 + i), none⟩ = ((vs.drop (j * 5)).take 5)[i]? := fun i hi => by
        have h5 := g1 (j * 5 + i) (by omega)
        rw [List.getElem?_take_of_lt hi, List.getElem?_drop, ← h5]
        have h6 : w.cell? ⟨p1, o1 + (j * 5 + i), none⟩ = some (vs[j * 5 + i]'(by have := Lvs.out; omega)) := by rw [h5, List.getElem?_eq_getElem (by have := Lvs.out; omega)]
        exact hb.cell (show p1 < w.heap.size from World.block_lt_of_cell? w _ h6)
      obtain ⟨ws, hws⟩ : ∃ ws, (vs.drop (j * 5)).take 5 = ws := ⟨_, rfl⟩
      rw [hrs] at hA
      rw [hws] at hA ce
      clear g1 hws
      rcases SRD.out with h0 | ⟨p2, o2, rfl, g2⟩
      · omega
      have hB := HU.out j hlt
      have cf : ∀ i, i < 5 → wr.cell? ⟨p2, o2 + (j * 5 + i), none⟩ = ((us.drop (j * 5)).take 5)[i]? := fun i hi => by
        have h5 := g2 (j * 5 + i) (by omega)
        rw [List.getElem?_take_of_lt hi, List.getElem?_drop, ← h5]
        have h6 : w.cell? ⟨p2, o2 + (j * 5 + i), none⟩ = some (us[j * 5 + i]'(by have := Lus.out; omega)) := by rw [h5, List.getElem?_eq_getElem (by have := Lus.out; omega)]
        exact hb.cell (show p2 < w.heap.size from World.block_lt_of_cell? w _ h6)
      obtain ⟨ws', hws⟩ : ∃ ws, (us.drop (j * 5)).take 5 = ws := ⟨_, rfl⟩
      rw [hrs] at hB
      rw [hws] at hB cf
      clear g2 hws
      obtain ⟨c0, r0, rfl, T0, hH0⟩ := hH.cons
      obtain ⟨c1, r1, rfl, T1, hH1⟩ := hH0.cons
      obtain ⟨c2, r2, rfl, T2, hH2⟩ := hH1.cons
      obtain ⟨c3, r3, rfl, T3, hH3⟩ := hH2.cons
      obtain ⟨c4, r4, rfl, T4, hH4⟩ := hH3.cons
      obtain rfl := hH4.nil
      have HL0 : Hid (HasL [c0, c1, c2, c3, c4] tyThread) := hH
      obtain ⟨v0, vr0, rfl, A0, hA0⟩ := hA.consE
      obtain ⟨v1, vr1, rfl, A1, hA1⟩ := hA0.consE
      obtain ⟨v2, vr2, rfl, A2, hA2⟩ := hA1.consE
      obtain ⟨v3, vr3, rfl, A3, hA3⟩ := hA2.consE
      obtain ⟨v4, vr4, rfl, A4, hA4⟩ := hA3.consE
      obtain rfl := hA4.nilE
      obtain ⟨u0, ur0, rfl, B0, hB0⟩ := hB.consE
      obtain ⟨u1, ur1, rfl, B1, hB1⟩ := hB0.consE
      obtain ⟨u2, ur2, rfl, B2, hB2⟩ := hB1.consE
      obtain ⟨u3, ur3, rfl, B3, hB3⟩ := hB2.consE
      obtain ⟨u4, ur4, rfl, B4, hB4⟩ := hB3.consE
      obtain rfl := hB4.nilE
      have HA0 : Hid (AtL false w [v0, v1, v2, v3, v4] [c0, c1, c2, c3, c4]) := hA
      have HB0 : Hid (AtL false w [u0, u1, u2, u3, u4] [c0, c1, c2, c3, c4]) := hB
      have e0 : wr.cell? ⟨p1, o1 + j * 5, none⟩ = some v0 := ce 0 (by omega)
      have f0 : wr.cell? ⟨p2, o2 + j * 5, none⟩ = some u0 := cf 0 (by omega)
      have e1 : wr.cell? ⟨p1, o1 + j * 5 + 1, none⟩ = some v1 := ce 1 (by omega)
      have f1 : wr.cell? ⟨p2, o2 + j * 5 + 1, none⟩ = some u1 := cf 1 (by omega)
      have e2 : wr.cell? ⟨p1, o1 + j * 5 + 2, none⟩ = some v2 := ce 2 (by omega)
      have f2 : wr.cell? ⟨p2, o2 + j * 5 + 2, none⟩ = some u2 := cf 2 (by omega)
      have e3 : wr.cell? ⟨p1, o1 + j * 5 + 3, none⟩ = some v3 := ce 3 (by omega)
      have f3 : wr.cell? ⟨p2, o2 + j * 5 + 3, none⟩ = some u3 := cf 3 (by omega)
      have e4 : wr.cell? ⟨p1, o1 + j * 5 + 4, none⟩ = some v4 := ce 4 (by omega)
      have f4 : wr.cell? ⟨p2, o2 + j * 5 + 4, none⟩ = some u4 := cf 4 (by omega)
      clear ce cf hrs hA0 hB0 hH0 hA1 hB1 hH1 hA2 hB2 hH2 hA3 hB3 hH3 hA4 hB4 hH4 T0 A0 B0 T1 A1 B1 T2 A2 B2 T3 A3 B3 T4 A4 B4 hA hB hH
      have q1 : p1 < wr.heap.size := World.block_lt_of_cell? wr _ e0
      have q2 : p2 < wr.heap.size := World.block_lt_of_cell? wr _ f0
      go_wp2_with fail
      go_region_held3 (fun w' => w'.cell? ⟨p1, o1 + j * 5, none⟩ = some v0 ∧ w'.cell? ⟨p1, o1 + j * 5 + 1, none⟩ = some v1 ∧ w'.cell? ⟨p1, o1 + j * 5 + 2, none⟩ = some v2 ∧ w'.cell? ⟨p1, o1 + j * 5 + 3, none⟩ = some v3 ∧ w'.cell? ⟨p1, o1 + j * 5 + 4, none⟩ = some v4 ∧ w'.cell? ⟨p2, o2 + j * 5, none⟩ = some u0 ∧ w'.cell? ⟨p2, o2 + j * 5 + 1, none⟩ = some u1 ∧ w'.cell? ⟨p2, o2 + j * 5 + 2, none⟩ = some u2 ∧ w'.cell? ⟨p2, o2 + j * 5 + 3, none⟩ = some u3 ∧ w'.cell? ⟨p2, o2 + j * 5 + 4, none⟩ = some u4)
        (first | (with_reducible exact K2.out) | go_keep)
        (first
        | (go_at_call 58
           refine (dEqThread [v0, v1, v2, v3, v4] [u0, u1, u2, u3, u4] [c0, c1, c2, c3, c4] _ (HA0.out.on (hb.drew) (Nat.le_refl _)) (HB0.out.on (hb.drew) (Nat.le_refl _)) HL0.out).mono ?_
           rintro e w2 ⟨rfl, hb2⟩
           have hb2' : Below wr.heap.size wr w2 := (Below.refl _ wr).drew.trans hb2
           have K2 : Hid (w2.cell? ⟨p1, o1 + j * 5, none⟩ = some v0 ∧ w2.cell? ⟨p1, o1 + j * 5 + 1, none⟩ = some v1 ∧ w2.cell? ⟨p1, o1 + j * 5 + 2, none⟩ = some v2 ∧ w2.cell? ⟨p1, o1 + j * 5 + 3, none⟩ = some v3 ∧ w2.cell? ⟨p1, o1 + j * 5 + 4, none⟩ = some v4 ∧ w2.cell? ⟨p2, o2 + j * 5, none⟩ = some u0 ∧ w2.cell? ⟨p2, o2 + j * 5 + 1, none⟩ = some u1 ∧ w2.cell? ⟨p2, o2 + j * 5 + 2, none⟩ = some u2 ∧ w2.cell? ⟨p2, o2 + j * 5 + 3, none⟩ = some u3 ∧ w2.cell? ⟨p2, o2 + j * 5 + 4, none⟩ = some u4) := ⟨(hb2'.cell (show p1 < _ from q1)).trans e0, (hb2'.cell (show p1 < _ from q1)).trans e1, (hb2'.cell (show p1 < _ from q1)).trans e2, (hb2'.cell (show p1 < _ from q1)).trans e3, (hb2'.cell (show p1 < _ from q1)).trans e4, (hb2'.cell (show p2 < _ from q2)).trans f0, (hb2'.cell (show p2 < _ from q2)).trans f1, (hb2'.cell (show p2 < _ from q2)).trans f2, (hb2'.cell (show p2 < _ from q2)).trans f3, (hb2'.cell (show p2 < _ from q2)).trans f4⟩
           have hb02 : Below w.heap.size w w2 := hb.trans (hb2'.mono hb.size)
           clear hb2 hb2'))
      clear e0 f0 e1 f1 e2 f2 e3 f3 e4 f4 K2
      go_wp2
      exact ⟨⟨j + 1, by omega, by go_num, hb02⟩, by simp [intOf]; omega⟩
    · obtain rfl : j = n := by omega
      go_wp2
      go_ret
      exact ⟨rfl, hb⟩
set_option maxHeartbeats 2000000 in
theorem dEqRes (vs us : List Value) (cs : List Cel) (w : World) (h : AtL false w vs cs) (h' : AtL false w us cs) (hs : HasL cs tyRes) : Calls Tryz.prog 96 #[.agg vs.toArray, .agg us.toArray] w (Yes w) := by
  obtain ⟨c0, r0, rfl, T0, hH0⟩ := hs.cons
  obtain ⟨c1, r1, rfl, T1, hH1⟩ := hH0.cons
  obtain rfl := hH1.nil
  obtain ⟨v0, vr0, rfl, A0, hA0⟩ := h.consE
  obtain ⟨v1, vr1, rfl, A1, hA1⟩ := hA0.consE
  obtain rfl := hA1.nilE
  obtain ⟨u0, ur0, rfl, B0, hB0⟩ := h'.consE
  obtain ⟨u1, ur1, rfl, B1, hB1⟩ := hB0.consE
  obtain rfl := hB1.nilE
  obtain ⟨x0, rfl⟩ := T0.int
  obtain rfl := A0.int
  obtain rfl := B0.int
  have ne0 : (x0 != x0) = false := by simp
  obtain ⟨n1, cs1, rfl, -⟩ := T1.list
  have HT1 : Hid (Has (.l 3 1 n1 cs1) (.l 3 1 [.i])) := T1
  obtain ⟨p1, d1, rfl⟩ := A1.slice
  obtain ⟨q1, e1, rfl⟩ := B1.slice
  have hA1' : Hid (At false w (.slice p1 n1 d1) (.l 3 1 n1 cs1)) := A1
  have hB1' : Hid (At false w (.slice q1 n1 e1) (.l 3 1 n1 cs1)) := B1
  clear hs h h' hA0 hB0 hH0 T0 A0 B0 hA1 hB1 hH1 T1 A1 B1
  obtain ⟨W, hW⟩ : ∃ W, (w.alloc (.cells #[.int .i64 x0, .slice p1 n1 d1] 59)).alloc (.cells #[.int .i64 x0, .slice q1 n1 e1] 59) = W := ⟨_, rfl⟩
  have t0 : Hid (Two w W #[.int .i64 x0, .slice p1 n1 d1] #[.int .i64 x0, .slice q1 n1 e1] 59) := by rw [← hW]; exact two_new w _ _ _
  have HW : Hid _ := hW
  clear hW
  go_enter Tryz.func96, Tryz.ntmps96
  go_upto_region 1 with (fail)
  rw [HW.out]
  have ax0 : W.cell? ⟨w.heap.size, 0, none⟩ = some (.int .i64 x0) := t0.out.a.cell 0
  have bx0 : W.cell? ⟨w.heap.size + 1, 0, none⟩ = some (.int .i64 x0) := t0.out.b.cell 0
  have ax1 : W.cell? ⟨w.heap.size, 1, none⟩ = some (.slice p1 n1 d1) := t0.out.a.cell 1
  have bx1 : W.cell? ⟨w.heap.size + 1, 1, none⟩ = some (.slice q1 n1 e1) := t0.out.b.cell 1
  go_wp2_with fail
  refine (dEqIntS _ _ n1 cs1 _ (hA1'.out.on t0.out.on (Nat.le_refl _)) (hB1'.out.on t0.out.on (Nat.le_refl _)) HT1.out).mono ?_
  rintro e w1 ⟨rfl, hb⟩
  have t1 : Hid (Two w w1 #[.int .i64 x0, .slice p1 n1 d1] #[.int .i64 x0, .slice q1 n1 e1] 59) := t0.out.call hb
  clear hb ax0 bx0 ax1 bx1
  have ax0 : w1.cell? ⟨w.heap.size, 0, none⟩ = some (.int .i64 x0) := t1.out.a.cell 0
  have bx0 : w1.cell? ⟨w.heap.size + 1, 0, none⟩ = some (.int .i64 x0) := t1.out.b.cell 0
  have ax1 : w1.cell? ⟨w.heap.size, 1, none⟩ = some (.slice p1 n1 d1) := t1.out.a.cell 1
  have bx1 : w1.cell? ⟨w.heap.size + 1, 1, none⟩ = some (.slice q1 n1 e1) := t1.out.b.cell 1
  go_wp2
  go_ret
  exact ⟨rfl, t1.out.on⟩
set_option maxHeartbeats 2000000 in
theorem dEqRows (vs us : List Value) (cs : List Cel) (w : World) (h : AtL false w vs cs) (h' : AtL false w us cs) (hs : HasL cs tyRows) : Calls Tryz.prog 32 #[.agg vs.toArray, .agg us.toArray] w (Yes w) := by
  obtain ⟨c0, r0, rfl, T0, hH0⟩ := hs.cons
  obtain ⟨c1, r1, rfl, T1, hH1⟩ := hH0.cons
  obtain rfl := hH1.nil
  obtain ⟨v0, vr0, rfl, A0, hA0⟩ := h.consE
  obtain ⟨v1, vr1, rfl, A1, hA1⟩ := hA0.consE
  obtain rfl := hA1.nilE
  obtain ⟨u0, ur0, rfl, B0, hB0⟩ := h'.consE
  obtain ⟨u1, ur1, rfl, B1, hB1⟩ := hB0.consE
  obtain rfl := hB1.nilE
  obtain ⟨n0, cs0, rfl, -⟩ := T0.list
  have HT0 : Hid (Has (.l 3 1 n0 cs0) (.l 3 1 [.i])) := T0
  obtain ⟨p0, d0, rfl⟩ := A0.slice
  obtain ⟨q0, e0, rfl⟩ := B0.slice
  have hA0' : Hid (At false w (.slice p0 n0 d0) (.l 3 1 n0 cs0)) := A0
  have hB0' : Hid (At false w (.slice q0 n0 e0) (.l 3 1 n0 cs0)) := B0
  obtain ⟨x1, rfl⟩ := T1.int
  obtain rfl := A1.int
  obtain rfl := B1.int
  have ne1 : (x1 != x1) = false := by simp
  clear hs h h' hA0 hB0 hH0 T0 A0 B0 hA1 hB1 hH1 T1 A1 B1
  obtain ⟨W, hW⟩ : ∃ W, (w.alloc (.cells #[.slice p0 n0 d0, .int .i64 x1] 41)).alloc (.cells #[.slice q0 n0 e0, .int .i64 x1] 41) = W := ⟨_, rfl⟩
  have t0 : Hid (Two w W #[.slice p0 n0 d0, .int .i64 x1] #[.slice q0 n0 e0, .int .i64 x1] 41) := by rw [← hW]; exact two_new w _ _ _
  have HW : Hid _ := hW
  clear hW
  go_enter Tryz.func32, Tryz.ntmps32
  go_upto_region 1 with (fail)
  rw [HW.out]
  have ax0 : W.cell? ⟨w.heap.size, 0, none⟩ = some (.slice p0 n0 d0) := t0.out.a.cell 0
  have bx0 : W.cell? ⟨w.heap.size + 1, 0, none⟩ = some (.slice q0 n0 e0) := t0.out.b.cell 0
  have ax1 : W.cell? ⟨w.heap.size, 1, none⟩ = some (.int .i64 x1) := t0.out.a.cell 1
  have bx1 : W.cell? ⟨w.heap.size + 1, 1, none⟩ = some (.int .i64 x1) := t0.out.b.cell 1
  go_wp2_with fail
  refine (dEqIntS _ _ n0 cs0 _ (hA0'.out.on t0.out.on (Nat.le_refl _)) (hB0'.out.on t0.out.on (Nat.le_refl _)) HT0.out).mono ?_
  rintro e w1 ⟨rfl, hb⟩
  have t1 : Hid (Two w w1 #[.slice p0 n0 d0, .int .i64 x1] #[.slice q0 n0 e0, .int .i64 x1] 41) := t0.out.call hb
  clear hb ax0 bx0 ax1 bx1
  have ax0 : w1.cell? ⟨w.heap.size, 0, none⟩ = some (.slice p0 n0 d0) := t1.out.a.cell 0
  have bx0 : w1.cell? ⟨w.heap.size + 1, 0, none⟩ = some (.slice q0 n0 e0) := t1.out.b.cell 0
  have ax1 : w1.cell? ⟨w.heap.size, 1, none⟩ = some (.int .i64 x1) := t1.out.a.cell 1
  have bx1 : w1.cell? ⟨w.heap.size + 1, 1, none⟩ = some (.int .i64 x1) := t1.out.b.cell 1
  go_wp2
  go_ret
  exact ⟨rfl, t1.out.on⟩
set_option maxHeartbeats 2000000 in
theorem dEqDesc (vs us : List Value) (cs : List Cel) (w : World) (h : AtL false w vs cs) (h' : AtL false w us cs) (hs : HasL cs tyDesc) : Calls Tryz.prog 91 #[.agg vs.toArray, .agg us.toArray] w (Yes w) := by
  obtain ⟨c0, r0, rfl, T0, hH0⟩ := hs.cons
  obtain ⟨c1, r1, rfl, T1, hH1⟩ := hH0.cons
  obtain ⟨c2, r2, rfl, T2, hH2⟩ := hH1.cons
  obtain ⟨c3, r3, rfl, T3, hH3⟩ := hH2.cons
  obtain ⟨c4, r4, rfl, T4, hH4⟩ := hH3.cons
  obtain rfl := hH4.nil
  obtain ⟨v0, vr0, rfl, A0, hA0⟩ := h.consE
  obtain ⟨v1, vr1, rfl, A1, hA1⟩ := hA0.consE
  obtain ⟨v2, vr2, rfl, A2, hA2⟩ := hA1.consE
  obtain ⟨v3, vr3, rfl, A3, hA3⟩ := hA2.consE
  obtain ⟨v4, vr4, rfl, A4, hA4⟩ := hA3.consE
  obtain rfl := hA4.nilE
  obtain ⟨u0, ur0, rfl, B0, hB0⟩ := h'.consE
  obtain ⟨u1, ur1, rfl, B1, hB1⟩ := hB0.consE
  obtain ⟨u2, ur2, rfl, B2, hB2⟩ := hB1.consE
  obtain ⟨u3, ur3, rfl, B3, hB3⟩ := hB2.consE
  obtain ⟨u4, ur4, rfl, B4, hB4⟩ := hB3.consE
  obtain rfl := hB4.nilE
  obtain ⟨x0, rfl⟩ := T0.int
  obtain rfl := A0.int
  obtain rfl := B0.int
  have ne0 : (x0 != x0) = false := by simp
  obtain ⟨x1, rfl⟩ := T1.int
  obtain rfl := A1.int
  obtain rfl := B1.int
  have ne1 : (x1 != x1) = false := by simp
  obtain ⟨n2, cs2, rfl, -⟩ := T2.list
  have HT2 : Hid (Has (.l 139 3 n2 cs2) (.l 139 3 tyEntry)) := T2
  obtain ⟨p2, d2, rfl⟩ := A2.slice
  obtain ⟨q2, e2, rfl⟩ := B2.slice
  have hA2' : Hid (At false w (.slice p2 n2 d2) (.l 139 3 n2 cs2)) := A2
  have hB2' : Hid (At false w (.slice q2 n2 e2) (.l 139 3 n2 cs2)) := B2
  obtain ⟨x3, rfl⟩ := T3.int
  obtain rfl := A3.int
  obtain rfl := B3.int
  have ne3 : (x3 != x3) = false := by simp
  obtain ⟨n4, cs4, rfl, -⟩ := T4.list
  have HT4 : Hid (Has (.l 3 1 n4 cs4) (.l 3 1 [.i])) := T4
  obtain ⟨p4, d4, rfl⟩ := A4.slice
  obtain ⟨q4, e4, rfl⟩ := B4.slice
  have hA4' : Hid (At false w (.slice p4 n4 d4) (.l 3 1 n4 cs4)) := A4
  have hB4' : Hid (At false w (.slice q4 n4 e4) (.l 3 1 n4 cs4)) := B4
  have HN3 : Hid (AtL false w [.int .i64 x3, .slice p4 n4 d4] [.i x3, .l 3 1 n4 cs4]) := AtL.cons (.i x3) (AtL.cons (hA4'.out) (AtL.nil))
  have HH3 : Hid (HasL [.i x3, .l 3 1 n4 cs4] tyRes) := ⟨rfl, fun j c t hc ht => by
    have hj : j < 2 := by have := (List.getElem?_eq_some_iff.1 hc).1; simpa using this
    rcases (show j = 0 ∨ j = 1 by omega) with rfl | rfl <;> (simp [tyRes] at hc ht; subst hc ht)
    · exact .i x3
    · exact HT4.out⟩
  have HM3 : Hid (AtL false w [.int .i64 x3, .slice q4 n4 e4] [.i x3, .l 3 1 n4 cs4]) := AtL.cons (.i x3) (AtL.cons (hB4'.out) (AtL.nil))
  clear hs h h' hA0 hB0 hH0 T0 A0 B0 hA1 hB1 hH1 T1 A1 B1 hA2 hB2 hH2 T2 A2 B2 hA3 hB3 hH3 T3 A3 B3 hA4 hB4 hH4 T4 A4 B4
  obtain ⟨W, hW⟩ : ∃ W, (w.alloc (.cells #[.int .i64 x0, .int .i64 x1, .slice p2 n2 d2, .int .i64 x3, .slice p4 n4 d4] 137)).alloc (.cells #[.int .i64 x0, .int .i64 x1, .slice q2 n2 e2, .int .i64 x3, .slice q4 n4 e4] 137) = W := ⟨_, rfl⟩
  have t0 : Hid (Two w W #[.int .i64 x0, .int .i64 x1, .slice p2 n2 d2, .int .i64 x3, .slice p4 n4 d4] #[.int .i64 x0, .int .i64 x1, .slice q2 n2 e2, .int .i64 x3, .slice q4 n4 e4] 137) := by rw [← hW]; exact two_new w _ _ _
  have HW : Hid _ := hW
  clear hW
  go_enter Tryz.func91, Tryz.ntmps91
  go_upto_region 1 with (fail)
  rw [HW.out]
  have ax0 : W.cell? ⟨w.heap.size, 0, none⟩ = some (.int .i64 x0) := t0.out.a.cell 0
  have bx0 : W.cell? ⟨w.heap.size + 1, 0, none⟩ = some (.int .i64 x0) := t0.out.b.cell 0
  have ax1 : W.cell? ⟨w.heap.size, 1, none⟩ = some (.int .i64 x1) := t0.out.a.cell 1
  have bx1 : W.cell? ⟨w.heap.size + 1, 1, none⟩ = some (.int .i64 x1) := t0.out.b.cell 1
  have ax2 : W.cell? ⟨w.heap.size, 2, none⟩ = some (.slice p2 n2 d2) := t0.out.a.cell 2
  have bx2 : W.cell? ⟨w.heap.size + 1, 2, none⟩ = some (.slice q2 n2 e2) := t0.out.b.cell 2
  have ax3 : W.cell? ⟨w.heap.size, 3, none⟩ = some (.int .i64 x3) := t0.out.a.cell 3
  have bx3 : W.cell? ⟨w.heap.size + 1, 3, none⟩ = some (.int .i64 x3) := t0.out.b.cell 3
  have ax4 : W.cell? ⟨w.heap.size, 4, none⟩ = some (.slice p4 n4 d4) := t0.out.a.cell 4
  have bx4 : W.cell? ⟨w.heap.size + 1, 4, none⟩ = some (.slice q4 n4 e4) := t0.out.b.cell 4
  go_wp2_with fail
  refine (dEqEntryS _ _ n2 cs2 _ (hA2'.out.on t0.out.on (Nat.le_refl _)) (hB2'.out.on t0.out.on (Nat.le_refl _)) HT2.out).mono ?_
  rintro e w1 ⟨rfl, hb⟩
  have t1 : Hid (Two w w1 #[.int .i64 x0, .int .i64 x1, .slice p2 n2 d2, .int .i64 x3, .slice p4 n4 d4] #[.int .i64 x0, .int .i64 x1, .slice q2 n2 e2, .int .i64 x3, .slice q4 n4 e4] 137) := t0.out.call hb
  clear hb ax0 bx0 ax1 bx1 ax2 bx2 ax3 bx3 ax4 bx4
  have ax0 : w1.cell? ⟨w.heap.size, 0, none⟩ = some (.int .i64 x0) := t1.out.a.cell 0
  have bx0 : w1.cell? ⟨w.heap.size + 1, 0, none⟩ = some (.int .i64 x0) := t1.out.b.cell 0
  have ax1 : w1.cell? ⟨w.heap.size, 1, none⟩ = some (.int .i64 x1) := t1.out.a.cell 1
  have bx1 : w1.cell? ⟨w.heap.size + 1, 1, none⟩ = some (.int .i64 x1) := t1.out.b.cell 1
  have ax2 : w1.cell? ⟨w.heap.size, 2, none⟩ = some (.slice p2 n2 d2) := t1.out.a.cell 2
  have bx2 : w1.cell? ⟨w.heap.size + 1, 2, none⟩ = some (.slice q2 n2 e2) := t1.out.b.cell 2
  have ax3 : w1.cell? ⟨w.heap.size, 3, none⟩ = some (.int .i64 x3) := t1.out.a.cell 3
  have bx3 : w1.cell? ⟨w.heap.size + 1, 3, none⟩ = some (.int .i64 x3) := t1.out.b.cell 3
  have ax4 : w1.cell? ⟨w.heap.size, 4, none⟩ = some (.slice p4 n4 d4) := t1.out.a.cell 4
  have bx4 : w1.cell? ⟨w.heap.size + 1, 4, none⟩ = some (.slice q4 n4 e4) := t1.out.b.cell 4
  go_wp2_with fail
  refine (dEqRes [.int .i64 x3, .slice p4 n4 d4] [.int .i64 x3, .slice q4 n4 e4] [.i x3, .l 3 1 n4 cs4] _ (HN3.out.on t1.out.on (Nat.le_refl _)) (HM3.out.on t1.out.on (Nat.le_refl _)) HH3.out).mono ?_
  rintro e w2 ⟨rfl, hb⟩
  have t2 : Hid (Two w w2 #[.int .i64 x0, .int .i64 x1, .slice p2 n2 d2, .int .i64 x3, .slice p4 n4 d4] #[.int .i64 x0, .int .i64 x1, .slice q2 n2 e2, .int .i64 x3, .slice q4 n4 e4] 137) := t1.out.call hb
  clear hb ax0 bx0 ax1 bx1 ax2 bx2 ax3 bx3 ax4 bx4
  have ax0 : w2.cell? ⟨w.heap.size, 0, none⟩ = some (.int .i64 x0) := t2.out.a.cell 0
  have bx0 : w2.cell? ⟨w.heap.size + 1, 0, none⟩ = some (.int .i64 x0) := t2.out.b.cell 0
  have ax1 : w2.cell? ⟨w.heap.size, 1, none⟩ = some (.int .i64 x1) := t2.out.a.cell 1
  have bx1 : w2.cell? ⟨w.heap.size + 1, 1, none⟩ = some (.int .i64 x1) := t2.out.b.cell 1
  have ax2 : w2.cell? ⟨w.heap.size, 2, none⟩ = some (.slice p2 n2 d2) := t2.out.a.cell 2
  have bx2 : w2.cell? ⟨w.heap.size + 1, 2, none⟩ = some (.slice q2 n2 e2) := t2.out.b.cell 2
  have ax3 : w2.cell? ⟨w.heap.size, 3, none⟩ = some (.int .i64 x3) := t2.out.a.cell 3
  have bx3 : w2.cell? ⟨w.heap.size + 1, 3, none⟩ = some (.int .i64 x3) := t2.out.b.cell 3
  have ax4 : w2.cell? ⟨w.heap.size, 4, none⟩ = some (.slice p4 n4 d4) := t2.out.a.cell 4
  have bx4 : w2.cell? ⟨w.heap.size + 1, 4, none⟩ = some (.slice q4 n4 e4) := t2.out.b.cell 4
  go_wp2
  go_ret
  exact ⟨rfl, t2.out.on⟩
set_option maxHeartbeats 2000000 in
theorem dEqDescS (v u : Value) (n : Nat) (cs : List Cel) (w : World) (h : At false w v (.l 137 5 n cs)) (h' : At false w u (.l 137 5 n cs)) (hs : Has (.l 137 5 n cs) (.l 137 5 tyDesc)) :
    Calls Tryz.prog 57 #[v, u] w (Yes w) := by
  obtain ⟨a, c, vs, rfl, h1, h2, hn, -, h3, h4⟩ := h.openL
  have SRC : Hid (n = 0 ∨ ∃ b o, a = some ⟨b, o, none⟩ ∧ ∀ j, j < n * 5 → w.cell? ⟨b, o + j, none⟩ = vs[j]?) := h3
  have HV : Hid (∀ j, j < n → AtL false w ((vs.drop (j * 5)).take 5) (row cs 5 j)) := fun j hj => rowVals h1 h2 h4 hj
  have Lvs : Hid (vs.length = n * 5) := h1
  clear h1 h2 h3 h4 hn
  obtain ⟨a', c', us, rfl, h1, h2, hn, -, h3, h4⟩ := h'.openL
  have SRD : Hid (n = 0 ∨ ∃ b o, a' = some ⟨b, o, none⟩ ∧ ∀ j, j < n * 5 → w.cell? ⟨b, o + j, none⟩ = us[j]?) := h3
  have HU : Hid (∀ j, j < n → AtL false w ((us.drop (j * 5)).take 5) (row cs 5 j)) := fun j hj => rowVals h1 h2 h4 hj
  have Lus : Hid (us.length = n * 5) := h1
  clear h1 h2 h3 h4 
  have HR : Hid (∀ j, j < n → HasL (row cs 5 j) tyDesc) := fun j hj => hs.rowL hj
  clear h h' hs
  go_enter Tryz.func57, Tryz.ntmps57
  go_wp2
  go_loopw [5] (fun i wr => ∃ j : Nat, j ≤ n ∧ i = .int .i64 j ∧ Below w.heap.size w wr) (fun i _ => n - (intOf i).toNat)
  case atStart => exact ⟨0, Nat.zero_le _, rfl, Below.refl _ _⟩
  case round =>
    obtain ⟨j, hj, rfl, hb⟩ := hrel
    by_cases hlt : j < n
    · have hk0 : (0 : Int) ≤ (j : Int) := by omega
      have hk1 : (j : Int) < (n : Int) := by omega
      have hle : j * 5 + 5 ≤ n * 5 := by omega
      have hH := HR.out j hlt
      obtain ⟨rs, hrs⟩ : ∃ rs, row cs 5 j = rs := ⟨_, rfl⟩
      rw [hrs] at hH
      rcases SRC.out with h0 | ⟨p1, o1, rfl, g1⟩
      · omega
      have hA := HV.out j hlt
      have ce : ∀ i, i < 5 → wr.cell? ⟨p1, o1 + (j * 5 + i), none⟩ = ((vs.drop (j * 5)).take 5)[i]? := fun i hi => by
        have h5 := g1 (j * 5 + i) (by omega)
        rw [List.getElem?_take_of_lt hi, List.getElem?_drop, ← h5]
        have h6 : w.cell? ⟨p1, o1 + (j * 5 + i), none⟩ = some (vs[j * 5 + i]'(by have := Lvs.out; omega)) := by rw [h5, List.getElem?_eq_getElem (by have := Lvs.out; omega)]
        exact hb.cell (show p1 < w.heap.size from World.block_lt_of_cell? w _ h6)
      obtain ⟨ws, hws⟩ : ∃ ws, (vs.drop (j * 5)).take 5 = ws := ⟨_, rfl⟩
      rw [hrs] at hA
      rw [hws] at hA ce
      clear g1 hws
      rcases SRD.out with h0 | ⟨p2, o2, rfl, g2⟩
      · omega
      have hB := HU.out j hlt
      have cf : ∀ i, i < 5 → wr.cell? ⟨p2, o2 + (j * 5 + i), none⟩ = ((us.drop (j * 5)).take 5)[i]? := fun i hi => by
        have h5 := g2 (j * 5 + i) (by omega)
        rw [List.getElem?_take_of_lt hi, List.getElem?_drop, ← h5]
        have h6 : w.cell? ⟨p2, o2 + (j * 5 + i), none⟩ = some (us[j * 5 + i]'(by have := Lus.out; omega)) := by rw [h5, List.getElem?_eq_getElem (by have := Lus.out; omega)]
        exact hb.cell (show p2 < w.heap.size from World.block_lt_of_cell? w _ h6)
      obtain ⟨ws', hws⟩ : ∃ ws, (us.drop (j * 5)).take 5 = ws := ⟨_, rfl⟩
      rw [hrs] at hB
      rw [hws] at hB cf
      clear g2 hws
      obtain ⟨c0, r0, rfl, T0, hH0⟩ := hH.cons
      obtain ⟨c1, r1, rfl, T1, hH1⟩ := hH0.cons
      obtain ⟨c2, r2, rfl, T2, hH2⟩ := hH1.cons
      obtain ⟨c3, r3, rfl, T3, hH3⟩ := hH2.cons
      obtain ⟨c4, r4, rfl, T4, hH4⟩ := hH3.cons
      obtain rfl := hH4.nil
      have HL0 : Hid (HasL [c0, c1, c2, c3, c4] tyDesc) := hH
      obtain ⟨v0, vr0, rfl, A0, hA0⟩ := hA.consE
      obtain ⟨v1, vr1, rfl, A1, hA1⟩ := hA0.consE
      obtain ⟨v2, vr2, rfl, A2, hA2⟩ := hA1.consE
      obtain ⟨v3, vr3, rfl, A3, hA3⟩ := hA2.consE
      obtain ⟨v4, vr4, rfl, A4, hA4⟩ := hA3.consE
      obtain rfl := hA4.nilE
      obtain ⟨u0, ur0, rfl, B0, hB0⟩ := hB.consE
      obtain ⟨u1, ur1, rfl, B1, hB1⟩ := hB0.consE
      obtain ⟨u2, ur2, rfl, B2, hB2⟩ := hB1.consE
      obtain ⟨u3, ur3, rfl, B3, hB3⟩ := hB2.consE
      obtain ⟨u4, ur4, rfl, B4, hB4⟩ := hB3.consE
      obtain rfl := hB4.nilE
      have HA0 : Hid (AtL false w [v0, v1, v2, v3, v4] [c0, c1, c2, c3, c4]) := hA
      have HB0 : Hid (AtL false w [u0, u1, u2, u3, u4] [c0, c1, c2, c3, c4]) := hB
      have e0 : wr.cell? ⟨p1, o1 + j * 5, none⟩ = some v0 := ce 0 (by omega)
      have f0 : wr.cell? ⟨p2, o2 + j * 5, none⟩ = some u0 := cf 0 (by omega)
      have e1 : wr.cell? ⟨p1, o1 + j * 5 + 1, none⟩ = some v1 := ce 1 (by omega)
      have f1 : wr.cell? ⟨p2, o2 + j * 5 + 1, none⟩ = some u1 := cf 1 (by omega)
      have e2 : wr.cell? ⟨p1, o1 + j * 5 + 2, none⟩ = some v2 := ce 2 (by omega)
      have f2 : wr.cell? ⟨p2, o2 + j * 5 + 2, none⟩ = some u2 := cf 2 (by omega)
      have e3 : wr.cell? ⟨p1, o1 + j * 5 + 3, none⟩ = some v3 := ce 3 (by omega)
      have f3 : wr.cell? ⟨p2, o2 + j * 5 + 3, none⟩ = some u3 := cf 3 (by omega)
      have e4 : wr.cell? ⟨p1, o1 + j * 5 + 4, none⟩ = some v4 := ce 4 (by omega)
      have f4 : wr.cell? ⟨p2, o2 + j * 5 + 4, none⟩ = some u4 := cf 4 (by omega)
      clear ce cf hrs hA0 hB0 hH0 hA1 hB1 hH1 hA2 hB2 hH2 hA3 hB3 hH3 hA4 hB4 hH4 T0 A0 B0 T1 A1 B1 T2 A2 B2 T3 A3 B3 T4 A4 B4 hA hB hH
      have q1 : p1 < wr.heap.size := World.block_lt_of_cell? wr _ e0
      have q2 : p2 < wr.heap.size := World.block_lt_of_cell? wr _ f0
      go_wp2_with fail
      go_region_held3 (fun w' => w'.cell? ⟨p1, o1 + j * 5, none⟩ = some v0 ∧ w'.cell? ⟨p1, o1 + j * 5 + 1, none⟩ = some v1 ∧ w'.cell? ⟨p1, o1 + j * 5 + 2, none⟩ = some v2 ∧ w'.cell? ⟨p1, o1 + j * 5 + 3, none⟩ = some v3 ∧ w'.cell? ⟨p1, o1 + j * 5 + 4, none⟩ = some v4 ∧ w'.cell? ⟨p2, o2 + j * 5, none⟩ = some u0 ∧ w'.cell? ⟨p2, o2 + j * 5 + 1, none⟩ = some u1 ∧ w'.cell? ⟨p2, o2 + j * 5 + 2, none⟩ = some u2 ∧ w'.cell? ⟨p2, o2 + j * 5 + 3, none⟩ = some u3 ∧ w'.cell? ⟨p2, o2 + j * 5 + 4, none⟩ = some u4)
        (first | (with_reducible exact K2.out) | go_keep)
        (first
        | (go_at_call 91
           refine (dEqDesc [v0, v1, v2, v3, v4] [u0, u1, u2, u3, u4] [c0, c1, c2, c3, c4] _ (HA0.out.on (hb.drew) (Nat.le_refl _)) (HB0.out.on (hb.drew) (Nat.le_refl _)) HL0.out).mono ?_
           rintro e w2 ⟨rfl, hb2⟩
           have hb2' : Below wr.heap.size wr w2 := (Below.refl _ wr).drew.trans hb2
           have K2 : Hid (w2.cell? ⟨p1, o1 + j * 5, none⟩ = some v0 ∧ w2.cell? ⟨p1, o1 + j * 5 + 1, none⟩ = some v1 ∧ w2.cell? ⟨p1, o1 + j * 5 + 2, none⟩ = some v2 ∧ w2.cell? ⟨p1, o1 + j * 5 + 3, none⟩ = some v3 ∧ w2.cell? ⟨p1, o1 + j * 5 + 4, none⟩ = some v4 ∧ w2.cell? ⟨p2, o2 + j * 5, none⟩ = some u0 ∧ w2.cell? ⟨p2, o2 + j * 5 + 1, none⟩ = some u1 ∧ w2.cell? ⟨p2, o2 + j * 5 + 2, none⟩ = some u2 ∧ w2.cell? ⟨p2, o2 + j * 5 + 3, none⟩ = some u3 ∧ w2.cell? ⟨p2, o2 + j * 5 + 4, none⟩ = some u4) := ⟨(hb2'.cell (show p1 < _ from q1)).trans e0, (hb2'.cell (show p1 < _ from q1)).trans e1, (hb2'.cell (show p1 < _ from q1)).trans e2, (hb2'.cell (show p1 < _ from q1)).trans e3, (hb2'.cell (show p1 < _ from q1)).trans e4, (hb2'.cell (show p2 < _ from q2)).trans f0, (hb2'.cell (show p2 < _ from q2)).trans f1, (hb2'.cell (show p2 < _ from q2)).trans f2, (hb2'.cell (show p2 < _ from q2)).trans f3, (hb2'.cell (show p2 < _ from q2)).trans f4⟩
           have hb02 : Below w.heap.size w w2 := hb.trans (hb2'.mono hb.size)
           clear hb2 hb2'))
      clear e0 f0 e1 f1 e2 f2 e3 f3 e4 f4 K2
      go_wp2
      exact ⟨⟨j + 1, by omega, by go_num, hb02⟩, by simp [intOf]; omega⟩
    · obtain rfl : j = n := by omega
      go_wp2
      go_ret
      exact ⟨rfl, hb⟩
end Go.Proofs.YtkbodiggdajbeaaGreatDoor
