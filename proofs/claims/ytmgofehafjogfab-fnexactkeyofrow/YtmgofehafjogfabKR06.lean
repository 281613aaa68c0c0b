/- Texts joined: DatCe, DatCf, TxM. -/
import Derived.Test.YtmgofehafjogfabKR02
import Derived.Deep.RegionHeld3
import Derived.Deep.Cut
import Derived.Handy
import Derived.Test.YtmgofehafjogfabKR04
set_option maxHeartbeats 2000000
set_option maxRecDepth 100000
namespace Go.Proofs.Ytmgofehafjogfab
section
open Go.ChangeShapes Go.WideShapes Go.ChangeAt Go.RowKit Go.Joins
set_option linter.unusedSimpArgs false

theorem dEqIntS (v u : Value) (n : Nat) (cs : List Cel) (w : World) (h : At false w v (.l 3 1 n cs)) (h' : At false w u (.l 3 1 n cs)) (hs : Has (.l 3 1 n cs) (.l 3 1 [.i])) :
    Calls Try.prog 30 #[v, u] w (Yes w) := by
  obtain ⟨a, c, vs, rfl, h1, h2, hn, -, h3, h4⟩ := h.openL
  have SRC : Hid (n = 0 ∨ ∃ b o, a = some ⟨b, o, none⟩ ∧ ∀ j, j < n * 1 → w.cell? ⟨b, o + j, none⟩ = vs[j]?) := h3
  have HV : Hid (∀ j, j < n → AtL false w ((vs.drop (j * 1)).take 1) (row cs 1 j)) := fun j hj => rowVals h1 h2 h4 hj
  have Lvs : Hid (vs.length = n * 1) := h1
  clear h1 h2 h3 h4 hn
  obtain ⟨a', c', us, rfl, h1, h2, hn, -, h3, h4⟩ := h'.openL
  have SRD : Hid (n = 0 ∨ ∃ b o, a' = some ⟨b, o, none⟩ ∧ ∀ j, j < n * 1 → w.cell? ⟨b, o + j, none⟩ = us[j]?) := h3
  have HU : Hid (∀ j, j < n → AtL false w ((us.drop (j * 1)).take 1) (row cs 1 j)) := fun j hj => rowVals h1 h2 h4 hj
  have Lus : Hid (us.length = n * 1) := h1
  clear h1 h2 h3 h4 
  have HR : Hid (∀ j, j < n → HasL (row cs 1 j) [.i]) := fun j hj => hs.rowL hj
  clear h h' hs
  go_enter Try.func30, Try.ntmps30
  go_wp2
  go_loopw [5] (fun i wr => ∃ j : Nat, j ≤ n ∧ i = .int .i64 j ∧ Below w.heap.size w wr) (fun i _ => n - (intOf i).toNat)
  case atStart => exact ⟨0, Nat.zero_le _, rfl, Below.refl _ _⟩
  case round =>
    obtain ⟨j, hj, rfl, hb⟩ := hrel
    by_cases hlt : j < n
    · have hk0 : (0 : Int) ≤ (j : Int) := by omega
      have hk1 : (j : Int) < (n : Int) := by omega
      have hle : j * 1 + 1 ≤ n * 1 := by omega
      have hH := HR.out j hlt
      obtain ⟨rs, hrs⟩ : ∃ rs, row cs 1 j = rs := ⟨_, rfl⟩
      rw [hrs] at hH
      rcases SRC.out with h0 | ⟨p1, o1, rfl, g1⟩
      · omega
      have hA := HV.out j hlt
      have ce : ∀ i, i < 1 → wr.cell? ⟨p1, o1 + (j * 1 + i), none⟩ = ((vs.drop (j * 1)).take 1)[i]? := fun i hi => by
        have h5 := g1 (j * 1 + i) (by omega)
        rw [List.getElem?_take_of_lt hi, List.getElem?_drop, ← h5]
        have h6 : w.cell? ⟨p1, o1 + (j * 1 + i), none⟩ = some (vs[j * 1 + i]'(by have := Lvs.out; omega)) := by rw [h5, List.getElem?_eq_getElem (by have := Lvs.out; omega)]
        exact hb.cell (show p1 < w.heap.size from World.block_lt_of_cell? w _ h6)
      obtain ⟨ws, hws⟩ : ∃ ws, (vs.drop (j * 1)).take 1 = ws := ⟨_, rfl⟩
      rw [hrs] at hA
      rw [hws] at hA ce
      clear g1 hws
      rcases SRD.out with h0 | ⟨p2, o2, rfl, g2⟩
      · omega
      have hB := HU.out j hlt
      have cf : ∀ i, i < 1 → wr.cell? ⟨p2, o2 + (j * 1 + i), none⟩ = ((us.drop (j * 1)).take 1)[i]? := fun i hi => by
        have h5 := g2 (j * 1 + i) (by omega)
        rw [List.getElem?_take_of_lt hi, List.getElem?_drop, ← h5]
        have h6 : w.cell? ⟨p2, o2 + (j * 1 + i), none⟩ = some (us[j * 1 + i]'(by have := Lus.out; omega)) := by rw [h5, List.getElem?_eq_getElem (by have := Lus.out; omega)]
        exact hb.cell (show p2 < w.heap.size from World.block_lt_of_cell? w _ h6)
      obtain ⟨ws', hws⟩ : ∃ ws, (us.drop (j * 1)).take 1 = ws := ⟨_, rfl⟩
      rw [hrs] at hB
      rw [hws] at hB cf
      clear g2 hws
      obtain ⟨c0, r0, rfl, T0, hH0⟩ := hH.cons
      obtain rfl := hH0.nil
      have HL0 : Hid (HasL [c0] [.i]) := hH
      obtain ⟨v0, vr0, rfl, A0, hA0⟩ := hA.consE
      obtain rfl := hA0.nilE
      obtain ⟨u0, ur0, rfl, B0, hB0⟩ := hB.consE
      obtain rfl := hB0.nilE
      have HA0 : Hid (AtL false w [v0] [c0]) := hA
      have HB0 : Hid (AtL false w [u0] [c0]) := hB
      have e0 : wr.cell? ⟨p1, o1 + j * 1, none⟩ = some v0 := ce 0 (by omega)
      have f0 : wr.cell? ⟨p2, o2 + j * 1, none⟩ = some u0 := cf 0 (by omega)
      obtain ⟨x0, rfl⟩ := T0.int
      obtain rfl := A0.int
      obtain rfl := B0.int
      simp only [Nat.mul_one] at e0 f0
      have ne0 : (x0 != x0) = false := by simp
      clear ce cf hrs hA0 hB0 hH0 hA hB hH T0 A0 B0
      go_wp2
      go_region
      go_wp2
      exact ⟨⟨j + 1, by omega, by go_num, hb.drew⟩, by simp [intOf]; omega⟩
    · obtain rfl : j = n := by omega
      go_wp2
      go_ret
      exact ⟨rfl, hb⟩
theorem dEqCol (vs us : List Value) (cs : List Cel) (w : World) (h : AtL false w vs cs) (h' : AtL false w us cs) (hs : HasL cs tyCol) : Calls Try.prog 44 #[.agg vs.toArray, .agg us.toArray] w (Yes w) := by
  obtain ⟨c0, r0, rfl, T0, hH0⟩ := hs.cons
  obtain ⟨c1, r1, rfl, T1, hH1⟩ := hH0.cons
  obtain ⟨c2, r2, rfl, T2, hH2⟩ := hH1.cons
  obtain rfl := hH2.nil
  obtain ⟨v0, vr0, rfl, A0, hA0⟩ := h.consE
  obtain ⟨v1, vr1, rfl, A1, hA1⟩ := hA0.consE
  obtain ⟨v2, vr2, rfl, A2, hA2⟩ := hA1.consE
  obtain rfl := hA2.nilE
  obtain ⟨u0, ur0, rfl, B0, hB0⟩ := h'.consE
  obtain ⟨u1, ur1, rfl, B1, hB1⟩ := hB0.consE
  obtain ⟨u2, ur2, rfl, B2, hB2⟩ := hB1.consE
  obtain rfl := hB2.nilE
  obtain ⟨x0, rfl⟩ := T0.str
  obtain rfl := A0.str
  obtain rfl := B0.str
  obtain ⟨x1, rfl⟩ := T1.int
  obtain rfl := A1.int
  obtain rfl := B1.int
  have ne1 : (x1 != x1) = false := by simp
  obtain ⟨x2, rfl⟩ := T2.bool
  obtain rfl := A2.bool
  obtain rfl := B2.bool
  have ne2 : (x2 != x2) = false := by simp
  clear hs h h' hA0 hB0 hH0 T0 A0 B0 hA1 hB1 hH1 T1 A1 B1 hA2 hB2 hH2 T2 A2 B2
  obtain ⟨W, hW⟩ : ∃ W, (w.alloc (.cells #[.string x0, .int .i64 x1, .bool x2] 65)).alloc (.cells #[.string x0, .int .i64 x1, .bool x2] 65) = W := ⟨_, rfl⟩
  have t0 : Hid (Two w W #[.string x0, .int .i64 x1, .bool x2] #[.string x0, .int .i64 x1, .bool x2] 65) := by rw [← hW]; exact two_new w _ _ _
  have HW : Hid _ := hW
  clear hW
  go_enter Try.func44, Try.ntmps44
  go_upto_region 1 with (fail)
  rw [HW.out]
  have ax0 : W.cell? ⟨w.heap.size, 0, none⟩ = some (.string x0) := t0.out.a.cell 0
  have bx0 : W.cell? ⟨w.heap.size + 1, 0, none⟩ = some (.string x0) := t0.out.b.cell 0
  have ax1 : W.cell? ⟨w.heap.size, 1, none⟩ = some (.int .i64 x1) := t0.out.a.cell 1
  have bx1 : W.cell? ⟨w.heap.size + 1, 1, none⟩ = some (.int .i64 x1) := t0.out.b.cell 1
  have ax2 : W.cell? ⟨w.heap.size, 2, none⟩ = some (.bool x2) := t0.out.a.cell 2
  have bx2 : W.cell? ⟨w.heap.size + 1, 2, none⟩ = some (.bool x2) := t0.out.b.cell 2
  go_wp2
  go_ret
  exact ⟨rfl, t0.out.on⟩
theorem dEqColS (v u : Value) (n : Nat) (cs : List Cel) (w : World) (h : At false w v (.l 65 3 n cs)) (h' : At false w u (.l 65 3 n cs)) (hs : Has (.l 65 3 n cs) (.l 65 3 tyCol)) :
    Calls Try.prog 29 #[v, u] w (Yes w) := by
  obtain ⟨a, c, vs, rfl, h1, h2, hn, -, h3, h4⟩ := h.openL
  have SRC : Hid (n = 0 ∨ ∃ b o, a = some ⟨b, o, none⟩ ∧ ∀ j, j < n * 3 → w.cell? ⟨b, o + j, none⟩ = vs[j]?) := h3
  have HV : Hid (∀ j, j < n → AtL false w ((vs.drop (j * 3)).take 3) (row cs 3 j)) := fun j hj => rowVals h1 h2 h4 hj
  have Lvs : Hid (vs.length = n * 3) := h1
  clear h1 h2 h3 h4 hn
  obtain ⟨a', c', us, rfl, h1, h2, hn, -, h3, h4⟩ := h'.openL
  have SRD : Hid (n = 0 ∨ ∃ b o, a' = some ⟨b, o, none⟩ ∧ ∀ j, j < n * 3 → w.cell? ⟨b, o + j, none⟩ = us[j]?) := h3
  have HU : Hid (∀ j, j < n → AtL false w ((us.drop (j * 3)).take 3) (row cs 3 j)) := fun j hj => rowVals h1 h2 h4 hj
  have Lus : Hid (us.length = n * 3) := h1
  clear h1 h2 h3 h4 
  have HR : Hid (∀ j, j < n → HasL (row cs 3 j) tyCol) := fun j hj => hs.rowL hj
  clear h h' hs
  go_enter Try.func29, Try.ntmps29
  go_wp2
  go_loopw [5] (fun i wr => ∃ j : Nat, j ≤ n ∧ i = .int .i64 j ∧ Below w.heap.size w wr) (fun i _ => n - (intOf i).toNat)
  case atStart => exact ⟨0, Nat.zero_le _, rfl, Below.refl _ _⟩
  case round =>
    obtain ⟨j, hj, rfl, hb⟩ := hrel
    by_cases hlt : j < n
    · have hk0 : (0 : Int) ≤ (j : Int) := by omega
      have hk1 : (j : Int) < (n : Int) := by omega
      have hle : j * 3 + 3 ≤ n * 3 := by omega
      have hH := HR.out j hlt
      obtain ⟨rs, hrs⟩ : ∃ rs, row cs 3 j = rs := ⟨_, rfl⟩
      rw [hrs] at hH
      rcases SRC.out with h0 | ⟨p1, o1, rfl, g1⟩
      · omega
      have hA := HV.out j hlt
      have ce : ∀ i, i < 3 → wr.cell? ⟨p1, o1 + (j * 3 + i), none⟩ = ((vs.drop (j * 3)).take 3)[i]? := fun i hi => by
        have h5 := g1 (j * 3 + i) (by omega)
        rw [List.getElem?_take_of_lt hi, List.getElem?_drop, ← h5]
        have h6 : w.cell? ⟨p1, o1 + (j * 3 + i), none⟩ = some (vs[j * 3 + i]'(by have := Lvs.out; omega)) := by rw [h5, List.getElem?_eq_getElem (by have := Lvs.out; omega)]
        exact hb.cell (show p1 < w.heap.size from World.block_lt_of_cell? w _ h6)
      obtain ⟨ws, hws⟩ : ∃ ws, (vs.drop (j * 3)).take 3 = ws := ⟨_, rfl⟩
      rw [hrs] at hA
      rw [hws] at hA ce
      clear g1 hws
      rcases SRD.out with h0 | ⟨p2, o2, rfl, g2⟩
      · omega
      have hB := HU.out j hlt
      have cf : ∀ i, i < 3 → wr.cell? ⟨p2, o2 + (j * 3 + i), none⟩ = ((us.drop (j * 3)).take 3)[i]? := fun i hi => by
        have h5 := g2 (j * 3 + i) (by omega)
        rw [List.getElem?_take_of_lt hi, List.getElem?_drop, ← h5]
        have h6 : w.cell? ⟨p2, o2 + (j * 3 + i), none⟩ = some (us[j * 3 + i]'(by have := Lus.out; omega)) := by rw [h5, List.getElem?_eq_getElem (by have := Lus.out; omega)]
        exact hb.cell (show p2 < w.heap.size from World.block_lt_of_cell? w _ h6)
      obtain ⟨ws', hws⟩ : ∃ ws, (us.drop (j * 3)).take 3 = ws := ⟨_, rfl⟩
      rw [hrs] at hB
      rw [hws] at hB cf
      clear g2 hws
      obtain ⟨c0, r0, rfl, T0, hH0⟩ := hH.cons
      obtain ⟨c1, r1, rfl, T1, hH1⟩ := hH0.cons
      obtain ⟨c2, r2, rfl, T2, hH2⟩ := hH1.cons
      obtain rfl := hH2.nil
      have HL0 : Hid (HasL [c0, c1, c2] tyCol) := hH
      obtain ⟨v0, vr0, rfl, A0, hA0⟩ := hA.consE
      obtain ⟨v1, vr1, rfl, A1, hA1⟩ := hA0.consE
      obtain ⟨v2, vr2, rfl, A2, hA2⟩ := hA1.consE
      obtain rfl := hA2.nilE
      obtain ⟨u0, ur0, rfl, B0, hB0⟩ := hB.consE
      obtain ⟨u1, ur1, rfl, B1, hB1⟩ := hB0.consE
      obtain ⟨u2, ur2, rfl, B2, hB2⟩ := hB1.consE
      obtain rfl := hB2.nilE
      have HA0 : Hid (AtL false w [v0, v1, v2] [c0, c1, c2]) := hA
      have HB0 : Hid (AtL false w [u0, u1, u2] [c0, c1, c2]) := hB
      have e0 : wr.cell? ⟨p1, o1 + j * 3, none⟩ = some v0 := ce 0 (by omega)
      have f0 : wr.cell? ⟨p2, o2 + j * 3, none⟩ = some u0 := cf 0 (by omega)
      have e1 : wr.cell? ⟨p1, o1 + j * 3 + 1, none⟩ = some v1 := ce 1 (by omega)
      have f1 : wr.cell? ⟨p2, o2 + j * 3 + 1, none⟩ = some u1 := cf 1 (by omega)
      have e2 : wr.cell? ⟨p1, o1 + j * 3 + 2, none⟩ = some v2 := ce 2 (by omega)
      have f2 : wr.cell? ⟨p2, o2 + j * 3 + 2, none⟩ = some u2 := cf 2 (by omega)
      clear ce cf hrs hA0 hB0 hH0 hA1 hB1 hH1 hA2 hB2 hH2 T0 A0 B0 T1 A1 B1 T2 A2 B2 hA hB hH
      have q1 : p1 < wr.heap.size := World.block_lt_of_cell? wr _ e0
      have q2 : p2 < wr.heap.size := World.block_lt_of_cell? wr _ f0
      go_wp2_with fail
      go_region_held3 (fun w' => w'.cell? ⟨p1, o1 + j * 3, none⟩ = some v0 ∧ w'.cell? ⟨p1, o1 + j * 3 + 1, none⟩ = some v1 ∧ w'.cell? ⟨p1, o1 + j * 3 + 2, none⟩ = some v2 ∧ w'.cell? ⟨p2, o2 + j * 3, none⟩ = some u0 ∧ w'.cell? ⟨p2, o2 + j * 3 + 1, none⟩ = some u1 ∧ w'.cell? ⟨p2, o2 + j * 3 + 2, none⟩ = some u2)
        (first | (with_reducible exact K2.out) | go_keep)
        (first
        | (go_at_call 44
           refine (dEqCol [v0, v1, v2] [u0, u1, u2] [c0, c1, c2] _ (HA0.out.on (hb.drew) (Nat.le_refl _)) (HB0.out.on (hb.drew) (Nat.le_refl _)) HL0.out).mono ?_
           rintro e w2 ⟨rfl, hb2⟩
           have hb2' : Below wr.heap.size wr w2 := (Below.refl _ wr).drew.trans hb2
           have K2 : Hid (w2.cell? ⟨p1, o1 + j * 3, none⟩ = some v0 ∧ w2.cell? ⟨p1, o1 + j * 3 + 1, none⟩ = some v1 ∧ w2.cell? ⟨p1, o1 + j * 3 + 2, none⟩ = some v2 ∧ w2.cell? ⟨p2, o2 + j * 3, none⟩ = some u0 ∧ w2.cell? ⟨p2, o2 + j * 3 + 1, none⟩ = some u1 ∧ w2.cell? ⟨p2, o2 + j * 3 + 2, none⟩ = some u2) := ⟨(hb2'.cell (show p1 < _ from q1)).trans e0, (hb2'.cell (show p1 < _ from q1)).trans e1, (hb2'.cell (show p1 < _ from q1)).trans e2, (hb2'.cell (show p2 < _ from q2)).trans f0, (hb2'.cell (show p2 < _ from q2)).trans f1, (hb2'.cell (show p2 < _ from q2)).trans f2⟩
           have hb02 : Below w.heap.size w w2 := hb.trans (hb2'.mono hb.size)
           clear hb2 hb2'))
      clear e0 f0 e1 f1 e2 f2 K2
      go_wp2
      exact ⟨⟨j + 1, by omega, by go_num, hb02⟩, by simp [intOf]; omega⟩
    · obtain rfl : j = n := by omega
      go_wp2
      go_ret
      exact ⟨rfl, hb⟩
theorem dEqIndex (vs us : List Value) (cs : List Cel) (w : World) (h : AtL false w vs cs) (h' : AtL false w us cs) (hs : HasL cs tyIndex) : Calls Try.prog 45 #[.agg vs.toArray, .agg us.toArray] w (Yes w) := by
  obtain ⟨c0, r0, rfl, T0, hH0⟩ := hs.cons
  obtain ⟨c1, r1, rfl, T1, hH1⟩ := hH0.cons
  obtain ⟨c2, r2, rfl, T2, hH2⟩ := hH1.cons
  obtain rfl := hH2.nil
  obtain ⟨v0, vr0, rfl, A0, hA0⟩ := h.consE
  obtain ⟨v1, vr1, rfl, A1, hA1⟩ := hA0.consE
  obtain ⟨v2, vr2, rfl, A2, hA2⟩ := hA1.consE
  obtain rfl := hA2.nilE
  obtain ⟨u0, ur0, rfl, B0, hB0⟩ := h'.consE
  obtain ⟨u1, ur1, rfl, B1, hB1⟩ := hB0.consE
  obtain ⟨u2, ur2, rfl, B2, hB2⟩ := hB1.consE
  obtain rfl := hB2.nilE
  obtain ⟨x0, rfl⟩ := T0.str
  obtain rfl := A0.str
  obtain rfl := B0.str
  obtain ⟨n1, cs1, rfl, -⟩ := T1.list
  have HT1 : Hid (Has (.l 3 1 n1 cs1) (.l 3 1 [.i])) := T1
  obtain ⟨p1, d1, rfl⟩ := A1.slice
  obtain ⟨q1, e1, rfl⟩ := B1.slice
  have hA1' : Hid (At false w (.slice p1 n1 d1) (.l 3 1 n1 cs1)) := A1
  have hB1' : Hid (At false w (.slice q1 n1 e1) (.l 3 1 n1 cs1)) := B1
  obtain ⟨x2, rfl⟩ := T2.bool
  obtain rfl := A2.bool
  obtain rfl := B2.bool
  have ne2 : (x2 != x2) = false := by simp
  clear hs h h' hA0 hB0 hH0 T0 A0 B0 hA1 hB1 hH1 T1 A1 B1 hA2 hB2 hH2 T2 A2 B2
  obtain ⟨W, hW⟩ : ∃ W, (w.alloc (.cells #[.string x0, .slice p1 n1 d1, .bool x2] 75)).alloc (.cells #[.string x0, .slice q1 n1 e1, .bool x2] 75) = W := ⟨_, rfl⟩
  have t0 : Hid (Two w W #[.string x0, .slice p1 n1 d1, .bool x2] #[.string x0, .slice q1 n1 e1, .bool x2] 75) := by rw [← hW]; exact two_new w _ _ _
  have HW : Hid _ := hW
  clear hW
  go_enter Try.func45, Try.ntmps45
  go_upto_region 1 with (fail)
  rw [HW.out]
  have ax0 : W.cell? ⟨w.heap.size, 0, none⟩ = some (.string x0) := t0.out.a.cell 0
  have bx0 : W.cell? ⟨w.heap.size + 1, 0, none⟩ = some (.string x0) := t0.out.b.cell 0
  have ax1 : W.cell? ⟨w.heap.size, 1, none⟩ = some (.slice p1 n1 d1) := t0.out.a.cell 1
  have bx1 : W.cell? ⟨w.heap.size + 1, 1, none⟩ = some (.slice q1 n1 e1) := t0.out.b.cell 1
  have ax2 : W.cell? ⟨w.heap.size, 2, none⟩ = some (.bool x2) := t0.out.a.cell 2
  have bx2 : W.cell? ⟨w.heap.size + 1, 2, none⟩ = some (.bool x2) := t0.out.b.cell 2
  go_wp2_with fail
  refine (dEqIntS _ _ n1 cs1 _ (hA1'.out.on t0.out.on (Nat.le_refl _)) (hB1'.out.on t0.out.on (Nat.le_refl _)) HT1.out).mono ?_
  rintro e w1 ⟨rfl, hb⟩
  have t1 : Hid (Two w w1 #[.string x0, .slice p1 n1 d1, .bool x2] #[.string x0, .slice q1 n1 e1, .bool x2] 75) := t0.out.call hb
  clear hb ax0 bx0 ax1 bx1 ax2 bx2
  have ax0 : w1.cell? ⟨w.heap.size, 0, none⟩ = some (.string x0) := t1.out.a.cell 0
  have bx0 : w1.cell? ⟨w.heap.size + 1, 0, none⟩ = some (.string x0) := t1.out.b.cell 0
  have ax1 : w1.cell? ⟨w.heap.size, 1, none⟩ = some (.slice p1 n1 d1) := t1.out.a.cell 1
  have bx1 : w1.cell? ⟨w.heap.size + 1, 1, none⟩ = some (.slice q1 n1 e1) := t1.out.b.cell 1
  have ax2 : w1.cell? ⟨w.heap.size, 2, none⟩ = some (.bool x2) := t1.out.a.cell 2
  have bx2 : w1.cell? ⟨w.heap.size + 1, 2, none⟩ = some (.bool x2) := t1.out.b.cell 2
  go_wp2
  go_ret
  exact ⟨rfl, t1.out.on⟩
theorem dEqIndexS (v u : Value) (n : Nat) (cs : List Cel) (w : World) (h : At false w v (.l 75 3 n cs)) (h' : At false w u (.l 75 3 n cs)) (hs : Has (.l 75 3 n cs) (.l 75 3 tyIndex)) :
    Calls Try.prog 31 #[v, u] w (Yes w) := by
  obtain ⟨a, c, vs, rfl, h1, h2, hn, -, h3, h4⟩ := h.openL
  have SRC : Hid (n = 0 ∨ ∃ b o, a = some ⟨b, o, none⟩ ∧ ∀ j, j < n * 3 → w.cell? ⟨b, o + j, none⟩ = vs[j]?) := h3
  have HV : Hid (∀ j, j < n → AtL false w ((vs.drop (j * 3)).take 3) (row cs 3 j)) := fun j hj => rowVals h1 h2 h4 hj
  have Lvs : Hid (vs.length = n * 3) := h1
  clear h1 h2 h3 h4 hn
  obtain ⟨a', c', us, rfl, h1, h2, hn, -, h3, h4⟩ := h'.openL
  have SRD : Hid (n = 0 ∨ ∃ b o, a' = some ⟨b, o, none⟩ ∧ ∀ j, j < n * 3 → w.cell? ⟨b, o + j, none⟩ = us[j]?) := h3
  have HU : Hid (∀ j, j < n → AtL false w ((us.drop (j * 3)).take 3) (row cs 3 j)) := fun j hj => rowVals h1 h2 h4 hj
  have Lus : Hid (us.length = n * 3) := h1
  clear h1 h2 h3 h4 
  have HR : Hid (∀ j, j < n → HasL (row cs 3 j) tyIndex) := fun j hj => hs.rowL hj
  clear h h' hs
  go_enter Try.func31, Try.ntmps31
  go_wp2
  go_loopw [5] (fun i wr => ∃ j : Nat, j ≤ n ∧ i = .int .i64 j ∧ Below w.heap.size w wr) (fun i _ => n - (intOf i).toNat)
  case atStart => exact ⟨0, Nat.zero_le _, rfl, Below.refl _ _⟩
  case round =>
    obtain ⟨j, hj, rfl, hb⟩ := hrel
    by_cases hlt : j < n
    · have hk0 : (0 : Int) ≤ (j : Int) := by omega
      have hk1 : (j : Int) < (n : Int) := by omega
      have hle : j * 3 + 3 ≤ n * 3 := by omega
      have hH := HR.out j hlt
      obtain ⟨rs, hrs⟩ : ∃ rs, row cs 3 j = rs := ⟨_, rfl⟩
      rw [hrs] at hH
      rcases SRC.out with h0 | ⟨p1, o1, rfl, g1⟩
      · omega
      have hA := HV.out j hlt
      have ce : ∀ i, i < 3 → wr.cell? ⟨p1, o1 + (j * 3 + i), none⟩ = ((vs.drop (j * 3)).take 3)[i]? := fun i hi => by
        have h5 := g1 (j * 3 + i) (by omega)
        rw [List.getElem?_take_of_lt hi, List.getElem?_drop, ← h5]
        have h6 : w.cell? ⟨p1, o1 + (j * 3 + i), none⟩ = some (vs[j * 3 + i]'(by have := Lvs.out; omega)) := by rw [h5, List.getElem?_eq_getElem (by have := Lvs.out; omega)]
        exact hb.cell (show p1 < w.heap.size from World.block_lt_of_cell? w _ h6)
      obtain ⟨ws, hws⟩ : ∃ ws, (vs.drop (j * 3)).take 3 = ws := ⟨_, rfl⟩
      rw [hrs] at hA
      rw [hws] at hA ce
      clear g1 hws
      rcases SRD.out with h0 | ⟨p2, o2, rfl, g2⟩
      · omega
      have hB := HU.out j hlt
      have cf : ∀ i, i < 3 → wr.cell? ⟨p2, o2 + (j * 3 + i), none⟩ = ((us.drop (j * 3)).take 3)[i]? := fun i hi => by
        have h5 := g2 (j * 3 + i) (by omega)
        rw [List.getElem?_take_of_lt hi, List.getElem?_drop, ← h5]
        have h6 : w.cell? ⟨p2, o2 + (j * 3 + i), none⟩ = some (us[j * 3 + i]'(by have := Lus.out; omega)) := by rw [h5, List.getElem?_eq_getElem (by have := Lus.out; omega)]
        exact hb.cell (show p2 < w.heap.size from World.block_lt_of_cell? w _ h6)
      obtain ⟨ws', hws⟩ : ∃ ws, (us.drop (j * 3)).take 3 = ws := ⟨_, rfl⟩
      rw [hrs] at hB
      rw [hws] at hB cf
      clear g2 hws
      obtain ⟨c0, r0, rfl, T0, hH0⟩ := hH.cons
      obtain ⟨c1, r1, rfl, T1, hH1⟩ := hH0.cons
      obtain ⟨c2, r2, rfl, T2, hH2⟩ := hH1.cons
      obtain rfl := hH2.nil
      have HL0 : Hid (HasL [c0, c1, c2] tyIndex) := hH
      obtain ⟨v0, vr0, rfl, A0, hA0⟩ := hA.consE
      obtain ⟨v1, vr1, rfl, A1, hA1⟩ := hA0.consE
      obtain ⟨v2, vr2, rfl, A2, hA2⟩ := hA1.consE
      obtain rfl := hA2.nilE
      obtain ⟨u0, ur0, rfl, B0, hB0⟩ := hB.consE
      obtain ⟨u1, ur1, rfl, B1, hB1⟩ := hB0.consE
      obtain ⟨u2, ur2, rfl, B2, hB2⟩ := hB1.consE
      obtain rfl := hB2.nilE
      have HA0 : Hid (AtL false w [v0, v1, v2] [c0, c1, c2]) := hA
      have HB0 : Hid (AtL false w [u0, u1, u2] [c0, c1, c2]) := hB
      have e0 : wr.cell? ⟨p1, o1 + j * 3, none⟩ = some v0 := ce 0 (by omega)
      have f0 : wr.cell? ⟨p2, o2 + j * 3, none⟩ = some u0 := cf 0 (by omega)
      have e1 : wr.cell? ⟨p1, o1 + j * 3 + 1, none⟩ = some v1 := ce 1 (by omega)
      have f1 : wr.cell? ⟨p2, o2 + j * 3 + 1, none⟩ = some u1 := cf 1 (by omega)
      have e2 : wr.cell? ⟨p1, o1 + j * 3 + 2, none⟩ = some v2 := ce 2 (by omega)
      have f2 : wr.cell? ⟨p2, o2 + j * 3 + 2, none⟩ = some u2 := cf 2 (by omega)
      clear ce cf hrs hA0 hB0 hH0 hA1 hB1 hH1 hA2 hB2 hH2 T0 A0 B0 T1 A1 B1 T2 A2 B2 hA hB hH
      have q1 : p1 < wr.heap.size := World.block_lt_of_cell? wr _ e0
      have q2 : p2 < wr.heap.size := World.block_lt_of_cell? wr _ f0
      go_wp2_with fail
      go_region_held3 (fun w' => w'.cell? ⟨p1, o1 + j * 3, none⟩ = some v0 ∧ w'.cell? ⟨p1, o1 + j * 3 + 1, none⟩ = some v1 ∧ w'.cell? ⟨p1, o1 + j * 3 + 2, none⟩ = some v2 ∧ w'.cell? ⟨p2, o2 + j * 3, none⟩ = some u0 ∧ w'.cell? ⟨p2, o2 + j * 3 + 1, none⟩ = some u1 ∧ w'.cell? ⟨p2, o2 + j * 3 + 2, none⟩ = some u2)
        (first | (with_reducible exact K2.out) | go_keep)
        (first
        | (go_at_call 45
           refine (dEqIndex [v0, v1, v2] [u0, u1, u2] [c0, c1, c2] _ (HA0.out.on (hb.drew) (Nat.le_refl _)) (HB0.out.on (hb.drew) (Nat.le_refl _)) HL0.out).mono ?_
           rintro e w2 ⟨rfl, hb2⟩
           have hb2' : Below wr.heap.size wr w2 := (Below.refl _ wr).drew.trans hb2
           have K2 : Hid (w2.cell? ⟨p1, o1 + j * 3, none⟩ = some v0 ∧ w2.cell? ⟨p1, o1 + j * 3 + 1, none⟩ = some v1 ∧ w2.cell? ⟨p1, o1 + j * 3 + 2, none⟩ = some v2 ∧ w2.cell? ⟨p2, o2 + j * 3, none⟩ = some u0 ∧ w2.cell? ⟨p2, o2 + j * 3 + 1, none⟩ = some u1 ∧ w2.cell? ⟨p2, o2 + j * 3 + 2, none⟩ = some u2) := ⟨(hb2'.cell (show p1 < _ from q1)).trans e0, (hb2'.cell (show p1 < _ from q1)).trans e1, (hb2'.cell (show p1 < _ from q1)).trans e2, (hb2'.cell (show p2 < _ from q2)).trans f0, (hb2'.cell (show p2 < _ from q2)).trans f1, (hb2'.cell (show p2 < _ from q2)).trans f2⟩
           have hb02 : Below w.heap.size w w2 := hb.trans (hb2'.mono hb.size)
           clear hb2 hb2'))
      clear e0 f0 e1 f1 e2 f2 K2
      go_wp2
      exact ⟨⟨j + 1, by omega, by go_num, hb02⟩, by simp [intOf]; omega⟩
    · obtain rfl : j = n := by omega
      go_wp2
      go_ret
      exact ⟨rfl, hb⟩
theorem dEqSchema (vs us : List Value) (cs : List Cel) (w : World) (h : AtL false w vs cs) (h' : AtL false w us cs) (hs : HasL cs tySchema) : Calls Try.prog 12 #[.agg vs.toArray, .agg us.toArray] w (Yes w) := by
  obtain ⟨c0, r0, rfl, T0, hH0⟩ := hs.cons
  obtain ⟨c1, r1, rfl, T1, hH1⟩ := hH0.cons
  obtain ⟨c2, r2, rfl, T2, hH2⟩ := hH1.cons
  obtain rfl := hH2.nil
  obtain ⟨v0, vr0, rfl, A0, hA0⟩ := h.consE
  obtain ⟨v1, vr1, rfl, A1, hA1⟩ := hA0.consE
  obtain ⟨v2, vr2, rfl, A2, hA2⟩ := hA1.consE
  obtain rfl := hA2.nilE
  obtain ⟨u0, ur0, rfl, B0, hB0⟩ := h'.consE
  obtain ⟨u1, ur1, rfl, B1, hB1⟩ := hB0.consE
  obtain ⟨u2, ur2, rfl, B2, hB2⟩ := hB1.consE
  obtain rfl := hB2.nilE
  obtain ⟨n0, cs0, rfl, -⟩ := T0.list
  have HT0 : Hid (Has (.l 65 3 n0 cs0) (.l 65 3 tyCol)) := T0
  obtain ⟨p0, d0, rfl⟩ := A0.slice
  obtain ⟨q0, e0, rfl⟩ := B0.slice
  have hA0' : Hid (At false w (.slice p0 n0 d0) (.l 65 3 n0 cs0)) := A0
  have hB0' : Hid (At false w (.slice q0 n0 e0) (.l 65 3 n0 cs0)) := B0
  obtain ⟨n1, cs1, rfl, -⟩ := T1.list
  have HT1 : Hid (Has (.l 3 1 n1 cs1) (.l 3 1 [.i])) := T1
  obtain ⟨p1, d1, rfl⟩ := A1.slice
  obtain ⟨q1, e1, rfl⟩ := B1.slice
  have hA1' : Hid (At false w (.slice p1 n1 d1) (.l 3 1 n1 cs1)) := A1
  have hB1' : Hid (At false w (.slice q1 n1 e1) (.l 3 1 n1 cs1)) := B1
  obtain ⟨n2, cs2, rfl, -⟩ := T2.list
  have HT2 : Hid (Has (.l 75 3 n2 cs2) (.l 75 3 tyIndex)) := T2
  obtain ⟨p2, d2, rfl⟩ := A2.slice
  obtain ⟨q2, e2, rfl⟩ := B2.slice
  have hA2' : Hid (At false w (.slice p2 n2 d2) (.l 75 3 n2 cs2)) := A2
  have hB2' : Hid (At false w (.slice q2 n2 e2) (.l 75 3 n2 cs2)) := B2
  clear hs h h' hA0 hB0 hH0 T0 A0 B0 hA1 hB1 hH1 T1 A1 B1 hA2 hB2 hH2 T2 A2 B2
  obtain ⟨W, hW⟩ : ∃ W, (w.alloc (.cells #[.slice p0 n0 d0, .slice p1 n1 d1, .slice p2 n2 d2] 35)).alloc (.cells #[.slice q0 n0 e0, .slice q1 n1 e1, .slice q2 n2 e2] 35) = W := ⟨_, rfl⟩
  have t0 : Hid (Two w W #[.slice p0 n0 d0, .slice p1 n1 d1, .slice p2 n2 d2] #[.slice q0 n0 e0, .slice q1 n1 e1, .slice q2 n2 e2] 35) := by rw [← hW]; exact two_new w _ _ _
  have HW : Hid _ := hW
  clear hW
  go_enter Try.func12, Try.ntmps12
  go_upto_region 1 with (fail)
  rw [HW.out]
  have ax0 : W.cell? ⟨w.heap.size, 0, none⟩ = some (.slice p0 n0 d0) := t0.out.a.cell 0
  have bx0 : W.cell? ⟨w.heap.size + 1, 0, none⟩ = some (.slice q0 n0 e0) := t0.out.b.cell 0
  have ax1 : W.cell? ⟨w.heap.size, 1, none⟩ = some (.slice p1 n1 d1) := t0.out.a.cell 1
  have bx1 : W.cell? ⟨w.heap.size + 1, 1, none⟩ = some (.slice q1 n1 e1) := t0.out.b.cell 1
  have ax2 : W.cell? ⟨w.heap.size, 2, none⟩ = some (.slice p2 n2 d2) := t0.out.a.cell 2
  have bx2 : W.cell? ⟨w.heap.size + 1, 2, none⟩ = some (.slice q2 n2 e2) := t0.out.b.cell 2
  go_wp2_with fail
  refine (dEqColS _ _ n0 cs0 _ (hA0'.out.on t0.out.on (Nat.le_refl _)) (hB0'.out.on t0.out.on (Nat.le_refl _)) HT0.out).mono ?_
  rintro e w1 ⟨rfl, hb⟩
  have t1 : Hid (Two w w1 #[.slice p0 n0 d0, .slice p1 n1 d1, .slice p2 n2 d2] #[.slice q0 n0 e0, .slice q1 n1 e1, .slice q2 n2 e2] 35) := t0.out.call hb
  clear hb ax0 bx0 ax1 bx1 ax2 bx2
  have ax0 : w1.cell? ⟨w.heap.size, 0, none⟩ = some (.slice p0 n0 d0) := t1.out.a.cell 0
  have bx0 : w1.cell? ⟨w.heap.size + 1, 0, none⟩ = some (.slice q0 n0 e0) := t1.out.b.cell 0
  have ax1 : w1.cell? ⟨w.heap.size, 1, none⟩ = some (.slice p1 n1 d1) := t1.out.a.cell 1
  have bx1 : w1.cell? ⟨w.heap.size + 1, 1, none⟩ = some (.slice q1 n1 e1) := t1.out.b.cell 1
  have ax2 : w1.cell? ⟨w.heap.size, 2, none⟩ = some (.slice p2 n2 d2) := t1.out.a.cell 2
  have bx2 : w1.cell? ⟨w.heap.size + 1, 2, none⟩ = some (.slice q2 n2 e2) := t1.out.b.cell 2
  go_wp2_with fail
  refine (dEqIntS _ _ n1 cs1 _ (hA1'.out.on t1.out.on (Nat.le_refl _)) (hB1'.out.on t1.out.on (Nat.le_refl _)) HT1.out).mono ?_
  rintro e w2 ⟨rfl, hb⟩
  have t2 : Hid (Two w w2 #[.slice p0 n0 d0, .slice p1 n1 d1, .slice p2 n2 d2] #[.slice q0 n0 e0, .slice q1 n1 e1, .slice q2 n2 e2] 35) := t1.out.call hb
  clear hb ax0 bx0 ax1 bx1 ax2 bx2
  have ax0 : w2.cell? ⟨w.heap.size, 0, none⟩ = some (.slice p0 n0 d0) := t2.out.a.cell 0
  have bx0 : w2.cell? ⟨w.heap.size + 1, 0, none⟩ = some (.slice q0 n0 e0) := t2.out.b.cell 0
  have ax1 : w2.cell? ⟨w.heap.size, 1, none⟩ = some (.slice p1 n1 d1) := t2.out.a.cell 1
  have bx1 : w2.cell? ⟨w.heap.size + 1, 1, none⟩ = some (.slice q1 n1 e1) := t2.out.b.cell 1
  have ax2 : w2.cell? ⟨w.heap.size, 2, none⟩ = some (.slice p2 n2 d2) := t2.out.a.cell 2
  have bx2 : w2.cell? ⟨w.heap.size + 1, 2, none⟩ = some (.slice q2 n2 e2) := t2.out.b.cell 2
  go_wp2_with fail
  refine (dEqIndexS _ _ n2 cs2 _ (hA2'.out.on t2.out.on (Nat.le_refl _)) (hB2'.out.on t2.out.on (Nat.le_refl _)) HT2.out).mono ?_
  rintro e w3 ⟨rfl, hb⟩
  have t3 : Hid (Two w w3 #[.slice p0 n0 d0, .slice p1 n1 d1, .slice p2 n2 d2] #[.slice q0 n0 e0, .slice q1 n1 e1, .slice q2 n2 e2] 35) := t2.out.call hb
  clear hb ax0 bx0 ax1 bx1 ax2 bx2
  have ax0 : w3.cell? ⟨w.heap.size, 0, none⟩ = some (.slice p0 n0 d0) := t3.out.a.cell 0
  have bx0 : w3.cell? ⟨w.heap.size + 1, 0, none⟩ = some (.slice q0 n0 e0) := t3.out.b.cell 0
  have ax1 : w3.cell? ⟨w.heap.size, 1, none⟩ = some (.slice p1 n1 d1) := t3.out.a.cell 1
  have bx1 : w3.cell? ⟨w.heap.size + 1, 1, none⟩ = some (.slice q1 n1 e1) := t3.out.b.cell 1
  have ax2 : w3.cell? ⟨w.heap.size, 2, none⟩ = some (.slice p2 n2 d2) := t3.out.a.cell 2
  have bx2 : w3.cell? ⟨w.heap.size + 1, 2, none⟩ = some (.slice q2 n2 e2) := t3.out.b.cell 2
  go_wp2
  go_ret
  exact ⟨rfl, t3.out.on⟩
set_option linter.unusedSimpArgs false

theorem flatCol : Flat Try.prog 69 tyCol := by
  refine Flat.st 69 _ [[.s], [.i], [.b]] Try.underlying69 rfl (by kernel_rfl) ?_ ?_
  · intro i f g hf hg
    have hi : i < 3 := by have := (List.getElem?_eq_some_iff.1 hg).1; simpa using this
    rcases (show i = 0 ∨ i = 1 ∨ i = 2 by omega) with rfl | rfl | rfl <;> (simp at hf hg; subst hf hg)
    · exact ⟨rfl, by kernel_rfl⟩
    · exact ⟨rfl, by kernel_rfl⟩
    · exact ⟨rfl, by kernel_rfl⟩
  · intro i f g hf hg
    have hi : i < 3 := by have := (List.getElem?_eq_some_iff.1 hg).1; simpa using this
    rcases (show i = 0 ∨ i = 1 ∨ i = 2 by omega) with rfl | rfl | rfl <;> (simp at hf hg; subst hf hg)
    · exact Flat.s _ Try.underlying9
    · exact Flat.i _ Try.underlying3
    · exact Flat.b _ Try.underlying4
theorem flatIndex : Flat Try.prog 72 tyIndex := by
  refine Flat.st 72 _ [[.s], [.l 3 1 [.i]], [.b]] Try.underlying72 rfl (by kernel_rfl) ?_ ?_
  · intro i f g hf hg
    have hi : i < 3 := by have := (List.getElem?_eq_some_iff.1 hg).1; simpa using this
    rcases (show i = 0 ∨ i = 1 ∨ i = 2 by omega) with rfl | rfl | rfl <;> (simp at hf hg; subst hf hg)
    · exact ⟨rfl, by kernel_rfl⟩
    · exact ⟨rfl, by kernel_rfl⟩
    · exact ⟨rfl, by kernel_rfl⟩
  · intro i f g hf hg
    have hi : i < 3 := by have := (List.getElem?_eq_some_iff.1 hg).1; simpa using this
    rcases (show i = 0 ∨ i = 1 ∨ i = 2 by omega) with rfl | rfl | rfl <;> (simp at hf hg; subst hf hg)
    · exact Flat.s _ Try.underlying9
    · exact Flat.l _ _ 3 1 _ Try.underlying23 rfl (by decide) (by kernel_rfl) (Flat.i _ Try.underlying3)
    · exact Flat.b _ Try.underlying4
theorem flatSchema : Flat Try.prog 26 tySchema := by
  refine Flat.st 26 _ [[.l 65 3 tyCol], [.l 3 1 [.i]], [.l 75 3 tyIndex]] Try.underlying26 rfl (by kernel_rfl) ?_ ?_
  · intro i f g hf hg
    have hi : i < 3 := by have := (List.getElem?_eq_some_iff.1 hg).1; simpa using this
    rcases (show i = 0 ∨ i = 1 ∨ i = 2 by omega) with rfl | rfl | rfl <;> (simp at hf hg; subst hf hg)
    · exact ⟨rfl, by kernel_rfl⟩
    · exact ⟨rfl, by kernel_rfl⟩
    · exact ⟨rfl, by kernel_rfl⟩
  · intro i f g hf hg
    have hi : i < 3 := by have := (List.getElem?_eq_some_iff.1 hg).1; simpa using this
    rcases (show i = 0 ∨ i = 1 ∨ i = 2 by omega) with rfl | rfl | rfl <;> (simp at hf hg; subst hf hg)
    · exact Flat.l _ _ 65 3 _ Try.underlying22 rfl (by decide) (by kernel_rfl) flatCol
    · exact Flat.l _ _ 3 1 _ Try.underlying23 rfl (by decide) (by kernel_rfl) (Flat.i _ Try.underlying3)
    · exact Flat.l _ _ 75 3 _ Try.underlying24 rfl (by decide) (by kernel_rfl) flatIndex
def txM (k : Int) : ByteArray := ⟨(markS k.toNat).toArray⟩
theorem own_s {w : World} {base : Nat} {y : ByteArray} (v : Value) (Sj : Nat → Prop) (h : Own w base v (.s y) Sj) : ∀ x, ¬ Sj x := by cases h; assumption
theorem Own.putS {w : World} {base : Nat} {g n cap : Nat} {T : TypeId} {k : Nat} {cs : List Cel} {S : Nat → Prop} (h : Own w base (.slice (some ⟨g, 0, none⟩) n cap) (.l T k n cs) S) {j : Nat} {y : ByteArray} (hc : cs[j]? = some (.s y)) (z : ByteArray) :
    Own (w.setCell ⟨g, j, none⟩ (.string z)) base (.slice (some ⟨g, 0, none⟩) n cap) (.l T k n (cs.set j (.s z))) S := h.put hc own_s fun _ _ hS => .s z _ hS
end
end Go.Proofs.Ytmgofehafjogfab
