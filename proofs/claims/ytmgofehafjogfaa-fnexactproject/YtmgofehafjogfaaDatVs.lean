/- The laws' own functions on data. -/
import Derived.Test.YtmgofehafjogfaaDatVd
import Derived.Test.YtmgofehafjogfaaDatI
import Derived.Deep.RegionHeld3
import Derived.Deep.Cut
import Derived.Handy
namespace Go.Proofs.Ytmgofehafjogfaa
open Go.ChangeShapes Go.WideShapes Go.ChangeAt Go.RowKit Go.Joins
set_option linter.unusedSimpArgs false

set_option maxRecDepth 20000 in
set_option maxHeartbeats 2000000 in
theorem dSzValue (vs : List Value) (cs : List Cel) (left : Int) (w : World) (h : InL w vs cs) (hs : HasL cs tyValue) (h0 : 0 ≤ left) (h1 : left ≤ 2097152) : Calls Try.prog 73 #[.agg vs.toArray, .int .i64 left] w (Left w (bigL cs) left) := by
  obtain ⟨c0, r0, rfl, T0, hH0⟩ := hs.cons
  obtain ⟨c1, r1, rfl, T1, hH1⟩ := hH0.cons
  obtain ⟨c2, r2, rfl, T2, hH2⟩ := hH1.cons
  obtain rfl := hH2.nil
  obtain ⟨v0, vr0, rfl, A0, hA0⟩ := h.consE
  obtain ⟨v1, vr1, rfl, A1, hA1⟩ := hA0.consE
  obtain ⟨v2, vr2, rfl, A2, hA2⟩ := hA1.consE
  obtain rfl := hA2.nilE
  obtain ⟨x0, rfl⟩ := T0.int
  obtain rfl := A0.int
  obtain ⟨x1, rfl⟩ := T1.int
  obtain rfl := A1.int
  obtain ⟨x2, rfl⟩ := T2.str
  obtain ⟨rfl, hx2⟩ := A2.strL
  clear hs h hA0 hH0 T0 A0 hA1 hH1 T1 A1 hA2 hH2 T2 A2
  obtain ⟨W, hW⟩ : ∃ W, w.alloc (.cells #[.int .i64 x0, .int .i64 x1, .string x2] 97) = W := ⟨_, rfl⟩
  have t0 : Hid (One w W #[.int .i64 x0, .int .i64 x1, .string x2] 97) := by rw [← hW]; exact one_new w _ _
  have HW : Hid _ := hW
  clear hW
  go_enter Try.func73, Try.ntmps73
  go_upto_region 1 with (fail)
  rw [HW.out]
  have ax0 : W.cell? ⟨w.heap.size, 0, none⟩ = some (.int .i64 x0) := t0.out.a.cell 0
  have ax1 : W.cell? ⟨w.heap.size, 1, none⟩ = some (.int .i64 x1) := t0.out.a.cell 1
  have ax2 : W.cell? ⟨w.heap.size, 2, none⟩ = some (.string x2) := t0.out.a.cell 2
  have gl2 : 0 ≤ left := by omega
  have gu2 : left ≤ 2097152 := by omega
  by_cases hl2 : (x2.size : Int) ≤ left
  rotate_left
  · have h2 : left - (x2.size : Int) < 0 := by omega
    go_wp2
    go_ret
    refine ⟨t0.out.on, .inr ⟨rfl, ?_⟩⟩
    have e : bigL [.i x0, .i x1, .s x2] = x2.size := by simp [bigL, Cel.big]; try omega
    rw [e]
    (try simp only [bigL, Cel.big] at *)
    omega
  have g2' : ¬ (left - (x2.size : Int) < 0) := by omega
  go_wp2
  go_ret
  refine ⟨t0.out.on, .inl ⟨_, rfl, ?_⟩⟩
  have e : bigL [.i x0, .i x1, .s x2] = x2.size := by simp [bigL, Cel.big]; try omega
  rw [e]
  (try simp only [bigL, Cel.big] at *)
  exact ⟨by omega, by first | trivial | rfl | omega⟩
set_option maxRecDepth 20000 in
set_option maxHeartbeats 2000000 in
theorem dSzValueS (v : Value) (n : Nat) (cs : List Cel) (left : Int) (w : World) (h : In w v (.l 43 3 n cs)) (hs : Has (.l 43 3 n cs) (.l 43 3 tyValue)) (h0 : 0 ≤ left) (h1 : left ≤ 2097152) :
    Calls Try.prog 34 #[v, .int .i64 left] w (Left w (n + bigL cs) left) := by
  obtain ⟨a, c, vs, rfl, h2, h3, hn, h4, h5⟩ := h.openL
  have SRC : Hid (n = 0 ∨ ∃ b o, a = some ⟨b, o, none⟩ ∧ ∀ j, j < n * 3 → w.cell? ⟨b, o + j, none⟩ = vs[j]?) := h4
  have HV : Hid (∀ j, j < n → InL w ((vs.drop (j * 3)).take 3) (row cs 3 j)) := fun j hj => rowIn h2 h3 h5 hj
  have HR : Hid (∀ j, j < n → HasL (row cs 3 j) tyValue) := fun j hj => hs.rowL hj
  have L1 : Hid (vs.length = n * 3) := h2
  have L2 : Hid (cs.length = n * 3) := h3
  clear h h2 h3 h4 h5 hs
  by_cases hl : (n : Int) ≤ left
  rotate_left
  · have h2 : left - (n : Int) < 0 := by omega
    go_enter Try.func34, Try.ntmps34
    go_wp2
    go_ret
    exact ⟨Below.refl _ _, .inr ⟨rfl, by omega⟩⟩
  have h2 : ¬ (left - (n : Int) < 0) := by omega
  go_enter Try.func34, Try.ntmps34
  go_wp2
  go_loopw [1, 5] (fun l i wr => ∃ (j : Nat) (r : Int), j ≤ n ∧ l = .int .i64 r ∧ i = .int .i64 (j : Int) ∧ 0 ≤ r ∧ r = left - (n : Int) - (bigL (cs.take (j * 3)) : Int) ∧ Below w.heap.size w wr) (fun _ i _ => n - (intOf i).toNat)
  case atStart => exact ⟨0, left - n, Nat.zero_le _, rfl, rfl, by omega, by simp [bigL], Below.refl _ _⟩
  case round =>
    obtain ⟨j, r, hj, rfl, rfl, hr0, hr1, hb⟩ := hrel
    have HQ : Hid (r = left - (n : Int) - (bigL (cs.take (j * 3)) : Int)) := hr1
    have hr2 : r ≤ 2097152 := by omega
    clear hr1
    by_cases hlt : j < n
    · rcases SRC.out with h0' | ⟨p1, o1, rfl, g1⟩
      · omega
      have hk0 : (0 : Int) ≤ (j : Int) := by omega
      have hk1 : (j : Int) < (n : Int) := by omega
      have hle : j * 3 + 3 ≤ n * 3 := by omega
      have hA := HV.out j hlt
      have hH := HR.out j hlt
      have ce : ∀ i, i < 3 → wr.cell? ⟨p1, o1 + (j * 3 + i), none⟩ = ((vs.drop (j * 3)).take 3)[i]? := fun i hi => by
        have h5 := g1 (j * 3 + i) (by omega)
        rw [List.getElem?_take_of_lt hi, List.getElem?_drop, ← h5]
        have h6 : w.cell? ⟨p1, o1 + (j * 3 + i), none⟩ = some (vs[j * 3 + i]'(by have := L1.out; omega)) := by rw [h5, List.getElem?_eq_getElem (by have := L1.out; omega)]
        exact hb.cell (show p1 < w.heap.size from World.block_lt_of_cell? w _ h6)
      obtain ⟨rs, hrs⟩ : ∃ rs, row cs 3 j = rs := ⟨_, rfl⟩
      obtain ⟨ws, hws⟩ : ∃ ws, (vs.drop (j * 3)).take 3 = ws := ⟨_, rfl⟩
      have HRS : Hid (row cs 3 j = rs) := hrs
      rw [hrs] at hA hH
      rw [hws] at hA ce
      clear g1 hrs hws
      obtain ⟨c0, r0, rfl, T0, hH0⟩ := hH.cons
      obtain ⟨c1, r1, rfl, T1, hH1⟩ := hH0.cons
      obtain ⟨c2, r2, rfl, T2, hH2⟩ := hH1.cons
      obtain rfl := hH2.nil
      have HL0 : Hid (HasL [c0, c1, c2] tyValue) := hH
      obtain ⟨v0, vr0, rfl, A0, hA0⟩ := hA.consE
      obtain ⟨v1, vr1, rfl, A1, hA1⟩ := hA0.consE
      obtain ⟨v2, vr2, rfl, A2, hA2⟩ := hA1.consE
      obtain rfl := hA2.nilE
      have HA0 : Hid (InL w [v0, v1, v2] [c0, c1, c2]) := hA
      have e0 : wr.cell? ⟨p1, o1 + j * 3, none⟩ = some v0 := ce 0 (by omega)
      have e1 : wr.cell? ⟨p1, o1 + j * 3 + 1, none⟩ = some v1 := ce 1 (by omega)
      have e2 : wr.cell? ⟨p1, o1 + j * 3 + 2, none⟩ = some v2 := ce 2 (by omega)
      clear ce hA hH hA0 hH0 T0 A0 hA1 hH1 T1 A1 hA2 hH2 T2 A2
      obtain ⟨m, hm⟩ : ∃ m, bigL [c0, c1, c2] = m := ⟨_, rfl⟩
      have HM : Hid (bigL (cs.take ((j + 1) * 3)) = bigL (cs.take (j * 3)) + m) := by show _ = _; rw [row_split, bigL_append, HRS.out, hm]
      have MON : Hid (bigL (cs.take ((j + 1) * 3)) ≤ bigL cs) := by
        show _ ≤ _
        have := bigL_append (cs.take ((j + 1) * 3)) (cs.drop ((j + 1) * 3))
        rw [List.take_append_drop] at this
        omega
      go_wp2_with fail
      refine (dSzValue [v0, v1, v2] [c0, c1, c2] _ _ (HA0.out.on hb (Nat.le_refl _)) HL0.out hr0 hr2).mono ?_
      rintro e w2 ⟨hb2, hc⟩
      rw [hm] at hc
      have hb02 : Below w.heap.size w w2 := hb.trans (hb2.mono hb.size)
      clear hb2 hm e0 e1 e2
      rcases hc with ⟨r2, rfl, hq1, rfl⟩ | ⟨rfl, hq⟩
      · have g : ¬ r - (m : Int) < 0 := by omega
        go_wp2
        exact ⟨⟨j + 1, r - (m : Int), by omega, rfl, by go_num, by omega, by have h5 := HM.out; have h6 := HQ.out; omega, hb02⟩, by simp [intOf]; omega⟩
      · go_wp2
        go_ret
        exact ⟨hb02, .inr ⟨rfl, by have h5 := HM.out; have h6 := HQ.out; have h7 := MON.out; omega⟩⟩
    · obtain rfl : j = n := by omega
      have HE : Hid (cs.take (j * 3) = cs) := List.take_of_length_le (by have := L2.out; omega)
      go_wp2
      go_ret
      refine ⟨hb, .inl ⟨_, rfl, ?_⟩⟩
      have h6 := HQ.out
      rw [HE.out] at h6
      omega
end Go.Proofs.Ytmgofehafjogfaa
