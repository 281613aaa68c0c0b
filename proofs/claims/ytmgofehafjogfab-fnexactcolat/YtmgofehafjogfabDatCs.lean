/- The laws' own functions on data. -/
import Derived.Test.YtmgofehafjogfabDatCd
import Derived.Test.YtmgofehafjogfabDatI
import Derived.Deep.RegionHeld3
import Derived.Deep.Cut
import Derived.Handy
namespace Go.Proofs.Ytmgofehafjogfab
open Go.ChangeShapes Go.WideShapes Go.ChangeAt Go.RowKit Go.Joins
set_option linter.unusedSimpArgs false

set_option maxRecDepth 20000 in
set_option maxHeartbeats 2000000 in
theorem dSzIntS (v : Value) (n : Nat) (cs : List Cel) (left : Int) (w : World) (h : In w v (.l 3 1 n cs)) (hs : Has (.l 3 1 n cs) (.l 3 1 [.i])) (h0 : 0 ≤ left) (h1 : left ≤ 2097152) :
    Calls Try.prog 19 #[v, .int .i64 left] w (Left w (n + bigL cs) left) := by
  have hz := big_flat hs (by decide)
  obtain ⟨a, c, vs, rfl, -, -, hn, -, -⟩ := h.openL
  have HZ : Hid (n + bigL cs = n) := by show _ = _; omega
  clear hs hz
  by_cases hl : (n : Int) ≤ left
  · have h2 : ¬ (left - (n : Int) < 0) := by omega
    go_enter Try.func19, Try.ntmps19
    go_wp2
    go_ret
    refine ⟨Below.refl _ _, .inl ⟨_, rfl, ?_⟩⟩
    rw [HZ.out]
    exact ⟨hl, rfl⟩
  · have h2 : left - (n : Int) < 0 := by omega
    go_enter Try.func19, Try.ntmps19
    go_wp2
    go_ret
    refine ⟨Below.refl _ _, .inr ⟨rfl, ?_⟩⟩
    rw [HZ.out]
    omega
set_option maxRecDepth 20000 in
set_option maxHeartbeats 2000000 in
theorem dSzCol (vs : List Value) (cs : List Cel) (left : Int) (w : World) (h : InL w vs cs) (hs : HasL cs tyCol) (h0 : 0 ≤ left) (h1 : left ≤ 2097152) : Calls Try.prog 37 #[.agg vs.toArray, .int .i64 left] w (Left w (bigL cs) left) := by
  obtain ⟨c0, r0, rfl, T0, hH0⟩ := hs.cons
  obtain ⟨c1, r1, rfl, T1, hH1⟩ := hH0.cons
  obtain ⟨c2, r2, rfl, T2, hH2⟩ := hH1.cons
  obtain rfl := hH2.nil
  obtain ⟨v0, vr0, rfl, A0, hA0⟩ := h.consE
  obtain ⟨v1, vr1, rfl, A1, hA1⟩ := hA0.consE
  obtain ⟨v2, vr2, rfl, A2, hA2⟩ := hA1.consE
  obtain rfl := hA2.nilE
  obtain ⟨x0, rfl⟩ := T0.str
  obtain ⟨rfl, hx0⟩ := A0.strL
  obtain ⟨x1, rfl⟩ := T1.int
  obtain rfl := A1.int
  obtain ⟨x2, rfl⟩ := T2.bool
  obtain rfl := A2.bool
  clear hs h hA0 hH0 T0 A0 hA1 hH1 T1 A1 hA2 hH2 T2 A2
  obtain ⟨W, hW⟩ : ∃ W, w.alloc (.cells #[.string x0, .int .i64 x1, .bool x2] 69) = W := ⟨_, rfl⟩
  have t0 : Hid (One w W #[.string x0, .int .i64 x1, .bool x2] 69) := by rw [← hW]; exact one_new w _ _
  have HW : Hid _ := hW
  clear hW
  go_enter Try.func37, Try.ntmps37
  go_upto_region 1 with (fail)
  rw [HW.out]
  have ax0 : W.cell? ⟨w.heap.size, 0, none⟩ = some (.string x0) := t0.out.a.cell 0
  have ax1 : W.cell? ⟨w.heap.size, 1, none⟩ = some (.int .i64 x1) := t0.out.a.cell 1
  have ax2 : W.cell? ⟨w.heap.size, 2, none⟩ = some (.bool x2) := t0.out.a.cell 2
  have gl0 : 0 ≤ left := by omega
  have gu0 : left ≤ 2097152 := by omega
  by_cases hl0 : (x0.size : Int) ≤ left
  rotate_left
  · have h2 : left - (x0.size : Int) < 0 := by omega
    go_wp2
    go_ret
    refine ⟨t0.out.on, .inr ⟨rfl, ?_⟩⟩
    have e : bigL [.s x0, .i x1, .b x2] = x0.size := by simp [bigL, Cel.big]; try omega
    rw [e]
    (try simp only [bigL, Cel.big] at *)
    omega
  have g0' : ¬ (left - (x0.size : Int) < 0) := by omega
  go_wp2
  go_ret
  refine ⟨t0.out.on, .inl ⟨_, rfl, ?_⟩⟩
  have e : bigL [.s x0, .i x1, .b x2] = x0.size := by simp [bigL, Cel.big]; try omega
  rw [e]
  (try simp only [bigL, Cel.big] at *)
  exact ⟨by omega, by first | trivial | rfl | omega⟩
set_option maxRecDepth 20000 in
set_option maxHeartbeats 2000000 in
theorem dSzColS (v : Value) (n : Nat) (cs : List Cel) (left : Int) (w : World) (h : In w v (.l 65 3 n cs)) (hs : Has (.l 65 3 n cs) (.l 65 3 tyCol)) (h0 : 0 ≤ left) (h1 : left ≤ 2097152) :
    Calls Try.prog 18 #[v, .int .i64 left] w (Left w (n + bigL cs) left) := by
  obtain ⟨a, c, vs, rfl, h2, h3, hn, h4, h5⟩ := h.openL
  have SRC : Hid (n = 0 ∨ ∃ b o, a = some ⟨b, o, none⟩ ∧ ∀ j, j < n * 3 → w.cell? ⟨b, o + j, none⟩ = vs[j]?) := h4
  have HV : Hid (∀ j, j < n → InL w ((vs.drop (j * 3)).take 3) (row cs 3 j)) := fun j hj => rowIn h2 h3 h5 hj
  have HR : Hid (∀ j, j < n → HasL (row cs 3 j) tyCol) := fun j hj => hs.rowL hj
  have L1 : Hid (vs.length = n * 3) := h2
  have L2 : Hid (cs.length = n * 3) := h3
  clear h h2 h3 h4 h5 hs
  by_cases hl : (n : Int) ≤ left
  rotate_left
  · have h2 : left - (n : Int) < 0 := by omega
    go_enter Try.func18, Try.ntmps18
    go_wp2
    go_ret
    exact ⟨Below.refl _ _, .inr ⟨rfl, by omega⟩⟩
  have h2 : ¬ (left - (n : Int) < 0) := by omega
  go_enter Try.func18, Try.ntmps18
  go_wp2
  go_loopw [1, 5] (fun l i wr => ∃ (j : Nat) (r : Int), j ≤ n ∧ l = .int .i64 r ∧ i = .int .i64 (j : Int) ∧ 0 ≤ r ∧ r = left - (n : Int) - (bigL (cs.take (j * 3)) : Int) ∧ Below w.heap.size w wr) (fun _ i _ => n - (intOf i).toNat)
  case atStart => exact ⟨0, left - n, Nat.zero_le _, rfl, rfl, by omega, by simp [bigL], Below.refl _ _⟩
  case round =>
    obtain ⟨j, r, hj, rfl, rfl, hr0, hr1, hb⟩ := hrel
    have HQ : Hid (r = left - (n : Int) - (bigL (cs.take (j * 3)) : Int)) := hr1
    have hr2 : r ≤ 2097152 := by omega
    clear hr1
    by_cases hlt : j < n
    · rcases SRC.out with h0' | ⟨p1, o1, rfl, g1⟩
      · omega
      have hk0 : (0 : Int) ≤ (j : Int) := by omega
      have hk1 : (j : Int) < (n : Int) := by omega
      have hle : j * 3 + 3 ≤ n * 3 := by omega
      have hA := HV.out j hlt
      have hH := HR.out j hlt
      have ce : ∀ i, i < 3 → wr.cell? ⟨p1, o1 + (j * 3 + i), none⟩ = ((vs.drop (j * 3)).take 3)[i]? := fun i hi => by
        have h5 := g1 (j * 3 + i) (by omega)
        rw [List.getElem?_take_of_lt hi, List.getElem?_drop, ← h5]
        have h6 : w.cell? ⟨p1, o1 + (j * 3 + i), none⟩ = some (vs[j * 3 + i]'(by have := L1.out; omega)) := by rw [h5, List.getElem?_eq_getElem (by have := L1.out; omega)]
        exact hb.cell (show p1 < w.heap.size from World.block_lt_of_cell? w _ h6)
      obtain ⟨rs, hrs⟩ : ∃ rs, row cs 3 j = rs := ⟨_, rfl⟩
      obtain ⟨ws, hws⟩ : ∃ ws, (vs.drop (j * 3)).take 3 = ws := ⟨_, rfl⟩
      have HRS : Hid (row cs 3 j = rs) := hrs
      rw [hrs] at hA hH
      rw [hws] at hA ce
      clear g1 hrs hws
      obtain ⟨c0, r0, rfl, T0, hH0⟩ := hH.cons
      obtain ⟨c1, r1, rfl, T1, hH1⟩ := hH0.cons
      obtain ⟨c2, r2, rfl, T2, hH2⟩ := hH1.cons
      obtain rfl := hH2.nil
      have HL0 : Hid (HasL [c0, c1, c2] tyCol) := hH
      obtain ⟨v0, vr0, rfl, A0, hA0⟩ := hA.consE
      obtain ⟨v1, vr1, rfl, A1, hA1⟩ := hA0.consE
      obtain ⟨v2, vr2, rfl, A2, hA2⟩ := hA1.consE
      obtain rfl := hA2.nilE
      have HA0 : Hid (InL w [v0, v1, v2] [c0, c1, c2]) := hA
      have e0 : wr.cell? ⟨p1, o1 + j * 3, none⟩ = some v0 := ce 0 (by omega)
      have e1 : wr.cell? ⟨p1, o1 + j * 3 + 1, none⟩ = some v1 := ce 1 (by omega)
      have e2 : wr.cell? ⟨p1, o1 + j * 3 + 2, none⟩ = some v2 := ce 2 (by omega)
      clear ce hA hH hA0 hH0 T0 A0 hA1 hH1 T1 A1 hA2 hH2 T2 A2
      obtain ⟨m, hm⟩ : ∃ m, bigL [c0, c1, c2] = m := ⟨_, rfl⟩
      have HM : Hid (bigL (cs.take ((j + 1) * 3)) = bigL (cs.take (j * 3)) + m) := by show _ = _; rw [row_split, bigL_append, HRS.out, hm]
      have MON : Hid (bigL (cs.take ((j + 1) * 3)) ≤ bigL cs) := by
        show _ ≤ _
        have := bigL_append (cs.take ((j + 1) * 3)) (cs.drop ((j + 1) * 3))
        rw [List.take_append_drop] at this
        omega
      go_wp2_with fail
      refine (dSzCol [v0, v1, v2] [c0, c1, c2] _ _ (HA0.out.on hb (Nat.le_refl _)) HL0.out hr0 hr2).mono ?_
      rintro e w2 ⟨hb2, hc⟩
      rw [hm] at hc
      have hb02 : Below w.heap.size w w2 := hb.trans (hb2.mono hb.size)
      clear hb2 hm e0 e1 e2
      rcases hc with ⟨r2, rfl, hq1, rfl⟩ | ⟨rfl, hq⟩
      · have g : ¬ r - (m : Int) < 0 := by omega
        go_wp2
        exact ⟨⟨j + 1, r - (m : Int), by omega, rfl, by go_num, by omega, by have h5 := HM.out; have h6 := HQ.out; omega, hb02⟩, by simp [intOf]; omega⟩
      · go_wp2
        go_ret
        exact ⟨hb02, .inr ⟨rfl, by have h5 := HM.out; have h6 := HQ.out; have h7 := MON.out; omega⟩⟩
    · obtain rfl : j = n := by omega
      have HE : Hid (cs.take (j * 3) = cs) := List.take_of_length_le (by have := L2.out; omega)
      go_wp2
      go_ret
      refine ⟨hb, .inl ⟨_, rfl, ?_⟩⟩
      have h6 := HQ.out
      rw [HE.out] at h6
      omega
set_option maxRecDepth 20000 in
set_option maxHeartbeats 2000000 in
theorem dSzIndex (vs : List Value) (cs : List Cel) (left : Int) (w : World) (h : InL w vs cs) (hs : HasL cs tyIndex) (h0 : 0 ≤ left) (h1 : left ≤ 2097152) : Calls Try.prog 38 #[.agg vs.toArray, .int .i64 left] w (Left w (bigL cs) left) := by
  obtain ⟨c0, r0, rfl, T0, hH0⟩ := hs.cons
  obtain ⟨c1, r1, rfl, T1, hH1⟩ := hH0.cons
  obtain ⟨c2, r2, rfl, T2, hH2⟩ := hH1.cons
  obtain rfl := hH2.nil
  obtain ⟨v0, vr0, rfl, A0, hA0⟩ := h.consE
  obtain ⟨v1, vr1, rfl, A1, hA1⟩ := hA0.consE
  obtain ⟨v2, vr2, rfl, A2, hA2⟩ := hA1.consE
  obtain rfl := hA2.nilE
  obtain ⟨x0, rfl⟩ := T0.str
  obtain ⟨rfl, hx0⟩ := A0.strL
  obtain ⟨n1, cs1, rfl, -⟩ := T1.list
  have HT1 : Hid (Has (.l 3 1 n1 cs1) (.l 3 1 [.i])) := T1
  have hA1' : Hid (In w v1 (.l 3 1 n1 cs1)) := A1
  obtain ⟨x2, rfl⟩ := T2.bool
  obtain rfl := A2.bool
  clear hs h hA0 hH0 T0 A0 hA1 hH1 T1 A1 hA2 hH2 T2 A2
  obtain ⟨W, hW⟩ : ∃ W, w.alloc (.cells #[.string x0, v1, .bool x2] 72) = W := ⟨_, rfl⟩
  have t0 : Hid (One w W #[.string x0, v1, .bool x2] 72) := by rw [← hW]; exact one_new w _ _
  have HW : Hid _ := hW
  clear hW
  go_enter Try.func38, Try.ntmps38
  go_upto_region 1 with (fail)
  rw [HW.out]
  have ax0 : W.cell? ⟨w.heap.size, 0, none⟩ = some (.string x0) := t0.out.a.cell 0
  have ax1 : W.cell? ⟨w.heap.size, 1, none⟩ = some (v1) := t0.out.a.cell 1
  have ax2 : W.cell? ⟨w.heap.size, 2, none⟩ = some (.bool x2) := t0.out.a.cell 2
  have gl0 : 0 ≤ left := by omega
  have gu0 : left ≤ 2097152 := by omega
  by_cases hl0 : (x0.size : Int) ≤ left
  rotate_left
  · have h2 : left - (x0.size : Int) < 0 := by omega
    go_wp2
    go_ret
    refine ⟨t0.out.on, .inr ⟨rfl, ?_⟩⟩
    have e : bigL [.s x0, .l 3 1 n1 cs1, .b x2] = x0.size + (n1 + bigL cs1) := by simp [bigL, Cel.big]; try omega
    rw [e]
    (try simp only [bigL, Cel.big] at *)
    omega
  have g0' : ¬ (left - (x0.size : Int) < 0) := by omega
  go_wp2_with fail
  refine (dSzIntS v1 n1 cs1 _ _ (hA1'.out.on t0.out.on (Nat.le_refl _)) HT1.out (by omega) (by omega)).mono ?_
  rintro e w1 ⟨hb, hc⟩
  obtain ⟨m1, hm1⟩ : ∃ m, n1 + bigL cs1 = m := ⟨_, rfl⟩
  rw [hm1] at hc
  have HM1 : Hid (n1 + bigL cs1 = m1) := hm1
  clear hm1
  have t1 : Hid (One w w1 #[.string x0, v1, .bool x2] 72) := t0.out.call hb
  clear hb ax0 ax1 ax2
  have ax0 : w1.cell? ⟨w.heap.size, 0, none⟩ = some (.string x0) := t1.out.a.cell 0
  have ax1 : w1.cell? ⟨w.heap.size, 1, none⟩ = some (v1) := t1.out.a.cell 1
  have ax2 : w1.cell? ⟨w.heap.size, 2, none⟩ = some (.bool x2) := t1.out.a.cell 2
  rcases hc with ⟨r1, rfl, hr1, hq1⟩ | ⟨rfl, hr1⟩
  rotate_left
  · go_wp2
    go_ret
    refine ⟨t1.out.on, .inr ⟨rfl, ?_⟩⟩
    have e : bigL [.s x0, .l 3 1 n1 cs1, .b x2] = (x0.size + (n1 + bigL cs1)) := by simp [bigL, Cel.big]; try omega
    rw [e]
    have e1 := HM1.out
    (try simp only [bigL, Cel.big] at *)
    omega
  have g1 : ¬ r1 < 0 := by omega
  go_wp2
  go_ret
  refine ⟨t1.out.on, .inl ⟨_, rfl, ?_⟩⟩
  have e : bigL [.s x0, .l 3 1 n1 cs1, .b x2] = x0.size + (n1 + bigL cs1) := by simp [bigL, Cel.big]; try omega
  rw [e]
  have e1 := HM1.out
  (try simp only [bigL, Cel.big] at *)
  exact ⟨by omega, by first | trivial | rfl | omega⟩
set_option maxRecDepth 20000 in
set_option maxHeartbeats 2000000 in
theorem dSzIndexS (v : Value) (n : Nat) (cs : List Cel) (left : Int) (w : World) (h : In w v (.l 75 3 n cs)) (hs : Has (.l 75 3 n cs) (.l 75 3 tyIndex)) (h0 : 0 ≤ left) (h1 : left ≤ 2097152) :
    Calls Try.prog 20 #[v, .int .i64 left] w (Left w (n + bigL cs) left) := by
  obtain ⟨a, c, vs, rfl, h2, h3, hn, h4, h5⟩ := h.openL
  have SRC : Hid (n = 0 ∨ ∃ b o, a = some ⟨b, o, none⟩ ∧ ∀ j, j < n * 3 → w.cell? ⟨b, o + j, none⟩ = vs[j]?) := h4
  have HV : Hid (∀ j, j < n → InL w ((vs.drop (j * 3)).take 3) (row cs 3 j)) := fun j hj => rowIn h2 h3 h5 hj
  have HR : Hid (∀ j, j < n → HasL (row cs 3 j) tyIndex) := fun j hj => hs.rowL hj
  have L1 : Hid (vs.length = n * 3) := h2
  have L2 : Hid (cs.length = n * 3) := h3
  clear h h2 h3 h4 h5 hs
  by_cases hl : (n : Int) ≤ left
  rotate_left
  · have h2 : left - (n : Int) < 0 := by omega
    go_enter Try.func20, Try.ntmps20
    go_wp2
    go_ret
    exact ⟨Below.refl _ _, .inr ⟨rfl, by omega⟩⟩
  have h2 : ¬ (left - (n : Int) < 0) := by omega
  go_enter Try.func20, Try.ntmps20
  go_wp2
  go_loopw [1, 5] (fun l i wr => ∃ (j : Nat) (r : Int), j ≤ n ∧ l = .int .i64 r ∧ i = .int .i64 (j : Int) ∧ 0 ≤ r ∧ r = left - (n : Int) - (bigL (cs.take (j * 3)) : Int) ∧ Below w.heap.size w wr) (fun _ i _ => n - (intOf i).toNat)
  case atStart => exact ⟨0, left - n, Nat.zero_le _, rfl, rfl, by omega, by simp [bigL], Below.refl _ _⟩
  case round =>
    obtain ⟨j, r, hj, rfl, rfl, hr0, hr1, hb⟩ := hrel
    have HQ : Hid (r = left - (n : Int) - (bigL (cs.take (j * 3)) : Int)) := hr1
    have hr2 : r ≤ 2097152 := by omega
    clear hr1
    by_cases hlt : j < n
    · rcases SRC.out with h0' | ⟨p1, o1, rfl, g1⟩
      · omega
      have hk0 : (0 : Int) ≤ (j : Int) := by omega
      have hk1 : (j : Int) < (n : Int) := by omega
      have hle : j * 3 + 3 ≤ n * 3 := by omega
      have hA := HV.out j hlt
      have hH := HR.out j hlt
      have ce : ∀ i, i < 3 → wr.cell? ⟨p1, o1 + (j * 3 + i), none⟩ = ((vs.drop (j * 3)).take 3)[i]? := fun i hi => by
        have h5 := g1 (j * 3 + i) (by omega)
        rw [List.getElem?_take_of_lt hi, List.getElem?_drop, ← h5]
        have h6 : w.cell? ⟨p1, o1 + (j * 3 + i), none⟩ = some (vs[j * 3 + i]'(by have := L1.out; omega)) := by rw [h5, List.getElem?_eq_getElem (by have := L1.out; omega)]
        exact hb.cell (show p1 < w.heap.size from World.block_lt_of_cell? w _ h6)
      obtain ⟨rs, hrs⟩ : ∃ rs, row cs 3 j = rs := ⟨_, rfl⟩
      obtain ⟨ws, hws⟩ : ∃ ws, (vs.drop (j * 3)).take 3 = ws := ⟨_, rfl⟩
      have HRS : Hid (row cs 3 j = rs) := hrs
      rw [hrs] at hA hH
      rw [hws] at hA ce
      clear g1 hrs hws
      obtain ⟨c0, r0, rfl, T0, hH0⟩ := hH.cons
      obtain ⟨c1, r1, rfl, T1, hH1⟩ := hH0.cons
      obtain ⟨c2, r2, rfl, T2, hH2⟩ := hH1.cons
      obtain rfl := hH2.nil
      have HL0 : Hid (HasL [c0, c1, c2] tyIndex) := hH
      obtain ⟨v0, vr0, rfl, A0, hA0⟩ := hA.consE
      obtain ⟨v1, vr1, rfl, A1, hA1⟩ := hA0.consE
      obtain ⟨v2, vr2, rfl, A2, hA2⟩ := hA1.consE
      obtain rfl := hA2.nilE
      have HA0 : Hid (InL w [v0, v1, v2] [c0, c1, c2]) := hA
      have e0 : wr.cell? ⟨p1, o1 + j * 3, none⟩ = some v0 := ce 0 (by omega)
      have e1 : wr.cell? ⟨p1, o1 + j * 3 + 1, none⟩ = some v1 := ce 1 (by omega)
      have e2 : wr.cell? ⟨p1, o1 + j * 3 + 2, none⟩ = some v2 := ce 2 (by omega)
      clear ce hA hH hA0 hH0 T0 A0 hA1 hH1 T1 A1 hA2 hH2 T2 A2
      obtain ⟨m, hm⟩ : ∃ m, bigL [c0, c1, c2] = m := ⟨_, rfl⟩
      have HM : Hid (bigL (cs.take ((j + 1) * 3)) = bigL (cs.take (j * 3)) + m) := by show _ = _; rw [row_split, bigL_append, HRS.out, hm]
      have MON : Hid (bigL (cs.take ((j + 1) * 3)) ≤ bigL cs) := by
        show _ ≤ _
        have := bigL_append (cs.take ((j + 1) * 3)) (cs.drop ((j + 1) * 3))
        rw [List.take_append_drop] at this
        omega
      go_wp2_with fail
      refine (dSzIndex [v0, v1, v2] [c0, c1, c2] _ _ (HA0.out.on hb (Nat.le_refl _)) HL0.out hr0 hr2).mono ?_
      rintro e w2 ⟨hb2, hc⟩
      rw [hm] at hc
      have hb02 : Below w.heap.size w w2 := hb.trans (hb2.mono hb.size)
      clear hb2 hm e0 e1 e2
      rcases hc with ⟨r2, rfl, hq1, rfl⟩ | ⟨rfl, hq⟩
      · have g : ¬ r - (m : Int) < 0 := by omega
        go_wp2
        exact ⟨⟨j + 1, r - (m : Int), by omega, rfl, by go_num, by omega, by have h5 := HM.out; have h6 := HQ.out; omega, hb02⟩, by simp [intOf]; omega⟩
      · go_wp2
        go_ret
        exact ⟨hb02, .inr ⟨rfl, by have h5 := HM.out; have h6 := HQ.out; have h7 := MON.out; omega⟩⟩
    · obtain rfl : j = n := by omega
      have HE : Hid (cs.take (j * 3) = cs) := List.take_of_length_le (by have := L2.out; omega)
      go_wp2
      go_ret
      refine ⟨hb, .inl ⟨_, rfl, ?_⟩⟩
      have h6 := HQ.out
      rw [HE.out] at h6
      omega
set_option maxRecDepth 20000 in
set_option maxHeartbeats 2000000 in
theorem dSzSchema (vs : List Value) (cs : List Cel) (left : Int) (w : World) (h : InL w vs cs) (hs : HasL cs tySchema) (h0 : 0 ≤ left) (h1 : left ≤ 2097152) : Calls Try.prog 5 #[.agg vs.toArray, .int .i64 left] w (Left w (bigL cs) left) := by
  obtain ⟨c0, r0, rfl, T0, hH0⟩ := hs.cons
  obtain ⟨c1, r1, rfl, T1, hH1⟩ := hH0.cons
  obtain ⟨c2, r2, rfl, T2, hH2⟩ := hH1.cons
  obtain rfl := hH2.nil
  obtain ⟨v0, vr0, rfl, A0, hA0⟩ := h.consE
  obtain ⟨v1, vr1, rfl, A1, hA1⟩ := hA0.consE
  obtain ⟨v2, vr2, rfl, A2, hA2⟩ := hA1.consE
  obtain rfl := hA2.nilE
  obtain ⟨n0, cs0, rfl, -⟩ := T0.list
  have HT0 : Hid (Has (.l 65 3 n0 cs0) (.l 65 3 tyCol)) := T0
  have hA0' : Hid (In w v0 (.l 65 3 n0 cs0)) := A0
  obtain ⟨n1, cs1, rfl, -⟩ := T1.list
  have HT1 : Hid (Has (.l 3 1 n1 cs1) (.l 3 1 [.i])) := T1
  have hA1' : Hid (In w v1 (.l 3 1 n1 cs1)) := A1
  obtain ⟨n2, cs2, rfl, -⟩ := T2.list
  have HT2 : Hid (Has (.l 75 3 n2 cs2) (.l 75 3 tyIndex)) := T2
  have hA2' : Hid (In w v2 (.l 75 3 n2 cs2)) := A2
  clear hs h hA0 hH0 T0 A0 hA1 hH1 T1 A1 hA2 hH2 T2 A2
  obtain ⟨W, hW⟩ : ∃ W, w.alloc (.cells #[v0, v1, v2] 26) = W := ⟨_, rfl⟩
  have t0 : Hid (One w W #[v0, v1, v2] 26) := by rw [← hW]; exact one_new w _ _
  have HW : Hid _ := hW
  clear hW
  go_enter Try.func5, Try.ntmps5
  go_upto_region 1 with (fail)
  rw [HW.out]
  have ax0 : W.cell? ⟨w.heap.size, 0, none⟩ = some (v0) := t0.out.a.cell 0
  have ax1 : W.cell? ⟨w.heap.size, 1, none⟩ = some (v1) := t0.out.a.cell 1
  have ax2 : W.cell? ⟨w.heap.size, 2, none⟩ = some (v2) := t0.out.a.cell 2
  go_wp2_with fail
  refine (dSzColS v0 n0 cs0 _ _ (hA0'.out.on t0.out.on (Nat.le_refl _)) HT0.out (by omega) (by omega)).mono ?_
  rintro e w1 ⟨hb, hc⟩
  obtain ⟨m1, hm1⟩ : ∃ m, n0 + bigL cs0 = m := ⟨_, rfl⟩
  rw [hm1] at hc
  have HM1 : Hid (n0 + bigL cs0 = m1) := hm1
  clear hm1
  have t1 : Hid (One w w1 #[v0, v1, v2] 26) := t0.out.call hb
  clear hb ax0 ax1 ax2
  have ax0 : w1.cell? ⟨w.heap.size, 0, none⟩ = some (v0) := t1.out.a.cell 0
  have ax1 : w1.cell? ⟨w.heap.size, 1, none⟩ = some (v1) := t1.out.a.cell 1
  have ax2 : w1.cell? ⟨w.heap.size, 2, none⟩ = some (v2) := t1.out.a.cell 2
  rcases hc with ⟨r1, rfl, hr1, hq1⟩ | ⟨rfl, hr1⟩
  rotate_left
  · go_wp2
    go_ret
    refine ⟨t1.out.on, .inr ⟨rfl, ?_⟩⟩
    have e : bigL [.l 65 3 n0 cs0, .l 3 1 n1 cs1, .l 75 3 n2 cs2] = ((n0 + bigL cs0) + (n1 + bigL cs1) + (n2 + bigL cs2)) := by simp [bigL, Cel.big]; try omega
    rw [e]
    have e1 := HM1.out
    (try simp only [bigL, Cel.big] at *)
    omega
  have g1 : ¬ r1 < 0 := by omega
  go_wp2_with fail
  refine (dSzIntS v1 n1 cs1 _ _ (hA1'.out.on t1.out.on (Nat.le_refl _)) HT1.out (by omega) (by omega)).mono ?_
  rintro e w2 ⟨hb, hc⟩
  obtain ⟨m2, hm2⟩ : ∃ m, n1 + bigL cs1 = m := ⟨_, rfl⟩
  rw [hm2] at hc
  have HM2 : Hid (n1 + bigL cs1 = m2) := hm2
  clear hm2
  have t2 : Hid (One w w2 #[v0, v1, v2] 26) := t1.out.call hb
  clear hb ax0 ax1 ax2
  have ax0 : w2.cell? ⟨w.heap.size, 0, none⟩ = some (v0) := t2.out.a.cell 0
  have ax1 : w2.cell? ⟨w.heap.size, 1, none⟩ = some (v1) := t2.out.a.cell 1
  have ax2 : w2.cell? ⟨w.heap.size, 2, none⟩ = some (v2) := t2.out.a.cell 2
  rcases hc with ⟨r2, rfl, hr2, hq2⟩ | ⟨rfl, hr2⟩
  rotate_left
  · go_wp2
    go_ret
    refine ⟨t2.out.on, .inr ⟨rfl, ?_⟩⟩
    have e : bigL [.l 65 3 n0 cs0, .l 3 1 n1 cs1, .l 75 3 n2 cs2] = ((n0 + bigL cs0) + (n1 + bigL cs1) + (n2 + bigL cs2)) := by simp [bigL, Cel.big]; try omega
    rw [e]
    have e1 := HM1.out
    have e2 := HM2.out
    (try simp only [bigL, Cel.big] at *)
    omega
  have g2 : ¬ r2 < 0 := by omega
  go_wp2_with fail
  refine (dSzIndexS v2 n2 cs2 _ _ (hA2'.out.on t2.out.on (Nat.le_refl _)) HT2.out (by omega) (by omega)).mono ?_
  rintro e w3 ⟨hb, hc⟩
  obtain ⟨m3, hm3⟩ : ∃ m, n2 + bigL cs2 = m := ⟨_, rfl⟩
  rw [hm3] at hc
  have HM3 : Hid (n2 + bigL cs2 = m3) := hm3
  clear hm3
  have t3 : Hid (One w w3 #[v0, v1, v2] 26) := t2.out.call hb
  clear hb ax0 ax1 ax2
  have ax0 : w3.cell? ⟨w.heap.size, 0, none⟩ = some (v0) := t3.out.a.cell 0
  have ax1 : w3.cell? ⟨w.heap.size, 1, none⟩ = some (v1) := t3.out.a.cell 1
  have ax2 : w3.cell? ⟨w.heap.size, 2, none⟩ = some (v2) := t3.out.a.cell 2
  rcases hc with ⟨r3, rfl, hr3, hq3⟩ | ⟨rfl, hr3⟩
  rotate_left
  · go_wp2
    go_ret
    refine ⟨t3.out.on, .inr ⟨rfl, ?_⟩⟩
    have e : bigL [.l 65 3 n0 cs0, .l 3 1 n1 cs1, .l 75 3 n2 cs2] = ((n0 + bigL cs0) + (n1 + bigL cs1) + (n2 + bigL cs2)) := by simp [bigL, Cel.big]; try omega
    rw [e]
    have e1 := HM1.out
    have e2 := HM2.out
    have e3 := HM3.out
    (try simp only [bigL, Cel.big] at *)
    omega
  have g3 : ¬ r3 < 0 := by omega
  go_wp2
  go_ret
  refine ⟨t3.out.on, .inl ⟨_, rfl, ?_⟩⟩
  have e : bigL [.l 65 3 n0 cs0, .l 3 1 n1 cs1, .l 75 3 n2 cs2] = (n0 + bigL cs0) + (n1 + bigL cs1) + (n2 + bigL cs2) := by simp [bigL, Cel.big]; try omega
  rw [e]
  have e1 := HM1.out
  have e2 := HM2.out
  have e3 := HM3.out
  (try simp only [bigL, Cel.big] at *)
  omega
end Go.Proofs.Ytmgofehafjogfab
