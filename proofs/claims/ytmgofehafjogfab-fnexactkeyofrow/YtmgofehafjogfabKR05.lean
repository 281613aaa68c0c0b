/- Texts joined: DatCt. -/
import Derived.Test.YtmgofehafjogfabKR02
import Derived.Deep.RegionHeld3
import Derived.Deep.Cut
import Derived.Handy
set_option maxHeartbeats 2000000
set_option maxRecDepth 100000
namespace Go.Proofs.Ytmgofehafjogfab
section
open Go.ChangeShapes Go.WideShapes Go.ChangeAt Go.RowKit Go.Joins
set_option linter.unusedSimpArgs false

theorem dInfoInt : (Try.prog.info? 3).map (fun i => (i.zero, i.size)) = some (some (.int .i64 0), 1) := by kernel_rfl
theorem dBytesInt : (Try.prog.info? 3).map (fun i => decide (i.bytes ≤ 1024)) = some true := by kernel_rfl
theorem dToIntS (v : Value) (n : Nat) (cs : List Cel) (w : World) (h : At false w v (.l 3 1 n cs)) (hs : Has (.l 3 1 n cs) (.l 3 1 [.i])) :
    Calls Try.prog 24 #[v] w (Ret w (.l 3 1 n cs)) := by
  obtain ⟨a, c, vs, rfl, h1, h2, hn, -, h3, h4⟩ := h.openL
  have SRC : Hid (n = 0 ∨ ∃ b o, a = some ⟨b, o, none⟩ ∧ ∀ j, j < n * 1 → w.cell? ⟨b, o + j, none⟩ = vs[j]?) := h3
  have HV : Hid (∀ j, j < n → AtL false w ((vs.drop (j * 1)).take 1) (row cs 1 j)) := fun j hj => rowVals h1 h2 h4 hj
  have HR : Hid (∀ j, j < n → HasL (row cs 1 j) [.i]) := fun j hj => hs.rowL hj
  have L2 : Hid (cs.length = n * 1) := h2
  have L1 : Hid (vs.length = n * 1) := h1
  obtain ⟨i0, hi, hz⟩ := Option.map_eq_some_iff.1 dInfoInt
  obtain ⟨i1, hi', hb1⟩ := Option.map_eq_some_iff.1 dBytesInt
  obtain rfl : i0 = i1 := Option.some.inj (hi.symm.trans hi')
  have hz0 : i0.zero = some (.int .i64 0) := congrArg Prod.fst hz
  have hz1 : i0.size = 1 := congrArg Prod.snd hz
  have hz2 : i0.bytes ≤ 1024 := of_decide_eq_true hb1
  have hby : i0.bytes * n ≤ 1024 * 2097152 := Nat.mul_le_mul hz2 hn
  clear h h1 h2 h3 h4 hs hz hb1 hi'
  go_enter Try.func24, Try.ntmps24
  go_wp2_with (at_make; refine wpList_make_full _ rfl _ _ 23 rfl w.heap.size 3 i0 (.int .i64 0) 1 Try.underlying23 hi hz0 hz1 .i64 .i64 _ _ n rfl rfl rfl rfl (by first | omega | (rw [Nat.mul_comm]; omega)) (by unfold maxLen; omega) (Nat.le_refl _) ?_; intro w1 own1 grow1)
  obtain ⟨ps0, lp0, O0⟩ := own_made (zv := [.int .i64 0]) (zc := [.i 0]) own1 hn rfl (fun j v hv => made_at hv (by decide)) (by
    intro i v c hv hc w'
    have hi : i < 1 := by have := (List.getElem?_eq_some_iff.1 hv).1; simpa using this
    rcases (show i = 0 by omega) with rfl <;> (simp at hv hc; subst hv hc)
    · exact .i _ _ (fun _ h => h))
  have hb1 : Below w.heap.size w w1 := (Below.refl _ _).grown grow1 (Nat.le_refl _) (fun k e => by cases e)
  clear own1 grow1
  go_loopw [4] (fun i wr => ∃ j : Nat, j ≤ n ∧ i = .int .i64 (j : Int) ∧ (∃ ps S, ps.length = n * 1 ∧ ps.take (j * 1) = cs.take (j * 1) ∧ Own wr w.heap.size (.slice (some ⟨w.heap.size, 0, none⟩) n n) (.l 3 1 n ps) S) ∧ Below w.heap.size w wr) (fun i _ => n - (intOf i).toNat)
  case atStart => exact ⟨0, Nat.zero_le _, by simp, ⟨ps0, _, lp0, by simp, O0⟩, hb1⟩
  case round =>
    obtain ⟨j, hj, rfl, ⟨ps, S, lp, tp, ho⟩, hb⟩ := hrel
    clear O0 hb1 lp0
    by_cases hlt : j < n
    · rcases SRC.out with h0 | ⟨p1, o1, rfl, g1⟩
      · omega
      have hk0 : (0 : Int) ≤ (j : Int) := by omega
      have hk1 : (j : Int) < (n : Int) := by omega
      have hA := HV.out j hlt
      have hH := HR.out j hlt
      have hcv : ∀ i, i < 1 → wr.cell? ⟨p1, o1 + (j * 1 + i), none⟩ = ((vs.drop (j * 1)).take 1)[i]? := fun i hi => by
        have hle : j * 1 + 1 ≤ n * 1 := by omega
        have h5 := g1 (j * 1 + i) (by omega)
        rw [List.getElem?_take_of_lt hi, List.getElem?_drop, ← h5]
        have h6 : w.cell? ⟨p1, o1 + (j * 1 + i), none⟩ = some (vs[j * 1 + i]'(by have := L1.out; omega)) := by rw [h5, List.getElem?_eq_getElem (by have := L1.out; omega)]
        exact hb.cell (show p1 < w.heap.size from World.block_lt_of_cell? w _ h6)
      obtain ⟨rs, hrs⟩ : ∃ rs, row cs 1 j = rs := ⟨_, rfl⟩
      obtain ⟨ws, hws⟩ : ∃ ws, (vs.drop (j * 1)).take 1 = ws := ⟨_, rfl⟩
      have HRS : Hid (row cs 1 j = rs) := hrs
      rw [hrs] at hA hH
      rw [hws] at hA hcv
      clear g1 hrs hws
      obtain ⟨c0, r0, rfl, T0, hH0⟩ := hH.cons
      obtain rfl := hH0.nil
      have HL0 : Hid (HasL [c0] [.i]) := hH
      obtain ⟨v0, vr0, rfl, A0, hA0⟩ := hA.consE
      obtain rfl := hA0.nilE
      have HA0 : Hid (AtL false w [v0] [c0]) := hA
      have e0 : wr.cell? ⟨p1, o1 + j * 1, none⟩ = some v0 := hcv 0 (by omega)
      clear hcv hA hH hA0 hH0
      have HO : Hid (Own wr w.heap.size (.slice (some ⟨w.heap.size, 0, none⟩) n n) (.l 3 1 n ps) S) := ho
      clear ho
      obtain ⟨x0, rfl⟩ := T0.int
      obtain rfl := A0.int
      obtain ⟨pv, Sj, hc, hf, -⟩ := HO.out.cell (j := j * 1) (List.getElem?_eq_getElem (by omega))
      simp only [Nat.mul_one] at e0 hc hf
      have HRS' : Hid (row cs 1 j = [.i x0]) := HRS.out
      go_wp2
      go_roundw
      case rel =>
        obtain ⟨S'', o'', -⟩ := Own.storeL (us := [.int .i64 x0]) (rs := [.i x0]) (p := j * 1) HO.out (OwnL.cons (S0 := fun _ => False) (S := fun _ => False) (S' := fun _ => False) (.i x0 _ (fun _ h => h)) (OwnL.nil (fun _ h => h)) (fun _ h => h.elim) (fun _ => by simp)) (fun _ h => h.elim) (by simp; omega)
        have hle : j * 1 + 1 ≤ n * 1 := by omega
        refine ⟨j + 1, by omega, by go_num, ⟨_, S'', ?_, ?_, by simpa [stores] using o''⟩, by simpa [stores] using stores_below (Nat.le_refl _) [.int .i64 x0] wr (j * 1) hb⟩
        · rw [over_len]; exact lp
        · have h3 := over_take [.i x0] ps (j * 1) (by simp; omega)
          rw [row_split (cs := cs), HRS'.out, ← tp, show (j + 1) * 1 = j * 1 + ([.i x0] : List Cel).length by simp]
          simpa using h3
      case measure => simp [intOf]; omega
    · obtain rfl : j = n := by omega
      have e : ps = cs := by rwa [List.take_of_length_le (by omega), List.take_of_length_le (by have := L2.out; omega)] at tp
      subst e
      go_wp2
      go_ret
      exact ⟨hb, _, S, rfl, ho⟩
theorem dInfoCol : (Try.prog.info? 65).map (fun i => (i.zero, i.size)) = some (some (.agg #[.string ⟨#[]⟩, .int .i64 0, .bool false]), 3) := by kernel_rfl
theorem dBytesCol : (Try.prog.info? 65).map (fun i => decide (i.bytes ≤ 1024)) = some true := by kernel_rfl
theorem dToCol (vs : List Value) (cs : List Cel) (w : World) (h : AtL false w vs cs) (hs : HasL cs tyCol) : Calls Try.prog 40 #[.agg vs.toArray] w (RetL w cs) := by
  obtain ⟨c0, r0, rfl, T0, hH0⟩ := hs.cons
  obtain ⟨c1, r1, rfl, T1, hH1⟩ := hH0.cons
  obtain ⟨c2, r2, rfl, T2, hH2⟩ := hH1.cons
  obtain rfl := hH2.nil
  obtain ⟨x0, rfl⟩ := T0.str
  obtain ⟨x1, rfl⟩ := T1.int
  obtain ⟨x2, rfl⟩ := T2.bool
  obtain ⟨v0, vr0, rfl, A0, hA0⟩ := h.consE
  obtain ⟨v1, vr1, rfl, A1, hA1⟩ := hA0.consE
  obtain ⟨v2, vr2, rfl, A2, hA2⟩ := hA1.consE
  obtain rfl := hA2.nilE
  obtain rfl := A0.str
  obtain rfl := A1.int
  obtain rfl := A2.bool
  obtain ⟨R, hR⟩ : ∃ R, Value.agg #[.string x0, .int .i64 x1, .bool x2] = R := ⟨_, rfl⟩
  have HR : Hid (Value.agg #[.string x0, .int .i64 x1, .bool x2] = R) := hR
  clear hR
  go_enter Try.func40, Try.ntmps40
  go_wp2
  (try simp only [Exit.inBlock, Exit.then])
  refine bodyPost_ret (by simp [results, Try.results40, go_sem]; try rfl) rfl ?_
  exact ⟨(((Below.refl _ _).alloc (Nat.le_refl _) _).alloc (by simp) _).alloc (by simp; omega) _, [.string x0, .int .i64 x1, .bool x2], fun _ => False, rfl, OwnL.cons (S0 := fun _ => False) (S := fun _ => False) (.s x0 _ (fun _ h => h)) (OwnL.cons (S0 := fun _ => False) (S := fun _ => False) (.i x1 _ (fun _ h => h)) (OwnL.cons (S0 := fun _ => False) (S := fun _ => False) (.b x2 _ (fun _ h => h)) (OwnL.nil (fun _ h => h)) (fun _ h => h.elim) (fun _ => by simp)) (fun _ h => h.elim) (fun _ => by simp)) (fun _ h => h.elim) (fun _ => by simp)⟩
theorem dToColS (v : Value) (n : Nat) (cs : List Cel) (w : World) (h : At false w v (.l 65 3 n cs)) (hs : Has (.l 65 3 n cs) (.l 65 3 tyCol)) :
    Calls Try.prog 23 #[v] w (Ret w (.l 65 3 n cs)) := by
  obtain ⟨a, c, vs, rfl, h1, h2, hn, -, h3, h4⟩ := h.openL
  have SRC : Hid (n = 0 ∨ ∃ b o, a = some ⟨b, o, none⟩ ∧ ∀ j, j < n * 3 → w.cell? ⟨b, o + j, none⟩ = vs[j]?) := h3
  have HV : Hid (∀ j, j < n → AtL false w ((vs.drop (j * 3)).take 3) (row cs 3 j)) := fun j hj => rowVals h1 h2 h4 hj
  have HR : Hid (∀ j, j < n → HasL (row cs 3 j) tyCol) := fun j hj => hs.rowL hj
  have L2 : Hid (cs.length = n * 3) := h2
  have L1 : Hid (vs.length = n * 3) := h1
  obtain ⟨i0, hi, hz⟩ := Option.map_eq_some_iff.1 dInfoCol
  obtain ⟨i1, hi', hb1⟩ := Option.map_eq_some_iff.1 dBytesCol
  obtain rfl : i0 = i1 := Option.some.inj (hi.symm.trans hi')
  have hz0 : i0.zero = some (.agg #[.string ⟨#[]⟩, .int .i64 0, .bool false]) := congrArg Prod.fst hz
  have hz1 : i0.size = 3 := congrArg Prod.snd hz
  have hz2 : i0.bytes ≤ 1024 := of_decide_eq_true hb1
  have hby : i0.bytes * n ≤ 1024 * 2097152 := Nat.mul_le_mul hz2 hn
  clear h h1 h2 h3 h4 hs hz hb1 hi'
  go_enter Try.func23, Try.ntmps23
  go_wp2_with (at_make; refine wpList_make_full _ rfl _ _ 32 rfl w.heap.size 65 i0 (.agg #[.string ⟨#[]⟩, .int .i64 0, .bool false]) 3 Try.underlying32 hi hz0 hz1 .i64 .i64 _ _ n rfl rfl rfl rfl (by first | omega | (rw [Nat.mul_comm]; omega)) (by unfold maxLen; omega) (Nat.le_refl _) ?_; intro w1 own1 grow1)
  obtain ⟨ps0, lp0, O0⟩ := own_made (zv := [.string ⟨#[]⟩, .int .i64 0, .bool false]) (zc := [.s ⟨#[]⟩, .i 0, .b false]) own1 hn rfl (fun j v hv => made_at hv (by decide)) (by
    intro i v c hv hc w'
    have hi : i < 3 := by have := (List.getElem?_eq_some_iff.1 hv).1; simpa using this
    rcases (show i = 0 ∨ i = 1 ∨ i = 2 by omega) with rfl | rfl | rfl <;> (simp at hv hc; subst hv hc)
    · exact .s _ _ (fun _ h => h)
    · exact .i _ _ (fun _ h => h)
    · exact .b _ _ (fun _ h => h))
  have hb1 : Below w.heap.size w w1 := (Below.refl _ _).grown grow1 (Nat.le_refl _) (fun k e => by cases e)
  clear own1 grow1
  go_loopw [4] (fun i wr => ∃ j : Nat, j ≤ n ∧ i = .int .i64 (j : Int) ∧ (∃ ps S, ps.length = n * 3 ∧ ps.take (j * 3) = cs.take (j * 3) ∧ Own wr w.heap.size (.slice (some ⟨w.heap.size, 0, none⟩) n n) (.l 65 3 n ps) S) ∧ Below w.heap.size w wr) (fun i _ => n - (intOf i).toNat)
  case atStart => exact ⟨0, Nat.zero_le _, by simp, ⟨ps0, _, lp0, by simp, O0⟩, hb1⟩
  case round =>
    obtain ⟨j, hj, rfl, ⟨ps, S, lp, tp, ho⟩, hb⟩ := hrel
    clear O0 hb1 lp0
    by_cases hlt : j < n
    · rcases SRC.out with h0 | ⟨p1, o1, rfl, g1⟩
      · omega
      have hk0 : (0 : Int) ≤ (j : Int) := by omega
      have hk1 : (j : Int) < (n : Int) := by omega
      have hA := HV.out j hlt
      have hH := HR.out j hlt
      have hcv : ∀ i, i < 3 → wr.cell? ⟨p1, o1 + (j * 3 + i), none⟩ = ((vs.drop (j * 3)).take 3)[i]? := fun i hi => by
        have hle : j * 3 + 3 ≤ n * 3 := by omega
        have h5 := g1 (j * 3 + i) (by omega)
        rw [List.getElem?_take_of_lt hi, List.getElem?_drop, ← h5]
        have h6 : w.cell? ⟨p1, o1 + (j * 3 + i), none⟩ = some (vs[j * 3 + i]'(by have := L1.out; omega)) := by rw [h5, List.getElem?_eq_getElem (by have := L1.out; omega)]
        exact hb.cell (show p1 < w.heap.size from World.block_lt_of_cell? w _ h6)
      obtain ⟨rs, hrs⟩ : ∃ rs, row cs 3 j = rs := ⟨_, rfl⟩
      obtain ⟨ws, hws⟩ : ∃ ws, (vs.drop (j * 3)).take 3 = ws := ⟨_, rfl⟩
      have HRS : Hid (row cs 3 j = rs) := hrs
      rw [hrs] at hA hH
      rw [hws] at hA hcv
      clear g1 hrs hws
      obtain ⟨c0, r0, rfl, T0, hH0⟩ := hH.cons
      obtain ⟨c1, r1, rfl, T1, hH1⟩ := hH0.cons
      obtain ⟨c2, r2, rfl, T2, hH2⟩ := hH1.cons
      obtain rfl := hH2.nil
      have HL0 : Hid (HasL [c0, c1, c2] tyCol) := hH
      obtain ⟨v0, vr0, rfl, A0, hA0⟩ := hA.consE
      obtain ⟨v1, vr1, rfl, A1, hA1⟩ := hA0.consE
      obtain ⟨v2, vr2, rfl, A2, hA2⟩ := hA1.consE
      obtain rfl := hA2.nilE
      have HA0 : Hid (AtL false w [v0, v1, v2] [c0, c1, c2]) := hA
      have e0 : wr.cell? ⟨p1, o1 + j * 3, none⟩ = some v0 := hcv 0 (by omega)
      have e1 : wr.cell? ⟨p1, o1 + j * 3 + 1, none⟩ = some v1 := hcv 1 (by omega)
      have e2 : wr.cell? ⟨p1, o1 + j * 3 + 2, none⟩ = some v2 := hcv 2 (by omega)
      clear hcv hA hH hA0 hH0 hA1 hH1 hA2 hH2
      have HO : Hid (Own wr w.heap.size (.slice (some ⟨w.heap.size, 0, none⟩) n n) (.l 65 3 n ps) S) := ho
      clear ho
      go_wp2_with fail
      refine (dToCol [v0, v1, v2] [c0, c1, c2] _ (HA0.out.on hb (Nat.le_refl _)) HL0.out).mono ?_
      rintro e w2 ⟨hb2, us, S', rfl, oL⟩
      have hU := oL.at
      obtain ⟨u0, ur0, rfl, U0, hA0⟩ := hU.consE
      obtain ⟨u1, ur1, rfl, U1, hA1⟩ := hA0.consE
      obtain ⟨u2, ur2, rfl, U2, hA2⟩ := hA1.consE
      obtain rfl := hA2.nilE
      obtain ⟨x0, rfl⟩ := T0.str
      obtain ⟨x1, rfl⟩ := T1.int
      obtain ⟨x2, rfl⟩ := T2.bool
      obtain rfl := U0.str
      obtain rfl := U1.int
      obtain rfl := U2.bool
      have O2 := HO.out.on hb2 (Nat.le_refl _)
      have hb02 : Below w.heap.size w w2 := hb.trans (hb2.mono hb.size)
      obtain ⟨pv0, -, hc0, hf0, -⟩ := O2.cell (j := j * 3) (List.getElem?_eq_getElem (by omega))
      obtain ⟨pv1, -, hc1, hf1, -⟩ := O2.cell (j := j * 3 + 1) (List.getElem?_eq_getElem (by omega))
      obtain ⟨pv2, -, hc2, hf2, -⟩ := O2.cell (j := j * 3 + 2) (List.getElem?_eq_getElem (by omega))
      have OL : Hid (OwnL w2 wr.heap.size [.string x0, .int .i64 x1, .bool x2] [.s x0, .i x1, .b x2] S') := oL
      have HO2 : Hid (Own w2 w.heap.size (.slice (some ⟨w.heap.size, 0, none⟩) n n) (.l 65 3 n ps) S) := O2
      have HRS' : Hid (row cs 3 j = [.s x0, .i x1, .b x2]) := HRS.out
      clear oL O2 hb2 hU e0 e1 e2 
      go_wp2
      go_roundw
      case rel =>
        have slt : ∀ x, S x → x < wr.heap.size := fun x hx => (HO.out.lt x hx).2
        obtain ⟨S'', o'', -⟩ := Own.storeL (p := j * 3) HO2.out (OL.out.weaken hb.size) (fun x hx hx' => by have h1 := (OL.out.lt x hx).1; have h2 := slt x hx'; omega) (by simp; omega)
        have hle : j * 3 + 3 ≤ n * 3 := by omega
        refine ⟨j + 1, by omega, by go_num, ⟨_, S'', ?_, ?_, o''⟩, stores_below (Nat.le_refl _) [.string x0, .int .i64 x1, .bool x2] w2 (j * 3) hb02⟩
        · rw [over_len]; exact lp
        · have h3 := over_take [.s x0, .i x1, .b x2] ps (j * 3) (by simp; omega)
          rw [row_split (cs := cs), HRS'.out, ← tp, show (j + 1) * 3 = j * 3 + ([.s x0, .i x1, .b x2] : List Cel).length by simp; omega]
          exact h3
      case measure => simp [intOf]; omega
    · obtain rfl : j = n := by omega
      have e : ps = cs := by rwa [List.take_of_length_le (by omega), List.take_of_length_le (by have := L2.out; omega)] at tp
      subst e
      go_wp2
      go_ret
      exact ⟨hb, _, S, rfl, ho⟩
theorem dInfoIndex : (Try.prog.info? 75).map (fun i => (i.zero, i.size)) = some (some (.agg #[.string ⟨#[]⟩, .slice none 0 0, .bool false]), 3) := by kernel_rfl
theorem dBytesIndex : (Try.prog.info? 75).map (fun i => decide (i.bytes ≤ 1024)) = some true := by kernel_rfl
theorem dToIndex (vs : List Value) (cs : List Cel) (w : World) (h : AtL false w vs cs) (hs : HasL cs tyIndex) : Calls Try.prog 41 #[.agg vs.toArray] w (RetL w cs) := by
  obtain ⟨c0, r0, rfl, T0, hH0⟩ := hs.cons
  obtain ⟨c1, r1, rfl, T1, hH1⟩ := hH0.cons
  obtain ⟨c2, r2, rfl, T2, hH2⟩ := hH1.cons
  obtain rfl := hH2.nil
  obtain ⟨v0, vr0, rfl, A0, hA0⟩ := h.consE
  obtain ⟨v1, vr1, rfl, A1, hA1⟩ := hA0.consE
  obtain ⟨v2, vr2, rfl, A2, hA2⟩ := hA1.consE
  obtain rfl := hA2.nilE
  obtain ⟨x0, rfl⟩ := T0.str
  obtain rfl := A0.str
  have hA1' : Hid (At false w v1 c1) := A1
  obtain ⟨x2, rfl⟩ := T2.bool
  obtain rfl := A2.bool
  obtain ⟨n1, cs1, rfl, -⟩ := T1.list
  have HT1 : Hid (Has (.l 3 1 n1 cs1) (.l 3 1 [.i])) := T1
  clear hs h hA0 hH0 hA1 hH1 hA2 hH2 T1 A1
  go_enter Try.func41, Try.ntmps41
  go_wp2_with fail
  have t0 := mk_new w #[.string x0, v1, .bool x2] #[.string ⟨#[]⟩, .slice none 0 0, .bool false] #[.string x0, .slice none 0 0, .bool false] 72 75
  have m1 := (t0.num (v := .string x0) (c := .s x0) (fun _ => .s x0 _ (fun _ h => h)))
  refine (dToIntS v1 n1 cs1 _ (hA1'.out.on m1.b (Nat.le_refl _)) HT1.out).mono ?_
  rintro e w1 ⟨hb, u1, S1, rfl, ho⟩
  obtain ⟨q1, d1, rfl, -⟩ := ho.slice
  have m1' := m1.call1 hb ho
  have t1 : Hid (Mk w w1 #[.string x0, v1, .bool x2] #[.string ⟨#[]⟩, .slice none 0 0, .bool false] #[.string x0, .slice none 0 0, .bool false] 72 75 _) := m1'
  have ax1_0 : w1.cell? ⟨w.heap.size, 0, none⟩ = some (.string x0) := t1.out.a.cell 0
  have cx1_0 : w1.cell? ⟨w.heap.size + 1 + 1, 0, none⟩ = some (.string x0) := t1.out.c.cell 0
  have fx1_0 : w1.frozen? ⟨w.heap.size + 1 + 1, 0, none⟩ = false := t1.out.c.frozen 0
  have ax1_1 : w1.cell? ⟨w.heap.size, 1, none⟩ = some (v1) := t1.out.a.cell 1
  have cx1_1 : w1.cell? ⟨w.heap.size + 1 + 1, 1, none⟩ = some (.slice none 0 0) := t1.out.c.cell 1
  have fx1_1 : w1.frozen? ⟨w.heap.size + 1 + 1, 1, none⟩ = false := t1.out.c.frozen 1
  have ax1_2 : w1.cell? ⟨w.heap.size, 2, none⟩ = some (.bool x2) := t1.out.a.cell 2
  have cx1_2 : w1.cell? ⟨w.heap.size + 1 + 1, 2, none⟩ = some (.bool false) := t1.out.c.cell 2
  have fx1_2 : w1.frozen? ⟨w.heap.size + 1 + 1, 2, none⟩ = false := t1.out.c.frozen 2
  have zx1_0 : w1.cell? ⟨w.heap.size + 1, 0, none⟩ = some (.string ⟨#[]⟩) := t1.out.z.cell 0
  have gx1_0 : w1.frozen? ⟨w.heap.size + 1, 0, none⟩ = false := t1.out.z.frozen 0
  have zx1_1 : w1.cell? ⟨w.heap.size + 1, 1, none⟩ = some (.slice none 0 0) := t1.out.z.cell 1
  have gx1_1 : w1.frozen? ⟨w.heap.size + 1, 1, none⟩ = false := t1.out.z.frozen 1
  have zx1_2 : w1.cell? ⟨w.heap.size + 1, 2, none⟩ = some (.bool false) := t1.out.z.cell 2
  have gx1_2 : w1.frozen? ⟨w.heap.size + 1, 2, none⟩ = false := t1.out.z.frozen 2
  clear m1 m1' hb ho t0 
  go_wp2
  (try simp only [Exit.inBlock, Exit.then])
  refine bodyPost_ret (by simp [results, Try.results41, go_sem, zx1_0, zx1_1, zx1_2]; try rfl) rfl ?_
  have m := ((((((t1.out.store 1 ((.slice q1 n1 d1))).store 2 (.bool x2)).num (v := .bool x2) (c := .b x2) (fun _ => .b x2 _ (fun _ h => h))).storeZ 0 (.string x0)).storeZ 1 ((.slice q1 n1 d1))).storeZ 2 (.bool x2))
  exact ⟨m.b, [.string x0, (.slice q1 n1 d1), .bool x2], _, rfl, m.all⟩
theorem dToIndexS (v : Value) (n : Nat) (cs : List Cel) (w : World) (h : At false w v (.l 75 3 n cs)) (hs : Has (.l 75 3 n cs) (.l 75 3 tyIndex)) :
    Calls Try.prog 25 #[v] w (Ret w (.l 75 3 n cs)) := by
  obtain ⟨a, c, vs, rfl, h1, h2, hn, -, h3, h4⟩ := h.openL
  have SRC : Hid (n = 0 ∨ ∃ b o, a = some ⟨b, o, none⟩ ∧ ∀ j, j < n * 3 → w.cell? ⟨b, o + j, none⟩ = vs[j]?) := h3
  have HV : Hid (∀ j, j < n → AtL false w ((vs.drop (j * 3)).take 3) (row cs 3 j)) := fun j hj => rowVals h1 h2 h4 hj
  have HR : Hid (∀ j, j < n → HasL (row cs 3 j) tyIndex) := fun j hj => hs.rowL hj
  have L2 : Hid (cs.length = n * 3) := h2
  have L1 : Hid (vs.length = n * 3) := h1
  obtain ⟨i0, hi, hz⟩ := Option.map_eq_some_iff.1 dInfoIndex
  obtain ⟨i1, hi', hb1⟩ := Option.map_eq_some_iff.1 dBytesIndex
  obtain rfl : i0 = i1 := Option.some.inj (hi.symm.trans hi')
  have hz0 : i0.zero = some (.agg #[.string ⟨#[]⟩, .slice none 0 0, .bool false]) := congrArg Prod.fst hz
  have hz1 : i0.size = 3 := congrArg Prod.snd hz
  have hz2 : i0.bytes ≤ 1024 := of_decide_eq_true hb1
  have hby : i0.bytes * n ≤ 1024 * 2097152 := Nat.mul_le_mul hz2 hn
  clear h h1 h2 h3 h4 hs hz hb1 hi'
  go_enter Try.func25, Try.ntmps25
  go_wp2_with (at_make; refine wpList_make_full _ rfl _ _ 33 rfl w.heap.size 75 i0 (.agg #[.string ⟨#[]⟩, .slice none 0 0, .bool false]) 3 Try.underlying33 hi hz0 hz1 .i64 .i64 _ _ n rfl rfl rfl rfl (by first | omega | (rw [Nat.mul_comm]; omega)) (by unfold maxLen; omega) (Nat.le_refl _) ?_; intro w1 own1 grow1)
  obtain ⟨ps0, lp0, O0⟩ := own_made (zv := [.string ⟨#[]⟩, .slice none 0 0, .bool false]) (zc := [.s ⟨#[]⟩, .l 3 1 0 [], .b false]) own1 hn rfl (fun j v hv => made_at hv (by decide)) (by
    intro i v c hv hc w'
    have hi : i < 3 := by have := (List.getElem?_eq_some_iff.1 hv).1; simpa using this
    rcases (show i = 0 ∨ i = 1 ∨ i = 2 by omega) with rfl | rfl | rfl <;> (simp at hv hc; subst hv hc)
    · exact .s _ _ (fun _ h => h)
    · exact .nil _ _ _ (fun _ h => h)
    · exact .b _ _ (fun _ h => h))
  have hb1 : Below w.heap.size w w1 := (Below.refl _ _).grown grow1 (Nat.le_refl _) (fun k e => by cases e)
  clear own1 grow1
  go_loopw [4] (fun i wr => ∃ j : Nat, j ≤ n ∧ i = .int .i64 (j : Int) ∧ (∃ ps S, ps.length = n * 3 ∧ ps.take (j * 3) = cs.take (j * 3) ∧ Own wr w.heap.size (.slice (some ⟨w.heap.size, 0, none⟩) n n) (.l 75 3 n ps) S) ∧ Below w.heap.size w wr) (fun i _ => n - (intOf i).toNat)
  case atStart => exact ⟨0, Nat.zero_le _, by simp, ⟨ps0, _, lp0, by simp, O0⟩, hb1⟩
  case round =>
    obtain ⟨j, hj, rfl, ⟨ps, S, lp, tp, ho⟩, hb⟩ := hrel
    clear O0 hb1 lp0
    by_cases hlt : j < n
    · rcases SRC.out with h0 | ⟨p1, o1, rfl, g1⟩
      · omega
      have hk0 : (0 : Int) ≤ (j : Int) := by omega
      have hk1 : (j : Int) < (n : Int) := by omega
      have hA := HV.out j hlt
      have hH := HR.out j hlt
      have hcv : ∀ i, i < 3 → wr.cell? ⟨p1, o1 + (j * 3 + i), none⟩ = ((vs.drop (j * 3)).take 3)[i]? := fun i hi => by
        have hle : j * 3 + 3 ≤ n * 3 := by omega
        have h5 := g1 (j * 3 + i) (by omega)
        rw [List.getElem?_take_of_lt hi, List.getElem?_drop, ← h5]
        have h6 : w.cell? ⟨p1, o1 + (j * 3 + i), none⟩ = some (vs[j * 3 + i]'(by have := L1.out; omega)) := by rw [h5, List.getElem?_eq_getElem (by have := L1.out; omega)]
        exact hb.cell (show p1 < w.heap.size from World.block_lt_of_cell? w _ h6)
      obtain ⟨rs, hrs⟩ : ∃ rs, row cs 3 j = rs := ⟨_, rfl⟩
      obtain ⟨ws, hws⟩ : ∃ ws, (vs.drop (j * 3)).take 3 = ws := ⟨_, rfl⟩
      have HRS : Hid (row cs 3 j = rs) := hrs
      rw [hrs] at hA hH
      rw [hws] at hA hcv
      clear g1 hrs hws
      obtain ⟨c0, r0, rfl, T0, hH0⟩ := hH.cons
      obtain ⟨c1, r1, rfl, T1, hH1⟩ := hH0.cons
      obtain ⟨c2, r2, rfl, T2, hH2⟩ := hH1.cons
      obtain rfl := hH2.nil
      have HL0 : Hid (HasL [c0, c1, c2] tyIndex) := hH
      obtain ⟨v0, vr0, rfl, A0, hA0⟩ := hA.consE
      obtain ⟨v1, vr1, rfl, A1, hA1⟩ := hA0.consE
      obtain ⟨v2, vr2, rfl, A2, hA2⟩ := hA1.consE
      obtain rfl := hA2.nilE
      have HA0 : Hid (AtL false w [v0, v1, v2] [c0, c1, c2]) := hA
      have e0 : wr.cell? ⟨p1, o1 + j * 3, none⟩ = some v0 := hcv 0 (by omega)
      have e1 : wr.cell? ⟨p1, o1 + j * 3 + 1, none⟩ = some v1 := hcv 1 (by omega)
      have e2 : wr.cell? ⟨p1, o1 + j * 3 + 2, none⟩ = some v2 := hcv 2 (by omega)
      clear hcv hA hH hA0 hH0 hA1 hH1 hA2 hH2
      have HO : Hid (Own wr w.heap.size (.slice (some ⟨w.heap.size, 0, none⟩) n n) (.l 75 3 n ps) S) := ho
      clear ho
      go_wp2_with fail
      refine (dToIndex [v0, v1, v2] [c0, c1, c2] _ (HA0.out.on hb (Nat.le_refl _)) HL0.out).mono ?_
      rintro e w2 ⟨hb2, us, S', rfl, oL⟩
      have hU := oL.at
      obtain ⟨u0, ur0, rfl, U0, hA0⟩ := hU.consE
      obtain ⟨u1, ur1, rfl, U1, hA1⟩ := hA0.consE
      obtain ⟨u2, ur2, rfl, U2, hA2⟩ := hA1.consE
      obtain rfl := hA2.nilE
      obtain ⟨x0, rfl⟩ := T0.str
      have T1' := T1
      obtain ⟨n1, cs1, rfl, -⟩ := T1.list
      obtain ⟨x2, rfl⟩ := T2.bool
      obtain rfl := U0.str
      obtain ⟨q1, m1, rfl⟩ := U1.slice
      obtain rfl := U2.bool
      have O2 := HO.out.on hb2 (Nat.le_refl _)
      have hb02 : Below w.heap.size w w2 := hb.trans (hb2.mono hb.size)
      obtain ⟨pv0, -, hc0, hf0, -⟩ := O2.cell (j := j * 3) (List.getElem?_eq_getElem (by omega))
      obtain ⟨pv1, -, hc1, hf1, -⟩ := O2.cell (j := j * 3 + 1) (List.getElem?_eq_getElem (by omega))
      obtain ⟨pv2, -, hc2, hf2, -⟩ := O2.cell (j := j * 3 + 2) (List.getElem?_eq_getElem (by omega))
      have OL : Hid (OwnL w2 wr.heap.size [.string x0, .slice q1 n1 m1, .bool x2] [.s x0, .l 3 1 n1 cs1, .b x2] S') := oL
      have HO2 : Hid (Own w2 w.heap.size (.slice (some ⟨w.heap.size, 0, none⟩) n n) (.l 75 3 n ps) S) := O2
      have HRS' : Hid (row cs 3 j = [.s x0, .l 3 1 n1 cs1, .b x2]) := HRS.out
      clear oL O2 hb2 hU e0 e1 e2 
      go_wp2
      go_roundw
      case rel =>
        have slt : ∀ x, S x → x < wr.heap.size := fun x hx => (HO.out.lt x hx).2
        obtain ⟨S'', o'', -⟩ := Own.storeL (p := j * 3) HO2.out (OL.out.weaken hb.size) (fun x hx hx' => by have h1 := (OL.out.lt x hx).1; have h2 := slt x hx'; omega) (by simp; omega)
        have hle : j * 3 + 3 ≤ n * 3 := by omega
        refine ⟨j + 1, by omega, by go_num, ⟨_, S'', ?_, ?_, o''⟩, stores_below (Nat.le_refl _) [.string x0, .slice q1 n1 m1, .bool x2] w2 (j * 3) hb02⟩
        · rw [over_len]; exact lp
        · have h3 := over_take [.s x0, .l 3 1 n1 cs1, .b x2] ps (j * 3) (by simp; omega)
          rw [row_split (cs := cs), HRS'.out, ← tp, show (j + 1) * 3 = j * 3 + ([.s x0, .l 3 1 n1 cs1, .b x2] : List Cel).length by simp; omega]
          exact h3
      case measure => simp [intOf]; omega
    · obtain rfl : j = n := by omega
      have e : ps = cs := by rwa [List.take_of_length_le (by omega), List.take_of_length_le (by have := L2.out; omega)] at tp
      subst e
      go_wp2
      go_ret
      exact ⟨hb, _, S, rfl, ho⟩
theorem dToSchema (vs : List Value) (cs : List Cel) (w : World) (h : AtL false w vs cs) (hs : HasL cs tySchema) : Calls Try.prog 8 #[.agg vs.toArray] w (RetL w cs) := by
  obtain ⟨c0, r0, rfl, T0, hH0⟩ := hs.cons
  obtain ⟨c1, r1, rfl, T1, hH1⟩ := hH0.cons
  obtain ⟨c2, r2, rfl, T2, hH2⟩ := hH1.cons
  obtain rfl := hH2.nil
  obtain ⟨v0, vr0, rfl, A0, hA0⟩ := h.consE
  obtain ⟨v1, vr1, rfl, A1, hA1⟩ := hA0.consE
  obtain ⟨v2, vr2, rfl, A2, hA2⟩ := hA1.consE
  obtain rfl := hA2.nilE
  have hA0' : Hid (At false w v0 c0) := A0
  have hA1' : Hid (At false w v1 c1) := A1
  have hA2' : Hid (At false w v2 c2) := A2
  obtain ⟨n0, cs0, rfl, -⟩ := T0.list
  have HT0 : Hid (Has (.l 65 3 n0 cs0) (.l 65 3 tyCol)) := T0
  obtain ⟨n1, cs1, rfl, -⟩ := T1.list
  have HT1 : Hid (Has (.l 3 1 n1 cs1) (.l 3 1 [.i])) := T1
  obtain ⟨n2, cs2, rfl, -⟩ := T2.list
  have HT2 : Hid (Has (.l 75 3 n2 cs2) (.l 75 3 tyIndex)) := T2
  clear hs h hA0 hH0 hA1 hH1 hA2 hH2 T0 A0 T1 A1 T2 A2
  go_enter Try.func8, Try.ntmps8
  go_wp2_with fail
  have t0 := mk_new w #[v0, v1, v2] #[.slice none 0 0, .slice none 0 0, .slice none 0 0] #[.slice none 0 0, .slice none 0 0, .slice none 0 0] 26 35
  have m1 := t0
  refine (dToColS v0 n0 cs0 _ (hA0'.out.on m1.b (Nat.le_refl _)) HT0.out).mono ?_
  rintro e w1 ⟨hb, u0, S0, rfl, ho⟩
  obtain ⟨q0, d0, rfl, -⟩ := ho.slice
  have m1' := m1.call1 hb ho
  have t1 : Hid (Mk w w1 #[v0, v1, v2] #[.slice none 0 0, .slice none 0 0, .slice none 0 0] #[.slice none 0 0, .slice none 0 0, .slice none 0 0] 26 35 _) := m1'
  have ax1_0 : w1.cell? ⟨w.heap.size, 0, none⟩ = some (v0) := t1.out.a.cell 0
  have cx1_0 : w1.cell? ⟨w.heap.size + 1 + 1, 0, none⟩ = some (.slice none 0 0) := t1.out.c.cell 0
  have fx1_0 : w1.frozen? ⟨w.heap.size + 1 + 1, 0, none⟩ = false := t1.out.c.frozen 0
  have ax1_1 : w1.cell? ⟨w.heap.size, 1, none⟩ = some (v1) := t1.out.a.cell 1
  have cx1_1 : w1.cell? ⟨w.heap.size + 1 + 1, 1, none⟩ = some (.slice none 0 0) := t1.out.c.cell 1
  have fx1_1 : w1.frozen? ⟨w.heap.size + 1 + 1, 1, none⟩ = false := t1.out.c.frozen 1
  have ax1_2 : w1.cell? ⟨w.heap.size, 2, none⟩ = some (v2) := t1.out.a.cell 2
  have cx1_2 : w1.cell? ⟨w.heap.size + 1 + 1, 2, none⟩ = some (.slice none 0 0) := t1.out.c.cell 2
  have fx1_2 : w1.frozen? ⟨w.heap.size + 1 + 1, 2, none⟩ = false := t1.out.c.frozen 2
  have zx1_0 : w1.cell? ⟨w.heap.size + 1, 0, none⟩ = some (.slice none 0 0) := t1.out.z.cell 0
  have gx1_0 : w1.frozen? ⟨w.heap.size + 1, 0, none⟩ = false := t1.out.z.frozen 0
  have zx1_1 : w1.cell? ⟨w.heap.size + 1, 1, none⟩ = some (.slice none 0 0) := t1.out.z.cell 1
  have gx1_1 : w1.frozen? ⟨w.heap.size + 1, 1, none⟩ = false := t1.out.z.frozen 1
  have zx1_2 : w1.cell? ⟨w.heap.size + 1, 2, none⟩ = some (.slice none 0 0) := t1.out.z.cell 2
  have gx1_2 : w1.frozen? ⟨w.heap.size + 1, 2, none⟩ = false := t1.out.z.frozen 2
  clear m1 m1' hb ho t0 
  go_wp2_with fail
  have t1' := (t1.out.store 0 (.slice q0 n0 d0))
  have t1 : Hid (Mk w _ _ _ _ 26 35 _) := t1'
  clear t1'
  have m2 := t1.out
  refine (dToIntS v1 n1 cs1 _ (hA1'.out.on m2.b (Nat.le_refl _)) HT1.out).mono ?_
  rintro e w2 ⟨hb, u1, S1, rfl, ho⟩
  obtain ⟨q1, d1, rfl, -⟩ := ho.slice
  have m2' := m2.call1 hb ho
  have t2 : Hid (Mk w w2 #[v0, v1, v2] #[.slice none 0 0, .slice none 0 0, .slice none 0 0] #[(.slice q0 n0 d0), .slice none 0 0, .slice none 0 0] 26 35 _) := m2'
  have ax2_0 : w2.cell? ⟨w.heap.size, 0, none⟩ = some (v0) := t2.out.a.cell 0
  have cx2_0 : w2.cell? ⟨w.heap.size + 1 + 1, 0, none⟩ = some ((.slice q0 n0 d0)) := t2.out.c.cell 0
  have fx2_0 : w2.frozen? ⟨w.heap.size + 1 + 1, 0, none⟩ = false := t2.out.c.frozen 0
  have ax2_1 : w2.cell? ⟨w.heap.size, 1, none⟩ = some (v1) := t2.out.a.cell 1
  have cx2_1 : w2.cell? ⟨w.heap.size + 1 + 1, 1, none⟩ = some (.slice none 0 0) := t2.out.c.cell 1
  have fx2_1 : w2.frozen? ⟨w.heap.size + 1 + 1, 1, none⟩ = false := t2.out.c.frozen 1
  have ax2_2 : w2.cell? ⟨w.heap.size, 2, none⟩ = some (v2) := t2.out.a.cell 2
  have cx2_2 : w2.cell? ⟨w.heap.size + 1 + 1, 2, none⟩ = some (.slice none 0 0) := t2.out.c.cell 2
  have fx2_2 : w2.frozen? ⟨w.heap.size + 1 + 1, 2, none⟩ = false := t2.out.c.frozen 2
  have zx2_0 : w2.cell? ⟨w.heap.size + 1, 0, none⟩ = some (.slice none 0 0) := t2.out.z.cell 0
  have gx2_0 : w2.frozen? ⟨w.heap.size + 1, 0, none⟩ = false := t2.out.z.frozen 0
  have zx2_1 : w2.cell? ⟨w.heap.size + 1, 1, none⟩ = some (.slice none 0 0) := t2.out.z.cell 1
  have gx2_1 : w2.frozen? ⟨w.heap.size + 1, 1, none⟩ = false := t2.out.z.frozen 1
  have zx2_2 : w2.cell? ⟨w.heap.size + 1, 2, none⟩ = some (.slice none 0 0) := t2.out.z.cell 2
  have gx2_2 : w2.frozen? ⟨w.heap.size + 1, 2, none⟩ = false := t2.out.z.frozen 2
  clear m2 m2' hb ho  ax1_0 cx1_0 fx1_0 zx1_0 gx1_0 ax1_1 cx1_1 fx1_1 zx1_1 gx1_1 ax1_2 cx1_2 fx1_2 zx1_2 gx1_2
  go_wp2_with fail
  have t2' := (t2.out.store 1 (.slice q1 n1 d1))
  have t2 : Hid (Mk w _ _ _ _ 26 35 _) := t2'
  clear t2'
  have m3 := t2.out
  refine (dToIndexS v2 n2 cs2 _ (hA2'.out.on m3.b (Nat.le_refl _)) HT2.out).mono ?_
  rintro e w3 ⟨hb, u2, S2, rfl, ho⟩
  obtain ⟨q2, d2, rfl, -⟩ := ho.slice
  have m3' := m3.call1 hb ho
  have t3 : Hid (Mk w w3 #[v0, v1, v2] #[.slice none 0 0, .slice none 0 0, .slice none 0 0] #[(.slice q0 n0 d0), (.slice q1 n1 d1), .slice none 0 0] 26 35 _) := m3'
  have ax3_0 : w3.cell? ⟨w.heap.size, 0, none⟩ = some (v0) := t3.out.a.cell 0
  have cx3_0 : w3.cell? ⟨w.heap.size + 1 + 1, 0, none⟩ = some ((.slice q0 n0 d0)) := t3.out.c.cell 0
  have fx3_0 : w3.frozen? ⟨w.heap.size + 1 + 1, 0, none⟩ = false := t3.out.c.frozen 0
  have ax3_1 : w3.cell? ⟨w.heap.size, 1, none⟩ = some (v1) := t3.out.a.cell 1
  have cx3_1 : w3.cell? ⟨w.heap.size + 1 + 1, 1, none⟩ = some ((.slice q1 n1 d1)) := t3.out.c.cell 1
  have fx3_1 : w3.frozen? ⟨w.heap.size + 1 + 1, 1, none⟩ = false := t3.out.c.frozen 1
  have ax3_2 : w3.cell? ⟨w.heap.size, 2, none⟩ = some (v2) := t3.out.a.cell 2
  have cx3_2 : w3.cell? ⟨w.heap.size + 1 + 1, 2, none⟩ = some (.slice none 0 0) := t3.out.c.cell 2
  have fx3_2 : w3.frozen? ⟨w.heap.size + 1 + 1, 2, none⟩ = false := t3.out.c.frozen 2
  have zx3_0 : w3.cell? ⟨w.heap.size + 1, 0, none⟩ = some (.slice none 0 0) := t3.out.z.cell 0
  have gx3_0 : w3.frozen? ⟨w.heap.size + 1, 0, none⟩ = false := t3.out.z.frozen 0
  have zx3_1 : w3.cell? ⟨w.heap.size + 1, 1, none⟩ = some (.slice none 0 0) := t3.out.z.cell 1
  have gx3_1 : w3.frozen? ⟨w.heap.size + 1, 1, none⟩ = false := t3.out.z.frozen 1
  have zx3_2 : w3.cell? ⟨w.heap.size + 1, 2, none⟩ = some (.slice none 0 0) := t3.out.z.cell 2
  have gx3_2 : w3.frozen? ⟨w.heap.size + 1, 2, none⟩ = false := t3.out.z.frozen 2
  clear m3 m3' hb ho  ax2_0 cx2_0 fx2_0 zx2_0 gx2_0 ax2_1 cx2_1 fx2_1 zx2_1 gx2_1 ax2_2 cx2_2 fx2_2 zx2_2 gx2_2
  go_wp2
  (try simp only [Exit.inBlock, Exit.then])
  refine bodyPost_ret (by simp [results, Try.results8, go_sem, zx3_0, zx3_1, zx3_2]; try rfl) rfl ?_
  have m := ((((t3.out.store 2 ((.slice q2 n2 d2))).storeZ 0 ((.slice q0 n0 d0))).storeZ 1 ((.slice q1 n1 d1))).storeZ 2 ((.slice q2 n2 d2)))
  exact ⟨m.b, [(.slice q0 n0 d0), (.slice q1 n1 d1), (.slice q2 n2 d2)], _, rfl, m.all⟩
end
end Go.Proofs.Ytmgofehafjogfab
