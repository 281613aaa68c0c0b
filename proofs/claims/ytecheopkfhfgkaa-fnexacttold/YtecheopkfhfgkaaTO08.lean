/- Texts joined: DatT. -/
import Derived.Test.YtecheopkfhfgkaaTO02
import Derived.Deep.RegionHeld3
import Derived.Deep.Cut
import Derived.Handy
set_option maxHeartbeats 1000000
set_option maxRecDepth 100000
namespace Go.Proofs.Ytecheopkfhfgkaa
section
open Go.ChangeShapes Go.WideShapes Go.ChangeAt Go.RowKit Go.Joins
theorem dInfoInt : (Try.prog.info? 3).map (fun i => (i.zero, i.size)) = some (some (.int .i64 0), 1) := by kernel_rfl
theorem dBytesInt : (Try.prog.info? 3).map (fun i => decide (i.bytes ≤ 1024)) = some true := by kernel_rfl
theorem dToIntS (v : Value) (n : Nat) (cs : List Cel) (w : World) (h : At false w v (.l 3 1 n cs)) (hs : Has (.l 3 1 n cs) (.l 3 1 [.i])) :
   Calls Try.prog 34 #[v] w (Ret w (.l 3 1 n cs)) := by
 obtain ⟨a, c, vs, rfl, h1, h2, hn, -, h3, h4⟩ := h.openL
 have SRC : Hid (n = 0 ∨ ∃ b o, a = some ⟨b, o, none⟩ ∧ ∀ j, j < n * 1 → w.cell? ⟨b, o + j, none⟩ = vs[j]?) := h3
 have HV : Hid (∀ j, j < n → AtL false w ((vs.drop (j * 1)).take 1) (row cs 1 j)) := fun j hj => rowVals h1 h2 h4 hj
 have HR : Hid (∀ j, j < n → HasL (row cs 1 j) [.i]) := fun j hj => hs.rowL hj
 have L2 : Hid (cs.length = n * 1) := h2
 have L1 : Hid (vs.length = n * 1) := h1
 obtain ⟨i0, hi, hz⟩ := Option.map_eq_some_iff.1 dInfoInt
 obtain ⟨i1, hi', hb1⟩ := Option.map_eq_some_iff.1 dBytesInt
 obtain rfl : i0 = i1 := Option.some.inj (hi.symm.trans hi')
 have hz0 : i0.zero = some (.int .i64 0) := congrArg Prod.fst hz
 have hz1 : i0.size = 1 := congrArg Prod.snd hz
 have hz2 : i0.bytes ≤ 1024 := of_decide_eq_true hb1
 have hby : i0.bytes * n ≤ 1024 * 2097152 := Nat.mul_le_mul hz2 hn
 clear h h1 h2 h3 h4 hs hz hb1 hi'
 go_enter Try.func34, Try.ntmps34
 go_wp2_with (at_make; refine wpList_make_full _ rfl _ _ 24 rfl w.heap.size 3 i0 (.int .i64 0) 1 Try.underlying24 hi hz0 hz1 .i64 .i64 _ _ n rfl rfl rfl rfl (by first | omega | (rw [Nat.mul_comm]; omega)) (by unfold maxLen; omega) (Nat.le_refl _) ?_; intro w1 own1 grow1)
 obtain ⟨ps0, lp0, O0⟩ := own_made (zv := [.int .i64 0]) (zc := [.i 0]) own1 hn rfl (fun j v hv => made_at hv (by decide)) (by
   intro i v c hv hc w'
   have hi : i < 1 := by have := (List.getElem?_eq_some_iff.1 hv).1; simpa using this
   rcases (show i = 0 by omega) with rfl <;> (simp at hv hc; subst hv hc)
   · exact .i _ _ (fun _ h => h))
 have hb1 : Below w.heap.size w w1 := (Below.refl _ _).grown grow1 (Nat.le_refl _) (fun k e => by cases e)
 clear own1 grow1
 go_loopw [4] (fun i wr => ∃ j : Nat, j ≤ n ∧ i = .int .i64 (j : Int) ∧ (∃ ps S, ps.length = n * 1 ∧ ps.take (j * 1) = cs.take (j * 1) ∧ Own wr w.heap.size (.slice (some ⟨w.heap.size, 0, none⟩) n n) (.l 3 1 n ps) S) ∧ Below w.heap.size w wr) (fun i _ => n - (intOf i).toNat)
 case atStart => exact ⟨0, Nat.zero_le _, by simp, ⟨ps0, _, lp0, by simp, O0⟩, hb1⟩
 case round =>
   obtain ⟨j, hj, rfl, ⟨ps, S, lp, tp, ho⟩, hb⟩ := hrel
   clear O0 hb1 lp0
   by_cases hlt : j < n
   · rcases SRC.out with h0 | ⟨p1, o1, rfl, g1⟩
     · omega
     have hk0 : (0 : Int) ≤ (j : Int) := by omega
     have hk1 : (j : Int) < (n : Int) := by omega
     have hA := HV.out j hlt
     have hH := HR.out j hlt
     have hcv := rowAt hb hlt g1 L1.out
     obtain ⟨rs, hrs⟩ : ∃ rs, row cs 1 j = rs := ⟨_, rfl⟩
     obtain ⟨ws, hws⟩ : ∃ ws, (vs.drop (j * 1)).take 1 = ws := ⟨_, rfl⟩
     have HRS : Hid (row cs 1 j = rs) := hrs
     rw [hrs] at hA hH
     rw [hws] at hA hcv
     clear g1 hrs hws
     obtain ⟨c0, rfl, T0⟩ := hH.c1
     have HL0 : Hid (HasL [c0] [.i]) := hH
     obtain ⟨v0, rfl, A0⟩ := hA.c1
     have HA0 : Hid (AtL false w [v0] [c0]) := hA
     have e0 : wr.cell? ⟨p1, o1 + j * 1, none⟩ = some v0 := hcv 0 (by omega)
     clear hcv hA hH
     have HO : Hid (Own wr w.heap.size (.slice (some ⟨w.heap.size, 0, none⟩) n n) (.l 3 1 n ps) S) := ho
     clear ho
     obtain ⟨x0, rfl⟩ := T0.int
     obtain rfl := A0.int
     obtain ⟨pv, Sj, hc, hf, -⟩ := HO.out.cell (j := j * 1) (List.getElem?_eq_getElem (by omega))
     simp only [Nat.mul_one] at e0 hc hf
     have HRS' : Hid (row cs 1 j = [.i x0]) := HRS.out
     go_wp2
     go_roundw
     case rel =>
       obtain ⟨S'', o'', -⟩ := Own.storeL (us := [.int .i64 x0]) (rs := [.i x0]) (p := j * 1) HO.out (OwnL.cons (S0 := fun _ => False) (S := fun _ => False) (S' := fun _ => False) (.i x0 _ (fun _ h => h)) (OwnL.nil (fun _ h => h)) (fun _ h => h.elim) (fun _ => by simp)) (fun _ h => h.elim) (by simp; omega)
       have hle : j * 1 + 1 ≤ n * 1 := by omega
       refine ⟨j + 1, by omega, by go_num, ⟨_, S'', ?_, ?_, by simpa [stores] using o''⟩, by simpa [stores] using stores_below (Nat.le_refl _) [.int .i64 x0] wr (j * 1) hb⟩
       · rw [over_len]; exact lp
       · have h3 := over_take [.i x0] ps (j * 1) (by simp; omega)
         rw [row_split (cs := cs), HRS'.out, ← tp, show (j + 1) * 1 = j * 1 + ([.i x0] : List Cel).length by simp]
         simpa using h3
     case measure => simp [intOf]; omega
   · obtain rfl : j = n := by omega
     have e : ps = cs := by rwa [List.take_of_length_le (by omega), List.take_of_length_le (by have := L2.out; omega)] at tp
     subst e
     go_wp2
     go_ret
     exact ⟨hb, _, S, rfl, ho⟩
theorem dInfoOp : (Try.prog.info? 31).map (fun i => (i.zero, i.size)) = some (some (.agg #[.int .i64 0, .int .i64 0, .int .i64 0]), 3) := by kernel_rfl
theorem dBytesOp : (Try.prog.info? 31).map (fun i => decide (i.bytes ≤ 1024)) = some true := by kernel_rfl
theorem dToOp (vs : List Value) (cs : List Cel) (w : World) (h : AtL false w vs cs) (hs : HasL cs tyOp) : Calls Try.prog 20 #[.agg vs.toArray] w (RetL w cs) := by
 obtain ⟨c0, c1, c2, rfl, T0, T1, T2⟩ := hs.c3
 obtain ⟨x0, rfl⟩ := T0.int
 obtain ⟨x1, rfl⟩ := T1.int
 obtain ⟨x2, rfl⟩ := T2.int
 obtain ⟨v0, v1, v2, rfl, A0, A1, A2⟩ := h.c3
 obtain rfl := A0.int
 obtain rfl := A1.int
 obtain rfl := A2.int
 obtain ⟨R, hR⟩ : ∃ R, Value.agg #[.int .i64 x0, .int .i64 x1, .int .i64 x2] = R := ⟨_, rfl⟩
 have HR : Hid (Value.agg #[.int .i64 x0, .int .i64 x1, .int .i64 x2] = R) := hR
 clear hR
 go_enter Try.func20, Try.ntmps20
 go_wp2
 (try simp only [Exit.inBlock, Exit.then])
 refine bodyPost_ret (by simp [results, Try.results20, go_sem]; try rfl) rfl ?_
 exact ⟨(((Below.refl _ _).alloc (Nat.le_refl _) _).alloc (by simp) _).alloc (by simp; omega) _, [.int .i64 x0, .int .i64 x1, .int .i64 x2], fun _ => False, rfl, OwnL.cons (S0 := fun _ => False) (S := fun _ => False) (.i x0 _ (fun _ h => h)) (OwnL.cons (S0 := fun _ => False) (S := fun _ => False) (.i x1 _ (fun _ h => h)) (OwnL.cons (S0 := fun _ => False) (S := fun _ => False) (.i x2 _ (fun _ h => h)) (OwnL.nil (fun _ h => h)) (fun _ h => h.elim) (fun _ => by simp)) (fun _ h => h.elim) (fun _ => by simp)) (fun _ h => h.elim) (fun _ => by simp)⟩
theorem dToOpS (v : Value) (n : Nat) (cs : List Cel) (w : World) (h : At false w v (.l 31 3 n cs)) (hs : Has (.l 31 3 n cs) (.l 31 3 tyOp)) :
   Calls Try.prog 69 #[v] w (Ret w (.l 31 3 n cs)) := by
 obtain ⟨a, c, vs, rfl, h1, h2, hn, -, h3, h4⟩ := h.openL
 have SRC : Hid (n = 0 ∨ ∃ b o, a = some ⟨b, o, none⟩ ∧ ∀ j, j < n * 3 → w.cell? ⟨b, o + j, none⟩ = vs[j]?) := h3
 have HV : Hid (∀ j, j < n → AtL false w ((vs.drop (j * 3)).take 3) (row cs 3 j)) := fun j hj => rowVals h1 h2 h4 hj
 have HR : Hid (∀ j, j < n → HasL (row cs 3 j) tyOp) := fun j hj => hs.rowL hj
 have L2 : Hid (cs.length = n * 3) := h2
 have L1 : Hid (vs.length = n * 3) := h1
 obtain ⟨i0, hi, hz⟩ := Option.map_eq_some_iff.1 dInfoOp
 obtain ⟨i1, hi', hb1⟩ := Option.map_eq_some_iff.1 dBytesOp
 obtain rfl : i0 = i1 := Option.some.inj (hi.symm.trans hi')
 have hz0 : i0.zero = some (.agg #[.int .i64 0, .int .i64 0, .int .i64 0]) := congrArg Prod.fst hz
 have hz1 : i0.size = 3 := congrArg Prod.snd hz
 have hz2 : i0.bytes ≤ 1024 := of_decide_eq_true hb1
 have hby : i0.bytes * n ≤ 1024 * 2097152 := Nat.mul_le_mul hz2 hn
 clear h h1 h2 h3 h4 hs hz hb1 hi'
 go_enter Try.func69, Try.ntmps69
 go_wp2_with (at_make; refine wpList_make_full _ rfl _ _ 99 rfl w.heap.size 31 i0 (.agg #[.int .i64 0, .int .i64 0, .int .i64 0]) 3 Try.underlying99 hi hz0 hz1 .i64 .i64 _ _ n rfl rfl rfl rfl (by first | omega | (rw [Nat.mul_comm]; omega)) (by unfold maxLen; omega) (Nat.le_refl _) ?_; intro w1 own1 grow1)
 obtain ⟨ps0, lp0, O0⟩ := own_made (zv := [.int .i64 0, .int .i64 0, .int .i64 0]) (zc := [.i 0, .i 0, .i 0]) own1 hn rfl (fun j v hv => made_at hv (by decide)) (by
   intro i v c hv hc w'
   have hi : i < 3 := by have := (List.getElem?_eq_some_iff.1 hv).1; simpa using this
   rcases (show i = 0 ∨ i = 1 ∨ i = 2 by omega) with rfl | rfl | rfl <;> (simp at hv hc; subst hv hc)
   · exact .i _ _ (fun _ h => h)
   · exact .i _ _ (fun _ h => h)
   · exact .i _ _ (fun _ h => h))
 have hb1 : Below w.heap.size w w1 := (Below.refl _ _).grown grow1 (Nat.le_refl _) (fun k e => by cases e)
 clear own1 grow1
 go_loopw [4] (fun i wr => ∃ j : Nat, j ≤ n ∧ i = .int .i64 (j : Int) ∧ (∃ ps S, ps.length = n * 3 ∧ ps.take (j * 3) = cs.take (j * 3) ∧ Own wr w.heap.size (.slice (some ⟨w.heap.size, 0, none⟩) n n) (.l 31 3 n ps) S) ∧ Below w.heap.size w wr) (fun i _ => n - (intOf i).toNat)
 case atStart => exact ⟨0, Nat.zero_le _, by simp, ⟨ps0, _, lp0, by simp, O0⟩, hb1⟩
 case round =>
   obtain ⟨j, hj, rfl, ⟨ps, S, lp, tp, ho⟩, hb⟩ := hrel
   clear O0 hb1 lp0
   by_cases hlt : j < n
   · rcases SRC.out with h0 | ⟨p1, o1, rfl, g1⟩
     · omega
     have hk0 : (0 : Int) ≤ (j : Int) := by omega
     have hk1 : (j : Int) < (n : Int) := by omega
     have hA := HV.out j hlt
     have hH := HR.out j hlt
     have hcv := rowAt hb hlt g1 L1.out
     obtain ⟨rs, hrs⟩ : ∃ rs, row cs 3 j = rs := ⟨_, rfl⟩
     obtain ⟨ws, hws⟩ : ∃ ws, (vs.drop (j * 3)).take 3 = ws := ⟨_, rfl⟩
     have HRS : Hid (row cs 3 j = rs) := hrs
     rw [hrs] at hA hH
     rw [hws] at hA hcv
     clear g1 hrs hws
     obtain ⟨c0, c1, c2, rfl, T0, T1, T2⟩ := hH.c3
     have HL0 : Hid (HasL [c0, c1, c2] tyOp) := hH
     obtain ⟨v0, vr0, rfl, A0, hA0⟩ := hA.consE
     obtain ⟨v1, vr1, rfl, A1, hA1⟩ := hA0.consE
     obtain ⟨v2, vr2, rfl, A2, hA2⟩ := hA1.consE
     obtain rfl := hA2.nilE
     have HA0 : Hid (AtL false w [v0, v1, v2] [c0, c1, c2]) := hA
     have e0 : wr.cell? ⟨p1, o1 + j * 3, none⟩ = some v0 := hcv 0 (by omega)
     have e1 : wr.cell? ⟨p1, o1 + j * 3 + 1, none⟩ = some v1 := hcv 1 (by omega)
     have e2 : wr.cell? ⟨p1, o1 + j * 3 + 2, none⟩ = some v2 := hcv 2 (by omega)
     clear hcv hA hH hA0 hA1 hA2
     have HO : Hid (Own wr w.heap.size (.slice (some ⟨w.heap.size, 0, none⟩) n n) (.l 31 3 n ps) S) := ho
     clear ho
     go_wp2_with fail
     refine (dToOp [v0, v1, v2] [c0, c1, c2] _ (HA0.out.on hb (Nat.le_refl _)) HL0.out).mono ?_
     rintro e w2 ⟨hb2, us, S', rfl, oL⟩
     have hU := oL.at
     obtain ⟨u0, u1, u2, rfl, U0, U1, U2⟩ := hU.c3
     obtain ⟨x0, rfl⟩ := T0.int
     obtain ⟨x1, rfl⟩ := T1.int
     obtain ⟨x2, rfl⟩ := T2.int
     obtain rfl := U0.int
     obtain rfl := U1.int
     obtain rfl := U2.int
     have O2 := HO.out.on hb2 (Nat.le_refl _)
     have hb02 : Below w.heap.size w w2 := hb.trans (hb2.mono hb.size)
     obtain ⟨pv0, -, hc0, hf0, -⟩ := O2.cell (j := j * 3) (List.getElem?_eq_getElem (by omega))
     obtain ⟨pv1, -, hc1, hf1, -⟩ := O2.cell (j := j * 3 + 1) (List.getElem?_eq_getElem (by omega))
     obtain ⟨pv2, -, hc2, hf2, -⟩ := O2.cell (j := j * 3 + 2) (List.getElem?_eq_getElem (by omega))
     have OL : Hid (OwnL w2 wr.heap.size [.int .i64 x0, .int .i64 x1, .int .i64 x2] [.i x0, .i x1, .i x2] S') := oL
     have HO2 : Hid (Own w2 w.heap.size (.slice (some ⟨w.heap.size, 0, none⟩) n n) (.l 31 3 n ps) S) := O2
     have HRS' : Hid (row cs 3 j = [.i x0, .i x1, .i x2]) := HRS.out
     clear oL O2 hb2 hU e0 e1 e2
     go_wp2
     go_roundw
     case rel =>
       have slt : ∀ x, S x → x < wr.heap.size := fun x hx => (HO.out.lt x hx).2
       obtain ⟨S'', o'', -⟩ := Own.storeL (p := j * 3) HO2.out (OL.out.weaken hb.size) (fun x hx hx' => by have h1 := (OL.out.lt x hx).1; have h2 := slt x hx'; omega) (by simp; omega)
       have hle : j * 3 + 3 ≤ n * 3 := by omega
       refine ⟨j + 1, by omega, by go_num, ⟨_, S'', ?_, ?_, o''⟩, stores_below (Nat.le_refl _) [.int .i64 x0, .int .i64 x1, .int .i64 x2] w2 (j * 3) hb02⟩
       · rw [over_len]; exact lp
       · have h3 := over_take [.i x0, .i x1, .i x2] ps (j * 3) (by simp; omega)
         rw [row_split (cs := cs), HRS'.out, ← tp, show (j + 1) * 3 = j * 3 + ([.i x0, .i x1, .i x2] : List Cel).length by simp; omega]
         exact h3
     case measure => simp [intOf]; omega
   · obtain rfl : j = n := by omega
     have e : ps = cs := by rwa [List.take_of_length_le (by omega), List.take_of_length_le (by have := L2.out; omega)] at tp
     subst e
     go_wp2
     go_ret
     exact ⟨hb, _, S, rfl, ho⟩
theorem dInfoPair : (Try.prog.info? 138).map (fun i => (i.zero, i.size)) = some (some (.agg #[.int .i64 0, .int .i64 0]), 2) := by kernel_rfl
theorem dBytesPair : (Try.prog.info? 138).map (fun i => decide (i.bytes ≤ 1024)) = some true := by kernel_rfl
theorem dToPair (vs : List Value) (cs : List Cel) (w : World) (h : AtL false w vs cs) (hs : HasL cs tyPair) : Calls Try.prog 81 #[.agg vs.toArray] w (RetL w cs) := by
 obtain ⟨c0, c1, rfl, T0, T1⟩ := hs.c2
 obtain ⟨x0, rfl⟩ := T0.int
 obtain ⟨x1, rfl⟩ := T1.int
 obtain ⟨v0, v1, rfl, A0, A1⟩ := h.c2
 obtain rfl := A0.int
 obtain rfl := A1.int
 obtain ⟨R, hR⟩ : ∃ R, Value.agg #[.int .i64 x0, .int .i64 x1] = R := ⟨_, rfl⟩
 have HR : Hid (Value.agg #[.int .i64 x0, .int .i64 x1] = R) := hR
 clear hR
 go_enter Try.func81, Try.ntmps81
 go_wp2
 (try simp only [Exit.inBlock, Exit.then])
 refine bodyPost_ret (by simp [results, Try.results81, go_sem]; try rfl) rfl ?_
 exact ⟨(((Below.refl _ _).alloc (Nat.le_refl _) _).alloc (by simp) _).alloc (by simp; omega) _, [.int .i64 x0, .int .i64 x1], fun _ => False, rfl, OwnL.cons (S0 := fun _ => False) (S := fun _ => False) (.i x0 _ (fun _ h => h)) (OwnL.cons (S0 := fun _ => False) (S := fun _ => False) (.i x1 _ (fun _ h => h)) (OwnL.nil (fun _ h => h)) (fun _ h => h.elim) (fun _ => by simp)) (fun _ h => h.elim) (fun _ => by simp)⟩
theorem dToPairS (v : Value) (n : Nat) (cs : List Cel) (w : World) (h : At false w v (.l 138 2 n cs)) (hs : Has (.l 138 2 n cs) (.l 138 2 tyPair)) :
   Calls Try.prog 70 #[v] w (Ret w (.l 138 2 n cs)) := by
 obtain ⟨a, c, vs, rfl, h1, h2, hn, -, h3, h4⟩ := h.openL
 have SRC : Hid (n = 0 ∨ ∃ b o, a = some ⟨b, o, none⟩ ∧ ∀ j, j < n * 2 → w.cell? ⟨b, o + j, none⟩ = vs[j]?) := h3
 have HV : Hid (∀ j, j < n → AtL false w ((vs.drop (j * 2)).take 2) (row cs 2 j)) := fun j hj => rowVals h1 h2 h4 hj
 have HR : Hid (∀ j, j < n → HasL (row cs 2 j) tyPair) := fun j hj => hs.rowL hj
 have L2 : Hid (cs.length = n * 2) := h2
 have L1 : Hid (vs.length = n * 2) := h1
 obtain ⟨i0, hi, hz⟩ := Option.map_eq_some_iff.1 dInfoPair
 obtain ⟨i1, hi', hb1⟩ := Option.map_eq_some_iff.1 dBytesPair
 obtain rfl : i0 = i1 := Option.some.inj (hi.symm.trans hi')
 have hz0 : i0.zero = some (.agg #[.int .i64 0, .int .i64 0]) := congrArg Prod.fst hz
 have hz1 : i0.size = 2 := congrArg Prod.snd hz
 have hz2 : i0.bytes ≤ 1024 := of_decide_eq_true hb1
 have hby : i0.bytes * n ≤ 1024 * 2097152 := Nat.mul_le_mul hz2 hn
 clear h h1 h2 h3 h4 hs hz hb1 hi'
 go_enter Try.func70, Try.ntmps70
 go_wp2_with (at_make; refine wpList_make_full _ rfl _ _ 100 rfl w.heap.size 138 i0 (.agg #[.int .i64 0, .int .i64 0]) 2 Try.underlying100 hi hz0 hz1 .i64 .i64 _ _ n rfl rfl rfl rfl (by first | omega | (rw [Nat.mul_comm]; omega)) (by unfold maxLen; omega) (Nat.le_refl _) ?_; intro w1 own1 grow1)
 obtain ⟨ps0, lp0, O0⟩ := own_made (zv := [.int .i64 0, .int .i64 0]) (zc := [.i 0, .i 0]) own1 hn rfl (fun j v hv => made_at hv (by decide)) (by
   intro i v c hv hc w'
   have hi : i < 2 := by have := (List.getElem?_eq_some_iff.1 hv).1; simpa using this
   rcases (show i = 0 ∨ i = 1 by omega) with rfl | rfl <;> (simp at hv hc; subst hv hc)
   · exact .i _ _ (fun _ h => h)
   · exact .i _ _ (fun _ h => h))
 have hb1 : Below w.heap.size w w1 := (Below.refl _ _).grown grow1 (Nat.le_refl _) (fun k e => by cases e)
 clear own1 grow1
 go_loopw [4] (fun i wr => ∃ j : Nat, j ≤ n ∧ i = .int .i64 (j : Int) ∧ (∃ ps S, ps.length = n * 2 ∧ ps.take (j * 2) = cs.take (j * 2) ∧ Own wr w.heap.size (.slice (some ⟨w.heap.size, 0, none⟩) n n) (.l 138 2 n ps) S) ∧ Below w.heap.size w wr) (fun i _ => n - (intOf i).toNat)
 case atStart => exact ⟨0, Nat.zero_le _, by simp, ⟨ps0, _, lp0, by simp, O0⟩, hb1⟩
 case round =>
   obtain ⟨j, hj, rfl, ⟨ps, S, lp, tp, ho⟩, hb⟩ := hrel
   clear O0 hb1 lp0
   by_cases hlt : j < n
   · rcases SRC.out with h0 | ⟨p1, o1, rfl, g1⟩
     · omega
     have hk0 : (0 : Int) ≤ (j : Int) := by omega
     have hk1 : (j : Int) < (n : Int) := by omega
     have hA := HV.out j hlt
     have hH := HR.out j hlt
     have hcv := rowAt hb hlt g1 L1.out
     obtain ⟨rs, hrs⟩ : ∃ rs, row cs 2 j = rs := ⟨_, rfl⟩
     obtain ⟨ws, hws⟩ : ∃ ws, (vs.drop (j * 2)).take 2 = ws := ⟨_, rfl⟩
     have HRS : Hid (row cs 2 j = rs) := hrs
     rw [hrs] at hA hH
     rw [hws] at hA hcv
     clear g1 hrs hws
     obtain ⟨c0, c1, rfl, T0, T1⟩ := hH.c2
     have HL0 : Hid (HasL [c0, c1] tyPair) := hH
     obtain ⟨v0, vr0, rfl, A0, hA0⟩ := hA.consE
     obtain ⟨v1, vr1, rfl, A1, hA1⟩ := hA0.consE
     obtain rfl := hA1.nilE
     have HA0 : Hid (AtL false w [v0, v1] [c0, c1]) := hA
     have e0 : wr.cell? ⟨p1, o1 + j * 2, none⟩ = some v0 := hcv 0 (by omega)
     have e1 : wr.cell? ⟨p1, o1 + j * 2 + 1, none⟩ = some v1 := hcv 1 (by omega)
     clear hcv hA hH hA0 hA1
     have HO : Hid (Own wr w.heap.size (.slice (some ⟨w.heap.size, 0, none⟩) n n) (.l 138 2 n ps) S) := ho
     clear ho
     go_wp2_with fail
     refine (dToPair [v0, v1] [c0, c1] _ (HA0.out.on hb (Nat.le_refl _)) HL0.out).mono ?_
     rintro e w2 ⟨hb2, us, S', rfl, oL⟩
     have hU := oL.at
     obtain ⟨u0, u1, rfl, U0, U1⟩ := hU.c2
     obtain ⟨x0, rfl⟩ := T0.int
     obtain ⟨x1, rfl⟩ := T1.int
     obtain rfl := U0.int
     obtain rfl := U1.int
     have O2 := HO.out.on hb2 (Nat.le_refl _)
     have hb02 : Below w.heap.size w w2 := hb.trans (hb2.mono hb.size)
     obtain ⟨pv0, -, hc0, hf0, -⟩ := O2.cell (j := j * 2) (List.getElem?_eq_getElem (by omega))
     obtain ⟨pv1, -, hc1, hf1, -⟩ := O2.cell (j := j * 2 + 1) (List.getElem?_eq_getElem (by omega))
     have OL : Hid (OwnL w2 wr.heap.size [.int .i64 x0, .int .i64 x1] [.i x0, .i x1] S') := oL
     have HO2 : Hid (Own w2 w.heap.size (.slice (some ⟨w.heap.size, 0, none⟩) n n) (.l 138 2 n ps) S) := O2
     have HRS' : Hid (row cs 2 j = [.i x0, .i x1]) := HRS.out
     clear oL O2 hb2 hU e0 e1
     go_wp2
     go_roundw
     case rel =>
       have slt : ∀ x, S x → x < wr.heap.size := fun x hx => (HO.out.lt x hx).2
       obtain ⟨S'', o'', -⟩ := Own.storeL (p := j * 2) HO2.out (OL.out.weaken hb.size) (fun x hx hx' => by have h1 := (OL.out.lt x hx).1; have h2 := slt x hx'; omega) (by simp; omega)
       have hle : j * 2 + 2 ≤ n * 2 := by omega
       refine ⟨j + 1, by omega, by go_num, ⟨_, S'', ?_, ?_, o''⟩, stores_below (Nat.le_refl _) [.int .i64 x0, .int .i64 x1] w2 (j * 2) hb02⟩
       · rw [over_len]; exact lp
       · have h3 := over_take [.i x0, .i x1] ps (j * 2) (by simp; omega)
         rw [row_split (cs := cs), HRS'.out, ← tp, show (j + 1) * 2 = j * 2 + ([.i x0, .i x1] : List Cel).length by simp; omega]
         exact h3
     case measure => simp [intOf]; omega
   · obtain rfl : j = n := by omega
     have e : ps = cs := by rwa [List.take_of_length_le (by omega), List.take_of_length_le (by have := L2.out; omega)] at tp
     subst e
     go_wp2
     go_ret
     exact ⟨hb, _, S, rfl, ho⟩
theorem dInfoHelp : (Try.prog.info? 140).map (fun i => (i.zero, i.size)) = some (some (.agg #[.int .i64 0, .int .i64 0, .int .i64 0, .int .i64 0]), 4) := by kernel_rfl
theorem dBytesHelp : (Try.prog.info? 140).map (fun i => decide (i.bytes ≤ 1024)) = some true := by kernel_rfl
theorem dToHelp (vs : List Value) (cs : List Cel) (w : World) (h : AtL false w vs cs) (hs : HasL cs tyHelp) : Calls Try.prog 82 #[.agg vs.toArray] w (RetL w cs) := by
 obtain ⟨c0, c1, c2, c3, rfl, T0, T1, T2, T3⟩ := hs.c4
 obtain ⟨x0, rfl⟩ := T0.int
 obtain ⟨x1, rfl⟩ := T1.int
 obtain ⟨x2, rfl⟩ := T2.int
 obtain ⟨x3, rfl⟩ := T3.int
 obtain ⟨v0, v1, v2, v3, rfl, A0, A1, A2, A3⟩ := h.c4
 obtain rfl := A0.int
 obtain rfl := A1.int
 obtain rfl := A2.int
 obtain rfl := A3.int
 obtain ⟨R, hR⟩ : ∃ R, Value.agg #[.int .i64 x0, .int .i64 x1, .int .i64 x2, .int .i64 x3] = R := ⟨_, rfl⟩
 have HR : Hid (Value.agg #[.int .i64 x0, .int .i64 x1, .int .i64 x2, .int .i64 x3] = R) := hR
 clear hR
 go_enter Try.func82, Try.ntmps82
 go_wp2
 (try simp only [Exit.inBlock, Exit.then])
 refine bodyPost_ret (by simp [results, Try.results82, go_sem]; try rfl) rfl ?_
 exact ⟨(((Below.refl _ _).alloc (Nat.le_refl _) _).alloc (by simp) _).alloc (by simp; omega) _, [.int .i64 x0, .int .i64 x1, .int .i64 x2, .int .i64 x3], fun _ => False, rfl, OwnL.cons (S0 := fun _ => False) (S := fun _ => False) (.i x0 _ (fun _ h => h)) (OwnL.cons (S0 := fun _ => False) (S := fun _ => False) (.i x1 _ (fun _ h => h)) (OwnL.cons (S0 := fun _ => False) (S := fun _ => False) (.i x2 _ (fun _ h => h)) (OwnL.cons (S0 := fun _ => False) (S := fun _ => False) (.i x3 _ (fun _ h => h)) (OwnL.nil (fun _ h => h)) (fun _ h => h.elim) (fun _ => by simp)) (fun _ h => h.elim) (fun _ => by simp)) (fun _ h => h.elim) (fun _ => by simp)) (fun _ h => h.elim) (fun _ => by simp)⟩
theorem dToHelpS (v : Value) (n : Nat) (cs : List Cel) (w : World) (h : At false w v (.l 140 4 n cs)) (hs : Has (.l 140 4 n cs) (.l 140 4 tyHelp)) :
   Calls Try.prog 71 #[v] w (Ret w (.l 140 4 n cs)) := by
 obtain ⟨a, c, vs, rfl, h1, h2, hn, -, h3, h4⟩ := h.openL
 have SRC : Hid (n = 0 ∨ ∃ b o, a = some ⟨b, o, none⟩ ∧ ∀ j, j < n * 4 → w.cell? ⟨b, o + j, none⟩ = vs[j]?) := h3
 have HV : Hid (∀ j, j < n → AtL false w ((vs.drop (j * 4)).take 4) (row cs 4 j)) := fun j hj => rowVals h1 h2 h4 hj
 have HR : Hid (∀ j, j < n → HasL (row cs 4 j) tyHelp) := fun j hj => hs.rowL hj
 have L2 : Hid (cs.length = n * 4) := h2
 have L1 : Hid (vs.length = n * 4) := h1
 obtain ⟨i0, hi, hz⟩ := Option.map_eq_some_iff.1 dInfoHelp
 obtain ⟨i1, hi', hb1⟩ := Option.map_eq_some_iff.1 dBytesHelp
 obtain rfl : i0 = i1 := Option.some.inj (hi.symm.trans hi')
 have hz0 : i0.zero = some (.agg #[.int .i64 0, .int .i64 0, .int .i64 0, .int .i64 0]) := congrArg Prod.fst hz
 have hz1 : i0.size = 4 := congrArg Prod.snd hz
 have hz2 : i0.bytes ≤ 1024 := of_decide_eq_true hb1
 have hby : i0.bytes * n ≤ 1024 * 2097152 := Nat.mul_le_mul hz2 hn
 clear h h1 h2 h3 h4 hs hz hb1 hi'
 go_enter Try.func71, Try.ntmps71
 go_wp2_with (at_make; refine wpList_make_full _ rfl _ _ 101 rfl w.heap.size 140 i0 (.agg #[.int .i64 0, .int .i64 0, .int .i64 0, .int .i64 0]) 4 Try.underlying101 hi hz0 hz1 .i64 .i64 _ _ n rfl rfl rfl rfl (by first | omega | (rw [Nat.mul_comm]; omega)) (by unfold maxLen; omega) (Nat.le_refl _) ?_; intro w1 own1 grow1)
 obtain ⟨ps0, lp0, O0⟩ := own_made (zv := [.int .i64 0, .int .i64 0, .int .i64 0, .int .i64 0]) (zc := [.i 0, .i 0, .i 0, .i 0]) own1 hn rfl (fun j v hv => made_at hv (by decide)) (by
   intro i v c hv hc w'
   have hi : i < 4 := by have := (List.getElem?_eq_some_iff.1 hv).1; simpa using this
   rcases (show i = 0 ∨ i = 1 ∨ i = 2 ∨ i = 3 by omega) with rfl | rfl | rfl | rfl <;> (simp at hv hc; subst hv hc)
   · exact .i _ _ (fun _ h => h)
   · exact .i _ _ (fun _ h => h)
   · exact .i _ _ (fun _ h => h)
   · exact .i _ _ (fun _ h => h))
 have hb1 : Below w.heap.size w w1 := (Below.refl _ _).grown grow1 (Nat.le_refl _) (fun k e => by cases e)
 clear own1 grow1
 go_loopw [4] (fun i wr => ∃ j : Nat, j ≤ n ∧ i = .int .i64 (j : Int) ∧ (∃ ps S, ps.length = n * 4 ∧ ps.take (j * 4) = cs.take (j * 4) ∧ Own wr w.heap.size (.slice (some ⟨w.heap.size, 0, none⟩) n n) (.l 140 4 n ps) S) ∧ Below w.heap.size w wr) (fun i _ => n - (intOf i).toNat)
 case atStart => exact ⟨0, Nat.zero_le _, by simp, ⟨ps0, _, lp0, by simp, O0⟩, hb1⟩
 case round =>
   obtain ⟨j, hj, rfl, ⟨ps, S, lp, tp, ho⟩, hb⟩ := hrel
   clear O0 hb1 lp0
   by_cases hlt : j < n
   · rcases SRC.out with h0 | ⟨p1, o1, rfl, g1⟩
     · omega
     have hk0 : (0 : Int) ≤ (j : Int) := by omega
     have hk1 : (j : Int) < (n : Int) := by omega
     have hA := HV.out j hlt
     have hH := HR.out j hlt
     have hcv := rowAt hb hlt g1 L1.out
     obtain ⟨rs, hrs⟩ : ∃ rs, row cs 4 j = rs := ⟨_, rfl⟩
     obtain ⟨ws, hws⟩ : ∃ ws, (vs.drop (j * 4)).take 4 = ws := ⟨_, rfl⟩
     have HRS : Hid (row cs 4 j = rs) := hrs
     rw [hrs] at hA hH
     rw [hws] at hA hcv
     clear g1 hrs hws
     obtain ⟨c0, c1, c2, c3, rfl, T0, T1, T2, T3⟩ := hH.c4
     have HL0 : Hid (HasL [c0, c1, c2, c3] tyHelp) := hH
     obtain ⟨v0, vr0, rfl, A0, hA0⟩ := hA.consE
     obtain ⟨v1, vr1, rfl, A1, hA1⟩ := hA0.consE
     obtain ⟨v2, vr2, rfl, A2, hA2⟩ := hA1.consE
     obtain ⟨v3, vr3, rfl, A3, hA3⟩ := hA2.consE
     obtain rfl := hA3.nilE
     have HA0 : Hid (AtL false w [v0, v1, v2, v3] [c0, c1, c2, c3]) := hA
     have e0 : wr.cell? ⟨p1, o1 + j * 4, none⟩ = some v0 := hcv 0 (by omega)
     have e1 : wr.cell? ⟨p1, o1 + j * 4 + 1, none⟩ = some v1 := hcv 1 (by omega)
     have e2 : wr.cell? ⟨p1, o1 + j * 4 + 2, none⟩ = some v2 := hcv 2 (by omega)
     have e3 : wr.cell? ⟨p1, o1 + j * 4 + 3, none⟩ = some v3 := hcv 3 (by omega)
     clear hcv hA hH hA0 hA1 hA2 hA3
     have HO : Hid (Own wr w.heap.size (.slice (some ⟨w.heap.size, 0, none⟩) n n) (.l 140 4 n ps) S) := ho
     clear ho
     go_wp2_with fail
     refine (dToHelp [v0, v1, v2, v3] [c0, c1, c2, c3] _ (HA0.out.on hb (Nat.le_refl _)) HL0.out).mono ?_
     rintro e w2 ⟨hb2, us, S', rfl, oL⟩
     have hU := oL.at
     obtain ⟨u0, u1, u2, u3, rfl, U0, U1, U2, U3⟩ := hU.c4
     obtain ⟨x0, rfl⟩ := T0.int
     obtain ⟨x1, rfl⟩ := T1.int
     obtain ⟨x2, rfl⟩ := T2.int
     obtain ⟨x3, rfl⟩ := T3.int
     obtain rfl := U0.int
     obtain rfl := U1.int
     obtain rfl := U2.int
     obtain rfl := U3.int
     have O2 := HO.out.on hb2 (Nat.le_refl _)
     have hb02 : Below w.heap.size w w2 := hb.trans (hb2.mono hb.size)
     obtain ⟨pv0, -, hc0, hf0, -⟩ := O2.cell (j := j * 4) (List.getElem?_eq_getElem (by omega))
     obtain ⟨pv1, -, hc1, hf1, -⟩ := O2.cell (j := j * 4 + 1) (List.getElem?_eq_getElem (by omega))
     obtain ⟨pv2, -, hc2, hf2, -⟩ := O2.cell (j := j * 4 + 2) (List.getElem?_eq_getElem (by omega))
     obtain ⟨pv3, -, hc3, hf3, -⟩ := O2.cell (j := j * 4 + 3) (List.getElem?_eq_getElem (by omega))
     have OL : Hid (OwnL w2 wr.heap.size [.int .i64 x0, .int .i64 x1, .int .i64 x2, .int .i64 x3] [.i x0, .i x1, .i x2, .i x3] S') := oL
     have HO2 : Hid (Own w2 w.heap.size (.slice (some ⟨w.heap.size, 0, none⟩) n n) (.l 140 4 n ps) S) := O2
     have HRS' : Hid (row cs 4 j = [.i x0, .i x1, .i x2, .i x3]) := HRS.out
     clear oL O2 hb2 hU e0 e1 e2 e3
     go_wp2
     go_roundw
     case rel =>
       have slt : ∀ x, S x → x < wr.heap.size := fun x hx => (HO.out.lt x hx).2
       obtain ⟨S'', o'', -⟩ := Own.storeL (p := j * 4) HO2.out (OL.out.weaken hb.size) (fun x hx hx' => by have h1 := (OL.out.lt x hx).1; have h2 := slt x hx'; omega) (by simp; omega)
       have hle : j * 4 + 4 ≤ n * 4 := by omega
       refine ⟨j + 1, by omega, by go_num, ⟨_, S'', ?_, ?_, o''⟩, stores_below (Nat.le_refl _) [.int .i64 x0, .int .i64 x1, .int .i64 x2, .int .i64 x3] w2 (j * 4) hb02⟩
       · rw [over_len]; exact lp
       · have h3 := over_take [.i x0, .i x1, .i x2, .i x3] ps (j * 4) (by simp; omega)
         rw [row_split (cs := cs), HRS'.out, ← tp, show (j + 1) * 4 = j * 4 + ([.i x0, .i x1, .i x2, .i x3] : List Cel).length by simp; omega]
         exact h3
     case measure => simp [intOf]; omega
   · obtain rfl : j = n := by omega
     have e : ps = cs := by rwa [List.take_of_length_le (by omega), List.take_of_length_le (by have := L2.out; omega)] at tp
     subst e
     go_wp2
     go_ret
     exact ⟨hb, _, S, rfl, ho⟩
theorem dInfoEntry : (Try.prog.info? 151).map (fun i => (i.zero, i.size)) = some (some (.agg #[.int .i64 0, .int .i64 0, .int .i64 0]), 3) := by kernel_rfl
theorem dBytesEntry : (Try.prog.info? 151).map (fun i => decide (i.bytes ≤ 1024)) = some true := by kernel_rfl
theorem dToEntry (vs : List Value) (cs : List Cel) (w : World) (h : AtL false w vs cs) (hs : HasL cs tyEntry) : Calls Try.prog 86 #[.agg vs.toArray] w (RetL w cs) := by
 obtain ⟨c0, c1, c2, rfl, T0, T1, T2⟩ := hs.c3
 obtain ⟨x0, rfl⟩ := T0.int
 obtain ⟨x1, rfl⟩ := T1.int
 obtain ⟨x2, rfl⟩ := T2.int
 obtain ⟨v0, v1, v2, rfl, A0, A1, A2⟩ := h.c3
 obtain rfl := A0.int
 obtain rfl := A1.int
 obtain rfl := A2.int
 obtain ⟨R, hR⟩ : ∃ R, Value.agg #[.int .i64 x0, .int .i64 x1, .int .i64 x2] = R := ⟨_, rfl⟩
 have HR : Hid (Value.agg #[.int .i64 x0, .int .i64 x1, .int .i64 x2] = R) := hR
 clear hR
 go_enter Try.func86, Try.ntmps86
 go_wp2
 (try simp only [Exit.inBlock, Exit.then])
 refine bodyPost_ret (by simp [results, Try.results86, go_sem]; try rfl) rfl ?_
 exact ⟨(((Below.refl _ _).alloc (Nat.le_refl _) _).alloc (by simp) _).alloc (by simp; omega) _, [.int .i64 x0, .int .i64 x1, .int .i64 x2], fun _ => False, rfl, OwnL.cons (S0 := fun _ => False) (S := fun _ => False) (.i x0 _ (fun _ h => h)) (OwnL.cons (S0 := fun _ => False) (S := fun _ => False) (.i x1 _ (fun _ h => h)) (OwnL.cons (S0 := fun _ => False) (S := fun _ => False) (.i x2 _ (fun _ h => h)) (OwnL.nil (fun _ h => h)) (fun _ h => h.elim) (fun _ => by simp)) (fun _ h => h.elim) (fun _ => by simp)) (fun _ h => h.elim) (fun _ => by simp)⟩
theorem dToEntryS (v : Value) (n : Nat) (cs : List Cel) (w : World) (h : At false w v (.l 151 3 n cs)) (hs : Has (.l 151 3 n cs) (.l 151 3 tyEntry)) :
   Calls Try.prog 80 #[v] w (Ret w (.l 151 3 n cs)) := by
 obtain ⟨a, c, vs, rfl, h1, h2, hn, -, h3, h4⟩ := h.openL
 have SRC : Hid (n = 0 ∨ ∃ b o, a = some ⟨b, o, none⟩ ∧ ∀ j, j < n * 3 → w.cell? ⟨b, o + j, none⟩ = vs[j]?) := h3
 have HV : Hid (∀ j, j < n → AtL false w ((vs.drop (j * 3)).take 3) (row cs 3 j)) := fun j hj => rowVals h1 h2 h4 hj
 have HR : Hid (∀ j, j < n → HasL (row cs 3 j) tyEntry) := fun j hj => hs.rowL hj
 have L2 : Hid (cs.length = n * 3) := h2
 have L1 : Hid (vs.length = n * 3) := h1
 obtain ⟨i0, hi, hz⟩ := Option.map_eq_some_iff.1 dInfoEntry
 obtain ⟨i1, hi', hb1⟩ := Option.map_eq_some_iff.1 dBytesEntry
 obtain rfl : i0 = i1 := Option.some.inj (hi.symm.trans hi')
 have hz0 : i0.zero = some (.agg #[.int .i64 0, .int .i64 0, .int .i64 0]) := congrArg Prod.fst hz
 have hz1 : i0.size = 3 := congrArg Prod.snd hz
 have hz2 : i0.bytes ≤ 1024 := of_decide_eq_true hb1
 have hby : i0.bytes * n ≤ 1024 * 2097152 := Nat.mul_le_mul hz2 hn
 clear h h1 h2 h3 h4 hs hz hb1 hi'
 go_enter Try.func80, Try.ntmps80
 go_wp2_with (at_make; refine wpList_make_full _ rfl _ _ 124 rfl w.heap.size 151 i0 (.agg #[.int .i64 0, .int .i64 0, .int .i64 0]) 3 Try.underlying124 hi hz0 hz1 .i64 .i64 _ _ n rfl rfl rfl rfl (by first | omega | (rw [Nat.mul_comm]; omega)) (by unfold maxLen; omega) (Nat.le_refl _) ?_; intro w1 own1 grow1)
 obtain ⟨ps0, lp0, O0⟩ := own_made (zv := [.int .i64 0, .int .i64 0, .int .i64 0]) (zc := [.i 0, .i 0, .i 0]) own1 hn rfl (fun j v hv => made_at hv (by decide)) (by
   intro i v c hv hc w'
   have hi : i < 3 := by have := (List.getElem?_eq_some_iff.1 hv).1; simpa using this
   rcases (show i = 0 ∨ i = 1 ∨ i = 2 by omega) with rfl | rfl | rfl <;> (simp at hv hc; subst hv hc)
   · exact .i _ _ (fun _ h => h)
   · exact .i _ _ (fun _ h => h)
   · exact .i _ _ (fun _ h => h))
 have hb1 : Below w.heap.size w w1 := (Below.refl _ _).grown grow1 (Nat.le_refl _) (fun k e => by cases e)
 clear own1 grow1
 go_loopw [4] (fun i wr => ∃ j : Nat, j ≤ n ∧ i = .int .i64 (j : Int) ∧ (∃ ps S, ps.length = n * 3 ∧ ps.take (j * 3) = cs.take (j * 3) ∧ Own wr w.heap.size (.slice (some ⟨w.heap.size, 0, none⟩) n n) (.l 151 3 n ps) S) ∧ Below w.heap.size w wr) (fun i _ => n - (intOf i).toNat)
 case atStart => exact ⟨0, Nat.zero_le _, by simp, ⟨ps0, _, lp0, by simp, O0⟩, hb1⟩
 case round =>
   obtain ⟨j, hj, rfl, ⟨ps, S, lp, tp, ho⟩, hb⟩ := hrel
   clear O0 hb1 lp0
   by_cases hlt : j < n
   · rcases SRC.out with h0 | ⟨p1, o1, rfl, g1⟩
     · omega
     have hk0 : (0 : Int) ≤ (j : Int) := by omega
     have hk1 : (j : Int) < (n : Int) := by omega
     have hA := HV.out j hlt
     have hH := HR.out j hlt
     have hcv := rowAt hb hlt g1 L1.out
     obtain ⟨rs, hrs⟩ : ∃ rs, row cs 3 j = rs := ⟨_, rfl⟩
     obtain ⟨ws, hws⟩ : ∃ ws, (vs.drop (j * 3)).take 3 = ws := ⟨_, rfl⟩
     have HRS : Hid (row cs 3 j = rs) := hrs
     rw [hrs] at hA hH
     rw [hws] at hA hcv
     clear g1 hrs hws
     obtain ⟨c0, c1, c2, rfl, T0, T1, T2⟩ := hH.c3
     have HL0 : Hid (HasL [c0, c1, c2] tyEntry) := hH
     obtain ⟨v0, vr0, rfl, A0, hA0⟩ := hA.consE
     obtain ⟨v1, vr1, rfl, A1, hA1⟩ := hA0.consE
     obtain ⟨v2, vr2, rfl, A2, hA2⟩ := hA1.consE
     obtain rfl := hA2.nilE
     have HA0 : Hid (AtL false w [v0, v1, v2] [c0, c1, c2]) := hA
     have e0 : wr.cell? ⟨p1, o1 + j * 3, none⟩ = some v0 := hcv 0 (by omega)
     have e1 : wr.cell? ⟨p1, o1 + j * 3 + 1, none⟩ = some v1 := hcv 1 (by omega)
     have e2 : wr.cell? ⟨p1, o1 + j * 3 + 2, none⟩ = some v2 := hcv 2 (by omega)
     clear hcv hA hH hA0 hA1 hA2
     have HO : Hid (Own wr w.heap.size (.slice (some ⟨w.heap.size, 0, none⟩) n n) (.l 151 3 n ps) S) := ho
     clear ho
     go_wp2_with fail
     refine (dToEntry [v0, v1, v2] [c0, c1, c2] _ (HA0.out.on hb (Nat.le_refl _)) HL0.out).mono ?_
     rintro e w2 ⟨hb2, us, S', rfl, oL⟩
     have hU := oL.at
     obtain ⟨u0, u1, u2, rfl, U0, U1, U2⟩ := hU.c3
     obtain ⟨x0, rfl⟩ := T0.int
     obtain ⟨x1, rfl⟩ := T1.int
     obtain ⟨x2, rfl⟩ := T2.int
     obtain rfl := U0.int
     obtain rfl := U1.int
     obtain rfl := U2.int
     have O2 := HO.out.on hb2 (Nat.le_refl _)
     have hb02 : Below w.heap.size w w2 := hb.trans (hb2.mono hb.size)
     obtain ⟨pv0, -, hc0, hf0, -⟩ := O2.cell (j := j * 3) (List.getElem?_eq_getElem (by omega))
     obtain ⟨pv1, -, hc1, hf1, -⟩ := O2.cell (j := j * 3 + 1) (List.getElem?_eq_getElem (by omega))
     obtain ⟨pv2, -, hc2, hf2, -⟩ := O2.cell (j := j * 3 + 2) (List.getElem?_eq_getElem (by omega))
     have OL : Hid (OwnL w2 wr.heap.size [.int .i64 x0, .int .i64 x1, .int .i64 x2] [.i x0, .i x1, .i x2] S') := oL
     have HO2 : Hid (Own w2 w.heap.size (.slice (some ⟨w.heap.size, 0, none⟩) n n) (.l 151 3 n ps) S) := O2
     have HRS' : Hid (row cs 3 j = [.i x0, .i x1, .i x2]) := HRS.out
     clear oL O2 hb2 hU e0 e1 e2
     go_wp2
     go_roundw
     case rel =>
       have slt : ∀ x, S x → x < wr.heap.size := fun x hx => (HO.out.lt x hx).2
       obtain ⟨S'', o'', -⟩ := Own.storeL (p := j * 3) HO2.out (OL.out.weaken hb.size) (fun x hx hx' => by have h1 := (OL.out.lt x hx).1; have h2 := slt x hx'; omega) (by simp; omega)
       have hle : j * 3 + 3 ≤ n * 3 := by omega
       refine ⟨j + 1, by omega, by go_num, ⟨_, S'', ?_, ?_, o''⟩, stores_below (Nat.le_refl _) [.int .i64 x0, .int .i64 x1, .int .i64 x2] w2 (j * 3) hb02⟩
       · rw [over_len]; exact lp
       · have h3 := over_take [.i x0, .i x1, .i x2] ps (j * 3) (by simp; omega)
         rw [row_split (cs := cs), HRS'.out, ← tp, show (j + 1) * 3 = j * 3 + ([.i x0, .i x1, .i x2] : List Cel).length by simp; omega]
         exact h3
     case measure => simp [intOf]; omega
   · obtain rfl : j = n := by omega
     have e : ps = cs := by rwa [List.take_of_length_le (by omega), List.take_of_length_le (by have := L2.out; omega)] at tp
     subst e
     go_wp2
     go_ret
     exact ⟨hb, _, S, rfl, ho⟩
theorem dInfoWord : (Try.prog.info? 121).map (fun i => (i.zero, i.size)) = some (some (.agg #[.int .i64 0, .int .i64 0, .int .i64 0]), 3) := by kernel_rfl
theorem dBytesWord : (Try.prog.info? 121).map (fun i => decide (i.bytes ≤ 1024)) = some true := by kernel_rfl
theorem dToWord (vs : List Value) (cs : List Cel) (w : World) (h : AtL false w vs cs) (hs : HasL cs tyWord) : Calls Try.prog 67 #[.agg vs.toArray] w (RetL w cs) := by
 obtain ⟨c0, c1, c2, rfl, T0, T1, T2⟩ := hs.c3
 obtain ⟨x0, rfl⟩ := T0.int
 obtain ⟨x1, rfl⟩ := T1.int
 obtain ⟨x2, rfl⟩ := T2.int
 obtain ⟨v0, v1, v2, rfl, A0, A1, A2⟩ := h.c3
 obtain rfl := A0.int
 obtain rfl := A1.int
 obtain rfl := A2.int
 obtain ⟨R, hR⟩ : ∃ R, Value.agg #[.int .i64 x0, .int .i64 x1, .int .i64 x2] = R := ⟨_, rfl⟩
 have HR : Hid (Value.agg #[.int .i64 x0, .int .i64 x1, .int .i64 x2] = R) := hR
 clear hR
 go_enter Try.func67, Try.ntmps67
 go_wp2
 (try simp only [Exit.inBlock, Exit.then])
 refine bodyPost_ret (by simp [results, Try.results67, go_sem]; try rfl) rfl ?_
 exact ⟨(((Below.refl _ _).alloc (Nat.le_refl _) _).alloc (by simp) _).alloc (by simp; omega) _, [.int .i64 x0, .int .i64 x1, .int .i64 x2], fun _ => False, rfl, OwnL.cons (S0 := fun _ => False) (S := fun _ => False) (.i x0 _ (fun _ h => h)) (OwnL.cons (S0 := fun _ => False) (S := fun _ => False) (.i x1 _ (fun _ h => h)) (OwnL.cons (S0 := fun _ => False) (S := fun _ => False) (.i x2 _ (fun _ h => h)) (OwnL.nil (fun _ h => h)) (fun _ h => h.elim) (fun _ => by simp)) (fun _ h => h.elim) (fun _ => by simp)) (fun _ h => h.elim) (fun _ => by simp)⟩
theorem dToWordS (v : Value) (n : Nat) (cs : List Cel) (w : World) (h : At false w v (.l 121 3 n cs)) (hs : Has (.l 121 3 n cs) (.l 121 3 tyWord)) :
   Calls Try.prog 50 #[v] w (Ret w (.l 121 3 n cs)) := by
 obtain ⟨a, c, vs, rfl, h1, h2, hn, -, h3, h4⟩ := h.openL
 have SRC : Hid (n = 0 ∨ ∃ b o, a = some ⟨b, o, none⟩ ∧ ∀ j, j < n * 3 → w.cell? ⟨b, o + j, none⟩ = vs[j]?) := h3
 have HV : Hid (∀ j, j < n → AtL false w ((vs.drop (j * 3)).take 3) (row cs 3 j)) := fun j hj => rowVals h1 h2 h4 hj
 have HR : Hid (∀ j, j < n → HasL (row cs 3 j) tyWord) := fun j hj => hs.rowL hj
 have L2 : Hid (cs.length = n * 3) := h2
 have L1 : Hid (vs.length = n * 3) := h1
 obtain ⟨i0, hi, hz⟩ := Option.map_eq_some_iff.1 dInfoWord
 obtain ⟨i1, hi', hb1⟩ := Option.map_eq_some_iff.1 dBytesWord
 obtain rfl : i0 = i1 := Option.some.inj (hi.symm.trans hi')
 have hz0 : i0.zero = some (.agg #[.int .i64 0, .int .i64 0, .int .i64 0]) := congrArg Prod.fst hz
 have hz1 : i0.size = 3 := congrArg Prod.snd hz
 have hz2 : i0.bytes ≤ 1024 := of_decide_eq_true hb1
 have hby : i0.bytes * n ≤ 1024 * 2097152 := Nat.mul_le_mul hz2 hn
 clear h h1 h2 h3 h4 hs hz hb1 hi'
 go_enter Try.func50, Try.ntmps50
 go_wp2_with (at_make; refine wpList_make_full _ rfl _ _ 50 rfl w.heap.size 121 i0 (.agg #[.int .i64 0, .int .i64 0, .int .i64 0]) 3 Try.underlying50 hi hz0 hz1 .i64 .i64 _ _ n rfl rfl rfl rfl (by first | omega | (rw [Nat.mul_comm]; omega)) (by unfold maxLen; omega) (Nat.le_refl _) ?_; intro w1 own1 grow1)
 obtain ⟨ps0, lp0, O0⟩ := own_made (zv := [.int .i64 0, .int .i64 0, .int .i64 0]) (zc := [.i 0, .i 0, .i 0]) own1 hn rfl (fun j v hv => made_at hv (by decide)) (by
   intro i v c hv hc w'
   have hi : i < 3 := by have := (List.getElem?_eq_some_iff.1 hv).1; simpa using this
   rcases (show i = 0 ∨ i = 1 ∨ i = 2 by omega) with rfl | rfl | rfl <;> (simp at hv hc; subst hv hc)
   · exact .i _ _ (fun _ h => h)
   · exact .i _ _ (fun _ h => h)
   · exact .i _ _ (fun _ h => h))
 have hb1 : Below w.heap.size w w1 := (Below.refl _ _).grown grow1 (Nat.le_refl _) (fun k e => by cases e)
 clear own1 grow1
 go_loopw [4] (fun i wr => ∃ j : Nat, j ≤ n ∧ i = .int .i64 (j : Int) ∧ (∃ ps S, ps.length = n * 3 ∧ ps.take (j * 3) = cs.take (j * 3) ∧ Own wr w.heap.size (.slice (some ⟨w.heap.size, 0, none⟩) n n) (.l 121 3 n ps) S) ∧ Below w.heap.size w wr) (fun i _ => n - (intOf i).toNat)
 case atStart => exact ⟨0, Nat.zero_le _, by simp, ⟨ps0, _, lp0, by simp, O0⟩, hb1⟩
 case round =>
   obtain ⟨j, hj, rfl, ⟨ps, S, lp, tp, ho⟩, hb⟩ := hrel
   clear O0 hb1 lp0
   by_cases hlt : j < n
   · rcases SRC.out with h0 | ⟨p1, o1, rfl, g1⟩
     · omega
     have hk0 : (0 : Int) ≤ (j : Int) := by omega
     have hk1 : (j : Int) < (n : Int) := by omega
     have hA := HV.out j hlt
     have hH := HR.out j hlt
     have hcv := rowAt hb hlt g1 L1.out
     obtain ⟨rs, hrs⟩ : ∃ rs, row cs 3 j = rs := ⟨_, rfl⟩
     obtain ⟨ws, hws⟩ : ∃ ws, (vs.drop (j * 3)).take 3 = ws := ⟨_, rfl⟩
     have HRS : Hid (row cs 3 j = rs) := hrs
     rw [hrs] at hA hH
     rw [hws] at hA hcv
     clear g1 hrs hws
     obtain ⟨c0, c1, c2, rfl, T0, T1, T2⟩ := hH.c3
     have HL0 : Hid (HasL [c0, c1, c2] tyWord) := hH
     obtain ⟨v0, vr0, rfl, A0, hA0⟩ := hA.consE
     obtain ⟨v1, vr1, rfl, A1, hA1⟩ := hA0.consE
     obtain ⟨v2, vr2, rfl, A2, hA2⟩ := hA1.consE
     obtain rfl := hA2.nilE
     have HA0 : Hid (AtL false w [v0, v1, v2] [c0, c1, c2]) := hA
     have e0 : wr.cell? ⟨p1, o1 + j * 3, none⟩ = some v0 := hcv 0 (by omega)
     have e1 : wr.cell? ⟨p1, o1 + j * 3 + 1, none⟩ = some v1 := hcv 1 (by omega)
     have e2 : wr.cell? ⟨p1, o1 + j * 3 + 2, none⟩ = some v2 := hcv 2 (by omega)
     clear hcv hA hH hA0 hA1 hA2
     have HO : Hid (Own wr w.heap.size (.slice (some ⟨w.heap.size, 0, none⟩) n n) (.l 121 3 n ps) S) := ho
     clear ho
     go_wp2_with fail
     refine (dToWord [v0, v1, v2] [c0, c1, c2] _ (HA0.out.on hb (Nat.le_refl _)) HL0.out).mono ?_
     rintro e w2 ⟨hb2, us, S', rfl, oL⟩
     have hU := oL.at
     obtain ⟨u0, u1, u2, rfl, U0, U1, U2⟩ := hU.c3
     obtain ⟨x0, rfl⟩ := T0.int
     obtain ⟨x1, rfl⟩ := T1.int
     obtain ⟨x2, rfl⟩ := T2.int
     obtain rfl := U0.int
     obtain rfl := U1.int
     obtain rfl := U2.int
     have O2 := HO.out.on hb2 (Nat.le_refl _)
     have hb02 : Below w.heap.size w w2 := hb.trans (hb2.mono hb.size)
     obtain ⟨pv0, -, hc0, hf0, -⟩ := O2.cell (j := j * 3) (List.getElem?_eq_getElem (by omega))
     obtain ⟨pv1, -, hc1, hf1, -⟩ := O2.cell (j := j * 3 + 1) (List.getElem?_eq_getElem (by omega))
     obtain ⟨pv2, -, hc2, hf2, -⟩ := O2.cell (j := j * 3 + 2) (List.getElem?_eq_getElem (by omega))
     have OL : Hid (OwnL w2 wr.heap.size [.int .i64 x0, .int .i64 x1, .int .i64 x2] [.i x0, .i x1, .i x2] S') := oL
     have HO2 : Hid (Own w2 w.heap.size (.slice (some ⟨w.heap.size, 0, none⟩) n n) (.l 121 3 n ps) S) := O2
     have HRS' : Hid (row cs 3 j = [.i x0, .i x1, .i x2]) := HRS.out
     clear oL O2 hb2 hU e0 e1 e2
     go_wp2
     go_roundw
     case rel =>
       have slt : ∀ x, S x → x < wr.heap.size := fun x hx => (HO.out.lt x hx).2
       obtain ⟨S'', o'', -⟩ := Own.storeL (p := j * 3) HO2.out (OL.out.weaken hb.size) (fun x hx hx' => by have h1 := (OL.out.lt x hx).1; have h2 := slt x hx'; omega) (by simp; omega)
       have hle : j * 3 + 3 ≤ n * 3 := by omega
       refine ⟨j + 1, by omega, by go_num, ⟨_, S'', ?_, ?_, o''⟩, stores_below (Nat.le_refl _) [.int .i64 x0, .int .i64 x1, .int .i64 x2] w2 (j * 3) hb02⟩
       · rw [over_len]; exact lp
       · have h3 := over_take [.i x0, .i x1, .i x2] ps (j * 3) (by simp; omega)
         rw [row_split (cs := cs), HRS'.out, ← tp, show (j + 1) * 3 = j * 3 + ([.i x0, .i x1, .i x2] : List Cel).length by simp; omega]
         exact h3
     case measure => simp [intOf]; omega
   · obtain rfl : j = n := by omega
     have e : ps = cs := by rwa [List.take_of_length_le (by omega), List.take_of_length_le (by have := L2.out; omega)] at tp
     subst e
     go_wp2
     go_ret
     exact ⟨hb, _, S, rfl, ho⟩
end
end Go.Proofs.Ytecheopkfhfgkaa
