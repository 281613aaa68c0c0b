/- Texts joined: MchB, DatA, DatT. -/
import Derived.Test.YtcfimaffeopbbaaGreatDoorQM06
import Derived.Test.YtcfimaffeopbbaaGreatDoorQM03
import Derived.Deep.RegionHeld3
import Derived.Deep.Cut
import Derived.Handy
set_option maxHeartbeats 1000000
set_option maxRecDepth 100000
namespace Go.Proofs.YtcfimaffeopbbaaGreatDoor
section
open Go.ChangeShapes Go.WideShapes Go.ChangeAt Go.RowKit Go.Joins
theorem i1 : ∀ t ∈ ([.i] : List Ty), t = .i := int_all rfl
theorem iOp : ∀ t ∈ tyOp, t = .i := int_all rfl
theorem iPair : ∀ t ∈ tyPair, t = .i := int_all rfl
theorem iHelp : ∀ t ∈ tyHelp, t = .i := int_all rfl
theorem iWord : ∀ t ∈ tyWord, t = .i := int_all rfl
theorem at_thread {w : World} {b p : Nat} {us : List Value} {r : List Cel} (h : AtL true w us r) (hs : HasL r tyThread) (hc : ∀ i, i < 5 → w.cell? ⟨b, p + i, none⟩ = us[i]?) :
   ∃ a0 c0 a1 c1 a2 c2, ThC w b p (thD r) a0 c0 a1 c1 a2 c2 ∧ ThL w a0 a1 a2 (thD r) ∧ (thD r).n0 ≤ c0 ∧ (thD r).n1 ≤ c1 ∧ (thD r).n2 ≤ c2 := by
 obtain ⟨x0, x1, x2, x3, x4, rfl, T0, T1, T2, T3, T4⟩ := hs.c5
 obtain ⟨v0, v1, v2, v3, v4, rfl, A0, A1, A2, A3, A4⟩ := h.c5
 obtain ⟨n0, l0, rfl, _⟩ := T0.list
 obtain ⟨y1, rfl⟩ := T1.int
 obtain ⟨y2, rfl⟩ := T2.bool
 obtain ⟨n3, l3, rfl, _⟩ := T3.list
 obtain ⟨n4, l4, rfl, _⟩ := T4.list
 obtain rfl := A1.int
 obtain rfl := A2.bool
 obtain ⟨a0, c0, rfl⟩ := A0.slice
 obtain ⟨a3, c3, rfl⟩ := A3.slice
 obtain ⟨a4, c4, rfl⟩ := A4.slice
 exact ⟨a0, c0, a3, c3, a4, c4, ⟨hc 0 (by omega), hc 1 (by omega), hc 2 (by omega), hc 3 (by omega), hc 4 (by omega)⟩, ⟨at_kAt A0 T0 iOp, at_kAt A3 T3 iPair, at_kAt A4 T4 iHelp⟩, at_cap A0, at_cap A3, at_cap A4⟩
theorem forms8 {q : Bool} {w : World} {us : List Value} {cs : List Cel} (h : AtL q w us cs) (hs : HasL cs tyMachine) :
   ∃ b0 m0 k0 b1 m1 k1 b2 m2 k2 j3 b4 m4 k4 b5 m5 k5 b6 m6 k6 j7, us = [.slice b0 m0 k0, .slice b1 m1 k1, .slice b2 m2 k2, .int .i64 j3, .slice b4 m4 k4, .slice b5 m5 k5, .slice b6 m6 k6, .int .i64 j7] := by
 obtain ⟨x0, x1, x2, x3, x4, x5, x6, x7, rfl, T0, T1, T2, T3, T4, T5, T6, T7⟩ := hs.c8
 obtain ⟨v0, v1, v2, v3, v4, v5, v6, v7, rfl, A0, A1, A2, A3, A4, A5, A6, A7⟩ := h.c8
 obtain ⟨n0, l0, rfl, e0⟩ := T0.list
 obtain ⟨n1, l1, rfl, e1⟩ := T1.list
 obtain ⟨n2, l2, rfl, e2⟩ := T2.list
 obtain ⟨y3, rfl⟩ := T3.int
 obtain ⟨n4, l4, rfl, e4⟩ := T4.list
 obtain ⟨n5, l5, rfl, e5⟩ := T5.list
 obtain ⟨n6, l6, rfl, e6⟩ := T6.list
 obtain ⟨y7, rfl⟩ := T7.int
 obtain rfl := A3.int
 obtain rfl := A7.int
 obtain ⟨a0, c0, rfl⟩ := A0.slice
 obtain ⟨a1, c1, rfl⟩ := A1.slice
 obtain ⟨a2, c2, rfl⟩ := A2.slice
 obtain ⟨a4, c4, rfl⟩ := A4.slice
 obtain ⟨a5, c5, rfl⟩ := A5.slice
 obtain ⟨a6, c6, rfl⟩ := A6.slice
 exact ⟨_, _, _, _, _, _, _, _, _, _, _, _, _, _, _, _, _, _, _, _, rfl⟩
theorem Own.open9 {w : World} {base : Nat} {v : Value} {T : TypeId} {k n : Nat} {cs : List Cel} {S : Nat → Prop} (h : Own w base v (.l T k n cs) S) : ∃ vs, w.ownsRow base T k v n vs ∧
   ∀ (v' : Value) (w' : World) (us : List Value) (rs : List Cel) (S' : Nat → Prop), OwnL w base us rs S' → (∀ x, S' x → ¬ S x) → rs.length = k → n + 1 ≤ 2097152 → w'.ownsRow base T k v' (n + 1) (vs ++ us) → w.grownBy w' v.ownBlock → (v'.ownBlock = v.ownBlock ∨ v'.ownBlock = some w.heap.size) →
     ∃ S'', Own w' base v' (.l T k (n + 1) (cs ++ rs)) S'' ∧ ∀ x, S'' x → S x ∨ S' x ∨ x = w.heap.size := by
 have key : ∃ (vs : List Value) (Ss : Nat → Nat → Prop), w.ownsRow base T k v n vs ∧ cs.length = n * k ∧ (∀ (j : Nat) (u : Value) (c : Cel), vs[j]? = some u → cs[j]? = some c → Own w base u c (Ss j)) ∧ (∀ j x, j < n * k → Ss j x → S x) ∧ (∀ j g, v.ownBlock = some g → ¬ Ss j g) ∧ (∀ g, v.ownBlock = some g → S g) ∧ ∀ i j x, i ≠ j → Ss i x → ¬ Ss j x := by
   cases h with
   | nil T k S hS => exact ⟨[], fun _ _ => False, World.ownsRow_nil _ _ _ _, by simp, (fun j u c hu _ => by simp at hu), (fun j x hj => by simp at hj), (fun j g e => by cases e), (fun g e => by cases e), fun _ _ _ _ h => h.elim⟩
   | l g cap T k n cs vs S Ss h1 h2 hn h4 h5 h6 h7 =>
     exact ⟨vs, Ss, h1, h2, h4, fun j x hj hx => (h7 x).2 (.inr ⟨j, hj, hx⟩), fun j g' e => by have e2 : g = g' := Option.some.inj e; rw [← e2]; exact h5 j, fun g' e => by have e2 : g = g' := Option.some.inj e; rw [← e2]; exact (h7 g).2 (.inl rfl), h6⟩
 obtain ⟨vs, Ss, h1, h2, h4, hsub, h5, hg, h6⟩ := key
 have hlv := h1.1
 refine ⟨vs, h1, fun v' w' us rs S' hu hd hk hn hrow hgrow hwhere => ?_⟩
 obtain ⟨hul, Us, u1, u2, u3⟩ := hu
 have hus : us.length = k := by omega
 have hlt : ∀ x, S x → x < w.heap.size := fun x hx => (h.lt x hx).2
 have hlt' : ∀ x, S' x → x < w.heap.size := fun x hx => by
   obtain ⟨j, hj, hx⟩ := (u3 x).1 hx
   exact ((u1 j _ _ (List.getElem?_eq_getElem hj) (List.getElem?_eq_getElem (by omega))).lt x hx).2
 have keepS : ∀ j x, j < n * k → Ss j x → w'.heap[x]? = w.heap[x]? := fun j x hj hx => hgrow.block x (hlt x (hsub j x hj hx)) (fun e => h5 j x e.symm hx)
 have keepU : ∀ j x, j < us.length → Us j x → w'.heap[x]? = w.heap[x]? := fun j x hj hx => hgrow.block x (hlt' x ((u3 x).2 ⟨j, hj, hx⟩)) (fun e => hd x ((u3 x).2 ⟨j, hj, hx⟩) (hg x e.symm))
 rcases owns_forms hrow with ⟨-, h0⟩ | ⟨g, cap, rfl⟩
 · omega
 have hgg : v.ownBlock = some g ∨ g = w.heap.size := by
   rcases hwhere with e | e
   · exact .inl (by rw [← e]; rfl)
   · exact .inr (Option.some.inj e)
 have hnS : ∀ j, j < n * k → ¬ Ss j g := fun j hj hx => by
   rcases hgg with e | e
   · exact h5 j g e hx
   · have := hlt g (hsub j g hj hx); omega
 have hnU : ∀ j, j < us.length → ¬ Us j g := fun j hj hx => by
   have hs' : S' g := (u3 g).2 ⟨j, hj, hx⟩
   rcases hgg with e | e
   · exact hd g hs' (hg g e)
   · have := hlt' g hs'; omega
 refine ⟨fun x => x = g ∨ ∃ j, j < (n + 1) * k ∧ (if j < n * k then Ss j else Us (j - n * k)) x, .l g cap T k (n + 1) (cs ++ rs) (vs ++ us) _ (fun j => if j < n * k then Ss j else if j < (n + 1) * k then Us (j - n * k) else fun _ => False) hrow (by rw [List.length_append, h2, hk, Nat.succ_mul]) hn ?_ ?_ ?_ ?_, ?_⟩
 · intro j u c hu hc
   by_cases hj : j < n * k
   · rw [List.getElem?_append_left (by omega)] at hu
     rw [List.getElem?_append_left (by omega)] at hc
     rw [if_pos hj]
     exact (h4 j u c hu hc).heap fun x hx => keepS j x hj hx
   · rw [List.getElem?_append_right (by omega), hlv] at hu
     rw [List.getElem?_append_right (by omega), h2] at hc
     have hjj : j - n * k < us.length := (List.getElem?_eq_some_iff.1 hu).1
     rw [if_neg hj, if_pos (by rw [Nat.succ_mul]; omega)]
     exact (u1 _ u c hu hc).heap fun x hx => keepU _ x hjj hx
 · intro j
   show ¬ (if j < n * k then Ss j else if j < (n + 1) * k then Us (j - n * k) else fun _ => False) g
   split
   · rename_i hj; exact hnS j hj
   · split
     · rename_i hj hj'; exact hnU _ (by rw [Nat.succ_mul] at hj'; omega)
     · exact fun h => h
 · intro i j x hij
   show (if i < n * k then Ss i else if i < (n + 1) * k then Us (i - n * k) else fun _ => False) x → ¬ (if j < n * k then Ss j else if j < (n + 1) * k then Us (j - n * k) else fun _ => False) x
   by_cases hi : i < n * k
   · rw [if_pos hi]
     intro hx
     by_cases hj : j < n * k
     · rw [if_pos hj]; exact h6 i j x hij hx
     · rw [if_neg hj]
       split
       · rename_i hj'
         exact fun hx' => hd x ((u3 x).2 ⟨_, by rw [Nat.succ_mul] at hj'; omega, hx'⟩) (hsub i x hi hx)
       · exact fun h => h
   · rw [if_neg hi]
     split
     · rename_i hi'
       intro hx
       by_cases hj : j < n * k
       · rw [if_pos hj]
         exact fun hx' => hd x ((u3 x).2 ⟨_, by rw [Nat.succ_mul] at hi'; omega, hx⟩) (hsub j x hj hx')
       · rw [if_neg hj]
         split
         · exact u2 _ _ x (by omega) hx
         · exact fun h => h
     · exact fun h => h.elim
 · intro x
   constructor
   · rintro (rfl | ⟨j, hj, hx⟩)
     · exact .inl rfl
     · refine .inr ⟨j, hj, ?_⟩
       by_cases hj2 : j < n * k
       · rw [if_pos hj2] at hx ⊢; exact hx
       · rw [if_neg hj2] at hx ⊢; rw [if_pos hj]; exact hx
   · rintro (rfl | ⟨j, hj, hx⟩)
     · exact .inl rfl
     · refine .inr ⟨j, hj, ?_⟩
       by_cases hj2 : j < n * k
       · rw [if_pos hj2] at hx ⊢; exact hx
       · rw [if_neg hj2, if_pos hj] at hx; rw [if_neg hj2]; exact hx
 · rintro x (rfl | ⟨j, hj, hx⟩)
   · rcases hgg with e | e
     · exact .inl (hg x e)
     · exact .inr (.inr e)
   · by_cases hj2 : j < n * k
     · rw [if_pos hj2] at hx; exact .inl (hsub j x hj2 hx)
     · rw [if_neg hj2] at hx; exact .inr (.inl ((u3 x).2 ⟨_, by rw [Nat.succ_mul] at hj; omega, hx⟩))
theorem dInfoOp : (Tryz.prog.info? 82).map (fun i => (i.zero, i.size)) = some (some (.agg #[.int .i64 0, .int .i64 0, .int .i64 0]), 3) := by kernel_rfl
theorem dBytesOp : (Tryz.prog.info? 82).map (fun i => decide (i.bytes ≤ 1024)) = some true := by kernel_rfl
theorem dToOp (vs : List Value) (cs : List Cel) (w : World) (h : AtL false w vs cs) (hs : HasL cs tyOp) : Calls Tryz.prog 51 #[.agg vs.toArray] w (RetL w cs) := by
 obtain ⟨c0, c1, c2, rfl, T0, T1, T2⟩ := hs.c3
 obtain ⟨x0, rfl⟩ := T0.int
 obtain ⟨x1, rfl⟩ := T1.int
 obtain ⟨x2, rfl⟩ := T2.int
 obtain ⟨v0, v1, v2, rfl, A0, A1, A2⟩ := h.c3
 obtain rfl := A0.int
 obtain rfl := A1.int
 obtain rfl := A2.int
 obtain ⟨R, hR⟩ : ∃ R, Value.agg #[.int .i64 x0, .int .i64 x1, .int .i64 x2] = R := ⟨_, rfl⟩
 have HR : Hid (Value.agg #[.int .i64 x0, .int .i64 x1, .int .i64 x2] = R) := hR
 clear hR
 go_enter Tryz.func51, Tryz.ntmps51
 go_wp2
 (try simp only [Exit.inBlock, Exit.then])
 refine bodyPost_ret (by simp [results, Tryz.results51, go_sem]; try rfl) rfl ?_
 exact ⟨(((Below.refl _ _).alloc (Nat.le_refl _) _).alloc (by simp) _).alloc (by simp; omega) _, [.int .i64 x0, .int .i64 x1, .int .i64 x2], fun _ => False, rfl, OwnL.cons (S0 := fun _ => False) (S := fun _ => False) (.i x0 _ (fun _ h => h)) (OwnL.cons (S0 := fun _ => False) (S := fun _ => False) (.i x1 _ (fun _ h => h)) (OwnL.cons (S0 := fun _ => False) (S := fun _ => False) (.i x2 _ (fun _ h => h)) (OwnL.nil (fun _ h => h)) (fun _ h => h.elim) (fun _ => by simp)) (fun _ h => h.elim) (fun _ => by simp)) (fun _ h => h.elim) (fun _ => by simp)⟩
theorem dToOpS (v : Value) (n : Nat) (cs : List Cel) (w : World) (h : At false w v (.l 82 3 n cs)) (hs : Has (.l 82 3 n cs) (.l 82 3 tyOp)) :
   Calls Tryz.prog 24 #[v] w (Ret w (.l 82 3 n cs)) := by
 obtain ⟨a, c, vs, rfl, h1, h2, hn, -, h3, h4⟩ := h.openL
 have SRC : Hid (n = 0 ∨ ∃ b o, a = some ⟨b, o, none⟩ ∧ ∀ j, j < n * 3 → w.cell? ⟨b, o + j, none⟩ = vs[j]?) := h3
 have HV : Hid (∀ j, j < n → AtL false w ((vs.drop (j * 3)).take 3) (row cs 3 j)) := fun j hj => rowVals h1 h2 h4 hj
 have HR : Hid (∀ j, j < n → HasL (row cs 3 j) tyOp) := fun j hj => hs.rowL hj
 have L2 : Hid (cs.length = n * 3) := h2
 have L1 : Hid (vs.length = n * 3) := h1
 obtain ⟨i0, hi, hz⟩ := Option.map_eq_some_iff.1 dInfoOp
 obtain ⟨i1, hi', hb1⟩ := Option.map_eq_some_iff.1 dBytesOp
 obtain rfl : i0 = i1 := Option.some.inj (hi.symm.trans hi')
 have hz0 : i0.zero = some (.agg #[.int .i64 0, .int .i64 0, .int .i64 0]) := congrArg Prod.fst hz
 have hz1 : i0.size = 3 := congrArg Prod.snd hz
 have hz2 : i0.bytes ≤ 1024 := of_decide_eq_true hb1
 have hby : i0.bytes * n ≤ 1024 * 2097152 := Nat.mul_le_mul hz2 hn
 clear h h1 h2 h3 h4 hs hz hb1 hi'
 go_enter Tryz.func24, Tryz.ntmps24
 go_wp2_with (at_make; refine wpList_make_full _ rfl _ _ 55 rfl w.heap.size 82 i0 (.agg #[.int .i64 0, .int .i64 0, .int .i64 0]) 3 Tryz.underlying55 hi hz0 hz1 .i64 .i64 _ _ n rfl rfl rfl rfl (by first | omega | (rw [Nat.mul_comm]; omega)) (by unfold maxLen; omega) (Nat.le_refl _) ?_; intro w1 own1 grow1)
 obtain ⟨ps0, lp0, O0⟩ := own_made (zv := [.int .i64 0, .int .i64 0, .int .i64 0]) (zc := [.i 0, .i 0, .i 0]) own1 hn rfl (fun j v hv => made_at hv (by decide)) (by
   intro i v c hv hc w'
   have hi : i < 3 := by have := (List.getElem?_eq_some_iff.1 hv).1; simpa using this
   rcases (show i = 0 ∨ i = 1 ∨ i = 2 by omega) with rfl | rfl | rfl <;> (simp at hv hc; subst hv hc)
   · exact .i _ _ (fun _ h => h)
   · exact .i _ _ (fun _ h => h)
   · exact .i _ _ (fun _ h => h))
 have hb1 : Below w.heap.size w w1 := (Below.refl _ _).grown grow1 (Nat.le_refl _) (fun k e => by cases e)
 clear own1 grow1
 go_loopw [4] (fun i wr => ∃ j : Nat, j ≤ n ∧ i = .int .i64 (j : Int) ∧ (∃ ps S, ps.length = n * 3 ∧ ps.take (j * 3) = cs.take (j * 3) ∧ Own wr w.heap.size (.slice (some ⟨w.heap.size, 0, none⟩) n n) (.l 82 3 n ps) S) ∧ Below w.heap.size w wr) (fun i _ => n - (intOf i).toNat)
 case atStart => exact ⟨0, Nat.zero_le _, by simp, ⟨ps0, _, lp0, by simp, O0⟩, hb1⟩
 case round =>
   obtain ⟨j, hj, rfl, ⟨ps, S, lp, tp, ho⟩, hb⟩ := hrel
   clear O0 hb1 lp0
   by_cases hlt : j < n
   · rcases SRC.out with h0 | ⟨p1, o1, rfl, g1⟩
     · omega
     have hk0 : (0 : Int) ≤ (j : Int) := by omega
     have hk1 : (j : Int) < (n : Int) := by omega
     have hA := HV.out j hlt
     have hH := HR.out j hlt
     have hcv := rowAt hb hlt g1 L1.out
     obtain ⟨rs, hrs⟩ : ∃ rs, row cs 3 j = rs := ⟨_, rfl⟩
     obtain ⟨ws, hws⟩ : ∃ ws, (vs.drop (j * 3)).take 3 = ws := ⟨_, rfl⟩
     have HRS : Hid (row cs 3 j = rs) := hrs
     rw [hrs] at hA hH
     rw [hws] at hA hcv
     clear g1 hrs hws
     obtain ⟨c0, c1, c2, rfl, T0, T1, T2⟩ := hH.c3
     have HL0 : Hid (HasL [c0, c1, c2] tyOp) := hH
     obtain ⟨v0, vr0, rfl, A0, hA0⟩ := hA.consE
     obtain ⟨v1, vr1, rfl, A1, hA1⟩ := hA0.consE
     obtain ⟨v2, vr2, rfl, A2, hA2⟩ := hA1.consE
     obtain rfl := hA2.nilE
     have HA0 : Hid (AtL false w [v0, v1, v2] [c0, c1, c2]) := hA
     have e0 : wr.cell? ⟨p1, o1 + j * 3, none⟩ = some v0 := hcv 0 (by omega)
     have e1 : wr.cell? ⟨p1, o1 + j * 3 + 1, none⟩ = some v1 := hcv 1 (by omega)
     have e2 : wr.cell? ⟨p1, o1 + j * 3 + 2, none⟩ = some v2 := hcv 2 (by omega)
     clear hcv hA hH hA0 hA1 hA2
     have HO : Hid (Own wr w.heap.size (.slice (some ⟨w.heap.size, 0, none⟩) n n) (.l 82 3 n ps) S) := ho
     clear ho
     go_wp2_with fail
     refine (dToOp [v0, v1, v2] [c0, c1, c2] _ (HA0.out.on hb (Nat.le_refl _)) HL0.out).mono ?_
     rintro e w2 ⟨hb2, us, S', rfl, oL⟩
     have hU := oL.at
     obtain ⟨u0, u1, u2, rfl, U0, U1, U2⟩ := hU.c3
     obtain ⟨x0, rfl⟩ := T0.int
     obtain ⟨x1, rfl⟩ := T1.int
     obtain ⟨x2, rfl⟩ := T2.int
     obtain rfl := U0.int
     obtain rfl := U1.int
     obtain rfl := U2.int
     have O2 := HO.out.on hb2 (Nat.le_refl _)
     have hb02 : Below w.heap.size w w2 := hb.trans (hb2.mono hb.size)
     obtain ⟨pv0, -, hc0, hf0, -⟩ := O2.cell (j := j * 3) (List.getElem?_eq_getElem (by omega))
     obtain ⟨pv1, -, hc1, hf1, -⟩ := O2.cell (j := j * 3 + 1) (List.getElem?_eq_getElem (by omega))
     obtain ⟨pv2, -, hc2, hf2, -⟩ := O2.cell (j := j * 3 + 2) (List.getElem?_eq_getElem (by omega))
     have OL : Hid (OwnL w2 wr.heap.size [.int .i64 x0, .int .i64 x1, .int .i64 x2] [.i x0, .i x1, .i x2] S') := oL
     have HO2 : Hid (Own w2 w.heap.size (.slice (some ⟨w.heap.size, 0, none⟩) n n) (.l 82 3 n ps) S) := O2
     have HRS' : Hid (row cs 3 j = [.i x0, .i x1, .i x2]) := HRS.out
     clear oL O2 hb2 hU e0 e1 e2
     go_wp2
     go_roundw
     case rel =>
       have slt : ∀ x, S x → x < wr.heap.size := fun x hx => (HO.out.lt x hx).2
       obtain ⟨S'', o'', -⟩ := Own.storeL (p := j * 3) HO2.out (OL.out.weaken hb.size) (fun x hx hx' => by have h1 := (OL.out.lt x hx).1; have h2 := slt x hx'; omega) (by simp; omega)
       have hle : j * 3 + 3 ≤ n * 3 := by omega
       refine ⟨j + 1, by omega, by go_num, ⟨_, S'', ?_, ?_, o''⟩, stores_below (Nat.le_refl _) [.int .i64 x0, .int .i64 x1, .int .i64 x2] w2 (j * 3) hb02⟩
       · rw [over_len]; exact lp
       · have h3 := over_take [.i x0, .i x1, .i x2] ps (j * 3) (by simp; omega)
         rw [row_split (cs := cs), HRS'.out, ← tp, show (j + 1) * 3 = j * 3 + ([.i x0, .i x1, .i x2] : List Cel).length by simp; omega]
         exact h3
     case measure => simp [intOf]; omega
   · obtain rfl : j = n := by omega
     have e : ps = cs := by rwa [List.take_of_length_le (by omega), List.take_of_length_le (by have := L2.out; omega)] at tp
     subst e
     go_wp2
     go_ret
     exact ⟨hb, _, S, rfl, ho⟩
end
end Go.Proofs.YtcfimaffeopbbaaGreatDoor
