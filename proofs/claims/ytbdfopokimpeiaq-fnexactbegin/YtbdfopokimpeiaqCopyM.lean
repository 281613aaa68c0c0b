/- spec.l6Descs, spec.l7Copy: copied, with memory of their own (of lists that are there). -/
import Derived.Test.YtbdfopokimpeiaqCopyR
import Derived.Maps.AppendAt
namespace Go.Proofs.Ytbdfopokimpeiaq
open Go.ChangeShapes Go.WideShapes Go.ChangeAt Go.RowKit Go.Joins

/-- The lists of the Descs are there. -/
def SomeAt (w : World) (a : Option Addr) (n : Nat) (ds : List DK) : Prop :=
  n = 0 ∨ ∃ b o, a = some ⟨b, o, none⟩ ∧ ∀ i, i < n → ∃ ea ec ra rc, w.cell? ⟨b, o + i * 5 + 2, none⟩ = some (.slice (some ea) (dk ds i).en ec) ∧ w.cell? ⟨b, o + i * 5 + 4, none⟩ = some (.slice (some ra) (dk ds i).rn rc)
theorem SomeAt.below {w w' : World} {a : Option Addr} {n : Nat} {ds : List DK} (h : SomeAt w a n ds) {B : Nat} (hb : Below B w w') (hB : w.heap.size ≤ B) : SomeAt w' a n ds := by
  rcases h with h | ⟨b, o, h1, h2⟩
  · exact .inl h
  · refine .inr ⟨b, o, h1, fun i hi => ?_⟩
    obtain ⟨ea, ec, ra, rc, h3, h4⟩ := h2 i hi
    have hlt : b < B := Nat.lt_of_lt_of_le (World.block_lt_of_cell? w _ h3) hB
    exact ⟨ea, ec, ra, rc, (hb.cell hlt).trans h3, (hb.cell hlt).trans h4⟩
theorem DescOwn.somes {w : World} {g n : Nat} {ds : List DK} (h : DescOwn w g n ds n) : SomeAt w (some ⟨g, 0, none⟩) n ds := by
  obtain ⟨vs, P, Q, h1, h2⟩ := h
  refine .inr ⟨g, 0, rfl, fun i hi => ?_⟩
  obtain ⟨⟨⟨_, _, a2, _, a4⟩, _, _, _, _⟩, _⟩ := h2 i hi
  exact ⟨_, _, _, _, by rw [Nat.zero_add]; exact own_cellV h1 a2, by rw [Nat.zero_add]; exact own_cellV h1 a4⟩
def extG (F : Nat → Value) (k : Nat) (v V U : Value) : Nat → Value := fun a => if a = 1 then v else if a = 2 + 2 * k then V else if a = 3 + 2 * k then U else F a
theorem extG_v {F : Nat → Value} {k : Nat} {v V U : Value} : extG F k v V U 1 = v := by simp [extG]
theorem extG_V {F : Nat → Value} {k : Nat} {v V U : Value} : extG F k v V U (2 + 2 * k) = V := by
  unfold extG
  rw [if_neg (by omega), if_pos rfl]
theorem extG_U {F : Nat → Value} {k : Nat} {v V U : Value} : extG F k v V U (3 + 2 * k) = U := by
  unfold extG
  rw [if_neg (by omega), if_neg (by omega), if_pos rfl]
theorem extG_old {F : Nat → Value} {k a : Nat} {v V U : Value} (h1 : a ≠ 1) (h : a < 2 + 2 * k) : extG F k v V U a = F a := by
  unfold extG
  rw [if_neg h1, if_neg (by omega), if_neg (by omega)]
theorem dk_append {ds : List DK} {D : DK} {i : Nat} : dk (ds ++ [D]) i = if i = ds.length then D else dk ds i := by
  unfold dk
  by_cases e : i = ds.length
  · subst e
    simp [List.getD]
  · rw [if_neg e]
    rcases Nat.lt_or_ge i ds.length with h | h
    · simp [List.getD, List.getElem?_append_left h]
    · have h3 : ds.length + 1 ≤ i := by omega
      simp [List.getD, List.getElem?_eq_none (show (ds ++ [D]).length ≤ i by simp; omega), List.getElem?_eq_none (show ds.length ≤ i by omega)]
theorem atF_app {vs : List Value} {i : Nat} {d : DK} {x y : Value} (h : AtF vs i d x y) (ys : List Value) : AtF (vs ++ ys) i d x y := by
  obtain ⟨h0, h1, h2, h3, h4⟩ := h
  have l : i * 5 + 4 < vs.length := (List.getElem?_eq_some_iff.1 h4).1
  exact ⟨by rw [List.getElem?_append_left (by omega)]; exact h0, by rw [List.getElem?_append_left (by omega)]; exact h1, by rw [List.getElem?_append_left (by omega)]; exact h2, by rw [List.getElem?_append_left (by omega)]; exact h3, by rw [List.getElem?_append_left (by omega)]; exact h4⟩
theorem atF_new {vs : List Value} {k : Nat} {D : DK} {V U : Value} (h : vs.length = k * 5) : AtF (vs ++ [I D.sq, I D.st, V, I D.cd, U]) k D V U := by
  refine ⟨?_, ?_, ?_, ?_, ?_⟩
  · rw [List.getElem?_append_right (by omega), show k * 5 - vs.length = 0 by omega]; rfl
  · rw [List.getElem?_append_right (by omega), show k * 5 + 1 - vs.length = 1 by omega]; rfl
  · rw [List.getElem?_append_right (by omega), show k * 5 + 2 - vs.length = 2 by omega]; rfl
  · rw [List.getElem?_append_right (by omega), show k * 5 + 3 - vs.length = 3 by omega]; rfl
  · rw [List.getElem?_append_right (by omega), show k * 5 + 4 - vs.length = 4 by omega]; rfl
/-- One more Desc behind the others. -/
theorem DescO.app {wr w2 w3 w4 : World} {base : Nat} {F : Nat → Value} {k : Nat} {ds : List DK} {vs : List Value} {D : DK} {v V U : Value} {mid : Nat} (h : DescO wr base F k ds) (hd : wr.ownsRow base 82 5 (F 1) k vs) (hat : ∀ i, i < k → AtF vs i (dk ds i) (F (2 + 2 * i)) (F (3 + 2 * i))) (hF0 : (F 0).ownBlock = none) (hbase : base ≤ wr.heap.size)
    (hb2 : Below wr.heap.size wr w2) (hV : w2.ownsRow wr.heap.size 84 3 V D.en (D.es.map I)) (hU : w2.ownsRow wr.heap.size 3 1 U D.rn (D.rs.map I)) (hmid : wr.heap.size ≤ mid ∧ (∀ b, V.ownBlock = some b → wr.heap.size ≤ b ∧ b < mid) ∧ ∀ b, U.ownBlock = some b → mid ≤ b)
    (hb3 : Below w2.heap.size w2 w3) (hg : w3.grownBy w4 (F 1).ownBlock) (hv : w4.ownsRow base 82 5 v (k + 1) (vs ++ [I D.sq, I D.st, V, I D.cd, U])) (hvb : v.ownBlock = (F 1).ownBlock ∨ v.ownBlock = some w3.heap.size) : DescO w4 base (extG F k v V U) (k + 1) (ds ++ [D]) := by
  have hl := h.len
  have s2 := hb2.size
  have s3 := hb3.size
  have blk : ∀ a, a < 2 + 2 * k → ∀ b, (F a).ownBlock = some b → base ≤ b ∧ b < wr.heap.size := fun a ha b hb => by
    by_cases e : a = 0
    · subst e; rw [hF0] at hb; cases hb
    · exact h.blk a (by omega) ha b hb
  have far : ∀ a, a < 2 + 2 * k → a ≠ 1 → ∀ b, (F a).ownBlock = some b → w4.heap[b]? = wr.heap[b]? := fun a ha h1 b hb => by
    have h2 := (blk a ha b hb).2
    rw [hg.block b (by omega) (fun e => h.sep a 1 ha (by omega) h1 b hb e.symm), hb3.block b (by omega), hb2.block b h2]
  have fresh : ∀ b, wr.heap.size ≤ b → b < w2.heap.size → w4.heap[b]? = w2.heap[b]? := fun b h1 h2 => by
    rw [hg.block b (by omega) (fun e => by have := (blk 1 (by omega) b e.symm).2; omega), hb3.block b h2]
  refine ⟨by simp [hl], ⟨_, by rw [extG_v]; exact hv, fun i hi => ?_⟩, fun i hi => ?_, fun i hi => ?_, ?_⟩
  · rw [dk_append]
    by_cases e : i = k
    · subst e
      rw [if_pos hl.symm, extG_V, extG_U]
      exact atF_new hd.1
    · rw [if_neg (by omega), extG_old (by omega) (by omega), extG_old (by omega) (by omega)]
      exact atF_app (hat i (by omega)) _
  · rw [dk_append]
    by_cases e : i = k
    · subst e
      rw [if_pos hl.symm, extG_V]
      exact own_weaken (owns_heap hV fun b hb => fresh b (hV.lt b hb).1 (hV.lt b hb).2) hbase
    · rw [if_neg (by omega), extG_old (by omega) (by omega)]
      exact owns_heap (h.ents i (by omega)) (far _ (by omega) (by omega))
  · rw [dk_append]
    by_cases e : i = k
    · subst e
      rw [if_pos hl.symm, extG_U]
      exact own_weaken (owns_heap hU fun b hb => fresh b (hU.lt b hb).1 (hU.lt b hb).2) hbase
    · rw [if_neg (by omega), extG_old (by omega) (by omega)]
      exact owns_heap (h.ints i (by omega)) (far _ (by omega) (by omega))
  · have key : ∀ a, a < 2 + 2 * (k + 1) → ∀ b, (extG F k v V U a).ownBlock = some b → (a = 1 ∧ ((F 1).ownBlock = some b ∧ b < wr.heap.size ∨ b = w3.heap.size)) ∨ (a = 2 + 2 * k ∧ wr.heap.size ≤ b ∧ b < mid ∧ b < w2.heap.size) ∨ (a = 3 + 2 * k ∧ mid ≤ b ∧ b < w2.heap.size) ∨ (a ≠ 1 ∧ a < 2 + 2 * k ∧ (F a).ownBlock = some b ∧ b < wr.heap.size) := by
      intro a ha b hb
      by_cases e0 : a = 1
      · subst e0
        rw [extG_v] at hb
        refine .inl ⟨rfl, ?_⟩
        rcases hvb with e | e
        · rw [e] at hb
          exact .inl ⟨hb, (blk 1 (by omega) b hb).2⟩
        · rw [e] at hb
          right
          simpa using hb.symm
      by_cases e1 : a = 2 + 2 * k
      · subst e1
        rw [extG_V] at hb
        exact .inr (.inl ⟨rfl, (hmid.2.1 b hb).1, (hmid.2.1 b hb).2, (hV.lt b hb).2⟩)
      by_cases e2 : a = 3 + 2 * k
      · subst e2
        rw [extG_U] at hb
        exact .inr (.inr (.inl ⟨rfl, hmid.2.2 b hb, (hU.lt b hb).2⟩))
      · have e3 : a < 2 + 2 * k := by omega
        rw [extG_old e0 e3] at hb
        exact .inr (.inr (.inr ⟨e0, e3, hb, (blk a e3 b hb).2⟩))
    have hm := hmid.1
    intro a b ha hb hab c h1 h2
    rcases key a ha c h1 with ⟨e1, ⟨l1, l2⟩ | l1⟩ | ⟨e1, l1, l2, l3⟩ | ⟨e1, l1, l2⟩ | ⟨e1, e2, l1, l2⟩ <;> rcases key b hb c h2 with ⟨e3, ⟨l4, l5⟩ | l4⟩ | ⟨e3, l4, l5, l6⟩ | ⟨e3, l4, l5⟩ | ⟨e3, e4, l4, l5⟩ <;> first | omega | exact h.sep a b e2 e4 hab c l1 l4 | exact h.sep 1 b (by omega) e4 (by omega) c l1 l4 | exact h.sep a 1 e2 (by omega) (by omega) c l1 l4
def FZ (v : Value) : Nat → Value := fun a => if a = 1 then v else .slice none 0 0
theorem descO_none (w : World) : DescO (w.alloc (.cells #[] 82)) w.heap.size (FZ (.slice (some ⟨w.heap.size, 0, none⟩) 0 0)) 0 [] := by
  refine ⟨rfl, ⟨[], own_emptyT (Nat.le_refl _), fun i hi => by omega⟩, fun i hi => by omega, fun i hi => by omega, ?_⟩
  intro a b ha hb hab k h1 h2
  unfold FZ at h1 h2
  by_cases e : a = 1
  · rw [if_neg (by omega)] at h2; cases h2
  · rw [if_neg e] at h1; cases h1
theorem cell_five (w : World) (x y z u v : Value) (t : TypeId) : ∀ (j : Nat) (q : Value), [x, y, z, u, v][j]? = some q → (w.alloc (.cells #[x, y, z, u, v] t)).cell? ((⟨w.heap.size, 0, none⟩ : Addr).add j) = some q := by
  intro j q hj
  match j, hj with
  | 0, hj => simpa [Addr.add] using hj
  | 1, hj => simpa [Addr.add] using hj
  | 2, hj => simpa [Addr.add] using hj
  | 3, hj => simpa [Addr.add] using hj
  | 4, hj => simpa [Addr.add] using hj
  | j + 5, hj => simp at hj
theorem five_one (x y : Int) (a : Option Addr) (n c : Nat) (z : Int) (b : Option Addr) (m d : Nat) : ∀ u ∈ [I x, I y, .slice a n c, I z, .slice b m d], u.oneCell' = true := by
  intro u hu
  simp at hu
  rcases hu with rfl | rfl | rfl | rfl | rfl <;> rfl
set_option maxHeartbeats 4000000 in
set_option maxRecDepth 100000 in
theorem l6Descs_o (a : Option Addr) (n c : Nat) (ds : List DK) (w : World) (h : DescAt w a n ds) (hs : SomeAt w a n ds) (hsm : Small n ds) :
    Calls Try.prog 81 #[.slice a n c] w fun e w' => ∃ F, e = .returned (F 1) ∧ (F 0).ownBlock = none ∧ DescO w' w.heap.size F n ds ∧ Below w.heap.size w w' := by
  obtain ⟨i0, hi0, hz0, hz1, hz2⟩ := info_parts infoDesc
  have HH : Hid (DescAt w a n ds) := h
  have HS : Hid (SomeAt w a n ds) := hs
  have SM : Hid (Small n ds) := hsm
  have hn := h.2.1
  have HL : Hid (ds.length = n) := h.1
  have hb0 : Below w.heap.size w (w.alloc (.cells #[] 82)) := (Below.refl _ w).alloc (Nat.le_refl _) _
  have HB0 : Hid (Below w.heap.size w (w.alloc (.cells #[] 82))) := hb0
  clear h hs hsm hb0
  go_enter Try.func81, Try.ntmps81
  go_wp2
  go_loopw [3, 4] (fun o i wr => ∃ (k : Nat) (F : Nat → Value), k ≤ n ∧ o = F 1 ∧ i = .int .i64 (k : Int) ∧ (F 0).ownBlock = none ∧ DescO wr w.heap.size F k (ds.take k) ∧ Below w.heap.size w wr) (fun _ i _ => n - (intOf i).toNat)
  case atStart => exact ⟨0, FZ (.slice (some ⟨w.heap.size, 0, none⟩) 0 0), Nat.zero_le _, rfl, rfl, rfl, by rw [List.take_zero]; exact descO_none w, HB0.out⟩
  case round =>
    obtain ⟨k, F, hk, rfl, rfl, hF0, hdo, hb⟩ := hrel
    have DO : Hid (DescO wr w.heap.size F k (ds.take k)) := hdo
    have HB : Hid (Below w.heap.size w wr) := hb
    have HF0 : Hid ((F 0).ownBlock = none) := hF0
    obtain ⟨vs, hd, hat⟩ := hdo.descs
    obtain ⟨oa, oc, hF1, _⟩ := owns_slice hd
    have HF1 : Hid (F 1 = .slice oa k oc) := hF1
    have HD : Hid (wr.ownsRow w.heap.size 82 5 (F 1) k vs ∧ ∀ i, i < k → AtF vs i (dk (ds.take k) i) (F (2 + 2 * i)) (F (3 + 2 * i))) := ⟨hd, hat⟩
    rw [hF1]
    clear hdo hb hF0 hd hat hF1
    by_cases hlt : k < n
    · have hk0 : (0 : Int) ≤ (k : Int) := by omega
      have hk1 : (k : Int) < (n : Int) := by omega
      rcases (HH.out.below HB.out (Nat.le_refl _)).2.2 with h0 | ⟨q1, o2, rfl, g2⟩
      · omega
      rcases HS.out.below HB.out (Nat.le_refl _) with h0 | ⟨q1', o2', he3, g3⟩
      · omega
      obtain ⟨rfl, rfl⟩ : q1 = q1' ∧ o2 = o2' := by simpa using he3
      obtain ⟨eA, eC, rA, rC, h5, h6, h7⟩ := g2 k hlt
      obtain ⟨eA', eC', rA', rC', h8, h9⟩ := g3 k hlt
      obtain ⟨rfl, rfl⟩ : eA = some eA' ∧ eC = eC' := by
        have := h5.2.2.1.symm.trans h8
        simpa using this
      obtain ⟨rfl, rfl⟩ : rA = some rA' ∧ rC = rC' := by
        have := h5.2.2.2.2.symm.trans h9
        simpa using this
      obtain ⟨f0, f1, f2, f3, f4⟩ := h5
      have hsk := (SM.out k hlt).2
      obtain ⟨D, hDk⟩ : ∃ D, dk ds k = D := ⟨_, rfl⟩
      have HDk : Hid (dk ds k = D) := hDk
      rw [hDk] at f0 f1 f2 f3 f4 h6 h7 hsk
      have T6 : Hid (TripAt wr (some eA') D.en D.es ∧ IntAt wr (some rA') D.rn D.rs) := ⟨h6, h7⟩
      have hTK : Hid (ds.take (k + 1) = ds.take k ++ [D]) := by
        show _ = _
        have hkl : k < ds.length := by rw [HL.out]; exact hlt
        rw [List.take_add_one, List.getElem?_eq_getElem hkl]
        have : ds[k] = D := by rw [← hDk]; unfold dk; simp [List.getD, hkl]
        simp [this]
      clear g2 g3 h6 h7 h8 h9 hDk he3
      go_wp2_with fail
      refine (l6Desc_o D.sq D.st eA' D.en eC D.es D.cd rA' D.rn rC D.rs _ T6.out.1 T6.out.2 hsk).mono ?_
      rintro e w2 ⟨Va, Vc, Ua, Uc, mid, rfl, ownV, ownU, hmid, hb2⟩
      have OV : Hid (w2.ownsRow wr.heap.size 84 3 (.slice Va D.en Vc) D.en (D.es.map I) ∧ w2.ownsRow wr.heap.size 3 1 (.slice Ua D.rn Uc) D.rn (D.rs.map I)) := ⟨ownV, ownU⟩
      have HM : Hid (wr.heap.size ≤ mid ∧ (∀ b, (Value.slice Va D.en Vc).ownBlock = some b → wr.heap.size ≤ b ∧ b < mid) ∧ ∀ b, (Value.slice Ua D.rn Uc).ownBlock = some b → mid ≤ b) := hmid
      have HB2 : Hid (Below wr.heap.size wr w2) := hb2
      have O2 : Hid (w2.ownsRow w.heap.size 82 5 (.slice oa k oc) k vs) := by
        show World.ownsRow _ _ _ _ _ _ _
        rw [← HF1.out]
        exact owns_below HD.out.1 hb2 (Nat.le_refl _)
      have hs2 : w.heap.size ≤ w2.heap.size := Nat.le_trans HB.out.size hb2.size
      clear ownV ownU hmid hb2 f0 f1 f2 f3 f4
      go_wp2_with
        (at_builtin
         refine wpList_append_own_at _ rfl _ _ 29 rfl w.heap.size 82 i0 (.agg (DescC 0 0 none 0 0 0 none 0 0)) 5 72 Try.underlying29 hi0 hz0 hz1 hz2 rfl (by decide) (.slice oa k oc) k vs rfl (O2.out.alloc _) ⟨w2.heap.size, 0, none⟩ 1 1 [I D.sq, I D.st, .slice Va D.en Vc, I D.cd, .slice Ua D.rn Uc] rfl rfl (cell_five _ _ _ _ _ _ _) (five_one _ _ _ _ _ _ _ _ _) (by unfold maxLen; omega) (by omega) (by simp; omega) ?_
         intro v' w4 own4 grow4 _ at4)
      have NX : Hid (DescO w4 w.heap.size (extG F k v' (.slice Va D.en Vc) (.slice Ua D.rn Uc)) (k + 1) (ds.take (k + 1))) := by
        show DescO _ _ _ _ _
        rw [hTK.out]
        refine DO.out.app (w3 := w2.alloc (.cells #[I D.sq, I D.st, .slice Va D.en Vc, I D.cd, .slice Ua D.rn Uc] 82)) HD.out.1 HD.out.2 HF0.out HB.out.size HB2.out OV.out.1 OV.out.2 HM.out ((Below.refl _ w2).alloc (Nat.le_refl _) _) ?_ own4 ?_
        · rw [HF1.out]; exact grow4
        · rw [HF1.out]; exact at4
      have hb4 : Below w.heap.size w w4 := ((HB.out.trans (HB2.out.mono HB.out.size)).alloc hs2 _).grown grow4 (by simp; omega) (fun b e => (O2.out.lt b e).1)
      have N0 : Hid ((extG F k v' (.slice Va D.en Vc) (.slice Ua D.rn Uc) 0).ownBlock = none) := by show _ = _; rw [extG_old (by omega) (by omega)]; exact HF0.out
      clear own4 grow4 at4
      go_wp2
      exact ⟨⟨k + 1, _, by omega, extG_v.symm, by go_num, N0.out, NX.out, hb4⟩, by simp [intOf]; omega⟩
    · obtain rfl : k = n := by omega
      have hTK : ds.take k = ds := by rw [List.take_of_length_le (by rw [HL.out]; exact Nat.le_refl _)]
      have hdo := DO.out
      rw [hTK] at hdo
      go_wp2
      go_ret
      exact ⟨F, by rw [HF1.out]; rfl, HF0.out, hdo, HB.out⟩
noncomputable def l7CopyL : List Oper := match Try.f60.body with
  | some (.seq _ (.seq (.region _ ops _) _)) => ops.toList
  | _ => []
def withW (F : Nat → Value) (v : Value) : Nat → Value := fun a => if a = 0 then v else F a
theorem memO_with {w : World} {base lo m n : Nat} {fs : List Int} {ds : List DK} {F : Nat → Value} {v : Value} (hv : w.ownsRow base 80 3 v m (fs.map I)) (hd : DescO w lo F n ds) (hlo : base ≤ lo) (hvb : ∀ b, v.ownBlock = some b → b < lo) : MemO w base (withW F v) m fs n ds := by
  obtain ⟨vs, h1, h2⟩ := hd.descs
  have e : ∀ a, 1 ≤ a → withW F v a = F a := fun a ha => by unfold withW; rw [if_neg (by omega)]
  refine ⟨hv, hd.len, ⟨vs, by rw [e 1 (by omega)]; exact own_weaken h1 hlo, fun i hi => by rw [e _ (by omega), e _ (by omega)]; exact h2 i hi⟩, fun i hi => by rw [e _ (by omega)]; exact own_weaken (hd.ents i hi) hlo, fun i hi => by rw [e _ (by omega)]; exact own_weaken (hd.ints i hi) hlo, ?_⟩
  intro a b ha hb hab c h3 h4
  by_cases a0 : a = 0
  · subst a0
    rw [e b (by omega)] at h4
    have l1 := hvb c h3
    have l2 := (hd.blk b (by omega) hb c h4).1
    omega
  · rw [e a (by omega)] at h3
    by_cases b0 : b = 0
    · subst b0
      have l1 := hvb c h4
      have l2 := (hd.blk a (by omega) ha c h3).1
      omega
    · rw [e b (by omega)] at h4
      exact hd.sep a b ha hb hab c h3 h4
set_option maxHeartbeats 4000000 in
set_option maxRecDepth 100000 in
theorem l7Copy_o (wa : Addr) (m wc : Nat) (fs : List Int) (da : Option Addr) (n dc : Nat) (ds : List DK) (w : World) (h1 : TripAt w (some wa) m fs) (h2 : DescAt w da n ds) (h3 : SomeAt w da n ds) (hsm : Small n ds) :
    Calls Try.prog 60 #[MemV (some wa) m wc da n dc] w fun e w' => ∃ F, e = .returned (MemF F) ∧ MemO w' w.heap.size F m fs n ds ∧ Below w.heap.size w w' := by
  obtain ⟨i0, hi0, hz0, hz1, hz2⟩ := info_parts infoWord
  have hm := h1.2.1
  have hn := h2.2.1
  obtain ⟨W, hW⟩ : ∃ W, ((w.alloc (.cells #[.slice (some wa) m wc, .slice da n dc] 46)).alloc (.cells #[.slice none 0 0, .slice none 0 0] 46)) = W := ⟨_, rfl⟩
  have hb0 : Below w.heap.size w W := by rw [← hW]; exact ((Below.refl _ w).alloc (Nat.le_refl _) _).alloc (by simp) _
  have hsz : W.heap.size = w.heap.size + 2 := by rw [← hW]; simp
  have HSZ : Hid (W.heap.size = w.heap.size + 2) := hsz
  have X0 : Hid (Box W w.heap.size #[.slice (some wa) m wc, .slice da n dc] 46) := by rw [← hW]; exact (box_of w _ _).alloc _
  have R0 : Hid (Box W (w.heap.size + 1) #[.slice none 0 0, .slice none 0 0] 46) := by
    have := box_of (w.alloc (.cells #[.slice (some wa) m wc, .slice da n dc] 46)) #[.slice none 0 0, .slice none 0 0] 46
    rw [hW] at this
    show Box _ _ _ _
    simpa using this
  have H1 : Hid (TripAt W (some wa) m fs) := h1.below hb0 (Nat.le_refl _)
  have H2 : Hid (DescAt W da n ds) := h2.below hb0 (Nat.le_refl _)
  have H3 : Hid (SomeAt W da n ds) := h3.below hb0 (Nat.le_refl _)
  have SM : Hid (Small n ds) := hsm
  have HB0 : Hid (Below w.heap.size w W) := hb0
  have HW : Hid (((w.alloc (.cells #[.slice (some wa) m wc, .slice da n dc] 46)).alloc (.cells #[.slice none 0 0, .slice none 0 0] 46)) = W) := hW
  have BOX : Hid (∀ w', Below W.heap.size W w' → w'.cell? ⟨w.heap.size, 0, none⟩ = some (.slice (some wa) m wc) ∧ w'.cell? ⟨w.heap.size, 1, none⟩ = some (.slice da n dc)) := fun w' hb => ⟨(X0.out.below hb X0.out.lt).two.1, (X0.out.below hb X0.out.lt).two.2.1⟩
  have SRC : Hid ((fs.map I).length = m * 3 ∧ ∀ j u, (fs.map I)[j]? = some u → (W.alloc (.cells #[] 80)).cell? (wa.add j) = some u) := ⟨by rw [List.length_map]; exact H1.out.1, fun j u hj => trip_cell H1.out hj⟩
  clear h1 h2 h3 hsm hW hb0 hsz
  go_enter Try.func60, Try.ntmps60
  go_wp2_with fail
  rw [HW.out]
  change (Code.region _ (List.toArray l7CopyL) true).wp _ _ _ _
  refine wp_region_held_drew (S := fun w' => w'.cell? ⟨w.heap.size, 0, none⟩ = some (.slice (some wa) m wc) ∧ w'.cell? ⟨w.heap.size, 1, none⟩ = some (.slice da n dc)) (by kernel_rfl) ?_ (fun hHeld => ?_)
  · exact BOX.out _ (Below.refl _ _).drew
  refine wpAnyH_take (i := 1) (oi := _) (v := .pointer (some ⟨w.heap.size, 0, none⟩)) (by rw [List.getElem?_toArray]; exact rfl) (by kernel_rfl) (by kernel_rfl) (by kernel_rfl) (by intro _ _ _ h; exact h) (Or.inl ⟨by kernel_rfl, ?_⟩) hHeld ?_
  · intro w hSw; obtain ⟨s1, s2⟩ := hSw; go_simp
  (try simp only [Act.put, List.setIfInBounds_toArray, List.set_cons_zero, List.set_cons_succ])
  refine wpAnyH_take (i := 2) (oi := _) (v := .slice (some wa) m wc) (by rw [List.getElem?_toArray]; exact rfl) (by kernel_rfl) (by kernel_rfl) (by kernel_rfl) (by intro _ _ _ h; exact h) (Or.inl ⟨by kernel_rfl, ?_⟩) hHeld ?_
  · intro w hSw; obtain ⟨s1, s2⟩ := hSw; go_simp
  (try simp only [Act.put, List.setIfInBounds_toArray, List.set_cons_zero, List.set_cons_succ])
  refine wpAnyH_take (i := 4) (oi := _) (v := .pointer (some ⟨w.heap.size, 1, none⟩)) (by rw [List.getElem?_toArray]; exact rfl) (by kernel_rfl) (by kernel_rfl) (by kernel_rfl) (by intro _ _ _ h; exact h) (Or.inl ⟨by kernel_rfl, ?_⟩) hHeld ?_
  · intro w hSw; obtain ⟨s1, s2⟩ := hSw; go_simp
  (try simp only [Act.put, List.setIfInBounds_toArray, List.set_cons_zero, List.set_cons_succ])
  refine wpAnyH_take (i := 5) (oi := _) (v := .slice da n dc) (by rw [List.getElem?_toArray]; exact rfl) (by kernel_rfl) (by kernel_rfl) (by kernel_rfl) (by intro _ _ _ h; exact h) (Or.inl ⟨by kernel_rfl, ?_⟩) hHeld ?_
  · intro w hSw; obtain ⟨s1, s2⟩ := hSw; go_simp
  (try simp only [Act.put, List.setIfInBounds_toArray, List.set_cons_zero, List.set_cons_succ])
  refine wpAnyH_ready (rs := [0]) (by kernel_rfl) (by simp) ?_
  refine AllReadyH.cons (o := _) (by rw [List.getElem?_toArray]; exact rfl) (fun K hK => ?_) AllReadyH.nil
  rw [if_pos (by kernel_rfl)]
  go_simp
  have hBa : Below W.heap.size W (W.alloc (.cells #[] 80)).drew := ((Below.refl W.heap.size W).alloc (Nat.le_refl _) _).drew
  refine hK.out _ _ (BOX.out _ hBa) (fun hHeld => ?_)
  clear hK K
  (try simp only [Act.put, List.setIfInBounds_toArray, List.set_cons_zero, List.set_cons_succ])
  refine wpAnyH_ready (rs := [3]) (by kernel_rfl) (by simp) ?_
  refine AllReadyH.cons (o := _) (by rw [List.getElem?_toArray]; exact rfl) (fun K hK => ?_) AllReadyH.nil
  refine step_append_own _ (by rfl) _ _ 27 (by rfl) W.heap.size 80 i0 (.agg #[.int .i64 0, .int .i64 0, .int .i64 0]) 3 24 Try.underlying27 hi0 hz0 hz1 hz2 (by rfl) (by decide) (.slice (some ⟨W.heap.size, 0, none⟩) 0 0) 0 [] (by rfl) (own_emptyD (Nat.le_refl _)) wa m wc (fs.map I) (by rfl) SRC.out.1 SRC.out.2 news3 (by unfold maxLen; omega) (by omega) (by show W.heap.size ≤ (W.alloc _).heap.size; simp) ?_
  intro v' w2 own2 grow2 _
  rw [Nat.zero_add, List.nil_append] at own2
  have hB2 : Below W.heap.size W w2 := hBa.grown grow2 (by show W.heap.size ≤ (W.alloc _).heap.size; simp) (fun k e => own_ge e)
  obtain ⟨Va, Vc, rfl, _⟩ := owns_slice own2
  refine hK.out _ _ (BOX.out _ hB2) (fun hHeld => ?_)
  clear hK K
  (try simp only [Act.put, List.setIfInBounds_toArray, List.set_cons_zero, List.set_cons_succ])
  refine wpAnyH_ready (rs := [6]) (by kernel_rfl) (by simp) ?_
  refine AllReadyH.cons (o := _) (by rw [List.getElem?_toArray]; exact rfl) (fun K hK => ?_) AllReadyH.nil
  rw [if_pos (by kernel_rfl)]
  go_simp
  refine (l6Descs_o da n dc ds _ (H2.out.below hB2 (Nat.le_refl _)) (H3.out.below hB2 (Nat.le_refl _)) SM.out).mono ?_
  rintro e w3 ⟨F, rfl, hF0, hdo, hb3⟩
  obtain ⟨vs, hd, _⟩ := hdo.descs
  obtain ⟨Ua, Uc, hF1, _⟩ := owns_slice hd
  rw [hF1]
  have hB3 : Below W.heap.size W w3 := hB2.trans (hb3.mono hB2.size)
  refine hK.out _ _ (BOX.out _ hB3) (fun hHeld => ?_)
  clear hK K
  (try simp only [Act.put, List.setIfInBounds_toArray, List.set_cons_zero, List.set_cons_succ])
  refine wpAnyH_take (i := 7) (oi := _) (v := MemV Va m Vc Ua n Uc) (by rw [List.getElem?_toArray]; exact rfl) (by kernel_rfl) (by kernel_rfl) (by kernel_rfl) (by intro _ _ _ h; exact h) (Or.inl ⟨by kernel_rfl, ?_⟩) hHeld ?_
  · intro w hSw; go_simp
  (try simp only [Act.put, List.setIfInBounds_toArray, List.set_cons_zero, List.set_cons_succ])
  have RX := R0.out.below hB3 R0.out.lt
  obtain ⟨r0, r1, z0, z1⟩ := RX.two
  refine wpAnyH_ready (rs := [8]) (by kernel_rfl) (by simp) ?_
  refine AllReadyH.cons (o := _) (by rw [List.getElem?_toArray]; exact rfl) (fun K hK => ?_) AllReadyH.nil
  rw [if_pos (by kernel_rfl)]
  go_simp
  refine hK.out _ _ ?_ (fun hHeld => ?_)
  · have X5 := ((X0.out.below hB3 X0.out.lt).set (q := ⟨w.heap.size + 1, 0, none⟩) (show w.heap.size ≠ w.heap.size + 1 by omega) (.slice Va m Vc)).set (q := ⟨w.heap.size + 1, 1, none⟩) (show w.heap.size ≠ w.heap.size + 1 by omega) (.slice Ua n Uc)
    exact ⟨X5.two.1, X5.two.2.1⟩
  clear hK K
  (try simp only [Act.put, List.setIfInBounds_toArray, List.set_cons_zero, List.set_cons_succ])
  refine wpAnyH_done (by kernel_rfl) ?_ _
  obtain ⟨e0, e1, _, _⟩ := ((RX.put 0 (.slice Va m Vc)).put 1 (.slice Ua n Uc)).two
  go_wp2
  (try simp only [Exit.inBlock, Exit.then])
  refine bodyPost_ret (by simp [results, Try.results60, go_sem, e0, e1]; try rfl) rfl ?_
  have hs := HSZ.out
  have hs2 := hB2.size
  have MO : MemO w3 W.heap.size (withW F (.slice Va m Vc)) m fs n ds := memO_with (owns_below own2 hb3 (Nat.le_refl _)) hdo hs2 (fun b e => (own2.lt b e).2)
  refine ⟨withW F (.slice Va m Vc), by rw [MemF]; show _ = Ending.returned (.agg #[.slice Va m Vc, F 1]); rw [hF1], ?_, ((HB0.out.trans (hB3.mono HB0.out.size)).setCell (by simp) _).setCell (by simp) _⟩
  refine (MO.heap fun a ha b hb => ?_).weaken HB0.out.size
  have h1 := (MO.blk a ha b hb).1
  rw [Below.heap_setCell _ _ _ _ (show b ≠ w.heap.size + 1 by omega), Below.heap_setCell _ _ _ _ (show b ≠ w.heap.size + 1 by omega)]
end Go.Proofs.Ytbdfopokimpeiaq
