/- The laws' own marking of Descs and of a Mem, with what is laid; and whether it is held. -/
import Derived.Test.YtbdfopokimpeiaqHeldO
namespace Go.Proofs.Ytbdfopokimpeiaq
open Go.ChangeShapes Go.WideShapes Go.ChangeAt Go.RowKit Go.Joins

/-- How many numbers the first i Descs hold. -/
def offN (ds : List DK) : Nat → Nat
  | 0 => 0
  | i + 1 => offN ds i + 3 + (dk ds i).en * 3 + (dk ds i).rn
theorem offN_le {ds : List DK} {n : Nat} (hs : Small n ds) : ∀ i, i ≤ n → offN ds i ≤ i * 4194307
  | 0, _ => by simp [offN]
  | i + 1, h => by
    have h1 := offN_le hs i (by omega)
    have h2 := hs i (by omega)
    unfold offN
    omega
/-- A Desc whose numbers are marked from k on. -/
def markD (k : Int) (d : DK) : DK := ⟨k, k + 1, d.en, asc (k + 1 + 1) (d.en * 3), k + 1 + 1 + (d.en : Int) * 3, d.rn, asc (k + 1 + 1 + (d.en : Int) * 3 + 1) d.rn⟩
def mixDs (k0 : Int) (ds : List DK) (n j : Nat) : List DK := (List.range n).map fun i => if i < j then markD (k0 + (offN ds i : Int)) (dk ds i) else dk ds i
def markDs (k0 : Int) (ds : List DK) (n : Nat) : List DK := mixDs k0 ds n n
theorem mixDs_at {k0 : Int} {ds : List DK} {n j i : Nat} (h : i < n) : dk (mixDs k0 ds n j) i = if i < j then markD (k0 + (offN ds i : Int)) (dk ds i) else dk ds i := dk_map h
theorem markDs_at {k0 : Int} {ds : List DK} {n i : Nat} (h : i < n) : dk (markDs k0 ds n) i = markD (k0 + (offN ds i : Int)) (dk ds i) := by
  unfold markDs
  rw [mixDs_at h, if_pos h]
theorem markDs_small {k0 : Int} {ds : List DK} {n : Nat} (h : Small n ds) : Small n (markDs k0 ds n) := fun i hi => by
  rw [markDs_at hi]
  exact h i hi
theorem DescO.congr {w : World} {base : Nat} {F : Nat → Value} {n : Nat} {ds ds' : List DK} (h : DescO w base F n ds) (hl : ds'.length = n) (he : ∀ i, i < n → dk ds' i = dk ds i) : DescO w base F n ds' := by
  obtain ⟨vs, h1, h2⟩ := h.descs
  exact ⟨hl, ⟨vs, h1, fun i hi => by rw [he i hi]; exact h2 i hi⟩, fun i hi => by rw [he i hi]; exact h.ents i hi, fun i hi => by rw [he i hi]; exact h.ints i hi, h.sep⟩
/-- While Descs are marked. -/
structure MarkDs (w : World) (base : Nat) (F : Nat → Value) (n : Nat) (ds : List DK) (wr : World) : Prop where
  own : DescO wr base F n ds
  bel : Below base w wr
  size : wr.heap.size = w.heap.size
  oth : ∀ b, (∀ a, 1 ≤ a → a < 2 + 2 * n → (F a).ownBlock ≠ some b) → wr.heap[b]? = w.heap[b]?
theorem atF_mark {vs : List Value} {k : Nat} {d : DK} {v u : Value} {q : Int} (h : AtF vs k d v u) : AtF (((vs.set (k * 5) (I q)).set (k * 5 + 1) (I (q + 1))).set (k * 5 + 3) (I (q + 1 + 1 + (d.en : Int) * 3))) k (markD q d) v u := by
  obtain ⟨h0, h1, h2, h3, h4⟩ := h
  have hl : k * 5 + 4 < vs.length := (List.getElem?_eq_some_iff.1 h4).1
  refine ⟨?_, ?_, ?_, ?_, ?_⟩
  · rw [List.getElem?_set_ne (by omega), List.getElem?_set_ne (by omega), List.getElem?_set_self (by omega)]; rfl
  · rw [List.getElem?_set_ne (by omega), List.getElem?_set_self (by simp; omega)]; rfl
  · rw [List.getElem?_set_ne (by omega), List.getElem?_set_ne (by omega), List.getElem?_set_ne (by omega)]; exact h2
  · rw [List.getElem?_set_self (by simp; omega)]; rfl
  · rw [List.getElem?_set_ne (by omega), List.getElem?_set_ne (by omega), List.getElem?_set_ne (by omega)]; exact h4
set_option maxHeartbeats 4000000 in
theorem markDescS_o (base : Nat) (F : Nat → Value) (n : Nat) (ds : List DK) (k0 : Int) (w : World) (hn : n ≤ 1048576) (hk0 : 0 ≤ k0) (hk1 : k0 ≤ 1099511627776) (hs : Small n ds) (h : DescO w base F n ds) :
    Calls Try.prog 20 #[F 1, .int .i64 k0] w fun e w' => e = .returned (.int .i64 (k0 + (offN ds n : Int))) ∧ MarkDs w base F n (markDs k0 ds n) w' := by
  have HS : Hid (Small n ds) := hs
  have ST0 : Hid (MarkDs w base F n (mixDs k0 ds n 0) w) := ⟨h.congr (by simp [mixDs]) (fun i hi => by rw [mixDs_at hi, if_neg (by omega)]), Below.refl _ _, rfl, fun _ _ => rfl⟩
  have HOFF : Hid (∀ i, i ≤ n → offN ds i ≤ i * 4194307) := offN_le hs
  obtain ⟨vs0, hd0, _⟩ := h.descs
  obtain ⟨fa, fc, hF1, hfc⟩ := owns_slice hd0
  have HF1 : Hid (F 1 = .slice fa n fc) := hF1
  rw [hF1]
  have HFG : Hid (0 < n → ∃ g, fa = some ⟨g, 0, none⟩ ∧ base ≤ g) := fun hn0 => by
    rcases owns_forms hd0 with ⟨_, h2⟩ | ⟨g, cap, h2⟩
    · omega
    · rw [hF1] at h2
      rw [hF1] at hd0
      cases h2
      exact ⟨g, rfl, (hd0.lt g rfl).1⟩
  clear h hs hd0 hF1
  go_enter Try.func20, Try.ntmps20
  go_wp2
  go_loopw [1, 5] (fun q i wr => ∃ (j : Nat), j ≤ n ∧ q = .int .i64 (k0 + (offN ds j : Int)) ∧ i = .int .i64 (j : Int) ∧ MarkDs w base F n (mixDs k0 ds n j) wr) (fun _ i _ => n - (intOf i).toNat)
  case atStart => exact ⟨0, Nat.zero_le _, by simp [offN], rfl, ST0.out⟩
  case round =>
    obtain ⟨k, hk, rfl, rfl, hst⟩ := hrel
    have ST : Hid (MarkDs w base F n (mixDs k0 ds n k) wr) := hst
    clear ST0 hst
    by_cases hlt : k < n
    · have hk0' : (0 : Int) ≤ (k : Int) := by omega
      have hk1' : (k : Int) < (n : Int) := by omega
      have hoff := HOFF.out k hk
      obtain ⟨q, hq⟩ : ∃ q : Int, k0 + (offN ds k : Int) = q := ⟨_, rfl⟩
      have HQ : Hid (k0 + (offN ds k : Int) = q) := hq
      have hq0 : 0 ≤ q := by omega
      have hq2 : q ≤ 4398050705409 + 1099511627776 := by omega
      obtain ⟨g, rfl, hbg⟩ := HFG.out (by omega)
      obtain ⟨vs, ho, hv⟩ := ST.out.own.descs
      have SP : Hid (Sep F (2 + 2 * n)) := ST.out.own.sep
      rw [HF1.out] at ho
      have hvk := hv k hlt
      rw [mixDs_at hlt, if_neg (Nat.lt_irrefl _)] at hvk
      have hek := ST.out.own.ents k hlt
      have hik := ST.out.own.ints k hlt
      rw [mixDs_at hlt, if_neg (Nat.lt_irrefl _)] at hek hik
      obtain ⟨V, hV⟩ : ∃ V, F (2 + 2 * k) = V := ⟨_, rfl⟩
      obtain ⟨U, hU⟩ : ∃ U, F (3 + 2 * k) = U := ⟨_, rfl⟩
      have HV : Hid (F (2 + 2 * k) = V) := hV
      have HU : Hid (F (3 + 2 * k) = U) := hU
      rw [hV, hU] at hvk
      rw [hV] at hek
      rw [hU] at hik
      have sV : Hid (V.ownBlock ≠ some g) := fun e => SP.out (2 + 2 * k) 1 (by omega) (by omega) (by omega) g (by rw [HV.out]; exact e) (by rw [HF1.out]; rfl)
      have sU : Hid (U.ownBlock ≠ some g) := fun e => SP.out (3 + 2 * k) 1 (by omega) (by omega) (by omega) g (by rw [HU.out]; exact e) (by rw [HF1.out]; rfl)
      have sUV : Hid (∀ b, U.ownBlock = some b → V.ownBlock ≠ some b) := fun b e => by rw [← HV.out]; exact SP.out (3 + 2 * k) (2 + 2 * k) (by omega) (by omega) (by omega) b (by rw [HU.out]; exact e)
      have hl : vs.length = n * 5 := ho.1
      have z0 := ho.frozenAt (k * 5)
      have z1 := ho.frozenAt (k * 5 + 1)
      have c2 := own_cellV ho hvk.2.2.1
      obtain ⟨u0, hu0⟩ : ∃ u, wr.cell? ⟨g, k * 5, none⟩ = some u := ⟨_, own_cellV ho hvk.1⟩
      obtain ⟨u1, hu1⟩ : ∃ u, wr.cell? ⟨g, k * 5 + 1, none⟩ = some u := ⟨_, own_cellV ho hvk.2.1⟩
      have O1 : Hid (((wr.setCell ⟨g, k * 5, none⟩ (I q)).setCell ⟨g, k * 5 + 1, none⟩ (I (q + 1))).ownsRow base 82 5 (.slice (some ⟨g, 0, none⟩) n fc) n ((vs.set (k * 5) (I q)).set (k * 5 + 1) (I (q + 1)))) := ((ho.stored _ (I q)).1.stored _ (I (q + 1))).1
      have E1 : Hid (((wr.setCell ⟨g, k * 5, none⟩ (I q)).setCell ⟨g, k * 5 + 1, none⟩ (I (q + 1))).ownsRow base 84 3 V (dk ds k).en ((dk ds k).es.map I)) := own_setCell_far (own_setCell_far hek sV.out _) sV.out _
      have I1 : Hid (((wr.setCell ⟨g, k * 5, none⟩ (I q)).setCell ⟨g, k * 5 + 1, none⟩ (I (q + 1))).ownsRow base 3 1 U (dk ds k).rn ((dk ds k).rs.map I)) := own_setCell_far (own_setCell_far hik sU.out _) sU.out _
      have HVS : Hid (AtF vs k (dk ds k) V U ∧ vs.length = n * 5 ∧ ∀ i, i < n → AtF vs i (dk (mixDs k0 ds n k) i) (F (2 + 2 * i)) (F (3 + 2 * i))) := ⟨hvk, hl, hv⟩
      obtain ⟨he, hr⟩ := HS.out k hlt
      obtain ⟨D, hD⟩ : ∃ D, dk ds k = D := ⟨_, rfl⟩
      have HD : Hid (dk ds k = D) := hD
      rw [hD] at E1 I1 he hr
      rw [hq]
      clear ho hv hvk hl hD hek hik hq hV hU
      go_wp2_with fail
      refine (markEntryS_o base V D.en (q + 1 + 1) D.es _ he (by omega) (by omega) E1.out).mono ?_
      rintro e w2 ⟨rfl, oe2, ob2⟩
      have O2 : Hid (w2.ownsRow base 82 5 (.slice (some ⟨g, 0, none⟩) n fc) n ((vs.set (k * 5) (I q)).set (k * 5 + 1) (I (q + 1)))) := owns_heap O1.out (fun b hb => ob2.oth b (fun e => by cases hb; exact sV.out e))
      have I2 : Hid (w2.ownsRow base 3 1 U D.rn (D.rs.map I)) := owns_heap I1.out (fun b hb => ob2.oth b (sUV.out b hb))
      have E2 : Hid (w2.ownsRow base 84 3 V D.en ((asc (q + 1 + 1) (D.en * 3)).map I)) := oe2
      have OB2 : Hid (OnlyV base V ((wr.setCell ⟨g, k * 5, none⟩ (I q)).setCell ⟨g, k * 5 + 1, none⟩ (I (q + 1))) w2) := ob2
      have y3 := O2.out.frozenAt (k * 5 + 3)
      obtain ⟨u3, hu3⟩ : ∃ u, w2.cell? ⟨g, k * 5 + 3, none⟩ = some u := ⟨_, own_cellV O2.out (List.getElem?_eq_getElem (by simp; have := HVS.out.2.1; omega))⟩
      have c4 : w2.cell? ⟨g, k * 5 + 4, none⟩ = some U := by
        refine own_cellV O2.out ?_
        rw [List.getElem?_set_ne (by omega), List.getElem?_set_ne (by omega)]
        exact HVS.out.1.2.2.2.2
      obtain ⟨r2, hr2⟩ : ∃ r2 : Int, q + 1 + 1 + (D.en : Int) * 3 = r2 := ⟨_, rfl⟩
      have HR2 : Hid (q + 1 + 1 + (D.en : Int) * 3 = r2) := hr2
      have hr20 : 0 ≤ r2 := by omega
      have hr21 : r2 ≤ q + 3145730 := by omega
      have I3 : Hid ((w2.setCell ⟨g, k * 5 + 3, none⟩ (I r2)).ownsRow base 3 1 U D.rn (D.rs.map I)) := own_setCell_far I2.out sU.out _
      rw [hr2]
      clear ob2 oe2 z0 z1 c2 hu0 hu1 hr2 E1 I1 I2
      go_wp2_with fail
      refine (markIntS_o base U D.rn (r2 + 1) D.rs _ hr (by omega) (by omega) I3.out).mono ?_
      rintro e w4 ⟨rfl, oi4, ob4⟩
      have NEXT : Hid (MarkDs w base F n (mixDs k0 ds n (k + 1)) w4) := by
        have OTH : ∀ b, b ≠ g → V.ownBlock ≠ some b → U.ownBlock ≠ some b → w4.heap[b]? = wr.heap[b]? := fun b h1 h2 h3 => by
          rw [ob4.oth b h3, Below.heap_setCell _ _ _ _ h1, OB2.out.oth b h2, Below.heap_setCell _ _ _ _ h1, Below.heap_setCell _ _ _ _ h1]
        have FAR : ∀ a, a < 2 + 2 * n → a ≠ 1 → a ≠ 2 + 2 * k → a ≠ 3 + 2 * k → ∀ b, (F a).ownBlock = some b → w4.heap[b]? = wr.heap[b]? := fun a ha h1 h2 h3 b hb =>
          OTH b (fun e => SP.out a 1 ha (by omega) h1 b hb (by rw [HF1.out, e]; rfl)) (by rw [← HV.out]; exact SP.out a (2 + 2 * k) ha (by omega) h2 b hb) (by rw [← HU.out]; exact SP.out a (3 + 2 * k) ha (by omega) h3 b hb)
        have MK : dk (mixDs k0 ds n (k + 1)) k = markD q D := by rw [mixDs_at hlt, if_pos (by omega), HQ.out, HD.out]
        have NE : ∀ i, i < n → i ≠ k → dk (mixDs k0 ds n (k + 1)) i = dk (mixDs k0 ds n k) i := fun i hi hik => by
          rw [mixDs_at hi, mixDs_at hi]
          by_cases h : i < k
          · rw [if_pos h, if_pos (by omega)]
          · rw [if_neg h, if_neg (by omega)]
        refine ⟨⟨by simp [mixDs], ⟨((vs.set (k * 5) (I q)).set (k * 5 + 1) (I (q + 1))).set (k * 5 + 3) (I r2), ?_, fun i hi => ?_⟩, fun i hi => ?_, fun i hi => ?_, SP.out⟩, ?_, ?_, fun b hb => ?_⟩
        · rw [HF1.out]
          exact owns_heap (O2.out.stored (k * 5 + 3) (I r2)).1 (fun b hb => ob4.oth b (fun e => by cases hb; exact sU.out e))
        · by_cases hik : i = k
          · subst hik
            rw [MK, HV.out, HU.out, ← HR2.out]
            have := HVS.out.1
            rw [HD.out] at this
            exact atF_mark this
          · rw [NE i hi hik]
            exact (((HVS.out.2.2 i hi).set (by omega) _).set (by omega) _).set (by omega) _
        · by_cases hik : i = k
          · subst hik
            rw [MK, HV.out]
            exact owns_heap (own_setCell_far E2.out sV.out _) (fun b hb => ob4.oth b (fun e => sUV.out b e hb))
          · rw [NE i hi hik]
            exact owns_heap (ST.out.own.ents i hi) (FAR _ (by omega) (by omega) (by omega) (by omega))
        · by_cases hik : i = k
          · subst hik
            rw [MK, HU.out]
            show w4.ownsRow base 3 1 U D.rn ((asc (q + 1 + 1 + (D.en : Int) * 3 + 1) D.rn).map I)
            rw [HR2.out]
            exact oi4
          · rw [NE i hi hik]
            exact owns_heap (ST.out.own.ints i hi) (FAR _ (by omega) (by omega) (by omega) (by omega))
        · exact ((((ST.out.bel.setCell hbg (I q)).setCell hbg (I (q + 1))).trans OB2.out.bel).setCell hbg (I r2)).trans ob4.bel
        · rw [ob4.size, size_setCell, OB2.out.size, size_setCell, size_setCell, ST.out.size]
        · rw [OTH b (fun e => hb 1 (by omega) (by omega) (by rw [HF1.out, e]; rfl)) (by rw [← HV.out]; exact hb _ (by omega) (by omega)) (by rw [← HU.out]; exact hb _ (by omega) (by omega))]
          exact ST.out.oth b hb
      have HR4 : Hid (r2 + 1 + (D.rn : Int) = k0 + (offN ds (k + 1) : Int)) := by
        show _ = _
        have e1 := HQ.out
        have e2 := HR2.out
        unfold offN
        rw [HD.out]
        push_cast
        omega
      clear ob4 oi4 y3 hu3 c4 O1 O2 E2 OB2 I3 HVS
      obtain ⟨r4, hr4⟩ : ∃ r4 : Int, r2 + 1 + (D.rn : Int) = r4 := ⟨_, rfl⟩
      have HR5 : Hid (r4 = k0 + (offN ds (k + 1) : Int)) := by show _ = _; rw [← hr4]; exact HR4.out
      rw [hr4]
      clear hr4 HR4
      go_wp2
      go_roundw
      case rel => exact ⟨k + 1, by omega, by rw [HR5.out], by go_num, NEXT.out⟩
      case measure => simp [intOf]; omega
    · obtain rfl : k = n := by omega
      go_wp2
      go_ret
      exact ⟨rfl, ST.out⟩
set_option maxHeartbeats 2000000 in
theorem markMem_o (base : Nat) (F : Nat → Value) (m : Nat) (fs : List Int) (n : Nat) (ds : List DK) (k0 : Int) (w : World) (hm : m ≤ 1048576) (hn : n ≤ 1048576) (hk0 : 0 ≤ k0) (hk1 : k0 ≤ 1048576) (hs : Small n ds) (h : MemO w base F m fs n ds) :
    Calls Try.prog 32 #[MemF F, .int .i64 k0] w fun e w' => e = .returned (.int .i64 (k0 + (m : Int) * 3 + (offN ds n : Int))) ∧ MemO w' base F m (asc k0 (m * 3)) n (markDs (k0 + (m : Int) * 3) ds n) ∧ Below (min base w.heap.size) w w' ∧ ∀ b, b < w.heap.size → (∀ a, a < 2 + 2 * n → (F a).ownBlock ≠ some b) → w'.heap[b]? = w.heap[b]? := by
  have HS : Hid (Small n ds) := hs
  obtain ⟨F0, hF0⟩ : ∃ x, F 0 = x := ⟨_, rfl⟩
  obtain ⟨F1, hF1⟩ : ∃ x, F 1 = x := ⟨_, rfl⟩
  have HF0 : Hid (F 0 = F0) := hF0
  have HF1 : Hid (F 1 = F1) := hF1
  obtain ⟨wa, wc, e0, _⟩ := owns_slice h.words
  obtain ⟨vs, hd, _⟩ := h.descO.descs
  obtain ⟨da, dc, e1, _⟩ := owns_slice hd
  rw [hF0] at e0
  rw [hF1] at e1
  obtain ⟨W, hW⟩ : ∃ W, w.alloc (.cells #[F0, F1] 46) = W := ⟨_, rfl⟩
  have hb0 : Below w.heap.size w W := by rw [← hW]; exact (Below.refl _ w).alloc (Nat.le_refl _) _
  have X0 : Hid (Box W w.heap.size #[F0, F1] 46) := by rw [← hW]; exact box_of w _ _
  have HM : Hid (MemO W base F m fs n ds) := h.below hb0 (Nat.le_refl _)
  have HBK : Hid (∀ a, a < 2 + 2 * n → ∀ k, (F a).ownBlock = some k → base ≤ k ∧ k < w.heap.size) := h.blk
  have HB0 : Hid (Below w.heap.size w W) := hb0
  have HW : Hid (w.alloc (.cells #[F0, F1] 46) = W) := hW
  rw [MemF, hF0, hF1]
  subst e0 e1
  clear h hW hb0 hs hF0 hF1 hd
  go_enter Try.func32, Try.ntmps32
  go_wp2_with fail
  rw [HW.out]
  have MW := HM.out.words
  rw [HF0.out] at MW
  refine (markWordS_o base _ m k0 fs _ hm hk0 (by omega) MW).mono ?_
  rintro e w1 ⟨rfl, ow1, ob1⟩
  have HO1 : Hid (w1.ownsRow base 80 3 (.slice wa m wc) m ((asc k0 (m * 3)).map I)) := ow1
  have HD1 : Hid (DescO w1 base F n ds) := HM.out.descO.heap fun a h1 ha k hk => ob1.oth k (fun e => HM.out.descO.sep 0 a (by omega) ha (by omega) k (by rw [HF0.out]; exact e) hk)
  have OB1 : Hid (OnlyV base (.slice wa m wc) W w1) := ob1
  have X1 : Hid (Box w1 w.heap.size #[.slice wa m wc, .slice da n dc] 46) := by
    show Box _ _ _ _
    unfold Box
    rw [ob1.oth w.heap.size (fun e => by have := HBK.out 0 (by omega) w.heap.size (by rw [HF0.out]; exact e); omega)]
    exact X0.out
  obtain ⟨x0, x1, z0, z1⟩ := X1.out.two
  obtain ⟨q, hq⟩ : ∃ q : Int, k0 + (m : Int) * 3 = q := ⟨_, rfl⟩
  rw [hq]
  clear ow1 ob1 MW
  go_wp2_with fail
  rw [← HF1.out]
  refine (markDescS_o base F n ds q _ hn (by omega) (by omega) HS.out HD1.out).mono ?_
  rintro e w2 ⟨rfl, st2⟩
  have HST : Hid (MarkDs w1 base F n (markDs q ds n) w2) := st2
  have HSP : Hid (Sep F (2 + 2 * n)) := st2.own.sep
  clear st2 x0 x1 z0 z1
  go_wp2
  go_ret
  rw [hq]
  refine ⟨rfl, ⟨?_, HST.out.own⟩, ?_, fun b hb hn' => ?_⟩
  · rw [HF0.out]
    exact owns_heap HO1.out (fun b hb => HST.out.oth b (fun a h1 ha e => HSP.out 0 a (by omega) ha (by omega) b (by rw [HF0.out]; exact hb) e))
  · exact ((HB0.out.mono (Nat.min_le_right _ _)).trans (OB1.out.bel.mono (Nat.min_le_left _ _))).trans (HST.out.bel.mono (Nat.min_le_left _ _))
  · rw [HST.out.oth b (fun a h1 ha => hn' a ha), OB1.out.oth b (by rw [← HF0.out]; exact hn' 0 (by omega)), HB0.out.block b hb]
set_option maxHeartbeats 2000000 in
theorem heldDescS_o (da : Option Addr) (n dc : Nat) (ds : List DK) (k0 : Int) (w : World) (hk0 : 0 ≤ k0) (hk1 : k0 ≤ 1099511627776) (hs : Small n ds) (h : DescAt w da n (markDs k0 ds n)) :
    Calls Try.prog 67 #[.slice da n dc, .int .i64 k0] w fun e w' => e = .returned (.int .i64 (k0 + (offN ds n : Int))) ∧ Below w.heap.size w w' := by
  have HS : Hid (Small n ds) := hs
  have HH : Hid (DescAt w da n (markDs k0 ds n)) := h
  have hn := h.2.1
  have HOFF : Hid (∀ i, i ≤ n → offN ds i ≤ i * 4194307) := offN_le hs
  clear h hs
  go_enter Try.func67, Try.ntmps67
  go_wp2
  go_loopw [1, 5] (fun q i wr => ∃ (j : Nat), j ≤ n ∧ q = .int .i64 (k0 + (offN ds j : Int)) ∧ i = .int .i64 (j : Int) ∧ Below w.heap.size w wr) (fun _ i _ => n - (intOf i).toNat)
  case atStart => exact ⟨0, Nat.zero_le _, by simp [offN], rfl, Below.refl _ _⟩
  case round =>
    obtain ⟨k, hk, rfl, rfl, hb⟩ := hrel
    have HB : Hid (Below w.heap.size w wr) := hb
    by_cases hlt : k < n
    · have hk0' : (0 : Int) ≤ (k : Int) := by omega
      have hk1' : (k : Int) < (n : Int) := by omega
      have hoff := HOFF.out k hk
      obtain ⟨q, hq⟩ : ∃ q : Int, k0 + (offN ds k : Int) = q := ⟨_, rfl⟩
      have HQ : Hid (k0 + (offN ds k : Int) = q) := hq
      have hq0 : 0 ≤ q := by omega
      have hq2 : q ≤ 4398050705409 + 1099511627776 := by omega
      rcases (HH.out.below hb (Nat.le_refl _)).2.2 with h0 | ⟨p1, o1, rfl, g1⟩
      · omega
      obtain ⟨ea, ec, ra, rc, h5, h6, h7⟩ := g1 k hlt
      obtain ⟨he, hr⟩ := HS.out k hlt
      rw [markDs_at hlt, hq] at h5 h6 h7
      obtain ⟨D, hD⟩ : ∃ D, dk ds k = D := ⟨_, rfl⟩
      have HD : Hid (dk ds k = D) := hD
      rw [hD] at h5 h6 h7 he hr
      have H5 : Hid (Five wr p1 (o1 + k * 5) (markD q D) ea ec ra rc) := h5
      have H6 : Hid (TripAt wr ea D.en (asc (q + 1 + 1) (D.en * 3))) := h6
      have H7 : Hid (IntAt wr ra D.rn (asc (q + 1 + 1 + (D.en : Int) * 3 + 1) D.rn)) := h7
      obtain ⟨f0, f1, f2, f3, f4⟩ := h5
      simp only [markD] at f0 f1 f2 f3 f4
      rw [hq]
      clear g1 hq hb hD h6 h7
      go_wp2_with fail
      refine (heldEntryS_o ea D.en ec (q + 1 + 1) _ (by omega) (by omega) H6.out).mono ?_
      rintro e w2 ⟨rfl, hb2⟩
      have HB2 : Hid (Below w.heap.size w w2) := HB.out.trans (hb2.mono HB.out.size)
      obtain ⟨y0, y1, y2, y3, y4⟩ := H5.out.below hb2 (Nat.le_refl _)
      simp only [markD] at y0 y1 y2 y3 y4
      obtain ⟨r2, hr2⟩ : ∃ r2 : Int, q + 1 + 1 + (D.en : Int) * 3 = r2 := ⟨_, rfl⟩
      have HR2 : Hid (q + 1 + 1 + (D.en : Int) * 3 = r2) := hr2
      have hr20 : 0 ≤ r2 := by omega
      have hr21 : r2 ≤ q + 3145730 := by omega
      have hr22 : ¬ r2 < 0 := by omega
      have I2 : Hid (IntAt w2 ra D.rn (asc (r2 + 1) D.rn)) := by show IntAt _ _ _ _; rw [← hr2]; exact H7.out.below hb2 (Nat.le_refl _)
      rw [hr2] at y3 ⊢
      clear f0 f1 f2 f3 f4 hr2 hb2
      go_wp2_with fail
      refine (heldIntS_o ra D.rn rc (r2 + 1) _ (by omega) (by omega) hr I2.out).mono ?_
      rintro e w4 ⟨rfl, hb4⟩
      have HB4 : Hid (Below w.heap.size w w4) := HB2.out.trans (hb4.mono HB2.out.size)
      obtain ⟨r4, hr4⟩ : ∃ r4 : Int, r2 + 1 + (D.rn : Int) = r4 := ⟨_, rfl⟩
      have hr40 : ¬ r4 < 0 := by omega
      have HR5 : Hid (r4 = k0 + (offN ds (k + 1) : Int)) := by
        show _ = _
        have e1 := HQ.out
        have e2 := HR2.out
        unfold offN
        rw [HD.out]
        push_cast
        omega
      rw [hr4]
      clear hr4 hb4 y0 y1 y2 y3 y4
      go_wp2
      exact ⟨⟨k + 1, by omega, by rw [HR5.out], by go_num, HB4.out⟩, by simp [intOf]; omega⟩
    · obtain rfl : k = n := by omega
      go_wp2
      go_ret
      exact ⟨rfl, HB.out⟩
set_option maxHeartbeats 2000000 in
theorem heldMem_o (wa : Option Addr) (m wc : Nat) (da : Option Addr) (n dc : Nat) (ds : List DK) (k0 : Int) (w : World) (hk0 : 0 ≤ k0) (hk1 : k0 ≤ 1048576) (hs : Small n ds) (h1 : TripAt w wa m (asc k0 (m * 3))) (h2 : DescAt w da n (markDs (k0 + (m : Int) * 3) ds n)) :
    Calls Try.prog 33 #[MemV wa m wc da n dc, .int .i64 k0] w fun e w' => e = .returned (.int .i64 (k0 + (m : Int) * 3 + (offN ds n : Int))) ∧ Below w.heap.size w w' := by
  have HS : Hid (Small n ds) := hs
  have hm := h1.2.1
  have hn := h2.2.1
  have hoff := offN_le hs n (Nat.le_refl _)
  obtain ⟨W, hW⟩ : ∃ W, w.alloc (.cells #[.slice wa m wc, .slice da n dc] 46) = W := ⟨_, rfl⟩
  have hb0 : Below w.heap.size w W := by rw [← hW]; exact (Below.refl _ w).alloc (Nat.le_refl _) _
  have X0 : Hid (Box W w.heap.size #[.slice wa m wc, .slice da n dc] 46) := by rw [← hW]; exact box_of w _ _
  have H1 : Hid (TripAt W wa m (asc k0 (m * 3))) := h1.below hb0 (Nat.le_refl _)
  obtain ⟨q, hq⟩ : ∃ q : Int, k0 + (m : Int) * 3 = q := ⟨_, rfl⟩
  have hq0 : 0 ≤ q := by omega
  have hq1 : q ≤ 4194304 := by omega
  have hq2 : ¬ q < 0 := by omega
  rw [hq] at h2 ⊢
  have H2 : Hid (DescAt W da n (markDs q ds n)) := h2.below hb0 (Nat.le_refl _)
  have HB0 : Hid (Below w.heap.size w W) := hb0
  have HQ : Hid (k0 + (m : Int) * 3 = q) := hq
  have HW : Hid (w.alloc (.cells #[.slice wa m wc, .slice da n dc] 46) = W) := hW
  clear h1 h2 hW hb0 hs hq
  go_enter Try.func33, Try.ntmps33
  go_wp2_with fail
  rw [HW.out]
  refine (heldWordS_o wa m wc k0 _ hk0 (by omega) H1.out).mono ?_
  rintro e w1 ⟨rfl, hb1⟩
  rw [HQ.out]
  have HB1 : Hid (Below w.heap.size w w1) := HB0.out.trans (hb1.mono HB0.out.size)
  obtain ⟨x0, x1, _, _⟩ := (X0.out.below hb1 X0.out.lt).two
  have D1 : Hid (DescAt w1 da n (markDs q ds n)) := H2.out.below hb1 (Nat.le_refl _)
  clear hb1
  go_wp2_with fail
  refine (heldDescS_o da n dc ds q _ hq0 (by omega) HS.out D1.out).mono ?_
  rintro e w2 ⟨rfl, hb2⟩
  have HB2 : Hid (Below w.heap.size w w2) := HB1.out.trans (hb2.mono HB1.out.size)
  have hr : ¬ q + (offN ds n : Int) < 0 := by omega
  clear hb2 x0 x1
  go_wp2
  go_ret
  exact ⟨rfl, HB2.out⟩
end Go.Proofs.Ytbdfopokimpeiaq
