/- Texts joined: SpecRx, EntriesM, DescM, ValM, Wrd1, Wrds, Ent1, Ents, Ints, ResL, Desc, SpecEntries, SpecVal, CutAt, Within, IsMark. -/
import Derived.Test.YtkbodiggdajbeaaGreatDoorMT02
import Derived.Test.YtkbodiggdajbeaaGreatDoorMT01
import Derived.Deep.RegionHeld3
import Derived.Deep.Cut
import Derived.Test.YtkbodiggdajbeaaGreatDoorRows
import Derived.WalkKit
import Derived.ProofKit
import Derived.WalkSmall
import Derived.OpenShut
import Derived.Handy
import Derived.ChangeOld
import Derived.Lib.SmallJoins
/- spec.RowsText, walked. -/
namespace Go.Proofs.YtkbodiggdajbeaaGreatDoor
open Go.ChangeShapes Go.WideShapes Go.ChangeAt Go.RowKit Go.Lib

set_option maxHeartbeats 4000000 in
set_option maxRecDepth 100000 in
theorem specRowsText_any (a : Option Addr) (n c : Nat) (st : Int) (xs : List Int) (w : World) (hA : IntAt w a n xs) (hx : In64s xs) (hs : I64 st) (hn : n ≤ 1048576) :
    Calls Tryz.prog 14 #[.agg #[.slice a n c, .int .i64 st]] w fun e w' => TextSays e (rowsB xs st) ∧ Below w.heap.size w w' := by
  obtain ⟨W, hW⟩ : ∃ W, w.alloc (.cells #[.slice a n c, .int .i64 st] 41) = W := ⟨_, rfl⟩
  have HB0 : Hid (Below w.heap.size w W) := by rw [← hW]; exact (Below.refl _ w).alloc (Nat.le_refl _) _
  have X0 : Hid (Box W w.heap.size #[.slice a n c, .int .i64 st] 41) := by rw [← hW]; exact box_of w _ _
  have HW : Hid (w.alloc (.cells #[.slice a n c, .int .i64 st] 41) = W) := hW
  have HA : Hid (IntAt w a n xs) := hA
  have HI : Hid (In64s xs) := hx
  have HS : Hid (I64 st) := hs
  have HXL : Hid (xs.length = n) := hA.1
  have BX : Hid (∀ y, Below W.heap.size W y → y.cell? ⟨w.heap.size, 0, none⟩ = some (.slice a n c) ∧ y.cell? ⟨w.heap.size, 1, none⟩ = some (.int .i64 st)) := fun y hb => by
    obtain ⟨h0, h1, _, _⟩ := (X0.out.below hb X0.out.lt).two
    exact ⟨h0, h1⟩
  have K0 : Hid (W.drew.cell? ⟨w.heap.size, 0, none⟩ = some (.slice a n c) ∧ W.drew.cell? ⟨w.heap.size, 1, none⟩ = some (.int .i64 st)) := BX.out _ (Below.refl _ _).drew
  clear hW hA hx hs
  go_enter Tryz.func14, Tryz.ntmps14
  go_upto_region 1 with (fail)
  rw [HW.out]
  go_region_held3 (fun w' => w'.cell? ⟨w.heap.size, 0, none⟩ = some (.slice a n c) ∧ w'.cell? ⟨w.heap.size, 1, none⟩ = some (.int .i64 st))
    (first | (with_reducible exact K2.out) | (with_reducible exact K1.out) | (with_reducible exact K0.out) | go_keep)
    (first
    | (go_at_call 37
       refine (specNums_any a n c xs _ (HA.out.below HB0.out.drew (Nat.le_refl _)) HI.out).mono ?_
       rintro e w1 ⟨⟨s1, rfl, hs1⟩, hb1⟩
       have HS1 : Hid (s1.data.toList = numsB xs) := hs1
       have hz1 : s1.size ≤ 22 * n := by rw [szS s1 hs1]; exact numsB_len n xs HXL.out HI.out
       have hb1' : Below W.heap.size W w1 := (Below.refl W.heap.size W).drew.trans hb1
       have HB1 : Hid (Below W.heap.size W w1) := hb1'
       have K1 : Hid (w1.cell? ⟨w.heap.size, 0, none⟩ = some (.slice a n c) ∧ w1.cell? ⟨w.heap.size, 1, none⟩ = some (.int .i64 st)) := BX.out _ hb1'
       have hc1 : s1.size + 1 ≤ 9223372036854775807 := by omega
       have hd1 : ¬ (9223372036854775807 < s1.size + 1) := by omega
       clear hs1 hb1 hb1')
    | (go_at_call 38
       refine (digits_any st HS.out.1 HS.out.2 _).mono ?_
       rintro e w2 ⟨⟨s2, rfl, hs2⟩, hb2⟩
       have HS2 : Hid (s2.data.toList = itoa st) := hs2
       have hz2 : s2.size ≤ 21 := by rw [szS s2 hs2]; exact itoa_le HS.out
       have hb2' : Below W.heap.size W w2 := HB1.out.trans (hb2.mono HB1.out.size)
       have HB2 : Hid (Below W.heap.size W w2) := hb2'
       have K2 : Hid (w2.cell? ⟨w.heap.size, 0, none⟩ = some (.slice a n c) ∧ w2.cell? ⟨w.heap.size, 1, none⟩ = some (.int .i64 st)) := BX.out _ hb2'
       have hc2 : s1.size + 1 + s2.size ≤ 9223372036854775807 := by omega
       have hd2 : ¬ (9223372036854775807 < s1.size + 1 + s2.size) := by omega
       clear hs2 hb2 hb2'))
  go_wp2
  go_ret
  refine ⟨⟨_, rfl, ?_⟩, HB0.out.trans (HB2.out.mono HB0.out.size)⟩
  show _ = numsB xs ++ 47 :: itoa st
  simp [HS1.out, HS2.out]
end Go.Proofs.YtkbodiggdajbeaaGreatDoor

/- Which entry of a list is at a place: the first; no program. -/
namespace Go.Proofs.YtkbodiggdajbeaaGreatDoor

def idxF (es : List Int) (at_ : Int) : Nat → Nat → Nat
  | 0, k => k
  | f + 1, k => if es.getD (k * 3) 0 = at_ then k else idxF es at_ f (k + 1)
theorem idxF_eq {es : List Int} {at_ : Int} : ∀ {f k K : Nat}, k ≤ K → K ≤ k + f → (∀ i, k ≤ i → i < K → es.getD (i * 3) 0 ≠ at_) → (K < k + f → es.getD (K * 3) 0 = at_) → idxF es at_ f k = K
  | 0, k, K, h1, h2, _, _ => by unfold idxF; omega
  | f + 1, k, K, h1, h2, h3, h4 => by
    unfold idxF
    by_cases e : k = K
    · subst e
      rw [if_pos (h4 (by omega))]
    · rw [if_neg (h3 k (Nat.le_refl _) (by omega))]
      exact idxF_eq (by omega) (by omega) (fun i hi => h3 i (by omega)) (fun h => h4 (by omega))
/-- The place in the list of the first entry at at_; n: there is none. -/
def idxE (es : List Int) (n : Nat) (at_ : Int) : Nat := idxF es at_ n 0
theorem idxE_eq {es : List Int} {at_ : Int} {n k : Nat} (h1 : k ≤ n) (h2 : ∀ i, i < k → es.getD (i * 3) 0 ≠ at_) (h3 : k < n → es.getD (k * 3) 0 = at_) : idxE es n at_ = k :=
  idxF_eq (Nat.zero_le _) (by omega) (fun i _ hi => h2 i hi) (fun h => h3 (by omega))
def entM (es : List Int) (n : Nat) (at_ : Int) : Int × Int × Int × Bool :=
  if idxE es n at_ < n then (es.getD (idxE es n at_ * 3) 0, es.getD (idxE es n at_ * 3 + 1) 0, es.getD (idxE es n at_ * 3 + 2) 0, true) else (0, 0, 0, false)
theorem entM_yes {es : List Int} {at_ : Int} {n k : Nat} (h : idxE es n at_ = k) (hk : k < n) : entM es n at_ = (es.getD (k * 3) 0, es.getD (k * 3 + 1) 0, es.getD (k * 3 + 2) 0, true) := by
  unfold entM; rw [h, if_pos hk]
theorem entM_no {es : List Int} {at_ : Int} {n : Nat} (h : idxE es n at_ = n) : entM es n at_ = (0, 0, 0, false) := by
  unfold entM; rw [h, if_neg (by omega)]
end Go.Proofs.YtkbodiggdajbeaaGreatDoor

/- When a Desc is right: as the document says; no program. -/
namespace Go.Proofs.YtkbodiggdajbeaaGreatDoor

/-- The entry at i is one that a Desc may have there. -/
def entOk (es : List Int) (i : Nat) : Prop :=
  (0 ≤ es.getD (i * 3) 0 ∧ es.getD (i * 3) 0 ≤ 19) ∧ (0 ≤ es.getD (i * 3 + 1) 0 ∧ es.getD (i * 3 + 1) 0 ≤ 1000) ∧ (0 ≤ es.getD (i * 3 + 2) 0 ∧ es.getD (i * 3 + 2) 0 ≤ 1000) ∧ (0 < i → es.getD ((i - 1) * 3) 0 < es.getD (i * 3) 0)
instance (es : List Int) (i : Nat) : Decidable (entOk es i) := by unfold entOk; infer_instance
/-- What the next place must be at least. -/
def leastE (es : List Int) (k : Nat) : Int := if k = 0 then 0 else es.getD ((k - 1) * 3) 0 + 1
theorem leastE_ok {es : List Int} {k : Nat} (h : ∀ i, i < k → entOk es i) : 0 ≤ leastE es k ∧ leastE es k ≤ 20 := by
  unfold leastE
  split
  · omega
  · have := h (k - 1) (by omega)
    unfold entOk at this
    omega
theorem entOk_iff {es : List Int} {k : Nat} (h : ∀ i, i < k → entOk es i) : entOk es k ↔ (inB (es.getD (k * 3) 0) (leastE es k) 19 = true ∧ inB (es.getD (k * 3 + 1) 0) 0 1000 = true ∧ inB (es.getD (k * 3 + 2) 0) 0 1000 = true) := by
  have h0 := leastE_ok h
  unfold inB entOk
  simp only [decide_eq_true_eq]
  have e : leastE es k ≤ es.getD (k * 3) 0 ↔ (0 ≤ es.getD (k * 3) 0 ∧ (0 < k → es.getD ((k - 1) * 3) 0 < es.getD (k * 3) 0)) := by
    constructor
    · intro h1
      refine ⟨by omega, fun hk => ?_⟩
      unfold leastE at h1
      rw [if_neg (by omega)] at h1
      omega
    · rintro ⟨h1, h2⟩
      unfold leastE
      split
      · exact h1
      · have := h2 (by omega); omega
  rw [e]
  constructor
  · rintro ⟨⟨a, b⟩, c, d, f⟩; exact ⟨⟨⟨a, f⟩, b⟩, c, d⟩
  · rintro ⟨⟨⟨a, f⟩, b⟩, c, d⟩; exact ⟨⟨a, b⟩, c, d, f⟩
theorem entOk_low {es : List Int} : ∀ {k : Nat}, (∀ i, i < k → entOk es i) → ∀ i, i < k → (i : Int) ≤ es.getD (i * 3) 0
  | k, h, 0, hi => by have := (h 0 hi).1.1; simpa using this
  | k, h, i + 1, hi => by
    have ih := entOk_low h i (by omega)
    have h2 := (h (i + 1) hi).2.2.2 (by omega)
    rw [Nat.add_sub_cancel] at h2
    omega
theorem entOk_few {es : List Int} {k : Nat} (h : ∀ i, i < k → entOk es i) : k ≤ 20 := by
  by_cases hk : k = 0
  · omega
  · have h1 := entOk_low h (k - 1) (by omega)
    have h2 := (h (k - 1) (by omega)).1.2
    omega
def descOkM (sq st : Int) (en : Nat) (es : List Int) (cd : Int) (rn : Nat) : Bool :=
  if sq = 0 then decide (st = 0 ∧ en = 0 ∧ cd = 0 ∧ rn = 0) else (inB sq 1 1000000 && (inB st 1 3 && decide (∀ i, i < en → entOk es i)))
end Go.Proofs.YtkbodiggdajbeaaGreatDoor

/- What words and marks mean: as the document says; no program. Descs in memory. -/
namespace Go.Proofs.YtkbodiggdajbeaaGreatDoor
open Go.RowKit

/-- What a Desc holds. -/
structure DK where
  sq : Int
  st : Int
  en : Nat
  es : List Int
  cd : Int
  rn : Nat
  rs : List Int
instance : Inhabited DK := ⟨⟨0, 0, 0, [], 0, 0, []⟩⟩
def dk (ds : List DK) (i : Nat) : DK := ds.getD i default
/-- What a word means. -/
def wordM (x t s : Int) (ds : List DK) (at_ : Int) : Int :=
  if t = 0 then x else if inB t 1 ds.length = true then
    (if (dk ds (t - 1).toNat).sq = s ∧ (dk ds (t - 1).toNat).st = 2 then (entM (dk ds (t - 1).toNat).es (dk ds (t - 1).toNat).en at_).2.2.1 else (entM (dk ds (t - 1).toNat).es (dk ds (t - 1).toNat).en at_).2.1) else 0
def valM (fs : List Int) (m : Nat) (ds : List DK) (at_ : Int) : Int :=
  if 0 ≤ at_ ∧ at_ < (m : Int) then wordM (fs.getD (at_.toNat * 3) 0) (fs.getD (at_.toNat * 3 + 1) 0) (fs.getD (at_.toNat * 3 + 2) 0) ds at_ else 0
/-- The five cells of a Desc. -/
def Five (w : World) (b p : Nat) (d : DK) (ea : Option Addr) (ec : Nat) (ra : Option Addr) (rc : Nat) : Prop :=
  w.cell? ⟨b, p, none⟩ = some (I d.sq) ∧ w.cell? ⟨b, p + 1, none⟩ = some (I d.st) ∧ w.cell? ⟨b, p + 2, none⟩ = some (.slice ea d.en ec) ∧ w.cell? ⟨b, p + 3, none⟩ = some (I d.cd) ∧ w.cell? ⟨b, p + 4, none⟩ = some (.slice ra d.rn rc)
theorem Five.below {w w' : World} {b p : Nat} {d : DK} {ea : Option Addr} {ec : Nat} {ra : Option Addr} {rc : Nat} (h : Five w b p d ea ec ra rc) {B : Nat} (hb : Below B w w') (hB : w.heap.size ≤ B) : Five w' b p d ea ec ra rc := by
  have hlt : b < B := Nat.lt_of_lt_of_le (World.block_lt_of_cell? w _ h.1) hB
  obtain ⟨h0, h1, h2, h3, h4⟩ := h
  exact ⟨(hb.cell hlt).trans h0, (hb.cell hlt).trans h1, (hb.cell hlt).trans h2, (hb.cell hlt).trans h3, (hb.cell hlt).trans h4⟩
/-- n Descs lie there. -/
def DescAt (w : World) (a : Option Addr) (n : Nat) (ds : List DK) : Prop :=
  ds.length = n ∧ n ≤ 1048576 ∧ (n = 0 ∨ ∃ b o, a = some ⟨b, o, none⟩ ∧ ∀ i, i < n → ∃ ea ec ra rc, Five w b (o + i * 5) (dk ds i) ea ec ra rc ∧ TripAt w ea (dk ds i).en (dk ds i).es ∧ IntAt w ra (dk ds i).rn (dk ds i).rs)
theorem DescAt.below {w w' : World} {a : Option Addr} {n : Nat} {ds : List DK} (h : DescAt w a n ds) {B : Nat} (hb : Below B w w') (hB : w.heap.size ≤ B) : DescAt w' a n ds := by
  obtain ⟨h1, h2, h3 | ⟨b, o, h3, h4⟩⟩ := h
  · exact ⟨h1, h2, .inl h3⟩
  · refine ⟨h1, h2, .inr ⟨b, o, h3, fun i hi => ?_⟩⟩
    obtain ⟨ea, ec, ra, rc, h5, h6, h7⟩ := h4 i hi
    exact ⟨ea, ec, ra, rc, h5.below hb hB, h6.below hb hB, h7.below hb hB⟩
end Go.Proofs.YtkbodiggdajbeaaGreatDoor

/- A word: as a value; the law's own function on one. -/
namespace Go.Proofs.YtkbodiggdajbeaaGreatDoor
open Go.ChangeShapes Go.WideShapes Go.ChangeAt Go.RowKit

abbrev WordV (x y z : Int) : Value := .agg #[.int .i64 x, .int .i64 y, .int .i64 z]
set_option maxHeartbeats 1000000 in
theorem toWord_any (x y z : Int) (w : World) : Calls Tryz.prog 71 #[WordV x y z] w fun e w' => e = .returned (WordV x y z) ∧ Below w.heap.size w w' := by
  go_enter Tryz.func71, Tryz.ntmps71
  go_wp2
  (try simp only [Exit.inBlock, Exit.then])
  refine bodyPost_ret (by simp [results, Tryz.results71, go_sem]; try rfl) rfl ?_
  exact ⟨rfl, (((Below.refl _ _).alloc (Nat.le_refl _) _).alloc (by simp) _).alloc (by simp; omega) _⟩

end Go.Proofs.YtkbodiggdajbeaaGreatDoor

/- Lists of words: the law's own functions on them. -/
namespace Go.Proofs.YtkbodiggdajbeaaGreatDoor
open Go.ChangeShapes Go.WideShapes Go.ChangeAt Go.RowKit

theorem infoWord : (Tryz.prog.info? 134).map (fun i => (i.zero, i.size, i.bytes)) = some (some (.agg #[.int .i64 0, .int .i64 0, .int .i64 0]), 3, 24) := by kernel_rfl
set_option maxHeartbeats 1000000 in
theorem toWordS_any (a : Option Addr) (n c : Nat) (fs : List Int) (w : World) (h : TripAt w a n fs) :
    Calls Tryz.prog 43 #[.slice a n c] w fun e w' => e = .returned (.slice (some ⟨w.heap.size, 0, none⟩) n n) ∧ w'.ownsRow w.heap.size 134 3 (.slice (some ⟨w.heap.size, 0, none⟩) n n) n (fs.map I) ∧ Below w.heap.size w w' := by
  have HH : Hid (TripAt w a n fs) := h
  have L1 : Hid (fs.length = n * 3) := h.1
  have hn : n ≤ 1048576 := h.2.1
  clear h
  obtain ⟨i0, hi, hz0, hz1, hz2⟩ := info_parts infoWord
  go_enter Tryz.func43, Tryz.ntmps43
  go_wp2_with (at_make; refine wpList_make_full _ rfl _ _ 35 rfl w.heap.size 134 i0 (.agg #[.int .i64 0, .int .i64 0, .int .i64 0]) 3 Tryz.underlying35 hi hz0 hz1 .i64 .i64 _ _ n rfl rfl rfl rfl (by rw [hz2]; omega) (by unfold maxLen; omega) (Nat.le_refl _) ?_; intro w1 own1 grow1)
  have own0 : w1.ownsRow w.heap.size 134 3 (.slice (some ⟨w.heap.size, 0, none⟩) n n) n ((uptoT fs 0 (n * 3)).map I) := by
    rw [made_trips] at own1
    simpa [uptoT] using own1
  have hb1 : Below w.heap.size w w1 := (Below.refl _ _).grown grow1 (Nat.le_refl _) (fun k e => by cases e)
  clear own1 grow1
  go_loopw [4] (fun i wr => ∃ k : Nat, k ≤ n ∧ i = .int .i64 (k : Int) ∧ wr.ownsRow w.heap.size 134 3 (.slice (some ⟨w.heap.size, 0, none⟩) n n) n ((uptoT fs (k * 3) (n * 3)).map I) ∧ Below w.heap.size w wr) (fun i _ => n - (intOf i).toNat)
  case atStart => exact ⟨0, Nat.zero_le _, rfl, own0, hb1⟩
  case round =>
    obtain ⟨k, hk, rfl, ho, hb⟩ := hrel
    clear own0 hb1
    by_cases hlt : k < n
    · rcases (HH.out.below hb (Nat.le_refl _)).2.2 with h0 | ⟨p1, o1, rfl, g1⟩
      · omega
      have hk0 : (0 : Int) ≤ (k : Int) := by omega
      have hk1 : (k : Int) < (n : Int) := by omega
      have e1 := g1 (k * 3) (by omega)
      have e2 := g1 (k * 3 + 1) (by omega)
      have e3 := g1 (k * 3 + 2) (by omega)
      obtain ⟨x, hx⟩ : ∃ x, fs.getD (k * 3) 0 = x := ⟨_, rfl⟩
      obtain ⟨y, hy⟩ : ∃ y, fs.getD (k * 3 + 1) 0 = y := ⟨_, rfl⟩
      obtain ⟨z, hz⟩ : ∃ z, fs.getD (k * 3 + 2) 0 = z := ⟨_, rfl⟩
      rw [hx] at e1
      rw [hy, ← Nat.add_assoc] at e2
      rw [hz, ← Nat.add_assoc] at e3
      have HO : Hid (wr.ownsRow w.heap.size 134 3 (.slice (some ⟨w.heap.size, 0, none⟩) n n) n ((uptoT fs (k * 3) (n * 3)).map I)) := ho
      have HX : Hid (fs.getD (k * 3) 0 = x ∧ fs.getD (k * 3 + 1) 0 = y ∧ fs.getD (k * 3 + 2) 0 = z) := ⟨hx, hy, hz⟩
      clear g1 hx hy hz ho
      go_wp2_with fail
      refine (toWord_any x y z _).mono ?_
      rintro e w2 ⟨rfl, hb2⟩
      have ho2 := owns_below HO.out hb2 (Nat.le_refl _)
      have hb02 : Below w.heap.size w w2 := hb.trans (hb2.mono hb.size)
      have hs1 := ho2.stored (k * 3) (I x)
      rw [← HX.out.1, uptoT_step L1.out (show k * 3 < n * 3 by omega), HX.out.1] at hs1
      have hs2 := hs1.1.stored (k * 3 + 1) (I y)
      rw [← HX.out.2.1, uptoT_step L1.out (show k * 3 + 1 < n * 3 by omega), HX.out.2.1] at hs2
      have hs3 := hs2.1.stored (k * 3 + 2) (I z)
      rw [← HX.out.2.2, uptoT_step L1.out (show k * 3 + 1 + 1 < n * 3 by omega), HX.out.2.2] at hs3
      have HS : Hid ((((w2.setCell ⟨w.heap.size, k * 3, none⟩ (I x)).setCell ⟨w.heap.size, k * 3 + 1, none⟩ (I y)).setCell ⟨w.heap.size, k * 3 + 2, none⟩ (I z)).ownsRow w.heap.size 134 3 (.slice (some ⟨w.heap.size, 0, none⟩) n n) n ((uptoT fs ((k + 1) * 3) (n * 3)).map I)) := by
        rw [show (k + 1) * 3 = k * 3 + 1 + 1 + 1 by omega]
        exact hs3.1
      have z0 := ho2.frozenAt (k * 3)
      have z1 := ho2.frozenAt (k * 3 + 1)
      have z2 := ho2.frozenAt (k * 3 + 2)
      have hc0 := ho2.cellAt (k * 3) (by omega)
      have hc1 := ho2.cellAt (k * 3 + 1) (by omega)
      have hc2 := ho2.cellAt (k * 3 + 2) (by omega)
      rw [List.getElem?_eq_getElem (by rw [ho2.1]; omega)] at hc0 hc1 hc2
      obtain ⟨u0, hu0⟩ : ∃ u, w2.cell? ⟨w.heap.size, k * 3, none⟩ = some u := ⟨_, hc0⟩
      obtain ⟨u1, hu1⟩ : ∃ u, w2.cell? ⟨w.heap.size, k * 3 + 1, none⟩ = some u := ⟨_, hc1⟩
      obtain ⟨u2, hu2⟩ : ∃ u, w2.cell? ⟨w.heap.size, k * 3 + 2, none⟩ = some u := ⟨_, hc2⟩
      clear hs1 hs2 hs3 ho2 hb2 hc0 hc1 hc2 e1 e2 e3
      go_wp2
      go_roundw
      case rel => exact ⟨k + 1, by omega, by go_num, HS.out, ((hb02.setCell (Nat.le_refl _) _).setCell (Nat.le_refl _) _).setCell (Nat.le_refl _) _⟩
      case measure => simp [intOf]; omega
    · obtain rfl : k = n := by omega
      rw [uptoT_end L1.out] at ho
      go_wp2
      go_ret
      exact ⟨rfl, ho, hb⟩

set_option maxHeartbeats 1000000 in
theorem eqWord_any (x y z x' y' z' : Int) (w : World) : Calls Tryz.prog 90 #[WordV x y z, WordV x' y' z'] w fun e w' => e = .returned (.bool (decide (x = x' ∧ y = y' ∧ z = z'))) ∧ Below w.heap.size w w' := by
  obtain ⟨B, hB⟩ : ∃ B, decide (x = x' ∧ y = y' ∧ z = z') = B := ⟨_, rfl⟩
  rw [hB]
  have HB : Hid (decide (x = x' ∧ y = y' ∧ z = z') = B) := hB
  clear hB
  have neb2 : ∀ a b : Int, (a = b ∧ (a != b) = false) ∨ (¬ a = b ∧ (a != b) = true) := fun a b => by
    by_cases h : a = b
    · exact .inl ⟨h, by simp [h]⟩
    · exact .inr ⟨h, by simp [h]⟩
  rcases neb2 x x' with ⟨h1, g1⟩ | ⟨h1, g1⟩ <;> rcases neb2 y y' with ⟨h2, g2⟩ | ⟨h2, g2⟩ <;> rcases neb2 z z' with ⟨h3, g3⟩ | ⟨h3, g3⟩
  all_goals
    have H1 : Hid _ := h1
    have H2 : Hid _ := h2
    have H3 : Hid _ := h3
    clear h1 h2 h3 neb2
    go_enter Tryz.func90, Tryz.ntmps90
    go_wp2
    iterate 3
      all_goals (try go_region)
      all_goals (try go_wp2)
    all_goals
      go_ret
      refine ⟨?_, (by
        have h0 := ((Below.refl w.heap.size w).alloc (Nat.le_refl _) (.cells #[.int .i64 x, .int .i64 y, .int .i64 z] 134)).alloc (by simp) (.cells #[.int .i64 x', .int .i64 y', .int .i64 z'] 134)
        first | exact h0 | exact h0.drew | exact h0.drew.drew | exact h0.drew.drew.drew)⟩
      rw [← HB.out]
      have h1 := H1.out
      have h2 := H2.out
      have h3 := H3.out
      first
        | (rw [decide_eq_true (show x = x' ∧ y = y' ∧ z = z' from ⟨h1, h2, h3⟩)]; rfl)
        | (rw [decide_eq_false (fun h : x = x' ∧ y = y' ∧ z = z' => h3 h.2.2)]; rfl)
        | (rw [decide_eq_false (fun h : x = x' ∧ y = y' ∧ z = z' => h2 h.2.1)]; rfl)
        | (rw [decide_eq_false (fun h : x = x' ∧ y = y' ∧ z = z' => h1 h.1)]; rfl)

set_option maxHeartbeats 1000000 in
theorem eqWordS_any (a1 a2 : Option Addr) (n1 n2 c1 c2 : Nat) (fs gs : List Int) (w : World) (h1 : TripAt w a1 n1 fs) (h2 : TripAt w a2 n2 gs) :
    Calls Tryz.prog 56 #[.slice a1 n1 c1, .slice a2 n2 c2] w fun e w' => e = .returned (.bool (decide (fs = gs))) ∧ Below w.heap.size w w' := by
  have H1 : Hid (TripAt w a1 n1 fs) := h1
  have H2 : Hid (TripAt w a2 n2 gs) := h2
  have L1 : Hid (fs.length = n1 * 3) := h1.1
  have L2 : Hid (gs.length = n2 * 3) := h2.1
  have b1 := h1.2.1
  have b2 := h2.2.1
  obtain ⟨B, hB⟩ : ∃ B, decide (fs = gs) = B := ⟨_, rfl⟩
  rw [hB]
  have HB : Hid (decide (fs = gs) = B) := hB
  clear h1 h2 hB
  by_cases hn : n1 = n2
  · subst hn
    go_enter Tryz.func56, Tryz.ntmps56
    go_wp2
    go_loopw [5] (fun i wr => ∃ k : Nat, k ≤ n1 ∧ i = .int .i64 k ∧ fs.take (k * 3) = gs.take (k * 3) ∧ Below w.heap.size w wr) (fun i _ => n1 - (intOf i).toNat)
    case atStart => exact ⟨0, Nat.zero_le _, rfl, rfl, Below.refl _ _⟩
    case round =>
      obtain ⟨k, hk1, rfl, ht, hb⟩ := hrel
      have HT : Hid (fs.take (k * 3) = gs.take (k * 3)) := ht
      clear ht
      by_cases hlt1 : k < n1
      · have hk0 : (0 : Int) ≤ (k : Int) := by omega
        have hk1' : (k : Int) < (n1 : Int) := by omega
        rcases (H1.out.below hb (Nat.le_refl _)).2.2 with h | ⟨p1, o1, rfl, g1⟩
        · omega
        rcases (H2.out.below hb (Nat.le_refl _)).2.2 with h | ⟨p2, o2, rfl, g2⟩
        · omega
        obtain ⟨x, hx⟩ : ∃ x, fs.getD (k * 3) 0 = x := ⟨_, rfl⟩
        obtain ⟨y, hy⟩ : ∃ y, fs.getD (k * 3 + 1) 0 = y := ⟨_, rfl⟩
        obtain ⟨z, hz⟩ : ∃ z, fs.getD (k * 3 + 2) 0 = z := ⟨_, rfl⟩
        obtain ⟨x', hx'⟩ : ∃ x, gs.getD (k * 3) 0 = x := ⟨_, rfl⟩
        obtain ⟨y', hy'⟩ : ∃ y, gs.getD (k * 3 + 1) 0 = y := ⟨_, rfl⟩
        obtain ⟨z', hz'⟩ : ∃ z, gs.getD (k * 3 + 2) 0 = z := ⟨_, rfl⟩
        have e1 := g1 (k * 3) (by omega)
        have e2 := g1 (k * 3 + 1) (by omega)
        have e3 := g1 (k * 3 + 2) (by omega)
        have e4 := g2 (k * 3) (by omega)
        have e5 := g2 (k * 3 + 1) (by omega)
        have e6 := g2 (k * 3 + 2) (by omega)
        rw [hx] at e1
        rw [hy, ← Nat.add_assoc] at e2
        rw [hz, ← Nat.add_assoc] at e3
        rw [hx'] at e4
        rw [hy', ← Nat.add_assoc] at e5
        rw [hz', ← Nat.add_assoc] at e6
        have HX : Hid (fs.getD (k * 3) 0 = x ∧ fs.getD (k * 3 + 1) 0 = y ∧ fs.getD (k * 3 + 2) 0 = z ∧ gs.getD (k * 3) 0 = x' ∧ gs.getD (k * 3 + 1) 0 = y' ∧ gs.getD (k * 3 + 2) 0 = z') := ⟨hx, hy, hz, hx', hy', hz'⟩
        clear g1 g2 hx hy hz hx' hy' hz'
        have q1 : p1 < wr.heap.size := World.block_lt_of_cell? wr _ e1
        have q2 : p2 < wr.heap.size := World.block_lt_of_cell? wr _ e4
        obtain ⟨D, hD⟩ : ∃ D, decide (x = x' ∧ y = y' ∧ z = z') = D := ⟨_, rfl⟩
        have HD : Hid (decide (x = x' ∧ y = y' ∧ z = z') = D) := hD
        clear hD
        go_wp2_with fail
        go_region_held3 (fun w' => w'.cell? ⟨p1, o1 + k * 3, none⟩ = some (I x) ∧ w'.cell? ⟨p1, o1 + k * 3 + 1, none⟩ = some (I y) ∧ w'.cell? ⟨p1, o1 + k * 3 + 2, none⟩ = some (I z) ∧ w'.cell? ⟨p2, o2 + k * 3, none⟩ = some (I x') ∧ w'.cell? ⟨p2, o2 + k * 3 + 1, none⟩ = some (I y') ∧ w'.cell? ⟨p2, o2 + k * 3 + 2, none⟩ = some (I z'))
          (first | (with_reducible exact K2.out) | go_keep)
          (first
          | (go_at_call 90
             refine (eqWord_any x y z x' y' z' _).mono ?_
             rintro e w2 ⟨rfl, hb2⟩
             rw [HD.out]
             have hb2' : Below wr.heap.size wr w2 := (Below.refl _ wr).drew.trans hb2
             have K2 : Hid (w2.cell? ⟨p1, o1 + k * 3, none⟩ = some (I x) ∧ w2.cell? ⟨p1, o1 + k * 3 + 1, none⟩ = some (I y) ∧ w2.cell? ⟨p1, o1 + k * 3 + 2, none⟩ = some (I z) ∧ w2.cell? ⟨p2, o2 + k * 3, none⟩ = some (I x') ∧ w2.cell? ⟨p2, o2 + k * 3 + 1, none⟩ = some (I y') ∧ w2.cell? ⟨p2, o2 + k * 3 + 2, none⟩ = some (I z')) := ⟨(hb2'.cell (show p1 < _ from q1)).trans e1, (hb2'.cell (show p1 < _ from q1)).trans e2, (hb2'.cell (show p1 < _ from q1)).trans e3, (hb2'.cell (show p2 < _ from q2)).trans e4, (hb2'.cell (show p2 < _ from q2)).trans e5, (hb2'.cell (show p2 < _ from q2)).trans e6⟩
             have hb02 : Below w.heap.size w w2 := hb.trans (hb2'.mono hb.size)
             clear hb2 hb2'))
        clear e1 e2 e3 e4 e5 e6 K2
        by_cases hh : x = x' ∧ y = y' ∧ z = z'
        · obtain rfl : D = true := by rw [← HD.out]; exact decide_eq_true hh
          have HH : Hid (x = x' ∧ y = y' ∧ z = z') := hh
          clear hh HD
          go_wp2
          have l1 := L1.out
          have l2 := L2.out
          obtain ⟨q1, q2, q3, q4, q5, q6⟩ := HX.out
          exact ⟨⟨k + 1, by omega, by go_num, take_three (by omega) (by omega) HT.out (by rw [q1, q4]; exact HH.out.1) (by rw [q2, q5]; exact HH.out.2.1) (by rw [q3, q6]; exact HH.out.2.2), hb02⟩, by simp [intOf]; omega⟩
        · obtain rfl : D = false := by rw [← HD.out]; exact decide_eq_false hh
          have HH : Hid (fs ≠ gs) := fun e => by
            obtain ⟨q1, q2, q3, q4, q5, q6⟩ := HX.out
            exact hh ⟨by rw [← q1, ← q4, e], by rw [← q2, ← q5, e], by rw [← q3, ← q6, e]⟩
          clear hh
          go_wp2
          go_ret
          refine ⟨?_, hb02⟩
          rw [← HB.out]
          simp [HH.out]
      · obtain rfl : k = n1 := by omega
        go_wp2
        go_ret
        refine ⟨?_, hb⟩
        have l1 := L1.out
        have l2 := L2.out
        have e : fs = gs := by
          have e0 := HT.out
          rwa [List.take_of_length_le (by omega), List.take_of_length_le (by omega)] at e0
        rw [← HB.out]
        simp [e]
  · have hne : ((n1 : Int) != (n2 : Int)) = true := by simp; omega
    have hxy : fs ≠ gs := fun e => by have l1 := L1.out; have l2 := L2.out; rw [e] at l1; omega
    have HX : Hid (fs ≠ gs) := hxy
    clear hxy
    go_enter Tryz.func56, Tryz.ntmps56
    go_wp2
    go_ret
    refine ⟨?_, Below.refl _ _⟩
    rw [← HB.out]
    simp [HX.out]
theorem szWordS_fits (a : Option Addr) (n c : Nat) (left : Int) (w : World) (h0 : 0 ≤ left) (h1 : left ≤ 1048576) (hn : (n : Int) ≤ left) :
    Calls Tryz.prog 33 #[.slice a n c, .int .i64 left] w fun e w' => e = .returned (.int .i64 (left - (n : Int))) ∧ w' = w := by
  have h2 : ¬ (left - (n : Int) < 0) := by omega
  go_enter Tryz.func33, Tryz.ntmps33
  go_wp2
  go_ret
  exact ⟨rfl, rfl⟩
theorem szWordS_big (a : Option Addr) (n c : Nat) (left : Int) (w : World) (h0 : 0 ≤ left) (h1 : left ≤ 1048576) (hn : ¬ (n : Int) ≤ left) (hm : n ≤ 9223372036854775807) :
    Calls Tryz.prog 33 #[.slice a n c, .int .i64 left] w fun e w' => e = .returned (.int .i64 (-1)) ∧ w' = w := by
  have h2 : left - (n : Int) < 0 := by omega
  go_enter Tryz.func33, Tryz.ntmps33
  go_wp2
  go_ret
  exact ⟨rfl, rfl⟩
end Go.Proofs.YtkbodiggdajbeaaGreatDoor

/- An entry: as a value; the law's own function on one. -/
namespace Go.Proofs.YtkbodiggdajbeaaGreatDoor
open Go.ChangeShapes Go.WideShapes Go.ChangeAt Go.RowKit

abbrev EntryV (x y z : Int) : Value := .agg #[.int .i64 x, .int .i64 y, .int .i64 z]
set_option maxHeartbeats 1000000 in
theorem toEntry_any (x y z : Int) (w : World) : Calls Tryz.prog 112 #[EntryV x y z] w fun e w' => e = .returned (EntryV x y z) ∧ Below w.heap.size w w' := by
  go_enter Tryz.func112, Tryz.ntmps112
  go_wp2
  (try simp only [Exit.inBlock, Exit.then])
  refine bodyPost_ret (by simp [results, Tryz.results112, go_sem]; try rfl) rfl ?_
  exact ⟨rfl, (((Below.refl _ _).alloc (Nat.le_refl _) _).alloc (by simp) _).alloc (by simp; omega) _⟩

end Go.Proofs.YtkbodiggdajbeaaGreatDoor

/- Lists of entries: the law's own functions on them. -/
namespace Go.Proofs.YtkbodiggdajbeaaGreatDoor
open Go.ChangeShapes Go.WideShapes Go.ChangeAt Go.RowKit

theorem infoEntry : (Tryz.prog.info? 139).map (fun i => (i.zero, i.size, i.bytes)) = some (some (.agg #[.int .i64 0, .int .i64 0, .int .i64 0]), 3, 24) := by kernel_rfl
set_option maxHeartbeats 1000000 in
theorem toEntryS_any (a : Option Addr) (n c : Nat) (fs : List Int) (w : World) (h : TripAt w a n fs) :
    Calls Tryz.prog 100 #[.slice a n c] w fun e w' => e = .returned (.slice (some ⟨w.heap.size, 0, none⟩) n n) ∧ w'.ownsRow w.heap.size 139 3 (.slice (some ⟨w.heap.size, 0, none⟩) n n) n (fs.map I) ∧ Below w.heap.size w w' := by
  have HH : Hid (TripAt w a n fs) := h
  have L1 : Hid (fs.length = n * 3) := h.1
  have hn : n ≤ 1048576 := h.2.1
  clear h
  obtain ⟨i0, hi, hz0, hz1, hz2⟩ := info_parts infoEntry
  go_enter Tryz.func100, Tryz.ntmps100
  go_wp2_with (at_make; refine wpList_make_full _ rfl _ _ 135 rfl w.heap.size 139 i0 (.agg #[.int .i64 0, .int .i64 0, .int .i64 0]) 3 Tryz.underlying135 hi hz0 hz1 .i64 .i64 _ _ n rfl rfl rfl rfl (by rw [hz2]; omega) (by unfold maxLen; omega) (Nat.le_refl _) ?_; intro w1 own1 grow1)
  have own0 : w1.ownsRow w.heap.size 139 3 (.slice (some ⟨w.heap.size, 0, none⟩) n n) n ((uptoT fs 0 (n * 3)).map I) := by
    rw [made_trips] at own1
    simpa [uptoT] using own1
  have hb1 : Below w.heap.size w w1 := (Below.refl _ _).grown grow1 (Nat.le_refl _) (fun k e => by cases e)
  clear own1 grow1
  go_loopw [4] (fun i wr => ∃ k : Nat, k ≤ n ∧ i = .int .i64 (k : Int) ∧ wr.ownsRow w.heap.size 139 3 (.slice (some ⟨w.heap.size, 0, none⟩) n n) n ((uptoT fs (k * 3) (n * 3)).map I) ∧ Below w.heap.size w wr) (fun i _ => n - (intOf i).toNat)
  case atStart => exact ⟨0, Nat.zero_le _, rfl, own0, hb1⟩
  case round =>
    obtain ⟨k, hk, rfl, ho, hb⟩ := hrel
    clear own0 hb1
    by_cases hlt : k < n
    · rcases (HH.out.below hb (Nat.le_refl _)).2.2 with h0 | ⟨p1, o1, rfl, g1⟩
      · omega
      have hk0 : (0 : Int) ≤ (k : Int) := by omega
      have hk1 : (k : Int) < (n : Int) := by omega
      have e1 := g1 (k * 3) (by omega)
      have e2 := g1 (k * 3 + 1) (by omega)
      have e3 := g1 (k * 3 + 2) (by omega)
      obtain ⟨x, hx⟩ : ∃ x, fs.getD (k * 3) 0 = x := ⟨_, rfl⟩
      obtain ⟨y, hy⟩ : ∃ y, fs.getD (k * 3 + 1) 0 = y := ⟨_, rfl⟩
      obtain ⟨z, hz⟩ : ∃ z, fs.getD (k * 3 + 2) 0 = z := ⟨_, rfl⟩
      rw [hx] at e1
      rw [hy, ← Nat.add_assoc] at e2
      rw [hz, ← Nat.add_assoc] at e3
      have HO : Hid (wr.ownsRow w.heap.size 139 3 (.slice (some ⟨w.heap.size, 0, none⟩) n n) n ((uptoT fs (k * 3) (n * 3)).map I)) := ho
      have HX : Hid (fs.getD (k * 3) 0 = x ∧ fs.getD (k * 3 + 1) 0 = y ∧ fs.getD (k * 3 + 2) 0 = z) := ⟨hx, hy, hz⟩
      clear g1 hx hy hz ho
      go_wp2_with fail
      refine (toEntry_any x y z _).mono ?_
      rintro e w2 ⟨rfl, hb2⟩
      have ho2 := owns_below HO.out hb2 (Nat.le_refl _)
      have hb02 : Below w.heap.size w w2 := hb.trans (hb2.mono hb.size)
      have hs1 := ho2.stored (k * 3) (I x)
      rw [← HX.out.1, uptoT_step L1.out (show k * 3 < n * 3 by omega), HX.out.1] at hs1
      have hs2 := hs1.1.stored (k * 3 + 1) (I y)
      rw [← HX.out.2.1, uptoT_step L1.out (show k * 3 + 1 < n * 3 by omega), HX.out.2.1] at hs2
      have hs3 := hs2.1.stored (k * 3 + 2) (I z)
      rw [← HX.out.2.2, uptoT_step L1.out (show k * 3 + 1 + 1 < n * 3 by omega), HX.out.2.2] at hs3
      have HS : Hid ((((w2.setCell ⟨w.heap.size, k * 3, none⟩ (I x)).setCell ⟨w.heap.size, k * 3 + 1, none⟩ (I y)).setCell ⟨w.heap.size, k * 3 + 2, none⟩ (I z)).ownsRow w.heap.size 139 3 (.slice (some ⟨w.heap.size, 0, none⟩) n n) n ((uptoT fs ((k + 1) * 3) (n * 3)).map I)) := by
        rw [show (k + 1) * 3 = k * 3 + 1 + 1 + 1 by omega]
        exact hs3.1
      have z0 := ho2.frozenAt (k * 3)
      have z1 := ho2.frozenAt (k * 3 + 1)
      have z2 := ho2.frozenAt (k * 3 + 2)
      have hc0 := ho2.cellAt (k * 3) (by omega)
      have hc1 := ho2.cellAt (k * 3 + 1) (by omega)
      have hc2 := ho2.cellAt (k * 3 + 2) (by omega)
      rw [List.getElem?_eq_getElem (by rw [ho2.1]; omega)] at hc0 hc1 hc2
      obtain ⟨u0, hu0⟩ : ∃ u, w2.cell? ⟨w.heap.size, k * 3, none⟩ = some u := ⟨_, hc0⟩
      obtain ⟨u1, hu1⟩ : ∃ u, w2.cell? ⟨w.heap.size, k * 3 + 1, none⟩ = some u := ⟨_, hc1⟩
      obtain ⟨u2, hu2⟩ : ∃ u, w2.cell? ⟨w.heap.size, k * 3 + 2, none⟩ = some u := ⟨_, hc2⟩
      clear hs1 hs2 hs3 ho2 hb2 hc0 hc1 hc2 e1 e2 e3
      go_wp2
      go_roundw
      case rel => exact ⟨k + 1, by omega, by go_num, HS.out, ((hb02.setCell (Nat.le_refl _) _).setCell (Nat.le_refl _) _).setCell (Nat.le_refl _) _⟩
      case measure => simp [intOf]; omega
    · obtain rfl : k = n := by omega
      rw [uptoT_end L1.out] at ho
      go_wp2
      go_ret
      exact ⟨rfl, ho, hb⟩

set_option maxHeartbeats 1000000 in
theorem eqEntry_any (x y z x' y' z' : Int) (w : World) : Calls Tryz.prog 117 #[EntryV x y z, EntryV x' y' z'] w fun e w' => e = .returned (.bool (decide (x = x' ∧ y = y' ∧ z = z'))) ∧ Below w.heap.size w w' := by
  obtain ⟨B, hB⟩ : ∃ B, decide (x = x' ∧ y = y' ∧ z = z') = B := ⟨_, rfl⟩
  rw [hB]
  have HB : Hid (decide (x = x' ∧ y = y' ∧ z = z') = B) := hB
  clear hB
  have neb2 : ∀ a b : Int, (a = b ∧ (a != b) = false) ∨ (¬ a = b ∧ (a != b) = true) := fun a b => by
    by_cases h : a = b
    · exact .inl ⟨h, by simp [h]⟩
    · exact .inr ⟨h, by simp [h]⟩
  rcases neb2 x x' with ⟨h1, g1⟩ | ⟨h1, g1⟩ <;> rcases neb2 y y' with ⟨h2, g2⟩ | ⟨h2, g2⟩ <;> rcases neb2 z z' with ⟨h3, g3⟩ | ⟨h3, g3⟩
  all_goals
    have H1 : Hid _ := h1
    have H2 : Hid _ := h2
    have H3 : Hid _ := h3
    clear h1 h2 h3 neb2
    go_enter Tryz.func117, Tryz.ntmps117
    go_wp2
    iterate 3
      all_goals (try go_region)
      all_goals (try go_wp2)
    all_goals
      go_ret
      refine ⟨?_, (by
        have h0 := ((Below.refl w.heap.size w).alloc (Nat.le_refl _) (.cells #[.int .i64 x, .int .i64 y, .int .i64 z] 139)).alloc (by simp) (.cells #[.int .i64 x', .int .i64 y', .int .i64 z'] 139)
        first | exact h0 | exact h0.drew | exact h0.drew.drew | exact h0.drew.drew.drew)⟩
      rw [← HB.out]
      have h1 := H1.out
      have h2 := H2.out
      have h3 := H3.out
      first
        | (rw [decide_eq_true (show x = x' ∧ y = y' ∧ z = z' from ⟨h1, h2, h3⟩)]; rfl)
        | (rw [decide_eq_false (fun h : x = x' ∧ y = y' ∧ z = z' => h3 h.2.2)]; rfl)
        | (rw [decide_eq_false (fun h : x = x' ∧ y = y' ∧ z = z' => h2 h.2.1)]; rfl)
        | (rw [decide_eq_false (fun h : x = x' ∧ y = y' ∧ z = z' => h1 h.1)]; rfl)

set_option maxHeartbeats 1000000 in
theorem eqEntryS_any (a1 a2 : Option Addr) (n1 n2 c1 c2 : Nat) (fs gs : List Int) (w : World) (h1 : TripAt w a1 n1 fs) (h2 : TripAt w a2 n2 gs) :
    Calls Tryz.prog 109 #[.slice a1 n1 c1, .slice a2 n2 c2] w fun e w' => e = .returned (.bool (decide (fs = gs))) ∧ Below w.heap.size w w' := by
  have H1 : Hid (TripAt w a1 n1 fs) := h1
  have H2 : Hid (TripAt w a2 n2 gs) := h2
  have L1 : Hid (fs.length = n1 * 3) := h1.1
  have L2 : Hid (gs.length = n2 * 3) := h2.1
  have b1 := h1.2.1
  have b2 := h2.2.1
  obtain ⟨B, hB⟩ : ∃ B, decide (fs = gs) = B := ⟨_, rfl⟩
  rw [hB]
  have HB : Hid (decide (fs = gs) = B) := hB
  clear h1 h2 hB
  by_cases hn : n1 = n2
  · subst hn
    go_enter Tryz.func109, Tryz.ntmps109
    go_wp2
    go_loopw [5] (fun i wr => ∃ k : Nat, k ≤ n1 ∧ i = .int .i64 k ∧ fs.take (k * 3) = gs.take (k * 3) ∧ Below w.heap.size w wr) (fun i _ => n1 - (intOf i).toNat)
    case atStart => exact ⟨0, Nat.zero_le _, rfl, rfl, Below.refl _ _⟩
    case round =>
      obtain ⟨k, hk1, rfl, ht, hb⟩ := hrel
      have HT : Hid (fs.take (k * 3) = gs.take (k * 3)) := ht
      clear ht
      by_cases hlt1 : k < n1
      · have hk0 : (0 : Int) ≤ (k : Int) := by omega
        have hk1' : (k : Int) < (n1 : Int) := by omega
        rcases (H1.out.below hb (Nat.le_refl _)).2.2 with h | ⟨p1, o1, rfl, g1⟩
        · omega
        rcases (H2.out.below hb (Nat.le_refl _)).2.2 with h | ⟨p2, o2, rfl, g2⟩
        · omega
        obtain ⟨x, hx⟩ : ∃ x, fs.getD (k * 3) 0 = x := ⟨_, rfl⟩
        obtain ⟨y, hy⟩ : ∃ y, fs.getD (k * 3 + 1) 0 = y := ⟨_, rfl⟩
        obtain ⟨z, hz⟩ : ∃ z, fs.getD (k * 3 + 2) 0 = z := ⟨_, rfl⟩
        obtain ⟨x', hx'⟩ : ∃ x, gs.getD (k * 3) 0 = x := ⟨_, rfl⟩
        obtain ⟨y', hy'⟩ : ∃ y, gs.getD (k * 3 + 1) 0 = y := ⟨_, rfl⟩
        obtain ⟨z', hz'⟩ : ∃ z, gs.getD (k * 3 + 2) 0 = z := ⟨_, rfl⟩
        have e1 := g1 (k * 3) (by omega)
        have e2 := g1 (k * 3 + 1) (by omega)
        have e3 := g1 (k * 3 + 2) (by omega)
        have e4 := g2 (k * 3) (by omega)
        have e5 := g2 (k * 3 + 1) (by omega)
        have e6 := g2 (k * 3 + 2) (by omega)
        rw [hx] at e1
        rw [hy, ← Nat.add_assoc] at e2
        rw [hz, ← Nat.add_assoc] at e3
        rw [hx'] at e4
        rw [hy', ← Nat.add_assoc] at e5
        rw [hz', ← Nat.add_assoc] at e6
        have HX : Hid (fs.getD (k * 3) 0 = x ∧ fs.getD (k * 3 + 1) 0 = y ∧ fs.getD (k * 3 + 2) 0 = z ∧ gs.getD (k * 3) 0 = x' ∧ gs.getD (k * 3 + 1) 0 = y' ∧ gs.getD (k * 3 + 2) 0 = z') := ⟨hx, hy, hz, hx', hy', hz'⟩
        clear g1 g2 hx hy hz hx' hy' hz'
        have q1 : p1 < wr.heap.size := World.block_lt_of_cell? wr _ e1
        have q2 : p2 < wr.heap.size := World.block_lt_of_cell? wr _ e4
        obtain ⟨D, hD⟩ : ∃ D, decide (x = x' ∧ y = y' ∧ z = z') = D := ⟨_, rfl⟩
        have HD : Hid (decide (x = x' ∧ y = y' ∧ z = z') = D) := hD
        clear hD
        go_wp2_with fail
        go_region_held3 (fun w' => w'.cell? ⟨p1, o1 + k * 3, none⟩ = some (I x) ∧ w'.cell? ⟨p1, o1 + k * 3 + 1, none⟩ = some (I y) ∧ w'.cell? ⟨p1, o1 + k * 3 + 2, none⟩ = some (I z) ∧ w'.cell? ⟨p2, o2 + k * 3, none⟩ = some (I x') ∧ w'.cell? ⟨p2, o2 + k * 3 + 1, none⟩ = some (I y') ∧ w'.cell? ⟨p2, o2 + k * 3 + 2, none⟩ = some (I z'))
          (first | (with_reducible exact K2.out) | go_keep)
          (first
          | (go_at_call 117
             refine (eqEntry_any x y z x' y' z' _).mono ?_
             rintro e w2 ⟨rfl, hb2⟩
             rw [HD.out]
             have hb2' : Below wr.heap.size wr w2 := (Below.refl _ wr).drew.trans hb2
             have K2 : Hid (w2.cell? ⟨p1, o1 + k * 3, none⟩ = some (I x) ∧ w2.cell? ⟨p1, o1 + k * 3 + 1, none⟩ = some (I y) ∧ w2.cell? ⟨p1, o1 + k * 3 + 2, none⟩ = some (I z) ∧ w2.cell? ⟨p2, o2 + k * 3, none⟩ = some (I x') ∧ w2.cell? ⟨p2, o2 + k * 3 + 1, none⟩ = some (I y') ∧ w2.cell? ⟨p2, o2 + k * 3 + 2, none⟩ = some (I z')) := ⟨(hb2'.cell (show p1 < _ from q1)).trans e1, (hb2'.cell (show p1 < _ from q1)).trans e2, (hb2'.cell (show p1 < _ from q1)).trans e3, (hb2'.cell (show p2 < _ from q2)).trans e4, (hb2'.cell (show p2 < _ from q2)).trans e5, (hb2'.cell (show p2 < _ from q2)).trans e6⟩
             have hb02 : Below w.heap.size w w2 := hb.trans (hb2'.mono hb.size)
             clear hb2 hb2'))
        clear e1 e2 e3 e4 e5 e6 K2
        by_cases hh : x = x' ∧ y = y' ∧ z = z'
        · obtain rfl : D = true := by rw [← HD.out]; exact decide_eq_true hh
          have HH : Hid (x = x' ∧ y = y' ∧ z = z') := hh
          clear hh HD
          go_wp2
          have l1 := L1.out
          have l2 := L2.out
          obtain ⟨q1, q2, q3, q4, q5, q6⟩ := HX.out
          exact ⟨⟨k + 1, by omega, by go_num, take_three (by omega) (by omega) HT.out (by rw [q1, q4]; exact HH.out.1) (by rw [q2, q5]; exact HH.out.2.1) (by rw [q3, q6]; exact HH.out.2.2), hb02⟩, by simp [intOf]; omega⟩
        · obtain rfl : D = false := by rw [← HD.out]; exact decide_eq_false hh
          have HH : Hid (fs ≠ gs) := fun e => by
            obtain ⟨q1, q2, q3, q4, q5, q6⟩ := HX.out
            exact hh ⟨by rw [← q1, ← q4, e], by rw [← q2, ← q5, e], by rw [← q3, ← q6, e]⟩
          clear hh
          go_wp2
          go_ret
          refine ⟨?_, hb02⟩
          rw [← HB.out]
          simp [HH.out]
      · obtain rfl : k = n1 := by omega
        go_wp2
        go_ret
        refine ⟨?_, hb⟩
        have l1 := L1.out
        have l2 := L2.out
        have e : fs = gs := by
          have e0 := HT.out
          rwa [List.take_of_length_le (by omega), List.take_of_length_le (by omega)] at e0
        rw [← HB.out]
        simp [e]
  · have hne : ((n1 : Int) != (n2 : Int)) = true := by simp; omega
    have hxy : fs ≠ gs := fun e => by have l1 := L1.out; have l2 := L2.out; rw [e] at l1; omega
    have HX : Hid (fs ≠ gs) := hxy
    clear hxy
    go_enter Tryz.func109, Tryz.ntmps109
    go_wp2
    go_ret
    refine ⟨?_, Below.refl _ _⟩
    rw [← HB.out]
    simp [HX.out]
theorem szEntryS_fits (a : Option Addr) (n c : Nat) (left : Int) (w : World) (h0 : 0 ≤ left) (h1 : left ≤ 1048576) (hn : (n : Int) ≤ left) :
    Calls Tryz.prog 97 #[.slice a n c, .int .i64 left] w fun e w' => e = .returned (.int .i64 (left - (n : Int))) ∧ w' = w := by
  have h2 : ¬ (left - (n : Int) < 0) := by omega
  go_enter Tryz.func97, Tryz.ntmps97
  go_wp2
  go_ret
  exact ⟨rfl, rfl⟩
theorem szEntryS_big (a : Option Addr) (n c : Nat) (left : Int) (w : World) (h0 : 0 ≤ left) (h1 : left ≤ 1048576) (hn : ¬ (n : Int) ≤ left) (hm : n ≤ 9223372036854775807) :
    Calls Tryz.prog 97 #[.slice a n c, .int .i64 left] w fun e w' => e = .returned (.int .i64 (-1)) ∧ w' = w := by
  have h2 : left - (n : Int) < 0 := by omega
  go_enter Tryz.func97, Tryz.ntmps97
  go_wp2
  go_ret
  exact ⟨rfl, rfl⟩
end Go.Proofs.YtkbodiggdajbeaaGreatDoor

/- The laws' own helpers toIntS and eqIntS, walked: a new list of the same numbers; whether two lists of numbers are alike. -/
namespace Go.Proofs.YtkbodiggdajbeaaGreatDoor
open Go.ChangeShapes Go.WideShapes Go.ChangeAt Go.RowKit

set_option maxHeartbeats 400000 in
theorem eqIntS_any (a1 a2 : Option Addr) (n1 n2 c1 c2 : Nat) (xs ys : List Int) (w : World) (h1 : IntAt w a1 n1 xs) (h2 : IntAt w a2 n2 ys) :
    Calls Tryz.prog 31 #[.slice a1 n1 c1, .slice a2 n2 c2] w fun e w' => e = .returned (.bool (decide (xs = ys))) ∧ ∃ m, w' = w.drewN m := by
  obtain ⟨l1, b1, h1⟩ := h1
  obtain ⟨l2, b2, h2⟩ := h2
  have H1 : Hid (n1 = 0 ∨ ∃ b o, a1 = some ⟨b, o, none⟩ ∧ ∀ i, i < n1 → w.cell? ⟨b, o + i, none⟩ = some (I (xs.getD i 0))) := h1
  have H2 : Hid (n2 = 0 ∨ ∃ b o, a2 = some ⟨b, o, none⟩ ∧ ∀ i, i < n2 → w.cell? ⟨b, o + i, none⟩ = some (I (ys.getD i 0))) := h2
  have L1 : Hid (xs.length = n1) := l1
  have L2 : Hid (ys.length = n2) := l2
  clear h1 h2 l1 l2
  by_cases hn : n1 = n2
  · subst hn
    go_enter Tryz.func31, Tryz.ntmps31
    go_wp2
    go_loopw [5] (fun i wr => ∃ k m : Nat, k ≤ n1 ∧ i = .int .i64 k ∧ xs.take k = ys.take k ∧ wr = w.drewN m) (fun i _ => n1 - (intOf i).toNat)
    case atStart => exact ⟨0, 0, Nat.zero_le _, rfl, rfl, rfl⟩
    case round =>
      obtain ⟨k, m, hk, rfl, ht, rfl⟩ := hrel
      have HT : Hid (xs.take k = ys.take k) := ht
      clear ht
      by_cases hlt : k < n1
      · rcases H1.out with h | ⟨p1, o1, rfl, g1⟩
        · omega
        rcases H2.out with h | ⟨p2, o2, rfl, g2⟩
        · omega
        obtain ⟨x, hx⟩ : ∃ x, xs.getD k 0 = x := ⟨_, rfl⟩
        obtain ⟨y, hy⟩ : ∃ y, ys.getD k 0 = y := ⟨_, rfl⟩
        have e1 := g1 k hlt
        have e2 := g2 k hlt
        rw [hx] at e1
        rw [hy] at e2
        have HX : Hid (xs.getD k 0 = x) := hx
        have HY : Hid (ys.getD k 0 = y) := hy
        clear g1 g2 hx hy
        go_wp2
        go_region
        go_wp2
        · have hd : (x != y) = true := by assumption
          go_ret
          refine ⟨?_, m + 1, rfl⟩
          have e : xs ≠ ys := fun e => by rw [← HX.out, ← HY.out, e] at hd; simp at hd
          simp [e]
        · have hd : (x != y) = false := by assumption
          have l1 := L1.out
          have l2 := L2.out
          exact ⟨⟨k + 1, m + 1, by omega, by go_num, take_nextI (by omega) (by omega) HT.out (by rw [HX.out, HY.out]; simpa using hd), rfl⟩, by simp [intOf]; omega⟩
      · go_wp2
        go_ret
        refine ⟨?_, m, rfl⟩
        have e : xs = ys := by
          have := HT.out
          rwa [List.take_of_length_le (by have := L1.out; omega), List.take_of_length_le (by have := L2.out; omega)] at this
        simp [e]
  · have hz : ((n1 : Int) != (n2 : Int)) = true := by simp; omega
    go_enter Tryz.func31, Tryz.ntmps31
    go_wp2
    go_ret
    refine ⟨?_, 0, rfl⟩
    have e : xs ≠ ys := fun e => hn (by rw [← L1.out, ← L2.out, e])
    simp [e]

/-- What has been written of a list so far: the first k of xs, noughts behind them. -/
def upto (xs : List Int) (k n : Nat) : List Int := xs.take k ++ List.replicate (n - k) 0
theorem upto_step {xs : List Int} {k n : Nat} (hx : xs.length = n) (h : k < n) : (((upto xs k n).map I).set k (I (xs.getD k 0))) = (upto xs (k + 1) n).map I := by
  rw [← List.map_set]
  congr 1
  unfold upto
  have hl : (xs.take k).length = k := by rw [List.length_take]; omega
  rw [List.set_append_right _ _ (by omega), hl, Nat.sub_self, show n - k = (n - (k + 1)) + 1 by omega, List.replicate_succ, List.set_cons_zero,
    List.take_succ_eq_append_getElem (show k < xs.length by omega), List.append_assoc]
  simp [List.getD, show k < xs.length by omega]
theorem upto_end {xs : List Int} {n : Nat} (hx : xs.length = n) : upto xs n n = xs := by
  unfold upto
  rw [List.take_of_length_le (by omega)]; simp

set_option maxHeartbeats 400000 in
theorem toIntS_any (a : Option Addr) (n c : Nat) (xs : List Int) (w : World) (h : IntAt w a n xs) :
    Calls Tryz.prog 21 #[.slice a n c] w fun e w' => e = .returned (.slice (some ⟨w.heap.size, 0, none⟩) n n) ∧ w'.ownsRow w.heap.size 3 1 (.slice (some ⟨w.heap.size, 0, none⟩) n n) n (xs.map I) ∧ Below w.heap.size w w' := by
  have HA := h
  have HH : Hid (IntAt w a n xs) := HA
  obtain ⟨l1, b1, _⟩ := h
  have L1 : Hid (xs.length = n) := l1
  clear l1 HA
  obtain ⟨i0, hi, hz0, hz1, hz2⟩ := info_parts infoInt
  go_enter Tryz.func21, Tryz.ntmps21
  go_wp2_with (at_make; refine wpList_make_full _ rfl _ _ 28 rfl w.heap.size 3 i0 (.int .i64 0) 1 Tryz.underlying28 hi hz0 hz1 .i64 .i64 _ _ n rfl rfl rfl rfl (by rw [hz2]; omega) (by unfold maxLen; omega) (Nat.le_refl _) ?_; intro w1 own1 grow1)
  have own0 : w1.ownsRow w.heap.size 3 1 (.slice (some ⟨w.heap.size, 0, none⟩) n n) n ((upto xs 0 n).map I) := by
    have e : (madeCells (Value.int .i64 0).cells (n * 1)).toList = (upto xs 0 n).map I := by
      rw [Nat.mul_one]
      exact (toList_madeCells_one _ _).trans (by simp [upto])
    rwa [e] at own1
  have hb1 : Below w.heap.size w w1 := (Below.refl _ _).grown grow1 (Nat.le_refl _) (fun k e => by cases e)
  clear own1 grow1
  go_loopw [4] (fun i wr => ∃ k : Nat, k ≤ n ∧ i = .int .i64 (k : Int) ∧ wr.ownsRow w.heap.size 3 1 (.slice (some ⟨w.heap.size, 0, none⟩) n n) n ((upto xs k n).map I) ∧ Below w.heap.size w wr) (fun i _ => n - (intOf i).toNat)
  case atStart => exact ⟨0, Nat.zero_le _, rfl, own0, hb1⟩
  case round =>
    obtain ⟨k, hk, rfl, ho, hb⟩ := hrel
    clear own0 hb1
    by_cases hlt : k < n
    · rcases (HH.out.below hb (Nat.le_refl _)).2.2 with h0 | ⟨p1, o1, rfl, g1⟩
      · omega
      have e1 := g1 k hlt
      obtain ⟨x, hx⟩ : ∃ x, xs.getD k 0 = x := ⟨_, rfl⟩
      rw [hx] at e1
      have hst := ho.stored k (I x)
      rw [← hx, upto_step L1.out hlt, hx] at hst
      have HS : Hid ((wr.setCell ⟨w.heap.size, k, none⟩ (I x)).ownsRow w.heap.size 3 1 (.slice (some ⟨w.heap.size, 0, none⟩) n n) n ((upto xs (k + 1) n).map I)) := hst.1
      have hf := ho.frozenAt k
      obtain ⟨u, hc⟩ := own_cell ho hlt
      clear g1 hx hst ho
      go_wp2
      go_roundw
      case rel => exact ⟨k + 1, by omega, by go_num, HS.out, hb.setCell (Nat.le_refl _) _⟩
      case measure => simp [intOf]; omega
    · obtain rfl : k = n := by omega
      rw [upto_end L1.out] at ho
      go_wp2
      go_ret
      exact ⟨rfl, ho, hb⟩
end Go.Proofs.YtkbodiggdajbeaaGreatDoor

/- The laws' own helpers for results, walked: toRes (a new result that reads alike), szRes, szRows told exactly, eqRes; a result that came in, opened. -/
namespace Go.Proofs.YtkbodiggdajbeaaGreatDoor
open Go.ChangeShapes Go.WideShapes Go.ChangeAt Go.RowKit Go.Joins

set_option maxHeartbeats 1000000 in
theorem toRes_any (a : Option Addr) (n c : Nat) (st : Int) (xs : List Int) (w : World) (h : IntAt w a n xs) :
    Calls Tryz.prog 77 #[ResV st a n c] w fun e w' => e = .returned (ResV st (some ⟨w.heap.size + 3, 0, none⟩) n n) ∧ w'.ownsRow (w.heap.size + 3) 3 1 (.slice (some ⟨w.heap.size + 3, 0, none⟩) n n) n (xs.map I) ∧ Below w.heap.size w w' := by
  have HA : Hid (IntAt w a n xs) := h
  clear h
  go_enter Tryz.func77, Tryz.ntmps77
  go_wp2_with fail
  have hb0 : Below w.heap.size w (((w.alloc (.cells #[.int .i64 st, .slice a n c] 85)).alloc (.cells #[.int .i64 0, .slice none 0 0] 59)).alloc (.cells #[.int .i64 st, .slice none 0 0] 59)) :=
    (((Below.refl _ w).alloc (Nat.le_refl _) _).alloc (by simp) _).alloc (by simp; omega) _
  refine (toIntS_any a n c xs _ (HA.out.below hb0 (Nat.le_refl _))).mono ?_
  rintro e w1 ⟨rfl, own1, hb1⟩
  simp only [World.size_alloc] at own1 hb1
  have hs1 := hb1.size
  simp only [World.size_alloc] at hs1
  have c10 : w1.cell? ⟨w.heap.size + 1, 0, none⟩ = some (.int .i64 0) := by rw [hb1.cell (show w.heap.size + 1 < w.heap.size + 1 + 1 + 1 by omega)]; simp [World.cell?_alloc_past, World.cell?_alloc_at]
  have c11 : w1.cell? ⟨w.heap.size + 1, 1, none⟩ = some (.slice none 0 0) := by rw [hb1.cell (show w.heap.size + 1 < w.heap.size + 1 + 1 + 1 by omega)]; simp [World.cell?_alloc_past, World.cell?_alloc_at]
  have c20 : w1.cell? ⟨w.heap.size + 1 + 1, 0, none⟩ = some (.int .i64 st) := by rw [hb1.cell (show w.heap.size + 1 + 1 < w.heap.size + 1 + 1 + 1 by omega)]; simp [World.cell?_alloc_at]
  have c21 : w1.cell? ⟨w.heap.size + 1 + 1, 1, none⟩ = some (.slice none 0 0) := by rw [hb1.cell (show w.heap.size + 1 + 1 < w.heap.size + 1 + 1 + 1 by omega)]; simp [World.cell?_alloc_at]
  have f10 : w1.frozen? ⟨w.heap.size + 1, 0, none⟩ = false := by rw [hb1.frozen (show w.heap.size + 1 < w.heap.size + 1 + 1 + 1 by omega)]; simp [World.frozen?_alloc_past, World.frozen?_alloc_at]
  have f11 : w1.frozen? ⟨w.heap.size + 1, 1, none⟩ = false := by rw [hb1.frozen (show w.heap.size + 1 < w.heap.size + 1 + 1 + 1 by omega)]; simp [World.frozen?_alloc_past, World.frozen?_alloc_at]
  have f20 : w1.frozen? ⟨w.heap.size + 1 + 1, 0, none⟩ = false := by rw [hb1.frozen (show w.heap.size + 1 + 1 < w.heap.size + 1 + 1 + 1 by omega)]; simp [World.frozen?_alloc_at]
  have f21 : w1.frozen? ⟨w.heap.size + 1 + 1, 1, none⟩ = false := by rw [hb1.frozen (show w.heap.size + 1 + 1 < w.heap.size + 1 + 1 + 1 by omega)]; simp [World.frozen?_alloc_at]
  have hbw : Below w.heap.size w w1 := hb0.trans (hb1.mono (by omega))
  have HO : Hid (w1.ownsRow (w.heap.size + 1 + 1 + 1) 3 1 (.slice (some ⟨w.heap.size + 1 + 1 + 1, 0, none⟩) n n) n (xs.map I)) := own1
  clear hb0 hb1 own1
  go_wp2
  (try simp only [Exit.inBlock, Exit.then])
  refine bodyPost_ret (by simp [results, Tryz.results77, go_sem, c10, c11]; try rfl) rfl ?_
  exact ⟨rfl, ownsRow_setCell_below (ownsRow_setCell_below (ownsRow_setCell_below HO.out (by simp) _) (by simp) _) (by simp) _,
    ((hbw.setCell (by simp; omega) _).setCell (by simp) _).setCell (by simp) _⟩

theorem toRes_g (a : Option Addr) (n c : Nat) (st : Int) (xs : List Int) (w : World) (h : IntAt w a n xs) :
    Calls Tryz.prog 77 #[ResV st a n c] w fun e w' => ∃ g : Nat, e = .returned (ResV st (some ⟨g, 0, none⟩) n n) ∧ w.heap.size ≤ g ∧ w'.ownsRow g 3 1 (.slice (some ⟨g, 0, none⟩) n n) n (xs.map I) ∧ Below w.heap.size w w' :=
  (toRes_any a n c st xs w h).mono fun _ _ ⟨h1, h2, h3⟩ => ⟨_, h1, by omega, h2, h3⟩
theorem szRes_fits (a : Option Addr) (n c : Nat) (st left : Int) (w : World) (h0 : 0 ≤ left) (h1 : left ≤ 1048576) (hn : (n : Int) ≤ left) :
    Calls Tryz.prog 64 #[ResV st a n c, .int .i64 left] w fun e w' => e = .returned (.int .i64 (left - (n : Int))) ∧ Below w.heap.size w w' := by
  have h2 : ¬ (left - (n : Int) < 0) := by omega
  go_enter Tryz.func64, Tryz.ntmps64
  go_wp2
  go_ret
  exact ⟨rfl, (Below.refl _ _).alloc (Nat.le_refl _) _⟩
theorem szRes_big (a : Option Addr) (n c : Nat) (st left : Int) (w : World) (h0 : 0 ≤ left) (h1 : left ≤ 1048576) (hn : ¬ (n : Int) ≤ left) (hm : n ≤ 9223372036854775807) :
    Calls Tryz.prog 64 #[ResV st a n c, .int .i64 left] w fun e w' => e = .returned (.int .i64 (-1)) ∧ Below w.heap.size w w' := by
  have h2 : left - (n : Int) < 0 := by omega
  go_enter Tryz.func64, Tryz.ntmps64
  go_wp2
  go_ret
  exact ⟨rfl, (Below.refl _ _).alloc (Nat.le_refl _) _⟩

set_option maxHeartbeats 1000000 in
theorem eqRes_same (a1 a2 : Option Addr) (n1 n2 c1 c2 : Nat) (st : Int) (xs : List Int) (w : World) (h1 : IntAt w a1 n1 xs) (h2 : IntAt w a2 n2 xs) :
    Calls Tryz.prog 96 #[ResV st a1 n1 c1, ResV st a2 n2 c2] w fun e w' => e = .returned (.bool true) ∧ Below w.heap.size w w' := by
  have H1 : Hid (IntAt w a1 n1 xs) := h1
  have H2 : Hid (IntAt w a2 n2 xs) := h2
  clear h1 h2
  go_enter Tryz.func96, Tryz.ntmps96
  go_wp2_with fail
  have hb0 : Below w.heap.size w ((w.alloc (.cells #[.int .i64 st, .slice a1 n1 c1] 59)).alloc (.cells #[.int .i64 st, .slice a2 n2 c2] 59)) := ((Below.refl _ w).alloc (Nat.le_refl _) _).alloc (by simp) _
  refine (eqIntS_any a1 a2 n1 n2 c1 c2 xs xs _ (H1.out.below hb0 (Nat.le_refl _)) (H2.out.below hb0 (Nat.le_refl _))).mono ?_
  rintro e w1 ⟨rfl, m, rfl⟩
  have hb1 := below_drewN hb0 m
  clear hb0
  rw [show decide (xs = xs) = true from decide_eq_true rfl]
  go_wp2
  go_ret
  exact ⟨rfl, hb1⟩

theorem cellsRes : Tryz.prog.cellsOf 85 = 2 := by kernel_rfl
set_option maxRecDepth 100000 in
theorem open_res {H : Type} {enc : TypeId × Value → H} {W : World} {base b0 : Nat} {held : Bool} {v : Value} {d : DataW H} {p : List MemPlace}
    (hv : Value.okWide Tryz.prog W .any b0 85 v) (h : DataW.Trod enc Tryz.prog W base (fun _ => true) held 85 v d p) :
    ∃ (a : Option Addr) (n c : Nat) (st : Int) (xs : List Int), v = ResV st a n c ∧ n ≤ 9223372036854775807 ∧ (∀ x ∈ xs, (Lit.int .i64 x).wf = true) ∧ (n ≤ 1099511627776 → IntAt W a n xs) := by
  obtain ⟨v0, v1, y0, y1, m, rfl, rfl, rfl, h1, h0⟩ := open_agg2 Tryz.underlying85 (by kernel_rfl) cellsRes hv h
  obtain ⟨st, e1, rfl, w1⟩ := DataW.trod_int Tryz.underlying3 h1
  obtain rfl : v0 = .int .i64 st := by simpa using e1
  rcases open_ints Tryz.underlying28 Tryz.underlying3 (by kernel_rfl) h0 with ⟨hcs, _⟩ | ⟨x, l, cc, zs, hcs, _, hl, hm, hz, _, hcell, hwz⟩
  · obtain rfl : v1 = .slice none 0 0 := by simpa using hcs
    exact ⟨none, 0, 0, st, [], rfl, by omega, fun x hx => by simp at hx, fun _ => ⟨rfl, by omega, .inl rfl⟩⟩
  · obtain rfl : v1 = .slice (some x) l cc := by simpa using hcs
    refine ⟨some x, l, cc, st, zs.take l, rfl, by unfold maxLen at hm; omega, fun x hx => hwz x (List.mem_of_mem_take hx), fun hn => ⟨by simp at hz; rw [List.length_take]; omega, hn, ?_⟩⟩
    by_cases h0 : l = 0
    · exact .inl h0
    · simp at hz
      obtain ⟨b, o, rfl, hc⟩ := ints_at hcell (by omega)
      refine .inr ⟨b, o, rfl, fun i hi => ?_⟩
      rw [hc i (by omega)]
      simp [List.getD, hi]
end Go.Proofs.YtkbodiggdajbeaaGreatDoor

/- Descs: as values; the laws' own functions on one. -/
namespace Go.Proofs.YtkbodiggdajbeaaGreatDoor
open Go.ChangeShapes Go.WideShapes Go.ChangeAt Go.RowKit

/-- A Desc as a value: Seq, Status, List, Res's code and list. -/
abbrev DescV (sq st : Int) (ea : Option Addr) (en ec : Nat) (cd : Int) (ra : Option Addr) (rn rc : Nat) : Value := .agg #[.int .i64 sq, .int .i64 st, .slice ea en ec, .int .i64 cd, .slice ra rn rc]
abbrev DescC (sq st : Int) (ea : Option Addr) (en ec : Nat) (cd : Int) (ra : Option Addr) (rn rc : Nat) : Array Value := #[.int .i64 sq, .int .i64 st, .slice ea en ec, .int .i64 cd, .slice ra rn rc]
theorem Box.desc {w : World} {b : Nat} {T : TypeId} {sq st cd : Int} {ea ra : Option Addr} {en ec rn rc : Nat} (h : Box w b (DescC sq st ea en ec cd ra rn rc) T) :
    w.cell? ⟨b, 0, none⟩ = some (.int .i64 sq) ∧ w.cell? ⟨b, 1, none⟩ = some (.int .i64 st) ∧ w.cell? ⟨b, 2, none⟩ = some (.slice ea en ec) ∧ w.cell? ⟨b, 3, none⟩ = some (.int .i64 cd) ∧ w.cell? ⟨b, 4, none⟩ = some (.slice ra rn rc) ∧
    w.frozen? ⟨b, 0, none⟩ = false ∧ w.frozen? ⟨b, 1, none⟩ = false ∧ w.frozen? ⟨b, 2, none⟩ = false ∧ w.frozen? ⟨b, 3, none⟩ = false ∧ w.frozen? ⟨b, 4, none⟩ = false :=
  ⟨h.cell 0, h.cell 1, h.cell 2, h.cell 3, h.cell 4, h.frozen 0, h.frozen 1, h.frozen 2, h.frozen 3, h.frozen 4⟩

set_option maxHeartbeats 1000000 in
theorem toDesc_any (sq st : Int) (ea : Option Addr) (en ec : Nat) (es : List Int) (cd : Int) (ra : Option Addr) (rn rc : Nat) (rs : List Int) (w : World) (h1 : TripAt w ea en es) (h2 : IntAt w ra rn rs) :
    Calls Tryz.prog 72 #[DescV sq st ea en ec cd ra rn rc] w fun e w' => ∃ g h : Nat, e = .returned (DescV sq st (some ⟨g, 0, none⟩) en en cd (some ⟨h, 0, none⟩) rn rn) ∧ w.heap.size ≤ g ∧ g < h ∧
      w'.ownsRow g 139 3 (.slice (some ⟨g, 0, none⟩) en en) en (es.map I) ∧ w'.ownsRow h 3 1 (.slice (some ⟨h, 0, none⟩) rn rn) rn (rs.map I) ∧ Below w.heap.size w w' := by
  have H1 : Hid (TripAt w ea en es) := h1
  have H2 : Hid (IntAt w ra rn rs) := h2
  clear h1 h2
  go_enter Tryz.func72, Tryz.ntmps72
  go_wp2_with fail
  have hb0 : Below w.heap.size w (((w.alloc (.cells (DescC sq st ea en ec cd ra rn rc) 127)).alloc (.cells (DescC 0 0 none 0 0 0 none 0 0) 137)).alloc (.cells (DescC sq st none 0 0 0 none 0 0) 137)) :=
    (((Below.refl _ w).alloc (Nat.le_refl _) _).alloc (by simp) _).alloc (by simp; omega) _
  have HB0 : Hid _ := hb0
  refine (toEntryS_any ea en ec es _ (H1.out.below hb0 (Nat.le_refl _))).mono ?_
  rintro e w1 ⟨rfl, own1, hb1⟩
  have B0 : Hid (Box w1 w.heap.size (DescC sq st ea en ec cd ra rn rc) 127) := (((box_of w _ _).alloc _).alloc _).below hb1 (by simp; omega)
  have B1 : Hid (Box w1 (w.heap.size + 1) (DescC 0 0 none 0 0 0 none 0 0) 137) := by
    have := ((box_of (w.alloc (.cells (DescC sq st ea en ec cd ra rn rc) 127)) (DescC 0 0 none 0 0 0 none 0 0) 137).alloc (.cells (DescC sq st none 0 0 0 none 0 0) 137)).below hb1 (by simp)
    simp at this
    exact this
  have B2 : Hid (Box w1 (w.heap.size + 1 + 1) (DescC sq st none 0 0 0 none 0 0) 137) := by
    have := (box_of ((w.alloc (.cells (DescC sq st ea en ec cd ra rn rc) 127)).alloc (.cells (DescC 0 0 none 0 0 0 none 0 0) 137)) (DescC sq st none 0 0 0 none 0 0) 137).below hb1 (by simp)
    simp at this
    exact this
  simp only [World.size_alloc] at own1 hb1
  have hs1 : w.heap.size + 1 + 1 + 1 ≤ w1.heap.size := by simpa using hb1.size
  have HBW : Hid (Below w.heap.size w w1) := HB0.out.trans (hb1.mono (by omega))
  have O1 : Hid (w1.ownsRow (w.heap.size + 1 + 1 + 1) 139 3 (.slice (some ⟨w.heap.size + 1 + 1 + 1, 0, none⟩) en en) en (es.map I)) := own1
  have hlt1 : w.heap.size + 1 + 1 + 1 < w1.heap.size := (own1.lt (w.heap.size + 1 + 1 + 1) rfl).2
  obtain ⟨x0, x1, x2, x3, x4, _, _, _, _, _⟩ := B0.out.desc
  obtain ⟨_, _, y2, _, _, _, _, z2, _, _⟩ := B2.out.desc
  clear hb0 hb1 own1 HB0
  go_wp2_with fail
  have hbw2 : Below w.heap.size w (w1.setCell ⟨w.heap.size + 1 + 1, 2, none⟩ (.slice (some ⟨w.heap.size + 1 + 1 + 1, 0, none⟩) en en)) := HBW.out.setCell (by simp; omega) _
  have HBW2 : Hid _ := hbw2
  refine (toRes_g ra rn rc cd rs _ (H2.out.below hbw2 (Nat.le_refl _))).mono ?_
  rintro e w2 ⟨h, rfl, hh, own2, hb2⟩
  have B0' : Hid (Box w2 w.heap.size (DescC sq st ea en ec cd ra rn rc) 127) := (B0.out.set (by simp; omega) _).below hb2 (by rw [size_setCell]; omega)
  have B1' : Hid (Box w2 (w.heap.size + 1) (DescC 0 0 none 0 0 0 none 0 0) 137) := (B1.out.set (by simp) _).below hb2 (by rw [size_setCell]; omega)
  have B2' : Hid (Box w2 (w.heap.size + 1 + 1) (DescC sq st (some ⟨w.heap.size + 1 + 1 + 1, 0, none⟩) en en 0 none 0 0) 137) := (B2.out.put 2 _).below hb2 (by rw [size_setCell]; omega)
  have O1' : Hid (w2.ownsRow (w.heap.size + 1 + 1 + 1) 139 3 (.slice (some ⟨w.heap.size + 1 + 1 + 1, 0, none⟩) en en) en (es.map I)) := owns_below (ownsRow_setCell_below O1.out (by simp) _) hb2 (Nat.le_refl _)
  have O2' : Hid (w2.ownsRow h 3 1 (.slice (some ⟨h, 0, none⟩) rn rn) rn (rs.map I)) := own2
  have HBW3 : Hid (Below w.heap.size w w2) := HBW2.out.trans (hb2.mono (by rw [size_setCell]; omega))
  have hh' : w.heap.size + 1 + 1 + 1 < h := by rw [size_setCell] at hh; omega
  obtain ⟨_, _, _, _, _, f0, f1, f2, f3, f4⟩ := B1'.out.desc
  obtain ⟨u0, u1, u2, u3, u4, _, _, _, _, _⟩ := B1'.out.desc
  obtain ⟨v0, v1, v2, v3, v4, _, _, _, s3, s4⟩ := B2'.out.desc
  clear hb2 own2 hbw2 hh x0 x1 x2 x3 x4 y2 z2 B0 B1 B2 O1
  go_wp2
  (try simp only [Exit.inBlock, Exit.then])
  refine bodyPost_ret (by simp [results, Tryz.results72, go_sem, u0, u1, u2, u3, u4]; try rfl) rfl ?_
  refine ⟨w.heap.size + 1 + 1 + 1, h, rfl, by omega, hh', ?_, ?_, ?_⟩
  · exact ownsRow_setCell_below (ownsRow_setCell_below (ownsRow_setCell_below (ownsRow_setCell_below (ownsRow_setCell_below (ownsRow_setCell_below (ownsRow_setCell_below O1'.out (by simp) _) (by simp) _) (by simp) _) (by simp) _) (by simp) _) (by simp) _) (by simp) _
  · exact ownsRow_setCell_below (ownsRow_setCell_below (ownsRow_setCell_below (ownsRow_setCell_below (ownsRow_setCell_below (ownsRow_setCell_below (ownsRow_setCell_below O2'.out (by simp; omega) _) (by simp; omega) _) (by simp; omega) _) (by simp; omega) _) (by simp; omega) _) (by simp; omega) _) (by simp; omega) _
  · exact ((((((HBW3.out.setCell (by simp; omega) _).setCell (by simp; omega) _).setCell (by simp) _).setCell (by simp) _).setCell (by simp) _).setCell (by simp) _).setCell (by simp) _

set_option maxHeartbeats 400000 in
theorem szDesc_fits (sq st cd left : Int) (ea ra : Option Addr) (en ec rn rc : Nat) (w : World) (h0 : 0 ≤ left) (h1 : left ≤ 1048576) (hn : (en : Int) + (rn : Int) ≤ left) :
    Calls Tryz.prog 60 #[DescV sq st ea en ec cd ra rn rc, .int .i64 left] w fun e w' => e = .returned (.int .i64 (left - (en : Int) - (rn : Int))) ∧ Below w.heap.size w w' := by
  have h2 : ¬ (left - (en : Int) < 0) := by omega
  have h3 : ¬ (left - (en : Int) - (rn : Int) < 0) := by omega
  go_enter Tryz.func60, Tryz.ntmps60
  go_wp2_with fail
  refine (szEntryS_fits ea en ec left _ h0 h1 (by omega)).mono ?_
  rintro e w1 ⟨rfl, rfl⟩
  go_wp2_with fail
  refine (szRes_fits ra rn rc cd (left - en) _ (by omega) (by omega) (by omega)).mono ?_
  rintro e w2 ⟨rfl, hb2⟩
  have hb : Below w.heap.size w w2 := ((Below.refl _ w).alloc (Nat.le_refl _) _).trans (hb2.mono (by simp))
  clear hb2
  go_wp2
  go_ret
  exact ⟨rfl, hb⟩
set_option maxHeartbeats 400000 in
theorem szDesc_big (sq st cd left : Int) (ea ra : Option Addr) (en ec rn rc : Nat) (w : World) (h0 : 0 ≤ left) (h1 : left ≤ 1048576) (hn : ¬ (en : Int) + (rn : Int) ≤ left) (he : en ≤ 9223372036854775807) (hr : rn ≤ 9223372036854775807) :
    Calls Tryz.prog 60 #[DescV sq st ea en ec cd ra rn rc, .int .i64 left] w fun e w' => e = .returned (.int .i64 (-1)) ∧ Below w.heap.size w w' := by
  by_cases hE : (en : Int) ≤ left
  · have h2 : ¬ (left - (en : Int) < 0) := by omega
    go_enter Tryz.func60, Tryz.ntmps60
    go_wp2_with fail
    refine (szEntryS_fits ea en ec left _ h0 h1 (by omega)).mono ?_
    rintro e w1 ⟨rfl, rfl⟩
    go_wp2_with fail
    refine (szRes_big ra rn rc cd (left - en) _ (by omega) (by omega) (by omega) hr).mono ?_
    rintro e w2 ⟨rfl, hb2⟩
    have hb : Below w.heap.size w w2 := ((Below.refl _ w).alloc (Nat.le_refl _) _).trans (hb2.mono (by simp))
    clear hb2
    go_wp2
    go_ret
    exact ⟨rfl, hb⟩
  · go_enter Tryz.func60, Tryz.ntmps60
    go_wp2_with fail
    refine (szEntryS_big ea en ec left _ h0 h1 (by omega) he).mono ?_
    rintro e w1 ⟨rfl, rfl⟩
    go_wp2
    go_ret
    exact ⟨rfl, (Below.refl _ w).alloc (Nat.le_refl _) _⟩
set_option maxHeartbeats 1000000 in
theorem eqDesc_same (sq st cd : Int) (ea ea' ra ra' : Option Addr) (en en' ec ec' rn rn' rc rc' : Nat) (es rs : List Int) (w : World) (h1 : TripAt w ea en es) (h2 : TripAt w ea' en' es) (h3 : IntAt w ra rn rs) (h4 : IntAt w ra' rn' rs) :
    Calls Tryz.prog 91 #[DescV sq st ea en ec cd ra rn rc, DescV sq st ea' en' ec' cd ra' rn' rc'] w fun e w' => e = .returned (.bool true) ∧ Below w.heap.size w w' := by
  have H1 : Hid (TripAt w ea en es ∧ TripAt w ea' en' es ∧ IntAt w ra rn rs ∧ IntAt w ra' rn' rs) := ⟨h1, h2, h3, h4⟩
  clear h1 h2 h3 h4
  have hb0 : Below w.heap.size w ((w.alloc (.cells (DescC sq st ea en ec cd ra rn rc) 137)).alloc (.cells (DescC sq st ea' en' ec' cd ra' rn' rc') 137)) := ((Below.refl _ w).alloc (Nat.le_refl _) _).alloc (by simp) _
  have HB0 : Hid _ := hb0
  clear hb0
  go_enter Tryz.func91, Tryz.ntmps91
  go_wp2_with fail
  refine (eqEntryS_any ea ea' en en' ec ec' es es _ (H1.out.1.below HB0.out (Nat.le_refl _)) (H1.out.2.1.below HB0.out (Nat.le_refl _))).mono ?_
  rintro e w1 ⟨rfl, hb1⟩
  rw [show decide (es = es) = true from decide_eq_true rfl]
  have B0 : Hid (Box w1 w.heap.size (DescC sq st ea en ec cd ra rn rc) 137) := ((box_of w _ _).alloc _).below hb1 (by simp; omega)
  have B1 : Hid (Box w1 (w.heap.size + 1) (DescC sq st ea' en' ec' cd ra' rn' rc') 137) := by
    have := (box_of (w.alloc (.cells (DescC sq st ea en ec cd ra rn rc) 137)) (DescC sq st ea' en' ec' cd ra' rn' rc') 137).below hb1 (by simp)
    simp at this
    exact this
  have HB1 : Hid (Below w.heap.size w w1) := HB0.out.trans (hb1.mono (by simp; omega))
  obtain ⟨_, _, _, x3, x4, _, _, _, _, _⟩ := B0.out.desc
  obtain ⟨_, _, _, y3, y4, _, _, _, _, _⟩ := B1.out.desc
  clear hb1 HB0
  go_wp2_with fail
  refine (eqRes_same ra ra' rn rn' rc rc' cd rs _ (H1.out.2.2.1.below HB1.out (Nat.le_refl _)) (H1.out.2.2.2.below HB1.out (Nat.le_refl _))).mono ?_
  rintro e w2 ⟨rfl, hb2⟩
  have HB2 : Hid (Below w.heap.size w w2) := HB1.out.trans (hb2.mono HB1.out.size)
  clear hb2
  go_wp2
  go_ret
  exact ⟨rfl, HB2.out⟩
end Go.Proofs.YtkbodiggdajbeaaGreatDoor

/- spec.Entries, walked at any Desc and any place. -/
namespace Go.Proofs.YtkbodiggdajbeaaGreatDoor
open Go.ChangeShapes Go.WideShapes Go.ChangeAt Go.RowKit

theorem Box.three {w : World} {b : Nat} {T : TypeId} {x y z : Value} (h : Box w b #[x, y, z] T) :
    w.cell? ⟨b, 0, none⟩ = some x ∧ w.cell? ⟨b, 1, none⟩ = some y ∧ w.cell? ⟨b, 2, none⟩ = some z ∧ w.frozen? ⟨b, 0, none⟩ = false ∧ w.frozen? ⟨b, 1, none⟩ = false ∧ w.frozen? ⟨b, 2, none⟩ = false :=
  ⟨h.cell 0, h.cell 1, h.cell 2, h.frozen 0, h.frozen 1, h.frozen 2⟩
set_option maxHeartbeats 1000000 in
theorem specEntries_any (sq st : Int) (ea : Option Addr) (en ec : Nat) (es : List Int) (cd : Int) (ra : Option Addr) (rn rc : Nat) (at_ : Int) (w : World) (h1 : TripAt w ea en es) :
    Calls Tryz.prog 66 #[DescV sq st ea en ec cd ra rn rc, .int .i64 at_] w fun e w' => e = .returned (.tuple #[EntryV (entM es en at_).1 (entM es en at_).2.1 (entM es en at_).2.2.1, .bool (entM es en at_).2.2.2]) ∧ Below w.heap.size w w' := by
  have H1 : Hid (TripAt w ea en es) := h1
  have hn := h1.2.1
  obtain ⟨r, hr⟩ : ∃ r, entM es en at_ = r := ⟨_, rfl⟩
  rw [hr]
  have HR : Hid (entM es en at_ = r) := hr
  have HB0 : Hid (Below w.heap.size w ((w.alloc (.cells (DescC sq st ea en ec cd ra rn rc) 137)).alloc (.cells #[.int .i64 0, .int .i64 0, .int .i64 0] 139))) := ((Below.refl _ w).alloc (Nat.le_refl _) _).alloc (by simp) _
  have B1 : Hid (Box ((w.alloc (.cells (DescC sq st ea en ec cd ra rn rc) 137)).alloc (.cells #[.int .i64 0, .int .i64 0, .int .i64 0] 139)) (w.heap.size + 1) #[.int .i64 0, .int .i64 0, .int .i64 0] 139) := by
    have := box_of (w.alloc (.cells (DescC sq st ea en ec cd ra rn rc) 137)) #[.int .i64 0, .int .i64 0, .int .i64 0] 139
    simp at this
    exact this
  clear h1 hr
  go_enter Tryz.func66, Tryz.ntmps66
  go_wp2
  go_loopw [6] (fun i wr => ∃ k : Nat, k ≤ en ∧ i = .int .i64 (k : Int) ∧ (∀ i, i < k → es.getD (i * 3) 0 ≠ at_) ∧ Box wr w.heap.size (DescC sq st ea en ec cd ra rn rc) 137 ∧ Box wr (w.heap.size + 1) #[.int .i64 0, .int .i64 0, .int .i64 0] 139 ∧ Below w.heap.size w wr) (fun i _ => en - (intOf i).toNat)
  case atStart => exact ⟨0, Nat.zero_le _, rfl, fun i hi => by omega, (box_of w _ _).alloc _, B1.out, HB0.out⟩
  case round =>
    obtain ⟨k, hk, rfl, hno, hbox, hbox2, hb⟩ := hrel
    have HNO : Hid (∀ i, i < k → es.getD (i * 3) 0 ≠ at_) := hno
    have HBX : Hid (Box wr w.heap.size (DescC sq st ea en ec cd ra rn rc) 137 ∧ Box wr (w.heap.size + 1) #[.int .i64 0, .int .i64 0, .int .i64 0] 139) := ⟨hbox, hbox2⟩
    obtain ⟨_, _, x2, _, _, _, _, _, _, _⟩ := hbox.desc
    obtain ⟨y0, y1, y2, f0, f1, f2⟩ := hbox2.three
    clear hno hbox hbox2 B1 HB0
    by_cases hlt : k < en
    · rcases (H1.out.below hb (Nat.le_refl _)).2.2 with h0 | ⟨p1, o1, rfl, g1⟩
      · omega
      have hk0 : (0 : Int) ≤ (k : Int) := by omega
      have hk1 : (k : Int) < (en : Int) := by omega
      have e1 := g1 (k * 3) (by omega)
      have e2 := g1 (k * 3 + 1) (by omega)
      have e3 := g1 (k * 3 + 2) (by omega)
      obtain ⟨x, hx⟩ : ∃ x, es.getD (k * 3) 0 = x := ⟨_, rfl⟩
      obtain ⟨y, hy⟩ : ∃ y, es.getD (k * 3 + 1) 0 = y := ⟨_, rfl⟩
      obtain ⟨z, hz⟩ : ∃ z, es.getD (k * 3 + 2) 0 = z := ⟨_, rfl⟩
      have HX : Hid (es.getD (k * 3) 0 = x ∧ es.getD (k * 3 + 1) 0 = y ∧ es.getD (k * 3 + 2) 0 = z) := ⟨hx, hy, hz⟩
      rw [hx] at e1
      rw [hy, ← Nat.add_assoc] at e2
      rw [hz, ← Nat.add_assoc] at e3
      clear g1 hx hy hz
      by_cases hxa : x = at_
      · have hxb : (x == at_) = true := by simpa using hxa
        have HV : Hid (r = (x, y, z, true)) := by
          show _ = _
          obtain ⟨q1, q2, q3⟩ := HX.out
          rw [← HR.out, entM_yes (idxE_eq (Nat.le_of_lt hlt) HNO.out fun _ => q1.trans hxa) hlt, q1, q2, q3]
        clear hxa
        go_wp2
        (try simp only [Exit.inBlock, Exit.then])
        refine bodyPost_ret (v := .tuple #[EntryV x y z, .bool true]) (by simp [results, Tryz.results66, go_sem, y0, y1, y2]; try rfl) rfl ?_
        refine ⟨by rw [HV.out], ((hb.setCell (by simp) _).setCell (by simp) _).setCell (by simp) _⟩
      · have hxb : (x == at_) = false := by simpa using hxa
        have HN : Hid (∀ i, i < k + 1 → es.getD (i * 3) 0 ≠ at_) := fun i hi => by
          by_cases e : i = k
          · rw [e, HX.out.1]; exact hxa
          · exact HNO.out i (by omega)
        clear hxa
        go_wp2
        exact ⟨⟨k + 1, by omega, by go_num, HN.out, HBX.out.1, HBX.out.2, hb⟩, by simp [intOf]; omega⟩
    · obtain rfl : k = en := by omega
      have HV : Hid (r = (0, 0, 0, false)) := by show _ = _; rw [← HR.out, entM_no (idxE_eq (Nat.le_refl _) HNO.out fun h => by omega)]
      go_wp2
      (try simp only [Exit.inBlock, Exit.then])
      refine bodyPost_ret (v := .tuple #[EntryV 0 0 0, .bool false]) (by simp [results, Tryz.results66, go_sem, y0, y1, y2]; try rfl) rfl ?_
      refine ⟨by rw [HV.out], ?_⟩
      first
        | exact ((hb.setCell (by simp) _).setCell (by simp) _).setCell (by simp) _
        | exact hb
end Go.Proofs.YtkbodiggdajbeaaGreatDoor

/- spec.ValueAt, walked at any words, Descs and place. -/
namespace Go.Proofs.YtkbodiggdajbeaaGreatDoor
open Go.ChangeShapes Go.WideShapes Go.ChangeAt Go.RowKit

set_option maxHeartbeats 2000000 in
theorem specValueAt_any (a : Option Addr) (m c : Nat) (fs : List Int) (da : Option Addr) (dn dc : Nat) (ds : List DK) (at_ : Int) (w : World) (h1 : TripAt w a m fs) (h2 : DescAt w da dn ds) :
    Calls Tryz.prog 40 #[.slice a m c, .slice da dn dc, .int .i64 at_] w fun e w' => e = .returned (.int .i64 (valM fs m ds at_)) ∧ Below w.heap.size w w' := by
  have H1 : Hid (TripAt w a m fs) := h1
  have H2 : Hid (DescAt w da dn ds) := h2
  have hm := h1.2.1
  have hdn := h2.2.1
  obtain ⟨V, hV⟩ : ∃ V, valM fs m ds at_ = V := ⟨_, rfl⟩
  rw [hV]
  have HV : Hid (valM fs m ds at_ = V) := hV
  clear h1 h2 hV
  rcases hI : inB at_ 0 ((m : Int) - 1) with _ | _
  · have HI : Hid (inB at_ 0 ((m : Int) - 1) = false) := hI
    obtain rfl : V = 0 := by
      rw [← HV.out]
      unfold valM
      rw [if_neg]
      intro h
      rw [inB_yes (by omega)] at hI
      cases hI
    clear HV hI
    go_enter Tryz.func40, Tryz.ntmps40
    go_wp2_with fail
    refine (l1In_g at_ 0 _ _).mono ?_
    rintro e w1 ⟨rfl, rfl⟩
    rw [HI.out]
    go_wp2
    go_ret
    exact ⟨rfl, Below.refl _ _⟩
  · have hat := inB_val hI
    have HI : Hid (inB at_ 0 ((m : Int) - 1) = true) := hI
    clear hI
    obtain ⟨i, rfl⟩ : ∃ i : Nat, at_ = (i : Int) := ⟨at_.toNat, by omega⟩
    have hi0 : (0 : Int) ≤ (i : Int) := by omega
    have hi1 : (i : Int) < (m : Int) := by omega
    rcases H1.out.2.2 with h0 | ⟨p1, o1, rfl, g1⟩
    · omega
    have e1 := g1 (i * 3) (by omega)
    have e2 := g1 (i * 3 + 1) (by omega)
    have e3 := g1 (i * 3 + 2) (by omega)
    have HV2 : Hid (wordM (fs.getD (i * 3) 0) (fs.getD (i * 3 + 1) 0) (fs.getD (i * 3 + 2) 0) ds i = V) := by
      show _ = _
      rw [← HV.out]
      unfold valM
      rw [if_pos ⟨hi0, hi1⟩]
      simp
    obtain ⟨x, hx⟩ : ∃ x, fs.getD (i * 3) 0 = x := ⟨_, rfl⟩
    obtain ⟨t, ht⟩ : ∃ y, fs.getD (i * 3 + 1) 0 = y := ⟨_, rfl⟩
    obtain ⟨s, hs⟩ : ∃ z, fs.getD (i * 3 + 2) 0 = z := ⟨_, rfl⟩
    rw [hx, ht, hs] at HV2
    rw [hx] at e1
    rw [ht, ← Nat.add_assoc] at e2
    rw [hs, ← Nat.add_assoc] at e3
    clear g1 hx ht hs HV hat
    have HBX : Hid (Below w.heap.size w (w.alloc (.cells #[.int .i64 x, .int .i64 t, .int .i64 s] 134))) := (Below.refl _ w).alloc (Nat.le_refl _) _
    by_cases ht : t = 0
    · subst ht
      obtain rfl : V = x := by rw [← HV2.out]; simp [wordM]
      clear HV2
      go_enter Tryz.func40, Tryz.ntmps40
      go_wp2_with fail
      refine (l1In_g _ 0 _ _).mono ?_
      rintro e w1 ⟨rfl, rfl⟩
      rw [HI.out]
      go_wp2
      go_ret
      exact ⟨rfl, HBX.out⟩
    · have ht' : (t == 0) = false := by simpa using ht
      rcases hT : inB t 1 (dn : Int) with _ | _
      · have HT : Hid (inB t 1 (dn : Int) = false) := hT
        obtain rfl : V = 0 := by rw [← HV2.out]; unfold wordM; rw [if_neg ht, H2.out.1, hT]; rfl
        clear HV2 hT ht
        go_enter Tryz.func40, Tryz.ntmps40
        go_wp2_with fail
        refine (l1In_g _ 0 _ _).mono ?_
        rintro e w1 ⟨rfl, rfl⟩
        rw [HI.out]
        go_wp2_with fail
        refine (l1In_g t 1 _ _).mono ?_
        rintro e w2 ⟨rfl, rfl⟩
        rw [HT.out]
        go_wp2
        go_ret
        exact ⟨rfl, HBX.out⟩
      · have htv := inB_val hT
        have HT : Hid (inB t 1 (dn : Int) = true) := hT
        obtain ⟨j, rfl⟩ : ∃ j : Nat, t = (j : Int) + 1 := ⟨(t - 1).toNat, by omega⟩
        have HV3 : Hid ((if (dk ds j).sq = s ∧ (dk ds j).st = 2 then (entM (dk ds j).es (dk ds j).en i).2.2.1 else (entM (dk ds j).es (dk ds j).en i).2.1) = V) := by
          show _ = _
          rw [← HV2.out]
          unfold wordM
          rw [if_neg ht, H2.out.1, if_pos hT, show ((j : Int) + 1 - 1).toNat = j by omega]
        clear HV2 hT ht
        rcases H2.out.2.2 with h0 | ⟨q1, o2, rfl, g2⟩
        · omega
        obtain ⟨ea, ec, ra, rc, h5, h6, h7⟩ := g2 j (by omega)
        obtain ⟨f0, f1, f2, f3, f4⟩ := h5
        have H6 : Hid (TripAt w ea (dk ds j).en (dk ds j).es) := h6
        have hq1 : q1 < w.heap.size := World.block_lt_of_cell? w _ f0
        obtain ⟨D, hD⟩ : ∃ D, dk ds j = D := ⟨_, rfl⟩
        rw [hD] at HV3 H6 f0 f1 f2 f3 f4
        obtain ⟨r, hr⟩ : ∃ r, entM D.es D.en i = r := ⟨_, rfl⟩
        rw [hr] at HV3
        have HR : Hid (entM D.es D.en i = r) := hr
        obtain ⟨r0, r1, r2, r3⟩ := r
        obtain ⟨dsq, dst, den, des, dcd, drn, drs⟩ := D
        dsimp only at HV3 H6 f0 f1 f2 f3 f4 HR
        clear g2 h6 h7 hD hr
        have hj0 : (0 : Int) ≤ (j : Int) := by omega
        have hj1 : (j : Int) < (dn : Int) := by omega
        have HB2 : Hid (Below w.heap.size w ((w.alloc (.cells #[.int .i64 x, .int .i64 ((j : Int) + 1), .int .i64 s] 134)).alloc (.cells (DescC dsq dst ea den ec dcd ra drn rc) 137))) := HBX.out.alloc (by simp) _
        go_enter Tryz.func40, Tryz.ntmps40
        go_wp2_with fail
        refine (l1In_g _ 0 _ _).mono ?_
        rintro e w1 ⟨rfl, rfl⟩
        rw [HI.out]
        go_wp2_with fail
        refine (l1In_g _ 1 _ _).mono ?_
        rintro e w2 ⟨rfl, rfl⟩
        rw [HT.out]
        go_wp2_with fail
        refine (specEntries_any dsq dst ea den ec des dcd ra drn rc i _ (H6.out.below HB2.out (Nat.le_refl _))).mono ?_
        rintro e w3 ⟨rfl, hb3⟩
        rw [HR.out]
        dsimp only
        have X3 : Hid (Box w3 w1.heap.size #[.int .i64 x, .int .i64 ((j : Int) + 1), .int .i64 s] 134) := ((box_of w1 _ _).alloc _).below hb3 (by simp; omega)
        have Y3 : Hid (Box w3 (w1.heap.size + 1) (DescC dsq dst ea den ec dcd ra drn rc) 137) := by
          have := (box_of (w1.alloc (.cells #[.int .i64 x, .int .i64 ((j : Int) + 1), .int .i64 s] 134)) (DescC dsq dst ea den ec dcd ra drn rc) 137).below hb3 (by simp)
          simp at this
          exact this
        have HB3 : Hid (Below w1.heap.size w1 (w3.alloc (.cells #[.int .i64 r0, .int .i64 r1, .int .i64 r2] 139))) := (HB2.out.trans (hb3.mono (by simp; omega))).alloc (Nat.le_trans HB2.out.size hb3.size) _
        have hx3 : w1.heap.size < w3.heap.size := X3.out.lt
        have hy3 : w1.heap.size + 1 < w3.heap.size := Y3.out.lt
        obtain ⟨x0, x1, x2, _, _, _⟩ := X3.out.three
        obtain ⟨y0, y1, y2, y3, y4, _, _, _, _, _⟩ := Y3.out.desc
        clear hb3 e1 e2 e3 f0 f1 f2 f3 f4
        by_cases hsq : dsq = s
        · have hsq' : (dsq == s) = true := by simpa using hsq
          by_cases hst : dst = 2
          · have hst' : (dst == 2) = true := by simpa using hst
            obtain rfl : V = r2 := by rw [← HV3.out, if_pos ⟨hsq, hst⟩]
            clear hsq hst HV3
            go_wp2
            go_ret
            exact ⟨rfl, HB3.out⟩
          · have hst' : (dst == 2) = false := by simpa using hst
            obtain rfl : V = r1 := by rw [← HV3.out, if_neg (fun h => hst h.2)]
            clear hsq hst HV3
            go_wp2
            go_ret
            exact ⟨rfl, HB3.out⟩
        · have hsq' : (dsq == s) = false := by simpa using hsq
          obtain rfl : V = r1 := by rw [← HV3.out, if_neg (fun h => hsq h.1)]
          clear hsq HV3
          go_wp2
          go_ret
          exact ⟨rfl, HB3.out⟩
end Go.Proofs.YtkbodiggdajbeaaGreatDoor

/- impl.cutAt (slices.IndexFunc with its function literal), walked. -/
namespace Go.Proofs.YtkbodiggdajbeaaGreatDoor
open Go.ChangeShapes Go.WideShapes Go.ChangeAt Go.RowKit

set_option maxHeartbeats 1000000 in
set_option maxRecDepth 100000 in
theorem atClos_any (b : Nat) (x y z at_ : Int) (w : World) (hb : b < w.heap.size) (h1 : w.cell? ⟨b, 0, none⟩ = some (.int .i64 at_)) :
    Calls Tryz.prog 114 #[EntryV x y z, .pointer (some ⟨b, 0, none⟩)] w fun e w' => e = .returned (.bool (x == at_)) ∧ Below w.heap.size w w' := by
  go_enter Tryz.func114, Tryz.ntmps114
  go_wp2
  go_ret
  exact ⟨rfl, (Below.refl _ w).alloc (Nat.le_refl _) _⟩
/-- The function that cutAt makes: whether an entry is at the place that lies at b. -/
abbrev AtClos (b : Nat) : Value := .func (.func 114) #[] #[.pointer (some ⟨b, 0, none⟩)]
set_option maxHeartbeats 1000000 in
set_option maxRecDepth 100000 in
theorem indexAt_any (b : Nat) (at_ : Int) (a : Option Addr) (n c : Nat) (es : List Int) (w : World) (h : TripAt w a n es) (hb : b < w.heap.size) (h1 : w.cell? ⟨b, 0, none⟩ = some (.int .i64 at_)) :
    Calls Tryz.prog 113 #[.slice a n c, AtClos b] w fun e w' => e = .returned (.int .i64 (if idxE es n at_ < n then (idxE es n at_ : Int) else -1)) ∧ Below w.heap.size w w' := by
  have H : Hid (TripAt w a n es) := h
  have H1 : Hid (w.cell? ⟨b, 0, none⟩ = some (.int .i64 at_)) := h1
  have hn := h.2.1
  obtain ⟨r, hr⟩ : ∃ r : Int, (if idxE es n at_ < n then (idxE es n at_ : Int) else -1) = r := ⟨_, rfl⟩
  rw [hr]
  have HR : Hid ((if idxE es n at_ < n then (idxE es n at_ : Int) else -1) = r) := hr
  clear h h1 hr
  go_enter Tryz.func113, Tryz.ntmps113
  go_wp2
  go_loopw [8] (fun i wr => ∃ k : Nat, k ≤ n ∧ i = .int .i64 k ∧ (∀ i, i < k → es.getD (i * 3) 0 ≠ at_) ∧ Below w.heap.size w wr) (fun i _ => n - (intOf i).toNat)
  case atStart => exact ⟨0, Nat.zero_le _, rfl, fun i hi => by omega, Below.refl _ _⟩
  case round =>
    obtain ⟨k, hk, rfl, hno, hbr⟩ := hrel
    have HNO : Hid (∀ i, i < k → es.getD (i * 3) 0 ≠ at_) := hno
    clear hno
    by_cases hlt : k < n
    · rcases (H.out.below hbr (Nat.le_refl _)).2.2 with h0 | ⟨p1, o1, rfl, g1⟩
      · omega
      have hk0 : (0 : Int) ≤ (k : Int) := by omega
      have hk1 : (k : Int) < (n : Int) := by omega
      have e1 := g1 (k * 3) (by omega)
      have e2 := g1 (k * 3 + 1) (by omega)
      have e3 := g1 (k * 3 + 2) (by omega)
      obtain ⟨x, hx⟩ : ∃ x, es.getD (k * 3) 0 = x := ⟨_, rfl⟩
      obtain ⟨y, hy⟩ : ∃ y, es.getD (k * 3 + 1) 0 = y := ⟨_, rfl⟩
      obtain ⟨z, hz⟩ : ∃ z, es.getD (k * 3 + 2) 0 = z := ⟨_, rfl⟩
      have HX : Hid (es.getD (k * 3) 0 = x) := hx
      rw [hx] at e1
      rw [hy, ← Nat.add_assoc] at e2
      rw [hz, ← Nat.add_assoc] at e3
      clear g1 hx hy hz
      go_wp2_with fail
      have hlb : b < wr.heap.size := Nat.lt_of_lt_of_le hb hbr.size
      refine (atClos_any b x y z at_ _ hlb ((hbr.cell (show b < w.heap.size from hb)).trans H1.out)).mono ?_
      rintro e w1 ⟨rfl, hb1⟩
      have hb2 := hbr.trans (hb1.mono hbr.size)
      clear hb1 e1 e2 e3
      by_cases hxa : x = at_
      · rw [show (x == at_) = true by simpa using hxa]
        have HV : Hid ((k : Int) = r) := by
          show _ = _
          rw [← HR.out, idxE_eq (Nat.le_of_lt hlt) HNO.out fun _ => HX.out.trans hxa, if_pos hlt]
        clear hxa
        go_wp2
        go_ret
        exact ⟨by rw [← HV.out]; rfl, hb2⟩
      · rw [show (x == at_) = false by simpa using hxa]
        have HN : Hid (∀ i, i < k + 1 → es.getD (i * 3) 0 ≠ at_) := fun i hi => by
          by_cases e : i = k
          · rw [e, HX.out]; exact hxa
          · exact HNO.out i (by omega)
        clear hxa
        go_wp2
        exact ⟨⟨k + 1, by omega, by go_num, HN.out, hb2⟩, by simp [intOf]; omega⟩
    · obtain rfl : k = n := by omega
      have HV : Hid ((-1 : Int) = r) := by show _ = _; rw [← HR.out, idxE_eq (Nat.le_refl _) HNO.out fun h => by omega, if_neg (by omega)]
      go_wp2
      go_ret
      exact ⟨by rw [← HV.out]; rfl, hbr⟩
theorem idxE_le (es : List Int) (n : Nat) (at_ : Int) : idxE es n at_ ≤ n := by
  have : ∀ f k, idxF es at_ f k ≤ k + f := by
    intro f
    induction f with
    | zero => intro k; exact Nat.le_refl _
    | succ f ih => intro k; unfold idxF; split
                   · omega
                   · have := ih (k + 1); omega
  have h := this n 0
  unfold idxE
  omega
set_option maxHeartbeats 1000000 in
theorem cutAt_none (at_ : Int) (a : Option Addr) (n c : Nat) (es : List Int) (w : World) (h : TripAt w a n es) (hk : ¬ idxE es n at_ < n) :
    Calls Tryz.prog 104 #[.slice a n c, .int .i64 at_] w fun e w' => e = .returned (.slice none 0 0) ∧ Below w.heap.size w w' := by
  have H : Hid (TripAt w a n es) := h
  have hb0 : Below w.heap.size w (w.alloc (.cells #[.int .i64 at_] 3)) := (Below.refl _ w).alloc (Nat.le_refl _) _
  have HB0 : Hid _ := hb0
  have HK : Hid (¬ idxE es n at_ < n) := hk
  clear h hb0 hk
  go_enter Tryz.func104, Tryz.ntmps104
  go_wp2_with fail
  refine (indexAt_any _ at_ a n c es _ (H.out.below HB0.out (Nat.le_refl _)) (by simp) (by simp)).mono ?_
  rintro e w1 ⟨rfl, hb1⟩
  rw [if_neg HK.out]
  have hb : Below w.heap.size w w1 := HB0.out.trans (hb1.mono (by simp))
  clear hb1
  go_wp2
  go_ret
  exact ⟨rfl, hb⟩
set_option maxHeartbeats 1000000 in
theorem cutAt_some (at_ : Int) (b o : Nat) (n c k : Nat) (es : List Int) (w : World) (h : TripAt w (some ⟨b, o, none⟩) n es) (hc : n ≤ c) (hk : idxE es n at_ = k) (hlt : k < n) :
    Calls Tryz.prog 104 #[.slice (some ⟨b, o, none⟩) n c, .int .i64 at_] w fun e w' => e = .returned (.slice (some ⟨b, o + k * 3, none⟩) 1 1) ∧ Below w.heap.size w w' := by
  have H : Hid (TripAt w (some ⟨b, o, none⟩) n es) := h
  have hn := h.2.1
  have hb0 : Below w.heap.size w (w.alloc (.cells #[.int .i64 at_] 3)) := (Below.refl _ w).alloc (Nat.le_refl _) _
  have HB0 : Hid _ := hb0
  have HK : Hid (idxE es n at_ = k) := hk
  clear h hb0 hk
  go_enter Tryz.func104, Tryz.ntmps104
  go_wp2_with fail
  refine (indexAt_any _ at_ _ n c es _ (H.out.below HB0.out (Nat.le_refl _)) (by simp) (by simp)).mono ?_
  rintro e w1 ⟨rfl, hb1⟩
  rw [HK.out, if_pos hlt]
  have hb : Below w.heap.size w w1 := HB0.out.trans (hb1.mono (by simp))
  have k0 : (0 : Int) ≤ (k : Int) := by omega
  have k1 : ¬ (k : Int) < 0 := by omega
  have k2 : (k : Int) + 1 ≤ (c : Int) := by omega
  have k3 : (k : Int) < (c : Int) := by omega
  clear hb1
  go_wp2
  go_ret
  refine ⟨?_, hb⟩
  rfl
end Go.Proofs.YtkbodiggdajbeaaGreatDoor

/- impl.within at whatever numbers, walked. -/
namespace Go.Proofs.YtkbodiggdajbeaaGreatDoor
open Go.ChangeShapes Go.WideShapes Go.ChangeAt Go.RowKit

theorem within_g (x lo hi : Int) (w : World) : Calls Tryz.prog 103 #[.int .i64 x, .int .i64 lo, .int .i64 hi] w fun e w' => e = .returned (.bool (inB x lo hi)) ∧ w' = w := by
  by_cases h0 : lo ≤ x
  · by_cases h1 : x ≤ hi
    · rw [inB_yes ⟨h0, h1⟩]
      go_enter Tryz.func103, Tryz.ntmps103
      go_wp2
      go_ret
      exact ⟨rfl, rfl⟩
    · rw [inB_no (fun h => h1 h.2)]
      go_enter Tryz.func103, Tryz.ntmps103
      go_wp2
      go_ret
      exact ⟨rfl, rfl⟩
  · rw [inB_no (fun h => h0 h.1)]
    go_enter Tryz.func103, Tryz.ntmps103
    go_wp2
    go_ret
    exact ⟨rfl, rfl⟩
end Go.Proofs.YtkbodiggdajbeaaGreatDoor

/- impl.isMark, walked. -/
namespace Go.Proofs.YtkbodiggdajbeaaGreatDoor
open Go.ChangeShapes Go.WideShapes Go.ChangeAt Go.RowKit

theorem isMark_any (n t s : Int) (w : World) : Calls Tryz.prog 80 #[WordV n t s] w fun e w' => e = .returned (.bool (t != 0)) ∧ Below w.heap.size w w' := by
  go_enter Tryz.func80, Tryz.ntmps80
  go_wp2
  go_ret
  exact ⟨rfl, (Below.refl _ w).alloc (Nat.le_refl _) _⟩
end Go.Proofs.YtkbodiggdajbeaaGreatDoor
