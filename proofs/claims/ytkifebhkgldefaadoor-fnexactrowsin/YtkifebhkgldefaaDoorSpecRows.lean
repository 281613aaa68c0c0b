/- spec.KeyOf and spec.RowsOk, walked at any list. -/
import Derived.Test.YtkifebhkgldefaaDoorImplRows
import Derived.Deep.RegionWith
import Derived.Deep.QuietTactic
import Derived.BigQuiet
namespace Go.Proofs.YtkifebhkgldefaaDoor
open Go.ChangeShapes Go.WideShapes Go.ChangeAt Go.RowKit Go.Maps

/-- r is the first place of v among the first n of xs, or -1. -/
def KeyIs (xs : List Int) (n : Nat) (v r : Int) : Prop := (r = -1 ∧ ∀ i, i < n → xs.getD i 0 ≠ v) ∨ ∃ i : Nat, i < n ∧ r = (i : Int) ∧ xs.getD i 0 = v ∧ ∀ j, j < i → xs.getD j 0 ≠ v
/-- The answer is that number. -/
def KeySays (e : Ending) (xs : List Int) (n : Nat) (v : Int) : Prop := ∃ r : Int, e = .returned (.int .i64 r) ∧ KeyIs xs n v r

set_option maxHeartbeats 1000000 in
theorem specKeyOf_any (a : Option Addr) (n c : Nat) (st v : Int) (xs : List Int) (w : World) (hA : IntAt w a n xs) :
    Calls Tryd.prog 44 #[.agg #[.slice a n c, .int .i64 st], .int .i64 v] w fun e w' => KeySays e xs n v ∧ Below w.heap.size w w' := by
  have HA : Hid (IntAt w a n xs) := hA
  have hn := hA.2.1
  clear hA
  go_enter Tryd.func44, Tryd.ntmps44
  go_wp2
  go_loopw [5] (fun i wr => ∃ k : Nat, k ≤ n ∧ i = .int .i64 (k : Int) ∧ (∀ j, j < k → xs.getD j 0 ≠ v) ∧ Below (w.heap.size + 1) (w.alloc (.cells #[.slice a n c, .int .i64 st] 24)) wr) (fun i _ => n - (intOf i).toNat)
  case atStart => exact ⟨0, Nat.zero_le _, rfl, fun j hj => by omega, Below.refl _ _⟩
  case round =>
    obtain ⟨k, hk, rfl, hno, hb⟩ := hrel
    have HNO : Hid (∀ j, j < k → xs.getD j 0 ≠ v) := hno
    have hbw : Below w.heap.size w wr := ((Below.refl _ w).alloc (Nat.le_refl _) _).trans (hb.mono (Nat.le_succ _))
    have hc0 : wr.cell? ⟨w.heap.size, 0, none⟩ = some (.slice a n c) := by rw [hb.cell (by simp)]; simp
    clear hno
    by_cases hlt : k < n
    · rcases (HA.out.below hbw (Nat.le_refl _)).2.2 with h0 | ⟨p1, o1, rfl, g1⟩
      · omega
      have e1 := g1 k hlt
      obtain ⟨x, hx⟩ : ∃ x, xs.getD k 0 = x := ⟨_, rfl⟩
      rw [hx] at e1
      have HX : Hid (xs.getD k 0 = x) := hx
      clear g1 hx
      go_wp2
      · have hd : (x == v) = true := by assumption
        go_ret
        exact ⟨⟨(k : Int), rfl, .inr ⟨k, hlt, rfl, HX.out.trans (by simpa using hd), HNO.out⟩⟩, hbw⟩
      · have hd : (x == v) = false := by assumption
        refine ⟨⟨k + 1, by omega, by go_num, fun j hj => ?_, hb⟩, by simp [intOf]; omega⟩
        by_cases hjk : j = k
        · subst hjk
          rw [HX.out]
          simpa using hd
        · exact HNO.out j (by omega)
    · go_wp2
      go_ret
      exact ⟨⟨-1, rfl, .inl ⟨rfl, fun i hi => HNO.out i (by omega)⟩⟩, hbw⟩

/-- The rows can be a table, as the specification looks at them: what each place of the first k holds is right. -/
def SpecGood (xs : List Int) (n : Nat) (i : Nat) : Prop := xs.getD i 0 = 0 ∨ ((1 ≤ xs.getD i 0 ∧ xs.getD i 0 ≤ 6) ∧ KeyIs xs n (xs.getD i 0) i)
def SpecOk (xs : List Int) (n : Nat) (st : Int) : Prop := (∀ i, i < n → SpecGood xs n i) ∧ n = 4 ∧ 0 ≤ st ∧ st ≤ 5

theorem KeyIs.one {xs : List Int} {n : Nat} {v r s : Int} (h : KeyIs xs n v r) (k : KeyIs xs n v s) : r = s := by
  rcases h with ⟨rfl, h⟩ | ⟨i, hi, rfl, h1, h2⟩ <;> rcases k with ⟨rfl, k⟩ | ⟨j, hj, rfl, k1, k2⟩
  · rfl
  · exact absurd k1 (h j hj)
  · exact absurd h1 (k i hi)
  · by_cases hij : i < j
    · exact absurd h1 (k2 i hij)
    · by_cases hji : j < i
      · exact absurd k1 (h2 j hji)
      · rw [show i = j by omega]

theorem specValOk_not {x : Int} (h : ¬ (1 ≤ x ∧ x ≤ 6)) (w : World) : Calls Tryd.prog 43 #[.int .i64 x] w fun e w' => e = .returned (.bool false) ∧ w' = w := by
  have := specValOk_any x w
  rwa [show decide (1 ≤ x ∧ x ≤ 6) = false from decide_eq_false h] at this

theorem good_next {xs : List Int} {n k : Nat} (h : ∀ j, j < k → SpecGood xs n j) (h1 : SpecGood xs n k) : ∀ j, j < k + 1 → SpecGood xs n j := fun j hj => by
  by_cases hjk : j = k
  · subst hjk
    exact h1
  · exact h j (by omega)

set_option maxHeartbeats 2000000 in
set_option maxRecDepth 100000 in
theorem specRowsOk_any (a : Option Addr) (n c : Nat) (st : Int) (xs : List Int) (w : World) (hA : IntAt w a n xs) :
    Calls Tryd.prog 28 #[.agg #[.slice a n c, .int .i64 st]] w fun e w' => Says e (SpecOk xs n st) ∧ Below w.heap.size w w' := by
  have HA : Hid (IntAt w a n xs) := hA
  have hn := hA.2.1
  clear hA
  go_enter Tryd.func28, Tryd.ntmps28
  go_wp2
  go_loopw [3] (fun i wr => ∃ k : Nat, k ≤ n ∧ i = .int .i64 (k : Int) ∧ (∀ j, j < k → SpecGood xs n j) ∧ Below (w.heap.size + 1) (w.alloc (.cells #[.slice a n c, .int .i64 st] 24)) wr) (fun i _ => n - (intOf i).toNat)
  case atStart => exact ⟨0, Nat.zero_le _, rfl, fun j hj => by omega, Below.refl _ _⟩
  case round =>
    obtain ⟨k, hk, rfl, hno, hb⟩ := hrel
    have HNO : Hid (∀ j, j < k → SpecGood xs n j) := hno
    have hbw : Below w.heap.size w wr := ((Below.refl _ w).alloc (Nat.le_refl _) _).trans (hb.mono (Nat.le_succ _))
    have hc0 : wr.cell? ⟨w.heap.size, 0, none⟩ = some (.slice a n c) := by rw [hb.cell (by simp)]; simp
    have hc1 : wr.cell? ⟨w.heap.size, 1, none⟩ = some (.int .i64 st) := by rw [hb.cell (by simp)]; simp
    have hs := hb.size
    clear hno
    by_cases hlt : k < n
    · have HB : Hid (IntAt wr a n xs) := HA.out.below hbw (Nat.le_refl _)
      rcases HB.out.2.2 with h0 | ⟨p1, o1, rfl, g1⟩
      · omega
      have e1 := g1 k hlt
      obtain ⟨x, hx⟩ : ∃ x, xs.getD k 0 = x := ⟨_, rfl⟩
      rw [hx] at e1
      have HX : Hid (xs.getD k 0 = x) := hx
      clear g1 hx
      by_cases hx0 : x = 0
      · subst hx0
        go_wp2
        go_quiet (fail)
        go_wp2
        exact ⟨⟨k + 1, by omega, by go_num, good_next HNO.out (.inl HX.out), below_drewN hb nq⟩, by simp [intOf]; omega⟩
      · have hx1 : (x != 0) = true := by simpa using hx0
        by_cases hv : 1 ≤ x ∧ x ≤ 6
        · have hdv : decide (1 ≤ x ∧ x ≤ 6) = true := decide_eq_true hv
          go_wp2
          go_region_with (first
            | (go_at_call 43; refine (specValOk_any x _).mono ?_; rintro e w1 ⟨rfl, rfl⟩; rw [hdv])
            | (go_at_call 44; refine (specKeyOf_any _ n c st x xs _ (HB.out.below (Below.refl _ wr).drew (Nat.le_refl _))).mono ?_; rintro e w2 ⟨⟨r, rfl, hr⟩, hb2⟩))
          all_goals
            have hb3 := hb.drew.trans (hb2.mono (show w.heap.size + 1 ≤ wr.heap.size by simpa using hs))
            have HR : Hid (KeyIs xs n x r) := hr
            clear hr
            go_wp2
            · have hd : (r != (k : Int)) = true := by assumption
              have h1 : Hid (¬ SpecOk xs n st) := fun h => by
                rcases h.1 k hlt with h2 | h2
                · exact hx0 (HX.out.symm.trans h2)
                · have h3 := h2.2
                  rw [HX.out] at h3
                  simp [HR.out.one h3] at hd
              go_ret
              exact ⟨⟨false, rfl, by simp [h1.out]⟩, ((Below.refl _ w).alloc (Nat.le_refl _) _).trans (hb3.mono (Nat.le_succ _))⟩
            · have hd : (r != (k : Int)) = false := by assumption
              have h1 : SpecGood xs n k := .inr (by
                rw [HX.out]
                have h2 : r = (k : Int) := by simpa using hd
                exact ⟨hv, h2 ▸ HR.out⟩)
              exact ⟨⟨k + 1, by omega, by go_num, good_next HNO.out h1, hb3⟩, by simp [intOf]; omega⟩
        · have hdv : decide (1 ≤ x ∧ x ≤ 6) = false := decide_eq_false hv
          have h1 : Hid (¬ SpecOk xs n st) := fun h => by
            rcases h.1 k hlt with h2 | h2
            · exact hx0 (HX.out.symm.trans h2)
            · have h3 := h2.1
              rw [HX.out] at h3
              exact hv h3
          go_wp2
          go_quiet (first | (go_at_call 43; refine Calls.quiet_of_same (specValOk_not hv _)) | fail)
          go_wp2
          go_ret
          exact ⟨⟨false, rfl, by simp [h1.out]⟩, below_drewN hbw nq⟩
    · obtain rfl : k = n := by omega
      have H0 : Hid (∀ j, j < k → SpecGood xs k j) := HNO.out
      by_cases hn4 : k = 4
      · subst hn4
        by_cases hs0 : 0 ≤ st
        · by_cases hs1 : st ≤ 5
          · go_wp2
            go_ret
            exact ⟨⟨true, rfl, by simpa using ⟨H0.out, rfl, hs0, hs1⟩⟩, hbw⟩
          · have h1 : Hid (¬ SpecOk xs 4 st) := fun h => hs1 h.2.2.2
            go_wp2
            go_ret
            exact ⟨⟨false, rfl, by simp [h1.out]⟩, hbw⟩
        · have h1 : Hid (¬ SpecOk xs 4 st) := fun h => hs0 h.2.2.1
          go_wp2
          go_ret
          exact ⟨⟨false, rfl, by simp [h1.out]⟩, hbw⟩
      · have h1 : Hid (¬ SpecOk xs k st) := fun h => hn4 h.2.1
        have h2 : ((k : Int) == 4) = false := by simp; omega
        go_wp2
        go_ret
        exact ⟨⟨false, rfl, by simp [h1.out]⟩, hbw⟩

/-- Both look for the same. -/
theorem mem_posK {xs : List Int} {k : Nat} {x : Int} {i : Int} : i ∈ posK xs k x ↔ ∃ j : Nat, j < k ∧ xs.getD j 0 = x ∧ i = (j : Int) := by
  simp only [posK, List.mem_map, List.mem_filter, List.mem_range, beq_iff_eq]
  constructor
  · rintro ⟨j, ⟨h1, h2⟩, rfl⟩
    exact ⟨j, h1, h2, rfl⟩
  · rintro ⟨j, h1, h2, rfl⟩
    exact ⟨j, ⟨h1, h2⟩, rfl⟩
theorem one_of {l : List Int} (h : l.length ≤ 1) {a b : Int} (ha : a ∈ l) (hb : b ∈ l) : a = b := by
  match l, h with
  | [], _ => simp at ha
  | [x], _ => simp at ha hb; rw [ha, hb]
  | _ :: _ :: _, h => simp at h
theorem len_of {l : List Int} (hd : l.Nodup) {j : Int} (h : ∀ a ∈ l, a = j) : l.length ≤ 1 := by
  match l, hd with
  | [], _ => simp
  | [x], _ => simp
  | x :: y :: r, hd =>
    have h1 := h x (by simp)
    have h2 := h y (by simp)
    rw [h1, h2] at hd
    simp at hd
theorem posK_nodup (xs : List Int) (k : Nat) (x : Int) : (posK xs k x).Nodup := by
  unfold posK
  exact List.Pairwise.map _ (fun a b hab e => hab (by omega)) (List.nodup_range.filter _)

theorem ok_iff {xs : List Int} {n : Nat} {st : Int} (hl : xs.length = n) : SpecOk xs n st ↔ OkRows xs st := by
  constructor
  · rintro ⟨h, rfl, h0, h1⟩
    refine ⟨hl, h0, h1, fun x hx hp => ?_⟩
    obtain ⟨i, hi⟩ := List.exists_mem_of_ne_nil _ hp
    obtain ⟨j, hj, hjx, rfl⟩ := mem_posK.1 hi
    rcases h j hj with h2 | ⟨h2, h3⟩
    · exact absurd (hjx.symm.trans h2) hx
    rw [hjx] at h2 h3
    refine ⟨h2, len_of (posK_nodup _ _ _) (j := (j : Int)) fun a ha => ?_⟩
    obtain ⟨i, hi, hix, rfl⟩ := mem_posK.1 ha
    rcases h i hi with h4 | ⟨_, h4⟩
    · exact absurd (hix.symm.trans h4) hx
    rw [hix] at h4
    exact h4.one h3
  · rintro ⟨h4, h0, h1, h⟩
    obtain rfl : n = 4 := by omega
    refine ⟨fun i hi => ?_, rfl, h0, h1⟩
    by_cases hx : xs.getD i 0 = 0
    · exact .inl hx
    · have hm : (i : Int) ∈ posK xs 4 (xs.getD i 0) := mem_posK.2 ⟨i, hi, rfl, rfl⟩
      obtain ⟨h2, h3⟩ := h _ hx (List.ne_nil_of_mem hm)
      refine .inr ⟨h2, .inr ⟨i, hi, rfl, rfl, fun j hj e => ?_⟩⟩
      have := one_of h3 hm (mem_posK.2 ⟨j, by omega, e, rfl⟩)
      omega
end Go.Proofs.YtkifebhkgldefaaDoor
