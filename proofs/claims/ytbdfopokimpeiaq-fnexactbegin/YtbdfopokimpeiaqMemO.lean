/- A Mem of the call's own: its lists lie in blocks of their own, no two in one. No program. -/
import Derived.Test.YtbdfopokimpeiaqLawMem
namespace Go.Proofs.Ytbdfopokimpeiaq
open Go.ChangeShapes Go.WideShapes Go.ChangeAt Go.RowKit Go.Joins

theorem owns_heap {w w' : World} {base : Nat} {e : TypeId} {size n : Nat} {v : Value} {xs : List Value} (h : w.ownsRow base e size v n xs) (he : ∀ k, v.ownBlock = some k → w'.heap[k]? = w.heap[k]?) : w'.ownsRow base e size v n xs := by
  refine ⟨h.1, ?_⟩
  rcases h.2 with h2 | ⟨g, cap, cur, rfl, hg, hh, r⟩
  · exact .inl h2
  · exact .inr ⟨g, cap, cur, rfl, hg, by rw [he g rfl]; exact hh, r⟩
theorem owns_forms {w : World} {base : Nat} {e : TypeId} {size n : Nat} {v : Value} {xs : List Value} (h : w.ownsRow base e size v n xs) : (v = .slice none 0 0 ∧ n = 0) ∨ ∃ g cap, v = .slice (some ⟨g, 0, none⟩) n cap := by
  rcases h.2 with h2 | ⟨g, cap, cur, hv, _⟩
  · exact .inl h2
  · exact .inr ⟨g, cap, hv⟩
theorem owns_slice {w : World} {base : Nat} {e : TypeId} {size n : Nat} {v : Value} {xs : List Value} (h : w.ownsRow base e size v n xs) : ∃ a c, v = .slice a n c ∧ n ≤ c := by
  rcases h.2 with ⟨h2, h3⟩ | ⟨g, cap, cur, hv, _, _, hc, _⟩
  · exact ⟨none, 0, by rw [h2, h3], by omega⟩
  · exact ⟨_, cap, hv, hc⟩
theorem owns_trip {w : World} {base : Nat} {e : TypeId} {n c : Nat} {a : Option Addr} {fs : List Int} (h : w.ownsRow base e 3 (.slice a n c) n (fs.map I)) (hn : n ≤ 1048576) : TripAt w a n fs := by
  rcases owns_forms h with ⟨h2, h3⟩ | ⟨g, cap, hv⟩
  · subst h3
    exact ⟨by have := h.1; simpa using this, by omega, .inl rfl⟩
  · cases hv
    exact own_tripAt h hn
theorem owns_ints {w : World} {base : Nat} {e : TypeId} {n c : Nat} {a : Option Addr} {fs : List Int} (h : w.ownsRow base e 1 (.slice a n c) n (fs.map I)) (hn : n ≤ 1048576) : IntAt w a n fs := by
  obtain ⟨a', c', hv, hi⟩ := own_at h (by omega)
  cases hv
  exact hi
/-- No two of the lists lie in one block. -/
def Sep (F : Nat → Value) (N : Nat) : Prop := ∀ a b, a < N → b < N → a ≠ b → ∀ k, (F a).ownBlock = some k → (F b).ownBlock ≠ some k
/-- The i-th five of the list are a Desc with the lists v and u. -/
def AtF (vs : List Value) (i : Nat) (d : DK) (v u : Value) : Prop :=
  vs[i * 5]? = some (I d.sq) ∧ vs[i * 5 + 1]? = some (I d.st) ∧ vs[i * 5 + 2]? = some v ∧ vs[i * 5 + 3]? = some (I d.cd) ∧ vs[i * 5 + 4]? = some u
theorem AtF.set {vs : List Value} {i : Nat} {d : DK} {v u : Value} (h : AtF vs i d v u) {j : Nat} (hj : j < i * 5 ∨ i * 5 + 4 < j) (x : Value) : AtF (vs.set j x) i d v u := by
  obtain ⟨h0, h1, h2, h3, h4⟩ := h
  unfold AtF
  rw [List.getElem?_set_ne (by omega), List.getElem?_set_ne (by omega), List.getElem?_set_ne (by omega), List.getElem?_set_ne (by omega), List.getElem?_set_ne (by omega)]
  exact ⟨h0, h1, h2, h3, h4⟩
/-- Descs of the call's own: F 1 is the list, F (2 + 2 * i) and F (3 + 2 * i) are the lists of the i-th. -/
structure DescO (w : World) (base : Nat) (F : Nat → Value) (n : Nat) (ds : List DK) : Prop where
  len : ds.length = n
  descs : ∃ vs, w.ownsRow base 82 5 (F 1) n vs ∧ ∀ i, i < n → AtF vs i (dk ds i) (F (2 + 2 * i)) (F (3 + 2 * i))
  ents : ∀ i, i < n → w.ownsRow base 84 3 (F (2 + 2 * i)) (dk ds i).en ((dk ds i).es.map I)
  ints : ∀ i, i < n → w.ownsRow base 3 1 (F (3 + 2 * i)) (dk ds i).rn ((dk ds i).rs.map I)
  sep : Sep F (2 + 2 * n)
/-- A Mem of the call's own: F 0 are its words. -/
structure MemO (w : World) (base : Nat) (F : Nat → Value) (m : Nat) (fs : List Int) (n : Nat) (ds : List DK) : Prop where
  words : w.ownsRow base 80 3 (F 0) m (fs.map I)
  descO : DescO w base F n ds
abbrev MemF (F : Nat → Value) : Value := .agg #[F 0, F 1]
def Small (n : Nat) (ds : List DK) : Prop := ∀ i, i < n → (dk ds i).en ≤ 1048576 ∧ (dk ds i).rn ≤ 1048576
theorem DescO.heap {w w' : World} {base : Nat} {F : Nat → Value} {n : Nat} {ds : List DK} (h : DescO w base F n ds) (he : ∀ a, 1 ≤ a → a < 2 + 2 * n → ∀ k, (F a).ownBlock = some k → w'.heap[k]? = w.heap[k]?) : DescO w' base F n ds := by
  obtain ⟨vs, h1, h2⟩ := h.descs
  exact ⟨h.len, ⟨vs, owns_heap h1 (he 1 (by omega) (by omega)), h2⟩, fun i hi => owns_heap (h.ents i hi) (he _ (by omega) (by omega)), fun i hi => owns_heap (h.ints i hi) (he _ (by omega) (by omega)), h.sep⟩
theorem DescO.below {w w' : World} {base : Nat} {F : Nat → Value} {n : Nat} {ds : List DK} (h : DescO w base F n ds) {B : Nat} (hb : Below B w w') (hB : w.heap.size ≤ B) : DescO w' base F n ds := by
  obtain ⟨vs, h1, h2⟩ := h.descs
  exact ⟨h.len, ⟨vs, owns_below h1 hb hB, h2⟩, fun i hi => owns_below (h.ents i hi) hb hB, fun i hi => owns_below (h.ints i hi) hb hB, h.sep⟩
theorem MemO.below {w w' : World} {base : Nat} {F : Nat → Value} {m : Nat} {fs : List Int} {n : Nat} {ds : List DK} (h : MemO w base F m fs n ds) {B : Nat} (hb : Below B w w') (hB : w.heap.size ≤ B) : MemO w' base F m fs n ds :=
  ⟨owns_below h.words hb hB, h.descO.below hb hB⟩
theorem MemO.heap {w w' : World} {base : Nat} {F : Nat → Value} {m : Nat} {fs : List Int} {n : Nat} {ds : List DK} (h : MemO w base F m fs n ds) (he : ∀ a, a < 2 + 2 * n → ∀ k, (F a).ownBlock = some k → w'.heap[k]? = w.heap[k]?) : MemO w' base F m fs n ds :=
  ⟨owns_heap h.words (he 0 (by omega)), h.descO.heap fun a _ ha => he a ha⟩
theorem DescO.blk {w : World} {base : Nat} {F : Nat → Value} {n : Nat} {ds : List DK} (h : DescO w base F n ds) : ∀ a, 1 ≤ a → a < 2 + 2 * n → ∀ k, (F a).ownBlock = some k → base ≤ k ∧ k < w.heap.size := by
  intro a h1 ha k hk
  obtain ⟨vs, h2, _⟩ := h.descs
  by_cases e1 : a = 1
  · subst e1; exact h2.lt k hk
  by_cases e2 : a % 2 = 0
  · obtain ⟨i, rfl⟩ : ∃ i, a = 2 + 2 * i := ⟨(a - 2) / 2, by omega⟩
    exact (h.ents i (by omega)).lt k hk
  · obtain ⟨i, rfl⟩ : ∃ i, a = 3 + 2 * i := ⟨(a - 3) / 2, by omega⟩
    exact (h.ints i (by omega)).lt k hk
theorem MemO.blk {w : World} {base : Nat} {F : Nat → Value} {m : Nat} {fs : List Int} {n : Nat} {ds : List DK} (h : MemO w base F m fs n ds) : ∀ a, a < 2 + 2 * n → ∀ k, (F a).ownBlock = some k → base ≤ k ∧ k < w.heap.size := by
  intro a ha k hk
  by_cases e0 : a = 0
  · subst e0; exact h.words.lt k hk
  · exact h.descO.blk a (by omega) ha k hk
theorem DescO.weaken {w : World} {base base' : Nat} {F : Nat → Value} {n : Nat} {ds : List DK} (h : DescO w base F n ds) (hb : base' ≤ base) : DescO w base' F n ds := by
  obtain ⟨vs, h1, h2⟩ := h.descs
  exact ⟨h.len, ⟨vs, own_weaken h1 hb, h2⟩, fun i hi => own_weaken (h.ents i hi) hb, fun i hi => own_weaken (h.ints i hi) hb, h.sep⟩
theorem MemO.weaken {w : World} {base base' : Nat} {F : Nat → Value} {m : Nat} {fs : List Int} {n : Nat} {ds : List DK} (h : MemO w base F m fs n ds) (hb : base' ≤ base) : MemO w base' F m fs n ds :=
  ⟨own_weaken h.words hb, h.descO.weaken hb⟩
/-- Its words, its Descs, as lists in memory. -/
theorem DescO.at {w : World} {base : Nat} {F : Nat → Value} {n : Nat} {ds : List DK} (h : DescO w base F n ds) (hn : n ≤ 1048576) (hs : Small n ds) : ∃ a c, F 1 = .slice a n c ∧ DescAt w a n ds ∧ CapAt w a n ds := by
  obtain ⟨vs, h1, h2⟩ := h.descs
  rcases owns_forms h1 with ⟨h3, h4⟩ | ⟨g, cap, hv⟩
  · subst h4
    exact ⟨none, 0, h3, ⟨h.len, by omega, .inl rfl⟩, .inl rfl⟩
  · rw [hv] at h1
    refine ⟨_, cap, hv, ⟨h.len, hn, .inr ⟨g, 0, rfl, fun i hi => ?_⟩⟩, .inr ⟨g, 0, rfl, fun i hi => ?_⟩⟩
    · obtain ⟨a0, a1, a2, a3, a4⟩ := h2 i hi
      obtain ⟨ea, ec, e1, _⟩ := owns_slice (h.ents i hi)
      obtain ⟨ra, rc, e2, _⟩ := owns_slice (h.ints i hi)
      have t1 := h.ents i hi
      have t2 := h.ints i hi
      rw [e1] at t1 a2
      rw [e2] at t2 a4
      refine ⟨ea, ec, ra, rc, ⟨?_, ?_, ?_, ?_, ?_⟩, owns_trip t1 (hs i hi).1, owns_ints t2 (hs i hi).2⟩
      · rw [Nat.zero_add]; exact own_cellV h1 a0
      · rw [Nat.zero_add]; exact own_cellV h1 a1
      · rw [Nat.zero_add]; exact own_cellV h1 a2
      · rw [Nat.zero_add]; exact own_cellV h1 a3
      · rw [Nat.zero_add]; exact own_cellV h1 a4
    · obtain ⟨a0, a1, a2, a3, a4⟩ := h2 i hi
      obtain ⟨ea, ec, e1, hc⟩ := owns_slice (h.ents i hi)
      rw [e1] at a2
      exact ⟨ea, ec, by rw [Nat.zero_add]; exact own_cellV h1 a2, hc⟩
theorem MemO.at {w : World} {base : Nat} {F : Nat → Value} {m : Nat} {fs : List Int} {n : Nat} {ds : List DK} (h : MemO w base F m fs n ds) (hm : m ≤ 1048576) : ∃ a c, F 0 = .slice a m c ∧ TripAt w a m fs := by
  obtain ⟨a, c, e, _⟩ := owns_slice h.words
  have t := h.words
  rw [e] at t
  exact ⟨a, c, e, owns_trip t hm⟩
/-- All of it, at once: the value, and what lies there. -/
theorem MemO.open {w : World} {base : Nat} {F : Nat → Value} {m : Nat} {fs : List Int} {n : Nat} {ds : List DK} (h : MemO w base F m fs n ds) (hm : m ≤ 1048576) (hn : n ≤ 1048576) (hs : Small n ds) :
    ∃ wa wc da dc, MemF F = MemV wa m wc da n dc ∧ F 0 = .slice wa m wc ∧ F 1 = .slice da n dc ∧ TripAt w wa m fs ∧ DescAt w da n ds ∧ CapAt w da n ds := by
  obtain ⟨wa, wc, e0, t⟩ := h.at hm
  obtain ⟨da, dc, e1, d, c⟩ := h.descO.at hn hs
  exact ⟨wa, wc, da, dc, by rw [MemF, e0, e1], e0, e1, t, d, c⟩
/-- What toMem makes is such a Mem. -/
theorem memO_of {w : World} {base g h m n : Nat} {fs : List Int} {ds : List DK} (hl : ds.length = n) (hb : base ≤ g) (hgh : g < h) (o : w.ownsRow g 80 3 (SL g m) m (fs.map I)) (p : DescOwn w h n ds n) :
    ∃ F, MemF F = MemV (some ⟨g, 0, none⟩) m m (some ⟨h, 0, none⟩) n n ∧ F 0 = SL g m ∧ F 1 = SL h n ∧ MemO w base F m fs n ds := by
  obtain ⟨vs, P, Q, h1, h2⟩ := p
  refine ⟨fun a => if a = 0 then SL g m else if a = 1 then SL h n else if a % 2 = 0 then SL (P ((a - 2) / 2)) (dk ds ((a - 2) / 2)).en else SL (Q ((a - 3) / 2)) (dk ds ((a - 3) / 2)).rn, rfl, rfl, rfl, ⟨by simpa using own_weaken o hb, hl, ⟨vs, by simpa using own_weaken h1 (by omega), fun i hi => ?_⟩, fun i hi => ?_, fun i hi => ?_, ?_⟩⟩
  · have e1 : (2 + 2 * i) % 2 = 0 := by omega
    have e2 : (2 + 2 * i - 2) / 2 = i := by omega
    have e3 : ¬ (3 + 2 * i) % 2 = 0 := by omega
    have e4 : (3 + 2 * i - 3) / 2 = i := by omega
    simp only [show 2 + 2 * i ≠ 0 by omega, show 2 + 2 * i ≠ 1 by omega, show 3 + 2 * i ≠ 0 by omega, show 3 + 2 * i ≠ 1 by omega, if_false, e1, e2, e3, e4, if_true]
    exact (h2 i hi).1.at5
  · have e1 : (2 + 2 * i) % 2 = 0 := by omega
    have e2 : (2 + 2 * i - 2) / 2 = i := by omega
    simp only [show 2 + 2 * i ≠ 0 by omega, show 2 + 2 * i ≠ 1 by omega, if_false, e1, e2, if_true]
    exact own_weaken (h2 i hi).1.ents (by have := (h2 i hi).1.gp; omega)
  · have e3 : ¬ (3 + 2 * i) % 2 = 0 := by omega
    have e4 : (3 + 2 * i - 3) / 2 = i := by omega
    simp only [show 3 + 2 * i ≠ 0 by omega, show 3 + 2 * i ≠ 1 by omega, if_false, e3, e4]
    exact own_weaken (h2 i hi).1.ints (by have := (h2 i hi).1.gp; have := (h2 i hi).1.pq; omega)
  · have key : ∀ i j, i < j → j < n → Q i < P j := fun i j hij hj => (h2 j hj).2 i hij
    have B : ∀ a, a < 2 + 2 * n → ∀ k, ((if a = 0 then SL g m else if a = 1 then SL h n else if a % 2 = 0 then SL (P ((a - 2) / 2)) (dk ds ((a - 2) / 2)).en else SL (Q ((a - 3) / 2)) (dk ds ((a - 3) / 2)).rn : Value)).ownBlock = some k → k = (if a = 0 then g else if a = 1 then h else if a % 2 = 0 then P ((a - 2) / 2) else Q ((a - 3) / 2)) := by
      intro a ha k hk
      by_cases e0 : a = 0
      · rw [if_pos e0] at hk ⊢; simpa [Value.ownBlock] using hk.symm
      rw [if_neg e0] at hk ⊢
      by_cases e1 : a = 1
      · rw [if_pos e1] at hk ⊢; simpa [Value.ownBlock] using hk.symm
      rw [if_neg e1] at hk ⊢
      by_cases e2 : a % 2 = 0
      · rw [if_pos e2] at hk ⊢; simpa [Value.ownBlock] using hk.symm
      rw [if_neg e2] at hk ⊢
      simpa [Value.ownBlock] using hk.symm
    have M : ∀ a b, a < b → b < 2 + 2 * n → (if a = 0 then g else if a = 1 then h else if a % 2 = 0 then P ((a - 2) / 2) else Q ((a - 3) / 2)) < (if b = 0 then g else if b = 1 then h else if b % 2 = 0 then P ((b - 2) / 2) else Q ((b - 3) / 2)) := by
      intro a b hab hb'
      have gp : ∀ i, i < n → h < P i := fun i hi => (h2 i hi).1.gp
      have pq : ∀ i, i < n → P i < Q i := fun i hi => (h2 i hi).1.pq
      rw [if_neg (show ¬ b = 0 by omega)]
      by_cases b1 : b = 1
      · rw [if_pos b1, if_pos (show a = 0 by omega)]; exact hgh
      rw [if_neg b1]
      have ib : b % 2 = 0 → (b - 2) / 2 < n := fun _ => by omega
      have jb : ¬ b % 2 = 0 → (b - 3) / 2 < n := fun _ => by omega
      have up : h < (if b % 2 = 0 then P ((b - 2) / 2) else Q ((b - 3) / 2)) := by
        split
        · rename_i e; exact gp _ (ib e)
        · rename_i e; exact Nat.lt_trans (gp _ (jb e)) (pq _ (jb e))
      by_cases a0 : a = 0
      · rw [if_pos a0]; omega
      rw [if_neg a0]
      by_cases a1 : a = 1
      · rw [if_pos a1]; exact up
      rw [if_neg a1]
      by_cases ea : a % 2 = 0 <;> by_cases eb : b % 2 = 0
      · rw [if_pos ea, if_pos eb]
        have h3 := key ((a - 2) / 2) ((b - 2) / 2) (by omega) (by omega)
        have h4 := pq ((a - 2) / 2) (by omega)
        omega
      · rw [if_pos ea, if_neg eb]
        by_cases e : (a - 2) / 2 = (b - 3) / 2
        · rw [e]; exact pq _ (jb eb)
        · have h3 := key ((a - 2) / 2) ((b - 3) / 2) (by omega) (by omega)
          have h4 := pq ((a - 2) / 2) (by omega)
          have h5 := pq ((b - 3) / 2) (by omega)
          omega
      · rw [if_neg ea, if_pos eb]
        exact key _ _ (by omega) (by omega)
      · rw [if_neg ea, if_neg eb]
        have h3 := key ((a - 3) / 2) ((b - 3) / 2) (by omega) (by omega)
        have h5 := pq ((b - 3) / 2) (by omega)
        omega
    intro a b ha hb' hab k h3 h4
    have e1 := B a ha k h3
    have e2 := B b hb' k h4
    rcases Nat.lt_or_gt_of_ne hab with h5 | h5
    · have := M a b h5 hb'; omega
    · have := M b a h5 ha; omega
end Go.Proofs.Ytbdfopokimpeiaq
