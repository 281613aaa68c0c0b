/- While a Mem is copied Desc by Desc: no program. -/
import Derived.Test.YtbdfopokimpeiaqAnewR
namespace Go.Proofs.Ytbdfopokimpeiaq
open Go.ChangeShapes Go.WideShapes Go.ChangeAt Go.RowKit Go.Joins

def extF (F : Nat → Value) (k : Nat) (V U : Value) : Nat → Value := fun a => if a = 2 + 2 * k then V else if a = 3 + 2 * k then U else F a
theorem extF_old {F : Nat → Value} {k a : Nat} {V U : Value} (h : a < 2 + 2 * k) : extF F k V U a = F a := by
  unfold extF
  rw [if_neg (by omega), if_neg (by omega)]
theorem extF_V {F : Nat → Value} {k : Nat} {V U : Value} : extF F k V U (2 + 2 * k) = V := by simp [extF]
theorem extF_U {F : Nat → Value} {k : Nat} {V U : Value} : extF F k V U (3 + 2 * k) = U := by
  unfold extF
  rw [if_neg (by omega), if_pos rfl]
theorem sep_ext {F : Nat → Value} {k lo mid : Nat} {V U : Value} (h : Sep F (2 + 2 * k)) (hlt : ∀ a, a < 2 + 2 * k → ∀ b, (F a).ownBlock = some b → b < lo) (hV : ∀ b, V.ownBlock = some b → lo ≤ b ∧ b < mid) (hU : ∀ b, U.ownBlock = some b → mid ≤ b) (hm : lo ≤ mid) : Sep (extF F k V U) (2 + 2 * (k + 1)) := by
  have key : ∀ a, a < 2 + 2 * (k + 1) → ∀ b, (extF F k V U a).ownBlock = some b → (a = 2 + 2 * k ∧ lo ≤ b ∧ b < mid) ∨ (a = 3 + 2 * k ∧ mid ≤ b) ∨ (a < 2 + 2 * k ∧ (F a).ownBlock = some b ∧ b < lo) := by
    intro a ha b hb
    by_cases e1 : a = 2 + 2 * k
    · subst e1
      rw [extF_V] at hb
      exact .inl ⟨rfl, hV b hb⟩
    by_cases e2 : a = 3 + 2 * k
    · subst e2
      rw [extF_U] at hb
      exact .inr (.inl ⟨rfl, hU b hb⟩)
    · have e3 : a < 2 + 2 * k := by omega
      rw [extF_old e3] at hb
      exact .inr (.inr ⟨e3, hb, hlt a e3 b hb⟩)
  intro a b ha hb hab c h1 h2
  rcases key a ha c h1 with ⟨e1, l1, l2⟩ | ⟨e1, l1⟩ | ⟨e1, l1, l2⟩ <;> rcases key b hb c h2 with ⟨e3, l3, l4⟩ | ⟨e3, l3⟩ | ⟨e3, l3, l4⟩ <;> first | omega | exact h a b e1 e3 hab c l1 l3
/-- While a Mem is copied: its words and the first k Descs have lists of their own. -/
structure AnewSt (w0 : World) (B bx : Nat) (F : Nat → Value) (m : Nat) (fs : List Int) (n : Nat) (ds : List DK) (k : Nat) (wr : World) : Prop where
  box : Box wr bx #[F 0, F 1] 46
  bxB : B ≤ bx
  words : wr.ownsRow B 80 3 (F 0) m (fs.map I)
  descs : ∃ vs, wr.ownsRow B 82 5 (F 1) n vs ∧ (∀ i, i < k → AtF vs i (dk ds i) (F (2 + 2 * i)) (F (3 + 2 * i))) ∧ ∀ i, k ≤ i → i < n → ∃ x y, AtF vs i (dk ds i) x y
  ents : ∀ i, i < k → wr.ownsRow B 84 3 (F (2 + 2 * i)) (dk ds i).en ((dk ds i).es.map I)
  ints : ∀ i, i < k → wr.ownsRow B 3 1 (F (3 + 2 * i)) (dk ds i).rn ((dk ds i).rs.map I)
  sep : Sep F (2 + 2 * k)
  nbx : ∀ a, a < 2 + 2 * k → (F a).ownBlock ≠ some bx
  bel : Below B w0 wr
theorem AnewSt.blk {w0 : World} {B bx : Nat} {F : Nat → Value} {m : Nat} {fs : List Int} {n : Nat} {ds : List DK} {k : Nat} {wr : World} (h : AnewSt w0 B bx F m fs n ds k wr) : ∀ a, a < 2 + 2 * k → ∀ b, (F a).ownBlock = some b → B ≤ b ∧ b < wr.heap.size := by
  intro a ha b hb
  obtain ⟨vs, h2, _⟩ := h.descs
  by_cases e0 : a = 0
  · subst e0; exact h.words.lt b hb
  by_cases e1 : a = 1
  · subst e1; exact h2.lt b hb
  by_cases e2 : a % 2 = 0
  · obtain ⟨i, rfl⟩ : ∃ i, a = 2 + 2 * i := ⟨(a - 2) / 2, by omega⟩
    exact (h.ents i (by omega)).lt b hb
  · obtain ⟨i, rfl⟩ : ∃ i, a = 3 + 2 * i := ⟨(a - 3) / 2, by omega⟩
    exact (h.ints i (by omega)).lt b hb
theorem AnewSt.done {w0 : World} {B bx : Nat} {F : Nat → Value} {m : Nat} {fs : List Int} {n : Nat} {ds : List DK} {wr : World} (h : AnewSt w0 B bx F m fs n ds n wr) (hl : ds.length = n) : MemO wr B F m fs n ds := by
  obtain ⟨vs, h1, h2, _⟩ := h.descs
  exact ⟨h.words, hl, ⟨vs, h1, h2⟩, h.ents, h.ints, h.sep⟩
theorem atF_lists {vs : List Value} {k : Nat} {d : DK} {x y V U : Value} (h : AtF vs k d x y) : AtF (((vs.set (k * 5 + 2) V).set (k * 5 + 3) (I d.cd)).set (k * 5 + 4) U) k d V U := by
  obtain ⟨h0, h1, h2, h3, h4⟩ := h
  have hl : k * 5 + 4 < vs.length := (List.getElem?_eq_some_iff.1 h4).1
  refine ⟨?_, ?_, ?_, ?_, ?_⟩
  · rw [List.getElem?_set_ne (by omega), List.getElem?_set_ne (by omega), List.getElem?_set_ne (by omega)]; exact h0
  · rw [List.getElem?_set_ne (by omega), List.getElem?_set_ne (by omega), List.getElem?_set_ne (by omega)]; exact h1
  · rw [List.getElem?_set_ne (by omega), List.getElem?_set_ne (by omega), List.getElem?_set_self (by omega)]
  · rw [List.getElem?_set_ne (by omega), List.getElem?_set_self (by simp; omega)]
  · rw [List.getElem?_set_self (by simp; omega)]
/-- One more Desc has lists of its own. -/
theorem AnewSt.next {w0 : World} {B bx : Nat} {F : Nat → Value} {m : Nat} {fs : List Int} {n : Nat} {ds : List DK} {k g cap : Nat} {wr W1 w2 w3 : World} {V U : Value} (h : AnewSt w0 B bx F m fs n ds k wr) (hk : k < n) (hF1 : F 1 = .slice (some ⟨g, 0, none⟩) n cap)
    (hW1 : Below wr.heap.size wr W1) (hb2 : Below W1.heap.size W1 w2) (hV : w2.ownsRow W1.heap.size 84 3 V (dk ds k).en ((dk ds k).es.map I))
    (hb3 : Below w2.heap.size (w2.setCell ⟨g, k * 5 + 2, none⟩ V) w3) (hU : w3.ownsRow w2.heap.size 3 1 U (dk ds k).rn ((dk ds k).rs.map I)) :
    AnewSt w0 B bx (extF F k V U) m fs n ds (k + 1) ((w3.setCell ⟨g, k * 5 + 3, none⟩ (I (dk ds k).cd)).setCell ⟨g, k * 5 + 4, none⟩ U) := by
  obtain ⟨vs, hd, hlo, hhi⟩ := h.descs
  have hg : B ≤ g ∧ g < wr.heap.size := hd.lt g (by rw [hF1]; rfl)
  have s1 : wr.heap.size ≤ W1.heap.size := hW1.size
  have s2 : W1.heap.size ≤ w2.heap.size := hb2.size
  have s3 : w2.heap.size ≤ w3.heap.size := by have := hb3.size; rwa [size_setCell] at this
  have hbw := h.bel.size
  have hBr : B ≤ wr.heap.size := Nat.le_trans hg.1 (Nat.le_of_lt hg.2)
  have hVb : ∀ b, V.ownBlock = some b → W1.heap.size ≤ b ∧ b < w2.heap.size := fun b hb => hV.lt b hb
  have hUb : ∀ b, U.ownBlock = some b → w2.heap.size ≤ b := fun b hb => (hU.lt b hb).1
  -- a block of old that is not the list of Descs is as it was
  have OLD : ∀ b, b < wr.heap.size → b ≠ g → ((w3.setCell ⟨g, k * 5 + 3, none⟩ (I (dk ds k).cd)).setCell ⟨g, k * 5 + 4, none⟩ U).heap[b]? = wr.heap[b]? := fun b hb hbg => by
    rw [Below.heap_setCell _ _ _ _ hbg, Below.heap_setCell _ _ _ _ hbg, hb3.block b (by omega), Below.heap_setCell _ _ _ _ hbg, hb2.block b (by omega), hW1.block b hb]
  have FAR : ∀ a, a < 2 + 2 * k → a ≠ 1 → ∀ b, (F a).ownBlock = some b → ((w3.setCell ⟨g, k * 5 + 3, none⟩ (I (dk ds k).cd)).setCell ⟨g, k * 5 + 4, none⟩ U).heap[b]? = wr.heap[b]? := fun a ha h1 b hb =>
    OLD b (h.blk a ha b hb).2 (fun e => h.sep a 1 ha (by omega) h1 b hb (by rw [hF1, e]; rfl))
  have hbxg : bx ≠ g := fun e => h.nbx 1 (by omega) (by rw [hF1, e]; rfl)
  have hd2 : w2.ownsRow B 82 5 (.slice (some ⟨g, 0, none⟩) n cap) n vs := by
    rw [← hF1]
    exact owns_below (owns_below hd hW1 (Nat.le_refl _)) hb2 (Nat.le_refl _)
  have hd3 : w3.ownsRow B 82 5 (.slice (some ⟨g, 0, none⟩) n cap) n (vs.set (k * 5 + 2) V) := by
    refine owns_below (hd2.stored (k * 5 + 2) V).1 hb3 ?_
    rw [size_setCell]
    exact Nat.le_refl _
  have nV : V.ownBlock ≠ some g := fun e => by have := (hVb g e).1; omega
  have nU : U.ownBlock ≠ some g := fun e => by have := hUb g e; omega
  refine ⟨?_, h.bxB, ?_, ⟨((vs.set (k * 5 + 2) V).set (k * 5 + 3) (I (dk ds k).cd)).set (k * 5 + 4) U, ?_, fun i hi => ?_, fun i hi hin => ?_⟩, fun i hi => ?_, fun i hi => ?_, ?_, fun a ha => ?_, ?_⟩
  · rw [extF_old (by omega), extF_old (by omega)]
    show _ = _
    rw [OLD bx h.box.lt hbxg]
    exact h.box
  · rw [extF_old (by omega)]
    exact owns_heap h.words (FAR 0 (by omega) (by omega))
  · rw [extF_old (by omega), hF1]
    exact ((hd3.stored (k * 5 + 3) (I (dk ds k).cd)).1.stored (k * 5 + 4) U).1
  · by_cases e : i = k
    · subst e
      rw [extF_V, extF_U]
      obtain ⟨x, y, hxy⟩ := hhi i (Nat.le_refl _) hk
      exact atF_lists hxy
    · rw [extF_old (by omega), extF_old (by omega)]
      exact (((hlo i (by omega)).set (by omega) _).set (by omega) _).set (by omega) _
  · obtain ⟨x, y, hxy⟩ := hhi i (by omega) hin
    exact ⟨x, y, ((hxy.set (by omega) _).set (by omega) _).set (by omega) _⟩
  · by_cases e : i = k
    · subst e
      rw [extF_V]
      refine own_setCell_far (own_setCell_far ?_ nV _) nV _
      refine owns_below (own_setCell_far (own_weaken hV (by omega)) nV _) hb3 ?_
      rw [size_setCell]
      exact Nat.le_refl _
    · rw [extF_old (by omega)]
      exact owns_heap (h.ents i (by omega)) (FAR _ (by omega) (by omega))
  · by_cases e : i = k
    · subst e
      rw [extF_U]
      exact own_setCell_far (own_setCell_far (own_weaken hU (by omega)) nU _) nU _
    · rw [extF_old (by omega)]
      exact owns_heap (h.ints i (by omega)) (FAR _ (by omega) (by omega))
  · exact sep_ext h.sep (fun a ha b hb => Nat.lt_of_lt_of_le (h.blk a ha b hb).2 s1) hVb hUb s2
  · by_cases e1 : a = 2 + 2 * k
    · subst e1
      rw [extF_V]
      exact fun e => by have := (hVb bx e).1; have := h.box.lt; omega
    by_cases e2 : a = 3 + 2 * k
    · subst e2
      rw [extF_U]
      exact fun e => by have := hUb bx e; have := h.box.lt; omega
    · rw [extF_old (by omega)]
      exact h.nbx a (by omega)
  · refine Below.setCell (Below.setCell ?_ (show B ≤ g from hg.1) _) (show B ≤ g from hg.1) _
    exact (((h.bel.trans (hW1.mono hBr)).trans (hb2.mono (by omega))).setCell (show B ≤ g from hg.1) V).trans (hb3.mono (by omega))
end Go.Proofs.Ytbdfopokimpeiaq
