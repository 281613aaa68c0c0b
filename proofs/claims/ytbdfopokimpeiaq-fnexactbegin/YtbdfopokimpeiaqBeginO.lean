/- What Begin answers, and one Desc put into a Mem of the call's own: no program. -/
import Derived.Test.YtbdfopokimpeiaqAnewM
import Derived.Test.YtbdfopokimpeiaqSpecQuiet
import Derived.Test.YtbdfopokimpeiaqFindT
namespace Go.Proofs.Ytbdfopokimpeiaq
open Go.ChangeShapes Go.WideShapes Go.ChangeAt Go.RowKit Go.Joins

theorem dk_set {ds : List DK} {t i : Nat} {D : DK} (ht : t < ds.length) : dk (ds.set t D) i = if i = t then D else dk ds i := by
  unfold dk
  by_cases e : i = t
  · subst e
    simp [List.getD, ht]
  · rw [if_neg e]
    simp [List.getD, List.getElem?_set_ne (Ne.symm e)]
/-- The try that is begun. -/
def newDK (sq : Int) (en : Nat) (es : List Int) (cd : Int) (rn : Nat) (rs : List Int) : DK := ⟨sq + 1, 1, en, es, cd, rn, rs⟩
def BeginGood (fs : List Int) (m : Nat) (ds : List DK) (t : Int) (en : Nat) (es : List Int) (cd : Int) (rn : Nat) (rs : List Int) : Prop :=
  MemGood fs m ds ∧ (0 ≤ t ∧ t < (ds.length : Int)) ∧ ¬ Marked fs m t ∧ DescGood (newDK (dk ds t.toNat).sq en es cd rn rs)
/-- What both answer: the Descs, the Help (T and Seq; the rest of it is 0), and whether it is begun. -/
def BeginSays (fs : List Int) (m : Nat) (ds : List DK) (t : Int) (en : Nat) (es : List Int) (cd : Int) (rn : Nat) (rs : List Int) (ds' : List DK) (hT hS : Int) (ok : Bool) : Prop :=
  (ok = true ∧ BeginGood fs m ds t en es cd rn rs ∧ ds' = ds.set t.toNat (newDK (dk ds t.toNat).sq en es cd rn rs) ∧ hT = t ∧ hS = (dk ds t.toNat).sq + 1) ∨ (ok = false ∧ ¬ BeginGood fs m ds t en es cd rn rs ∧ ds' = ds ∧ hT = 0 ∧ hS = 0)
theorem beginSays_one {fs : List Int} {m : Nat} {ds : List DK} {t : Int} {en : Nat} {es : List Int} {cd : Int} {rn : Nat} {rs : List Int} {d1 d2 : List DK} {t1 s1 t2 s2 : Int} {k1 k2 : Bool} (h : BeginSays fs m ds t en es cd rn rs d1 t1 s1 k1) (h' : BeginSays fs m ds t en es cd rn rs d2 t2 s2 k2) : d2 = d1 ∧ t2 = t1 ∧ s2 = s1 ∧ k2 = k1 := by
  rcases h with ⟨rfl, h1, rfl, rfl, rfl⟩ | ⟨rfl, h1, rfl, rfl, rfl⟩ <;> rcases h' with ⟨rfl, h2, rfl, rfl, rfl⟩ | ⟨rfl, h2, rfl, rfl, rfl⟩
  · exact ⟨rfl, rfl, rfl, rfl⟩
  · exact absurd h1 h2
  · exact absurd h2 h1
  · exact ⟨rfl, rfl, rfl, rfl⟩
theorem BeginSays.small {fs : List Int} {m : Nat} {ds : List DK} {t : Int} {en : Nat} {es : List Int} {cd : Int} {rn : Nat} {rs : List Int} {ds' : List DK} {hT hS : Int} {ok : Bool} {n : Nat} (h : BeginSays fs m ds t en es cd rn rs ds' hT hS ok) (hl : ds.length = n) (hs : Small n ds) (he : en ≤ 1048576) (hr : rn ≤ 1048576) : Small n ds' ∧ ds'.length = n := by
  rcases h with ⟨rfl, h1, rfl, _, _⟩ | ⟨rfl, h1, rfl, _, _⟩
  · refine ⟨fun i hi => ?_, by rw [List.length_set]; exact hl⟩
    rw [dk_set (by have := h1.2.1; omega)]
    split
    · exact ⟨he, hr⟩
    · exact hs i hi
  · exact ⟨hs, hl⟩
/-- A mark of the thread, as the program asks for it. -/
theorem marked_t {fs : List Int} {m : Nat} {ds : List DK} {t : Int} (h : MemGood fs m ds) (ht : 0 ≤ t) : (∃ i, i < m ∧ isT t (fs.getD (i * 3 + 1) 0) = true) ↔ Marked fs m t := by
  have key : ∀ i, i < m → 0 ≤ fs.getD (i * 3 + 1) 0 ∧ fs.getD (i * 3 + 1) 0 ≤ 4 := fun i hi => by
    have h1 := wordOkM_t (h.2.2.2 i hi).1
    have h2 := h.2.1
    constructor
    · exact h1.1
    · by_cases h0 : 0 < fs.getD (i * 3 + 1) 0
      · have := h1.2 h0; omega
      · omega
  constructor
  · rintro ⟨i, hi, h0⟩
    obtain ⟨h1, h2⟩ := key i hi
    unfold isT at h0
    simp only [Bool.and_eq_true, bne_iff_ne, ne_eq, beq_iff_eq] at h0
    obtain ⟨h3, h4⟩ := h0
    rw [IntKind.wrap_i64] at h4
    refine ⟨i, hi, by omega, .inr ?_⟩
    omega
  · rintro ⟨i, hi, h0, h3⟩
    obtain ⟨h1, h2⟩ := key i hi
    refine ⟨i, hi, ?_⟩
    unfold isT
    simp only [Bool.and_eq_true, bne_iff_ne, ne_eq, beq_iff_eq]
    rw [IntKind.wrap_i64]
    refine ⟨by omega, ?_⟩
    rcases h3 with h3 | h3
    · omega
    · omega
/-- Whether the memory can be met behind the step is a matter of the one Desc. -/
theorem memGood_put {fs : List Int} {m : Nat} {ds : List DK} {t : Nat} {D : DK} (h : MemGood fs m ds) (ht : t < ds.length) (hno : ¬ Marked fs m (t : Int)) : MemGood fs m (ds.set t D) ↔ DescGood D := by
  constructor
  · intro g
    have := g.2.2.1 t (by rw [List.length_set]; exact ht)
    rw [dk_set ht, if_pos rfl] at this
    exact this
  · intro g
    refine ⟨h.1, by rw [List.length_set]; exact h.2.1, fun i hi => ?_, fun i hi => ?_⟩
    · rw [List.length_set] at hi
      rw [dk_set ht]
      split
      · exact g
      · exact h.2.2.1 i hi
    · obtain ⟨h1, h2⟩ := h.2.2.2 i hi
      refine ⟨by rw [List.length_set]; exact h1, fun h0 => ?_⟩
      have hne : (fs.getD (i * 3 + 1) 0 - 1).toNat ≠ t := fun e => hno ⟨i, hi, h0, .inr (by omega)⟩
      rw [dk_set ht, if_neg hne]
      exact h2 h0
def putF (F : Nat → Value) (k : Nat) (V U : Value) : Nat → Value := fun a => if a = 2 + 2 * k then V else if a = 3 + 2 * k then U else F a
theorem putF_V {F : Nat → Value} {k : Nat} {V U : Value} : putF F k V U (2 + 2 * k) = V := by simp [putF]
theorem putF_U {F : Nat → Value} {k : Nat} {V U : Value} : putF F k V U (3 + 2 * k) = U := by
  unfold putF
  rw [if_neg (by omega), if_pos rfl]
theorem putF_ne {F : Nat → Value} {k a : Nat} {V U : Value} (h1 : a ≠ 2 + 2 * k) (h2 : a ≠ 3 + 2 * k) : putF F k V U a = F a := by
  unfold putF
  rw [if_neg h1, if_neg h2]
theorem atF_self {vs : List Value} {k : Nat} {D : DK} {V U : Value} (h : k * 5 + 4 < vs.length) : AtF (((((vs.set (k * 5) (I D.sq)).set (k * 5 + 1) (I D.st)).set (k * 5 + 2) V).set (k * 5 + 3) (I D.cd)).set (k * 5 + 4) U) k D V U := by
  refine ⟨?_, ?_, ?_, ?_, ?_⟩
  · rw [List.getElem?_set_ne (by omega), List.getElem?_set_ne (by omega), List.getElem?_set_ne (by omega), List.getElem?_set_ne (by omega), List.getElem?_set_self (by omega)]
  · rw [List.getElem?_set_ne (by omega), List.getElem?_set_ne (by omega), List.getElem?_set_ne (by omega), List.getElem?_set_self (by simp; omega)]
  · rw [List.getElem?_set_ne (by omega), List.getElem?_set_ne (by omega), List.getElem?_set_self (by simp; omega)]
  · rw [List.getElem?_set_ne (by omega), List.getElem?_set_self (by simp; omega)]
  · rw [List.getElem?_set_self (by simp; omega)]
/-- The world behind a store of a Desc. -/
abbrev put5 (w : World) (g k : Nat) (D : DK) (V U : Value) : World := ((((w.setCell ⟨g, k * 5, none⟩ (I D.sq)).setCell ⟨g, k * 5 + 1, none⟩ (I D.st)).setCell ⟨g, k * 5 + 2, none⟩ V).setCell ⟨g, k * 5 + 3, none⟩ (I D.cd)).setCell ⟨g, k * 5 + 4, none⟩ U
theorem put5_heap {w : World} {g k b : Nat} {D : DK} {V U : Value} (h : b ≠ g) : (put5 w g k D V U).heap[b]? = w.heap[b]? := by
  rw [Below.heap_setCell _ _ _ _ h, Below.heap_setCell _ _ _ _ h, Below.heap_setCell _ _ _ _ h, Below.heap_setCell _ _ _ _ h, Below.heap_setCell _ _ _ _ h]
theorem put5_far {w : World} {g k : Nat} {D : DK} {V U : Value} {base : Nat} {e : TypeId} {size n : Nat} {v : Value} {xs : List Value} (h : w.ownsRow base e size v n xs) (hne : v.ownBlock ≠ some g) : (put5 w g k D V U).ownsRow base e size v n xs :=
  owns_heap h fun b hb => put5_heap (fun e => hne (by rw [hb, e]))
theorem MemO.put {w : World} {B : Nat} {F : Nat → Value} {m : Nat} {fs : List Int} {n : Nat} {ds : List DK} {k g cap lo mid : Nat} {D : DK} {V U : Value} (h : MemO w B F m fs n ds) (hk : k < n) (hF1 : F 1 = .slice (some ⟨g, 0, none⟩) n cap)
    (hV : w.ownsRow B 84 3 V D.en (D.es.map I)) (hU : w.ownsRow B 3 1 U D.rn (D.rs.map I)) (hlt : ∀ a, a < 2 + 2 * n → ∀ b, (F a).ownBlock = some b → b < lo) (hVb : ∀ b, V.ownBlock = some b → lo ≤ b ∧ b < mid) (hUb : ∀ b, U.ownBlock = some b → mid ≤ b) (hlm : lo ≤ mid) :
    MemO (put5 w g k D V U) B (putF F k V U) m fs n (ds.set k D) := by
  obtain ⟨vs, hd, hat⟩ := h.descO.descs
  have hgl : g < lo := hlt 1 (by omega) g (by rw [hF1]; rfl)
  have hl := h.descO.len
  have nV : V.ownBlock ≠ some g := fun e => by have := (hVb g e).1; omega
  have nU : U.ownBlock ≠ some g := fun e => by have := hUb g e; omega
  have nF : ∀ a, a < 2 + 2 * n → a ≠ 1 → (F a).ownBlock ≠ some g := fun a ha h1 e => h.descO.sep a 1 ha (by omega) h1 g e (by rw [hF1]; rfl)
  have hvl : vs.length = n * 5 := hd.1
  rw [hF1] at hd
  refine ⟨?_, ⟨by rw [List.length_set]; exact hl, ⟨((((vs.set (k * 5) (I D.sq)).set (k * 5 + 1) (I D.st)).set (k * 5 + 2) V).set (k * 5 + 3) (I D.cd)).set (k * 5 + 4) U, ?_, fun i hi => ?_⟩, fun i hi => ?_, fun i hi => ?_, ?_⟩⟩
  · rw [putF_ne (by omega) (by omega)]
    exact put5_far h.words (nF 0 (by omega) (by omega))
  · rw [putF_ne (by omega) (by omega), hF1]
    exact (((((hd.stored _ (I D.sq)).1.stored _ (I D.st)).1.stored _ V).1.stored _ (I D.cd)).1.stored _ U).1
  · rw [dk_set (by omega)]
    by_cases e : i = k
    · subst e
      rw [if_pos rfl, putF_V, putF_U]
      exact atF_self (by omega)
    · rw [if_neg e, putF_ne (by omega) (by omega), putF_ne (by omega) (by omega)]
      exact (((((hat i hi).set (by omega) _).set (by omega) _).set (by omega) _).set (by omega) _).set (by omega) _
  · rw [dk_set (by omega)]
    by_cases e : i = k
    · subst e
      rw [if_pos rfl, putF_V]
      exact put5_far hV nV
    · rw [if_neg e, putF_ne (by omega) (by omega)]
      exact put5_far (h.descO.ents i hi) (nF _ (by omega) (by omega))
  · rw [dk_set (by omega)]
    by_cases e : i = k
    · subst e
      rw [if_pos rfl, putF_U]
      exact put5_far hU nU
    · rw [if_neg e, putF_ne (by omega) (by omega)]
      exact put5_far (h.descO.ints i hi) (nF _ (by omega) (by omega))
  · have key : ∀ a, a < 2 + 2 * n → ∀ b, (putF F k V U a).ownBlock = some b → (a = 2 + 2 * k ∧ lo ≤ b ∧ b < mid) ∨ (a = 3 + 2 * k ∧ mid ≤ b) ∨ ((F a).ownBlock = some b ∧ b < lo) := by
      intro a ha b hb
      by_cases e1 : a = 2 + 2 * k
      · subst e1
        rw [putF_V] at hb
        exact .inl ⟨rfl, hVb b hb⟩
      by_cases e2 : a = 3 + 2 * k
      · subst e2
        rw [putF_U] at hb
        exact .inr (.inl ⟨rfl, hUb b hb⟩)
      · rw [putF_ne e1 e2] at hb
        exact .inr (.inr ⟨hb, hlt a ha b hb⟩)
    intro a b ha hb hab c h1 h2
    rcases key a ha c h1 with ⟨e1, l1, l2⟩ | ⟨e1, l1⟩ | ⟨l1, l2⟩ <;> rcases key b hb c h2 with ⟨e3, l3, l4⟩ | ⟨e3, l3⟩ | ⟨l3, l4⟩ <;> first | omega | exact h.descO.sep a b ha hb hab c l1 l3
end Go.Proofs.Ytbdfopokimpeiaq
