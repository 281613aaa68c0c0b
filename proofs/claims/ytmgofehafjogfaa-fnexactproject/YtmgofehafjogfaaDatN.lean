/- A struct whose lists are marked: its parts, one by one. No program. -/
import Derived.Test.YtmgofehafjogfaaDatM
namespace Go.Proofs.Ytmgofehafjogfaa
open Go.ChangeShapes Go.WideShapes Go.ChangeAt Go.RowKit Go.Joins

/-- A struct's lists, marked; its own numbers stay. -/
def topL (tx : Int → ByteArray) : List Cel → Int → List Cel
  | [], _ => []
  | .l T k n cs :: r, q => .l T k n (markL tx cs q) :: topL tx r (q + (cntL cs : Int))
  | .i x :: r, q => .i x :: topL tx r q
  | .b x :: r, q => .b x :: topL tx r q
  | .s x :: r, q => .s x :: topL tx r q
def tcnt : List Cel → Nat
  | [] => 0
  | .l _ _ _ cs :: r => cntL cs + tcnt r
  | .i _ :: r => tcnt r
  | .b _ :: r => tcnt r
  | .s _ :: r => tcnt r
theorem OwnL.set {w : World} {b : Nat} {vs : List Value} {cs : List Cel} {S S' : Nat → Prop} (h : OwnL w b vs cs S) (hS : ∀ x, S x ↔ S' x) : OwnL w b vs cs S' := by
  obtain ⟨l, Ss, h1, h2, h3⟩ := h
  exact ⟨l, Ss, h1, h2, fun x => (hS x).symm.trans (h3 x)⟩
theorem OwnL.none {w : World} {b : Nat} {S : Nat → Prop} (h : OwnL w b [] [] S) : ∀ x, ¬ S x := fun x hx => by
  obtain ⟨_, Ss, _, _, h3⟩ := h
  obtain ⟨j, hj, _⟩ := (h3 x).1 hx
  simp at hj
theorem OwnL.one {w : World} {b : Nat} {v : Value} {c : Cel} {S : Nat → Prop} (h : OwnL w b [v] [c] S) : Own w b v c S := by
  obtain ⟨S0, S1, h0, h1, -, hS⟩ := h.parts
  exact h0.set fun x => ⟨fun hx => (hS x).2 (.inl hx), fun hx => ((hS x).1 hx).resolve_right (h1.none x)⟩
theorem Own.oneL {w : World} {b : Nat} {v : Value} {c : Cel} {S : Nat → Prop} (h : Own w b v c S) : OwnL w b [v] [c] S :=
  OwnL.cons h (OwnL.nil (S := fun _ => False) (fun _ h => h)) (fun _ _ h => h) (fun _ => by simp)
theorem OwnL.cut : ∀ {cs1 : List Cel} {vs1 vs2 : List Value} {cs2 : List Cel} {w : World} {b : Nat} {S : Nat → Prop}, vs1.length = cs1.length → OwnL w b (vs1 ++ vs2) (cs1 ++ cs2) S → ∃ S1 S2, OwnL w b vs1 cs1 S1 ∧ OwnL w b vs2 cs2 S2 ∧ (∀ x, S1 x → ¬ S2 x) ∧ ∀ x, S x ↔ S1 x ∨ S2 x
  | [], vs1, vs2, cs2, w, b, S, hl, h => by
    obtain rfl : vs1 = [] := List.length_eq_zero_iff.1 hl
    exact ⟨fun _ => False, S, OwnL.nil (fun _ h => h), h, fun _ h => h.elim, fun x => by simp⟩
  | c :: cs1, [], vs2, cs2, w, b, S, hl, h => by simp at hl
  | c :: cs1, v :: vs1, vs2, cs2, w, b, S, hl, h => by
    obtain ⟨S0, S', h0, h1, hd, hS⟩ := OwnL.parts h
    obtain ⟨S1, S2, g1, g2, gd, gS⟩ := OwnL.cut (cs1 := cs1) (vs1 := vs1) (by simpa using hl) h1
    refine ⟨fun x => S0 x ∨ S1 x, S2, OwnL.cons h0 g1 (fun x hx hx' => hd x hx ((gS x).2 (.inl hx'))) (fun _ => Iff.rfl), g2, fun x hx hx' => ?_, fun x => ?_⟩
    · rcases hx with hx | hx
      · exact hd x hx ((gS x).2 (.inr hx'))
      · exact gd x hx hx'
    · rw [hS x, gS x, or_assoc]
abbrev Part := List Value × List Cel × (Nat → Prop)
theorem owns_cut {w : World} {b : Nat} : ∀ {G : List (List Value × List Cel)} {S : Nat → Prop}, (∀ p ∈ G, p.1.length = p.2.length) → OwnL w b (G.flatMap (·.1)) (G.flatMap (·.2)) S →
    ∃ R : List Part, R.map (fun r => (r.1, r.2.1)) = G ∧ (∀ r ∈ R, OwnL w b r.1 r.2.1 r.2.2) ∧ R.Pairwise (fun p q => ∀ x, p.2.2 x → ¬ q.2.2 x) ∧ ∀ x, S x ↔ ∃ r ∈ R, r.2.2 x
  | [], S, _, h => ⟨[], rfl, fun r hr => by simp at hr, List.Pairwise.nil, fun x => ⟨fun hx => absurd hx (OwnL.none h x), fun ⟨r, hr, _⟩ => by simp at hr⟩⟩
  | (vs, cs) :: G, S, hG, h => by
    obtain ⟨S1, S2, g1, g2, gd, gS⟩ := OwnL.cut (hG (vs, cs) (by simp)) (by simpa using h)
    obtain ⟨R, e, o, d, u⟩ := owns_cut (fun p hp => hG p (by simp [hp])) g2
    refine ⟨(vs, cs, S1) :: R, by simp [e], fun r hr => ?_, List.pairwise_cons.2 ⟨fun r hr x hx hx' => gd x hx ((u x).2 ⟨r, hr, hx'⟩), d⟩, fun x => ?_⟩
    · rcases List.mem_cons.1 hr with rfl | hr
      · exact g1
      · exact o r hr
    · rw [gS x, u x]; simp
/-- While a struct's lists are marked. -/
structure Mg (w W : World) (base : Nat) (S : Nat → Prop) (A : Array Value) (T : TypeId) (R : List Part) : Prop where
  a : Box W w.heap.size A T
  on : Below 0 w W
  oth : ∀ x, x < w.heap.size → ¬ S x → W.heap[x]? = w.heap[x]?
  lt : ∀ x, S x → x < w.heap.size
  o : ∀ r ∈ R, OwnL W base r.1 r.2.1 r.2.2
  d : R.Pairwise (fun p q => ∀ x, p.2.2 x → ¬ q.2.2 x)
  u : ∀ x, S x ↔ ∃ r ∈ R, r.2.2 x
theorem mg_new {w : World} {base : Nat} {S : Nat → Prop} {R : List Part} (A : Array Value) (T : TypeId) (o : ∀ r ∈ R, OwnL w base r.1 r.2.1 r.2.2) (d : R.Pairwise (fun p q => ∀ x, p.2.2 x → ¬ q.2.2 x)) (u : ∀ x, S x ↔ ∃ r ∈ R, r.2.2 x) : Mg w (w.alloc (.cells A T)) base S A T R := by
  have hb : Below w.heap.size w (w.alloc (.cells A T)) := (Below.refl _ w).alloc (Nat.le_refl _) _
  exact ⟨box_of w A T, hb.mono (Nat.zero_le _), fun x hx _ => hb.block x hx, fun x hx => by
    obtain ⟨r, hr, hx⟩ := (u x).1 hx
    exact ((o r hr).lt x hx).2, fun r hr => (o r hr).on hb (Nat.le_refl _), d, u⟩
theorem Mg.step {w W W' : World} {base : Nat} {S Sf : Nat → Prop} {A : Array Value} {T : TypeId} {pre post : List Part} {vs : List Value} {cs cs' : List Cel} (h : Mg w W base S A T (pre ++ (vs, cs, Sf) :: post)) (ho : OwnL W' base vs cs' Sf) (hk : Kept Sf W W') : Mg w W' base S A T (pre ++ (vs, cs', Sf) :: post) := by
  have sub : ∀ x, Sf x → S x := fun x hx => (h.u x).2 ⟨(vs, cs, Sf), by simp, hx⟩
  have lt : ∀ x, x < w.heap.size → x < W.heap.size := fun x hx => Nat.lt_of_lt_of_le hx h.on.size
  have hd := List.pairwise_append.1 h.d
  have hd2 := List.pairwise_cons.1 hd.2.1
  refine ⟨?_, h.on.trans hk.on, fun x hx hn => (hk.oth x (lt x hx) fun hs => hn (sub x hs)).trans (h.oth x hx hn), h.lt, fun r hr => ?_, ?_, fun x => ?_⟩
  · exact (hk.oth _ h.a.lt fun hs => by have := h.lt _ (sub _ hs); omega).trans h.a
  · have keep : r ∈ pre ++ (vs, cs, Sf) :: post → (∀ x, r.2.2 x → ¬ Sf x) → OwnL W' base r.1 r.2.1 r.2.2 := fun hr hn => (h.o r hr).heap fun x hx => hk.oth x ((h.o r hr).lt x hx).2 (hn x hx)
    rcases List.mem_append.1 hr with hr | hr
    · exact keep (List.mem_append.2 (.inl hr)) (fun x hx => hd.2.2 r hr _ (List.mem_cons_self ..) x hx)
    · rcases List.mem_cons.1 hr with rfl | hr
      · exact ho
      · exact keep (List.mem_append.2 (.inr (List.mem_cons_of_mem _ hr))) (fun x hx hs => hd2.1 r hr x hs hx)
  · refine List.pairwise_append.2 ⟨hd.1, List.pairwise_cons.2 ⟨fun r hr => hd2.1 r hr, hd2.2⟩, fun r hr q hq => ?_⟩
    rcases List.mem_cons.1 hq with rfl | hq
    · exact hd.2.2 r hr (vs, cs, Sf) (List.mem_cons_self ..)
    · exact hd.2.2 r hr q (List.mem_cons_of_mem _ hq)
  · rw [h.u x]
    constructor
    · rintro ⟨r, hr, hx⟩
      rcases List.mem_append.1 hr with hr | hr
      · exact ⟨r, List.mem_append.2 (.inl hr), hx⟩
      · rcases List.mem_cons.1 hr with rfl | hr
        · exact ⟨(vs, cs', Sf), by simp, hx⟩
        · exact ⟨r, List.mem_append.2 (.inr (List.mem_cons_of_mem _ hr)), hx⟩
    · rintro ⟨r, hr, hx⟩
      rcases List.mem_append.1 hr with hr | hr
      · exact ⟨r, List.mem_append.2 (.inl hr), hx⟩
      · rcases List.mem_cons.1 hr with rfl | hr
        · exact ⟨(vs, cs, Sf), by simp, hx⟩
        · exact ⟨r, List.mem_append.2 (.inr (List.mem_cons_of_mem _ hr)), hx⟩
theorem Mg.at {w W : World} {base : Nat} {S Sf : Nat → Prop} {A : Array Value} {T : TypeId} {pre post : List Part} {vs : List Value} {cs : List Cel} (h : Mg w W base S A T (pre ++ (vs, cs, Sf) :: post)) : OwnL W base vs cs Sf := h.o (vs, cs, Sf) (by simp)
theorem Mg.all {w W : World} {base : Nat} {S : Nat → Prop} {A : Array Value} {T : TypeId} {R : List Part} (h : Mg w W base S A T R) : OwnL W base (R.flatMap (·.1)) (R.flatMap (·.2.1)) S ∧ Kept S w W := ⟨(owns_all h.o h.d).set fun x => (h.u x).symm, h.on, h.oth⟩
def MarkedL (tx : Int → ByteArray) (w : World) (base : Nat) (vs : List Value) (cs : List Cel) (S : Nat → Prop) (q : Int) (e : Ending) (w' : World) : Prop := e = .returned (.int .i64 (q + (tcnt cs : Int))) ∧ OwnL w' base vs (topL tx cs q) S ∧ Kept S w w'
end Go.Proofs.Ytmgofehafjogfaa
