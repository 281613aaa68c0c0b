/- Texts joined: DatM, DatN, DatD, DatO, MchC. -/
import Derived.Test.YtlkdjeneggfhgaaGreatDoorQR13
import Derived.Deep.RegionHeld3
import Derived.Deep.Cut
import Derived.Handy
import Derived.Deep.Slices
import Derived.Test.YtlkdjeneggfhgaaGreatDoorQR04
set_option maxHeartbeats 200000
set_option maxRecDepth 100000
namespace Go.Proofs.YtlkdjeneggfhgaaGreatDoor
section
open Go.ChangeShapes Go.WideShapes Go.ChangeAt Go.RowKit Go.Joins
structure Kept (S : Nat → Prop) (w w' : World) : Prop where
 on : Below 0 w w'
 oth : ∀ x, x < w.heap.size → ¬ S x → w'.heap[x]? = w.heap[x]?
theorem Kept.refl (S : Nat → Prop) (w : World) : Kept S w w := ⟨Below.refl _ _, fun _ _ _ => rfl⟩
theorem Kept.trans {S : Nat → Prop} {w w1 w2 : World} (h : Kept S w w1) (h' : Kept S w1 w2) : Kept S w w2 :=
 ⟨h.on.trans h'.on, fun x hx hS => (h'.oth x (Nat.lt_of_lt_of_le hx h.on.size) hS).trans (h.oth x hx hS)⟩
theorem Kept.mono {S S' : Nat → Prop} {w w' : World} (h : Kept S w w') (hS : ∀ x, S x → S' x) : Kept S' w w' := ⟨h.on, fun x hx hn => h.oth x hx fun hs => hn (hS x hs)⟩
theorem Kept.set {S : Nat → Prop} {w w' : World} (h : Kept S w w') {g i : Nat} (hg : S g) (v : Value) : Kept S w (w'.setCell ⟨g, i, none⟩ v) :=
 ⟨h.on.setCell (Nat.zero_le _) v, fun x hx hn => (Below.heap_setCell _ _ _ _ (fun e => by
   have e : x = g := e
   exact hn (by rw [e]; exact hg))).trans (h.oth x hx hn)⟩
theorem Kept.below {S : Nat → Prop} {w w' : World} (h : Kept S w w') {B : Nat} (hS : ∀ x, S x → B ≤ x) (hB : B ≤ w.heap.size) : Below B w w' :=
 ⟨h.on.os, h.on.tape, h.on.output, h.on.size, fun k hk => h.oth k (by omega) fun hs => by have := hS k hs; omega⟩
theorem cell_ne (w : World) {g i j : Nat} (h : i ≠ j) (u : Value) : (w.setCell ⟨g, i, none⟩ u).cell? ⟨g, j, none⟩ = w.cell? ⟨g, j, none⟩ := World.cell?_setCell_other _ _ _ _ (fun e => by simp only [Addr.mk.injEq] at e; omega)
theorem Own.lensL {w : World} {base : Nat} {g n cap : Nat} {T : TypeId} {k : Nat} {cs : List Cel} {S : Nat → Prop} (h : Own w base (.slice (some ⟨g, 0, none⟩) n cap) (.l T k n cs) S) {j : Nat} {c : Cel} (hc : cs[j]? = some c) :
   ∃ v Sj, w.cell? ⟨g, j, none⟩ = some v ∧ Own w base v c Sj ∧ (∀ x, Sj x → S x) ∧ ∀ w' c', Own w' base v c' Sj → (∀ x, S x → ¬ Sj x → w'.heap[x]? = w.heap[x]?) → Own w' base (.slice (some ⟨g, 0, none⟩) n cap) (.l T k n (cs.set j c')) S := by
 cases h with
 | l g cap T k n cs vs S Ss h1 h2 hn h4 h5 h6 h7 =>
   have hj : j < cs.length := (List.getElem?_eq_some_iff.1 hc).1
   have hl := h1.1
   have hv : vs[j]? = some (vs[j]'(by omega)) := List.getElem?_eq_getElem (by omega)
   have sub : ∀ i x, i < n * k → Ss i x → S x := fun i x hi hx => (h7 x).2 (.inr ⟨i, hi, hx⟩)
   refine ⟨_, Ss j, own_cellV h1 hv, h4 j _ _ hv hc, fun x => sub j x (by omega), fun w' c' ho he => ?_⟩
   refine .l g cap T k n _ vs S Ss (owns_heap h1 fun x hx => ?_) (by simpa using h2) hn (fun i v d hvi hdi => ?_) h5 h6 h7
   · cases hx
     exact he g ((h7 g).2 (.inl rfl)) (h5 j)
   · by_cases hij : j = i
     · subst hij
       rw [List.getElem?_set_self hj] at hdi
       cases hdi
       rw [hv] at hvi
       cases hvi
       exact ho
     · rw [List.getElem?_set_ne hij] at hdi
       have hi : i < n * k := by have := (List.getElem?_eq_some_iff.1 hvi).1; omega
       exact (h4 i v d hvi hdi).heap fun x hx => he x (sub i x hi hx) (h6 i j x (Ne.symm hij) hx)
theorem Own.put {w : World} {base : Nat} {g n cap : Nat} {T : TypeId} {k : Nat} {cs : List Cel} {S : Nat → Prop} (h : Own w base (.slice (some ⟨g, 0, none⟩) n cap) (.l T k n cs) S) {j : Nat} {c c' : Cel} (hc : cs[j]? = some c) (h0 : ∀ v Sj, Own w base v c Sj → ∀ x, ¬ Sj x) {u : Value} (hu : ∀ w' Sj, (∀ x, ¬ Sj x) → Own w' base u c' Sj) :
   Own (w.setCell ⟨g, j, none⟩ u) base (.slice (some ⟨g, 0, none⟩) n cap) (.l T k n (cs.set j c')) S := by
 cases h with
 | l g cap T k n cs vs S Ss h1 h2 hn h4 h5 h6 h7 =>
   have hj : j < cs.length := (List.getElem?_eq_some_iff.1 hc).1
   have hl := h1.1
   have hv : vs[j]? = some (vs[j]'(by omega)) := List.getElem?_eq_getElem (by omega)
   have hz := h0 _ _ (h4 j _ _ hv hc)
   refine .l g cap T k n _ (vs.set j u) S Ss (h1.stored j u).1 (by simpa using h2) hn (fun i v d hvi hdi => ?_) h5 h6 h7
   by_cases hij : j = i
   · subst hij
     rw [List.getElem?_set_self (by omega)] at hvi hdi
     cases hvi
     cases hdi
     exact hu _ _ hz
   · rw [List.getElem?_set_ne hij] at hvi hdi
     exact (h4 i v d hvi hdi).heap fun x hx => Below.heap_setCell _ _ _ _ (fun e => h5 i (by have e : x = g := e; rw [← e]; exact hx))
theorem own_i {w : World} {base : Nat} {y : Int} (v : Value) (Sj : Nat → Prop) (h : Own w base v (.i y) Sj) : ∀ x, ¬ Sj x := by cases h; assumption
theorem own_b {w : World} {base : Nat} {y : Bool} (v : Value) (Sj : Nat → Prop) (h : Own w base v (.b y) Sj) : ∀ x, ¬ Sj x := by cases h; assumption
theorem Own.putI {w : World} {base : Nat} {g n cap : Nat} {T : TypeId} {k : Nat} {cs : List Cel} {S : Nat → Prop} (h : Own w base (.slice (some ⟨g, 0, none⟩) n cap) (.l T k n cs) S) {j : Nat} {y : Int} (hc : cs[j]? = some (.i y)) (z : Int) :
   Own (w.setCell ⟨g, j, none⟩ (.int .i64 z)) base (.slice (some ⟨g, 0, none⟩) n cap) (.l T k n (cs.set j (.i z))) S := h.put hc own_i fun _ _ hS => .i z _ hS
theorem Own.putB {w : World} {base : Nat} {g n cap : Nat} {T : TypeId} {k : Nat} {cs : List Cel} {S : Nat → Prop} (h : Own w base (.slice (some ⟨g, 0, none⟩) n cap) (.l T k n cs) S) {j : Nat} {y : Bool} (hc : cs[j]? = some (.b y)) (z : Bool) :
   Own (w.setCell ⟨g, j, none⟩ (.bool z)) base (.slice (some ⟨g, 0, none⟩) n cap) (.l T k n (cs.set j (.b z))) S := h.put hc own_b fun _ _ hS => .b z _ hS
def Marked (tx : Int → ByteArray) (w : World) (base : Nat) (v : Value) (c : Cel) (S : Nat → Prop) (q : Int) (e : Ending) (w' : World) : Prop := e = .returned (.int .i64 (q + (c.cnt : Int))) ∧ Own w' base v (c.mark tx q) S ∧ Kept S w w'
theorem over_mid : ∀ (C A B : List Cel), C.length ≤ B.length → over (A ++ B) A.length C = A ++ C ++ B.drop C.length
 | [], A, B, _ => by simp [over]
 | c :: C, A, B, h => by
   match B, h with
   | [], h => simp at h
   | b :: B, h =>
     simp only [over]
     have e : (A ++ b :: B).set A.length c = (A ++ [c]) ++ B := by simp
     rw [e]
     have := over_mid C (A ++ [c]) B (by simpa using h)
     rw [List.length_append] at this
     simp only [List.length_singleton] at this
     rw [this]
     simp
theorem mark_row (tx : Int → ByteArray) {cs : List Cel} {k n j : Nat} (hl : cs.length = n * k) (hj : j < n) (q : Int) :
   over (markL tx (cs.take (j * k)) q ++ cs.drop (j * k)) (j * k) (markL tx (row cs k j) (q + (cntL (cs.take (j * k)) : Int))) = markL tx (cs.take ((j + 1) * k)) q ++ cs.drop ((j + 1) * k) := by
 have hle : j * k + k ≤ n * k := by rw [← Nat.succ_mul]; exact Nat.mul_le_mul_right k hj
 have hA : (markL tx (cs.take (j * k)) q).length = j * k := by rw [markL_len, List.length_take]; omega
 have := over_mid (markL tx (row cs k j) (q + (cntL (cs.take (j * k)) : Int))) (markL tx (cs.take (j * k)) q) (cs.drop (j * k)) (by rw [markL_len, rowL_len hl hj, List.length_drop]; omega)
 rw [hA] at this
 rw [this, markL_len, rowL_len hl hj, List.drop_drop, ← Nat.succ_mul, row_split, markL_append]
theorem mark_at (tx : Int → ByteArray) {cs : List Cel} {p i : Nat} (hp : p ≤ cs.length) (q : Int) : (markL tx (cs.take p) q ++ cs.drop p)[p + i]? = cs[p + i]? := by
 have hA : (markL tx (cs.take p) q).length = p := by rw [markL_len, List.length_take]; omega
 rw [List.getElem?_append_right (by omega), hA, List.getElem?_drop]
 congr 1; omega
theorem cnt_split {cs : List Cel} {k j : Nat} : cntL (cs.take ((j + 1) * k)) = cntL (cs.take (j * k)) + cntL (row cs k j) := by rw [row_split, cntL_append]
theorem cnt_le {cs : List Cel} {p : Nat} : cntL (cs.take p) ≤ cntL cs := by
 have := cntL_append (cs.take p) (cs.drop p)
 rw [List.take_append_drop] at this
 omega
theorem markL_drop (tx : Int → ByteArray) (cs : List Cel) (p : Nat) (q : Int) : (markL tx cs q).drop p = markL tx (cs.drop p) (q + (cntL (cs.take p) : Int)) := by
 by_cases hp : p ≤ cs.length
 · have h := markL_append tx (cs.take p) (cs.drop p) q
   rw [List.take_append_drop] at h
   rw [h, List.drop_left' (by rw [markL_len, List.length_take]; omega)]
 · rw [List.drop_eq_nil_of_le (by rw [markL_len]; omega), List.drop_eq_nil_of_le (by omega)]
   rfl
theorem markL_take (tx : Int → ByteArray) (cs : List Cel) (p : Nat) (q : Int) : (markL tx cs q).take p = markL tx (cs.take p) q := by
 by_cases hp : p ≤ cs.length
 · have h := markL_append tx (cs.take p) (cs.drop p) q
   rw [List.take_append_drop] at h
   rw [h, List.take_left' (by rw [markL_len, List.length_take]; omega)]
 · rw [List.take_of_length_le (by rw [markL_len]; omega), List.take_of_length_le (by omega)]
theorem row_mark (tx : Int → ByteArray) (cs : List Cel) (k j : Nat) (q : Int) : row (markL tx cs q) k j = markL tx (row cs k j) (q + (cntL (cs.take (j * k)) : Int)) := by
 unfold row
 rw [markL_drop, markL_take]
def SaysD (w : World) (x : Int) (e : Ending) (w' : World) : Prop := e = .returned (.int .i64 x) ∧ Below w.heap.size w w'
def topL (tx : Int → ByteArray) : List Cel → Int → List Cel
 | [], _ => []
 | .l T k n cs :: r, q => .l T k n (markL tx cs q) :: topL tx r (q + (cntL cs : Int))
 | .i x :: r, q => .i x :: topL tx r q
 | .b x :: r, q => .b x :: topL tx r q
 | .s x :: r, q => .s x :: topL tx r q
def tcnt : List Cel → Nat
 | [] => 0
 | .l _ _ _ cs :: r => cntL cs + tcnt r
 | .i _ :: r => tcnt r
 | .b _ :: r => tcnt r
 | .s _ :: r => tcnt r
theorem OwnL.set {w : World} {b : Nat} {vs : List Value} {cs : List Cel} {S S' : Nat → Prop} (h : OwnL w b vs cs S) (hS : ∀ x, S x ↔ S' x) : OwnL w b vs cs S' := by
 obtain ⟨l, Ss, h1, h2, h3⟩ := h
 exact ⟨l, Ss, h1, h2, fun x => (hS x).symm.trans (h3 x)⟩
theorem OwnL.none {w : World} {b : Nat} {S : Nat → Prop} (h : OwnL w b [] [] S) : ∀ x, ¬ S x := fun x hx => by
 obtain ⟨_, Ss, _, _, h3⟩ := h
 obtain ⟨j, hj, _⟩ := (h3 x).1 hx
 simp at hj
theorem OwnL.one {w : World} {b : Nat} {v : Value} {c : Cel} {S : Nat → Prop} (h : OwnL w b [v] [c] S) : Own w b v c S := by
 obtain ⟨S0, S1, h0, h1, -, hS⟩ := h.parts
 exact h0.set fun x => ⟨fun hx => (hS x).2 (.inl hx), fun hx => ((hS x).1 hx).resolve_right (h1.none x)⟩
theorem Own.oneL {w : World} {b : Nat} {v : Value} {c : Cel} {S : Nat → Prop} (h : Own w b v c S) : OwnL w b [v] [c] S :=
 OwnL.cons h (OwnL.nil (S := fun _ => False) (fun _ h => h)) (fun _ _ h => h) (fun _ => by simp)
theorem OwnL.cut : ∀ {cs1 : List Cel} {vs1 vs2 : List Value} {cs2 : List Cel} {w : World} {b : Nat} {S : Nat → Prop}, vs1.length = cs1.length → OwnL w b (vs1 ++ vs2) (cs1 ++ cs2) S → ∃ S1 S2, OwnL w b vs1 cs1 S1 ∧ OwnL w b vs2 cs2 S2 ∧ (∀ x, S1 x → ¬ S2 x) ∧ ∀ x, S x ↔ S1 x ∨ S2 x
 | [], vs1, vs2, cs2, w, b, S, hl, h => by
   obtain rfl : vs1 = [] := List.length_eq_zero_iff.1 hl
   exact ⟨fun _ => False, S, OwnL.nil (fun _ h => h), h, fun _ h => h.elim, fun x => by simp⟩
 | c :: cs1, [], vs2, cs2, w, b, S, hl, h => by simp at hl
 | c :: cs1, v :: vs1, vs2, cs2, w, b, S, hl, h => by
   obtain ⟨S0, S', h0, h1, hd, hS⟩ := OwnL.parts h
   obtain ⟨S1, S2, g1, g2, gd, gS⟩ := OwnL.cut (cs1 := cs1) (vs1 := vs1) (by simpa using hl) h1
   refine ⟨fun x => S0 x ∨ S1 x, S2, OwnL.cons h0 g1 (fun x hx hx' => hd x hx ((gS x).2 (.inl hx'))) (fun _ => Iff.rfl), g2, fun x hx hx' => ?_, fun x => ?_⟩
   · rcases hx with hx | hx
     · exact hd x hx ((gS x).2 (.inr hx'))
     · exact gd x hx hx'
   · rw [hS x, gS x, or_assoc]
abbrev Part := List Value × List Cel × (Nat → Prop)
theorem owns_cut {w : World} {b : Nat} : ∀ {G : List (List Value × List Cel)} {S : Nat → Prop}, (∀ p ∈ G, p.1.length = p.2.length) → OwnL w b (G.flatMap (·.1)) (G.flatMap (·.2)) S →
   ∃ R : List Part, R.map (fun r => (r.1, r.2.1)) = G ∧ (∀ r ∈ R, OwnL w b r.1 r.2.1 r.2.2) ∧ R.Pairwise (fun p q => ∀ x, p.2.2 x → ¬ q.2.2 x) ∧ ∀ x, S x ↔ ∃ r ∈ R, r.2.2 x
 | [], S, _, h => ⟨[], rfl, fun r hr => by simp at hr, List.Pairwise.nil, fun x => ⟨fun hx => absurd hx (OwnL.none h x), fun ⟨r, hr, _⟩ => by simp at hr⟩⟩
 | (vs, cs) :: G, S, hG, h => by
   obtain ⟨S1, S2, g1, g2, gd, gS⟩ := OwnL.cut (hG (vs, cs) (by simp)) (by simpa using h)
   obtain ⟨R, e, o, d, u⟩ := owns_cut (fun p hp => hG p (by simp [hp])) g2
   refine ⟨(vs, cs, S1) :: R, by simp [e], fun r hr => ?_, List.pairwise_cons.2 ⟨fun r hr x hx hx' => gd x hx ((u x).2 ⟨r, hr, hx'⟩), d⟩, fun x => ?_⟩
   · rcases List.mem_cons.1 hr with rfl | hr
     · exact g1
     · exact o r hr
   · rw [gS x, u x]; simp
structure Mg (w W : World) (base : Nat) (S : Nat → Prop) (A : Array Value) (T : TypeId) (R : List Part) : Prop where
 a : Box W w.heap.size A T
 on : Below 0 w W
 oth : ∀ x, x < w.heap.size → ¬ S x → W.heap[x]? = w.heap[x]?
 lt : ∀ x, S x → x < w.heap.size
 o : ∀ r ∈ R, OwnL W base r.1 r.2.1 r.2.2
 d : R.Pairwise (fun p q => ∀ x, p.2.2 x → ¬ q.2.2 x)
 u : ∀ x, S x ↔ ∃ r ∈ R, r.2.2 x
theorem mg_new {w : World} {base : Nat} {S : Nat → Prop} {R : List Part} (A : Array Value) (T : TypeId) (o : ∀ r ∈ R, OwnL w base r.1 r.2.1 r.2.2) (d : R.Pairwise (fun p q => ∀ x, p.2.2 x → ¬ q.2.2 x)) (u : ∀ x, S x ↔ ∃ r ∈ R, r.2.2 x) : Mg w (w.alloc (.cells A T)) base S A T R := by
 have hb : Below w.heap.size w (w.alloc (.cells A T)) := (Below.refl _ w).alloc (Nat.le_refl _) _
 exact ⟨box_of w A T, hb.mono (Nat.zero_le _), fun x hx _ => hb.block x hx, fun x hx => by
   obtain ⟨r, hr, hx⟩ := (u x).1 hx
   exact ((o r hr).lt x hx).2, fun r hr => (o r hr).on hb (Nat.le_refl _), d, u⟩
theorem Mg.step {w W W' : World} {base : Nat} {S Sf : Nat → Prop} {A : Array Value} {T : TypeId} {pre post : List Part} {vs : List Value} {cs cs' : List Cel} (h : Mg w W base S A T (pre ++ (vs, cs, Sf) :: post)) (ho : OwnL W' base vs cs' Sf) (hk : Kept Sf W W') : Mg w W' base S A T (pre ++ (vs, cs', Sf) :: post) := by
 have sub : ∀ x, Sf x → S x := fun x hx => (h.u x).2 ⟨(vs, cs, Sf), by simp, hx⟩
 have lt : ∀ x, x < w.heap.size → x < W.heap.size := fun x hx => Nat.lt_of_lt_of_le hx h.on.size
 have hd := List.pairwise_append.1 h.d
 have hd2 := List.pairwise_cons.1 hd.2.1
 refine ⟨?_, h.on.trans hk.on, fun x hx hn => (hk.oth x (lt x hx) fun hs => hn (sub x hs)).trans (h.oth x hx hn), h.lt, fun r hr => ?_, ?_, fun x => ?_⟩
 · exact (hk.oth _ h.a.lt fun hs => by have := h.lt _ (sub _ hs); omega).trans h.a
 · have keep : r ∈ pre ++ (vs, cs, Sf) :: post → (∀ x, r.2.2 x → ¬ Sf x) → OwnL W' base r.1 r.2.1 r.2.2 := fun hr hn => (h.o r hr).heap fun x hx => hk.oth x ((h.o r hr).lt x hx).2 (hn x hx)
   rcases List.mem_append.1 hr with hr | hr
   · exact keep (List.mem_append.2 (.inl hr)) (fun x hx => hd.2.2 r hr _ (List.mem_cons_self ..) x hx)
   · rcases List.mem_cons.1 hr with rfl | hr
     · exact ho
     · exact keep (List.mem_append.2 (.inr (List.mem_cons_of_mem _ hr))) (fun x hx hs => hd2.1 r hr x hs hx)
 · refine List.pairwise_append.2 ⟨hd.1, List.pairwise_cons.2 ⟨fun r hr => hd2.1 r hr, hd2.2⟩, fun r hr q hq => ?_⟩
   rcases List.mem_cons.1 hq with rfl | hq
   · exact hd.2.2 r hr (vs, cs, Sf) (List.mem_cons_self ..)
   · exact hd.2.2 r hr q (List.mem_cons_of_mem _ hq)
 · rw [h.u x]
   constructor
   · rintro ⟨r, hr, hx⟩
     rcases List.mem_append.1 hr with hr | hr
     · exact ⟨r, List.mem_append.2 (.inl hr), hx⟩
     · rcases List.mem_cons.1 hr with rfl | hr
       · exact ⟨(vs, cs', Sf), by simp, hx⟩
       · exact ⟨r, List.mem_append.2 (.inr (List.mem_cons_of_mem _ hr)), hx⟩
   · rintro ⟨r, hr, hx⟩
     rcases List.mem_append.1 hr with hr | hr
     · exact ⟨r, List.mem_append.2 (.inl hr), hx⟩
     · rcases List.mem_cons.1 hr with rfl | hr
       · exact ⟨(vs, cs, Sf), by simp, hx⟩
       · exact ⟨r, List.mem_append.2 (.inr (List.mem_cons_of_mem _ hr)), hx⟩
theorem Mg.at {w W : World} {base : Nat} {S Sf : Nat → Prop} {A : Array Value} {T : TypeId} {pre post : List Part} {vs : List Value} {cs : List Cel} (h : Mg w W base S A T (pre ++ (vs, cs, Sf) :: post)) : OwnL W base vs cs Sf := h.o (vs, cs, Sf) (by simp)
theorem Mg.all {w W : World} {base : Nat} {S : Nat → Prop} {A : Array Value} {T : TypeId} {R : List Part} (h : Mg w W base S A T R) : OwnL W base (R.flatMap (·.1)) (R.flatMap (·.2.1)) S ∧ Kept S w W := ⟨(owns_all h.o h.d).set fun x => (h.u x).symm, h.on, h.oth⟩
def MarkedL (tx : Int → ByteArray) (w : World) (base : Nat) (vs : List Value) (cs : List Cel) (S : Nat → Prop) (q : Int) (e : Ending) (w' : World) : Prop := e = .returned (.int .i64 (q + (tcnt cs : Int))) ∧ OwnL w' base vs (topL tx cs q) S ∧ Kept S w w'
set_option linter.unusedSimpArgs false
def tyOp : List Ty := [(.i), (.i), (.i)]
def tyPair : List Ty := [(.i), (.i)]
def tyHelp : List Ty := [(.i), (.i), (.i), (.i)]
def tyEntry : List Ty := [(.i), (.i), (.i)]
def tyWord : List Ty := [(.i), (.i), (.i)]
def tyRes : List Ty := [(.i), (.l 3 1 [.i])]
def tyRows : List Ty := [(.l 3 1 [.i]), (.i)]
def tyThread : List Ty := [(.l 59 3 tyOp), (.i), (.b), (.l 161 2 tyPair), (.l 163 4 tyHelp)]
def tyDesc : List Ty := [(.i), (.i), (.l 154 3 tyEntry), (.i), (.l 3 1 [.i])]
def tyMem : List Ty := [(.l 151 3 tyWord), (.l 149 5 tyDesc)]
def tyCall : List Ty := [(.i), (.i), (.i), (.i), (.i), (.i), (.i), (.i), (.l 3 1 [.i])]
def tyMachine : List Ty := [(.l 151 3 tyWord), (.l 149 5 tyDesc), (.l 107 5 tyThread), (.i), (.l 63 9 tyCall), (.l 3 1 [.i]), (.l 3 1 [.i]), (.i)]
inductive Flat (P : Program) : TypeId → List Ty → Prop
 | i (t : TypeId) (h : P.underlying t = some (.int .i64)) : Flat P t [.i]
 | b (t : TypeId) (h : P.underlying t = some .bool) : Flat P t [.b]
 | s (t : TypeId) (h : P.underlying t = some .string) : Flat P t [.s]
 | l (t e T : TypeId) (k : Nat) (fs : List Ty) (h : P.underlying t = some (.slice e)) (hk : fs.length = k) (hk0 : 0 < k) (hc : P.cellsOf e = k) (hf : Flat P e fs) : Flat P t [.l T k fs]
 | st (t : TypeId) (Fs : Array Field) (gs : List (List Ty)) (h : P.underlying t = some (.struct Fs)) (hl : gs.length = Fs.size) (hc : P.cellsOf t = gs.flatten.length)
     (ho : ∀ (i : Nat) (f : Field) (g : List Ty), Fs[i]? = some f → gs[i]? = some g → f.offset = (gs.take i).flatten.length ∧ P.cellsOf f.type = g.length) (hf : ∀ (i : Nat) (f : Field) (g : List Ty), Fs[i]? = some f → gs[i]? = some g → Flat P f.type g) : Flat P t gs.flatten
theorem InL.app {w : World} : ∀ {vs : List Value} {cs : List Cel} {vs' : List Value} {cs' : List Cel}, InL w vs cs → InL w vs' cs' → InL w (vs ++ vs') (cs ++ cs')
 | vs, [], _, _, h, h' => by obtain rfl := h.nilE; exact h'
 | vs, c :: cs, _, _, h, h' => by
   obtain ⟨v, vs, rfl, h0, h1⟩ := h.consE
   exact InL.cons h0 (InL.app h1 h')
theorem HasL.mk {c : Cel} {t : Ty} {cs : List Cel} {fs : List Ty} (h : Has c t) (hs : HasL cs fs) : HasL (c :: cs) (t :: fs) := by
 refine ⟨by simp [hs.1], fun j c' t' hc ht => ?_⟩
 cases j with
 | zero => simp at hc ht; subst hc ht; exact h
 | succ j => simp at hc ht; exact hs.2 j c' t' hc ht
theorem HasL.none : HasL [] [] := ⟨rfl, fun j c t hc _ => by simp at hc⟩
theorem HasL.app : ∀ {cs : List Cel} {fs : List Ty} {cs' : List Cel} {fs' : List Ty}, HasL cs fs → HasL cs' fs' → HasL (cs ++ cs') (fs ++ fs')
 | cs, [], _, _, h, h' => by obtain rfl := h.nil; exact h'
 | cs, t :: fs, _, _, h, h' => by
   obtain ⟨c, cs, rfl, h0, h1⟩ := h.cons
   exact HasL.mk h0 (HasL.app h1 h')
inductive WfC : Cel → Prop
 | i (x : Int) (h : (Lit.int .i64 x).wf = true) : WfC (.i x)
 | b (x : Bool) : WfC (.b x)
 | s (x : ByteArray) : WfC (.s x)
 | l (T : TypeId) (k n : Nat) (cs : List Cel) (h : ∀ (j : Nat) (c : Cel), cs[j]? = some c → WfC c) : WfC (.l T k n cs)
def WfL (ds : List Cel) : Prop := ∀ (j : Nat) (c : Cel), ds[j]? = some c → WfC c
theorem WfL.nil : WfL [] := fun j c h => by simp at h
theorem WfL.cons {c : Cel} {ds : List Cel} (h : WfC c) (hs : WfL ds) : WfL (c :: ds) := fun j d hd => by
 cases j with
 | zero => simp at hd; subst hd; exact h
 | succ j => exact hs j d (by simpa using hd)
theorem WfL.app {ds es : List Cel} (h : WfL ds) (h' : WfL es) : WfL (ds ++ es) := fun j c hc => by
 by_cases hj : j < ds.length
 · rw [List.getElem?_append_left hj] at hc; exact h j c hc
 · rw [List.getElem?_append_right (by omega)] at hc; exact h' _ c hc
theorem parts_in {W : World} : ∀ (gs : List (List Ty)) (cs : List Value), cs.length = gs.flatten.length → (∀ (i : Nat) (g : List Ty), gs[i]? = some g → ∃ d, InL W ((cs.drop (gs.take i).flatten.length).take g.length) d ∧ HasL d g ∧ WfL d) → ∃ ds, InL W cs ds ∧ HasL ds gs.flatten ∧ WfL ds
 | [], cs, hl, _ => by
   obtain rfl : cs = [] := List.length_eq_zero_iff.1 (by simpa using hl)
   exact ⟨[], InL.nil, HasL.none, WfL.nil⟩
 | g :: gs, cs, hl, h => by
   simp only [List.flatten_cons, List.length_append] at hl
   obtain ⟨d, h1, h2, h3⟩ := h 0 g rfl
   obtain ⟨ds, g1, g2, g3⟩ := parts_in gs (cs.drop g.length) (by rw [List.length_drop]; omega) (fun i g' hg => by
     have := h (i + 1) g' (by simpa using hg)
     simpa [List.drop_drop] using this)
   refine ⟨d ++ ds, ?_, ?_, h3.app g3⟩
   · have := InL.app h1 g1
     simpa using this
   · simpa using HasL.app h2 g2
theorem flat_len {α : Type} {f : Nat → List α} {k : Nat} : ∀ (n : Nat), (∀ i, i < n → (f i).length = k) → ((List.range n).flatMap f).length = n * k
 | 0, _ => by simp
 | n + 1, h => by
   rw [List.range_succ, List.flatMap_append, List.length_append, flat_len n (fun i hi => h i (by omega))]
   simp [h n (by omega), Nat.succ_mul]
theorem flat_at {α : Type} {f : Nat → List α} {k : Nat} : ∀ (n : Nat), (∀ i, i < n → (f i).length = k) → ∀ i r, i < n → r < k → ((List.range n).flatMap f)[i * k + r]? = (f i)[r]?
 | 0, _, i, _, hi, _ => by omega
 | n + 1, h, i, r, hi, hr => by
   have hl := flat_len n (fun i hi => h i (by omega)) (f := f)
   rw [List.range_succ, List.flatMap_append]
   by_cases hin : i < n
   · have hle : i * k + k ≤ n * k := by rw [← Nat.succ_mul]; exact Nat.mul_le_mul_right k hin
     rw [List.getElem?_append_left (by omega)]
     exact flat_at n (fun i hi => h i (by omega)) i r hin hr
   · obtain rfl : i = n := by omega
     rw [List.getElem?_append_right (by omega), hl, Nat.add_sub_cancel_left]
     simp
theorem spot_none {w : World} {a : Addr} {v : Value} (h : w.cell? a = some v) : a.spot = none := by
 unfold World.cell? at h
 split at h
 · split at h
   · cases h
   · rename_i hs
     cases e : a.spot with
     | none => rfl
     | some x => rw [e] at hs; exact absurd rfl hs
 · cases h
theorem open_flat {H : Type} {enc : TypeId × Value → H} {P : Program} {W : World} {base : Nat} {held : Bool} {t : TypeId} {fs : List Ty} (hf : Flat P t fs) : ∀ {fuel : Nat} {cs : List Value} {x : DataW H × List MemPlace}, DataW.trod enc P W base (fun _ => true) held fuel t cs = some x → ∃ ds, InL W cs ds ∧ HasL ds fs ∧ WfL ds := by
 induction hf with
 | i t h =>
   intro fuel cs x hx
   obtain ⟨z, rfl, _, hz⟩ := DataW.trod_int h hx
   exact ⟨[.i z], InL.cons (.i z) InL.nil, HasL.mk (.i z) HasL.none, WfL.cons (.i z hz) WfL.nil⟩
 | b t h =>
   intro fuel cs x hx
   obtain ⟨z, rfl, _⟩ := DataW.trod_bool h hx
   exact ⟨[.b z], InL.cons (.b z) InL.nil, HasL.mk (.b z) HasL.none, WfL.cons (.b z) WfL.nil⟩
 | s t h =>
   intro fuel cs x hx
   obtain ⟨z, rfl, _, _⟩ := DataW.trod_string h hx
   exact ⟨[.s z], InL.cons (.s z) InL.nil, HasL.mk (.s z) HasL.none, WfL.cons (.s z) WfL.nil⟩
 | l t e T k fs h hk hk0 hc hf ih =>
   intro fuel cs x hx
   rcases Go.Deep.open_slice h hx with ⟨rfl, _⟩ | ⟨a, len, cap, m, fu, D, Pl, rfl, hb, hl, hm, hmm, _, hx⟩
   · exact ⟨[.l T k 0 []], InL.cons (.l none T k 0 0 [] [] (by simp) (by simp) (by omega) (.inl rfl) (fun j v c hv _ => by simp at hv)) InL.nil, HasL.mk (.l T k 0 [] fs hk (by simp) (fun j c t hc _ => by simp at hc)) HasL.none, WfL.cons (.l T k 0 [] (fun j c h => by simp at h)) WfL.nil⟩
   · have hlm : len ≤ m := by rw [hmm]; split <;> omega
     have each : ∀ i, i < len → ∃ z : List Value × List Cel, z.1.length = k ∧ (∀ r, r < k → W.cell? (a.add (i * k + r)) = z.1[r]?) ∧ InL W z.1 z.2 ∧ HasL z.2 fs ∧ WfL z.2 := by
       intro i hi
       obtain ⟨cs', h1, h2⟩ := hx i (by omega)
       rw [hc] at h1
       obtain ⟨_, hlen, hcell⟩ := World.cells?_some h1
       obtain ⟨ds, g1, g2, g3⟩ := ih h2
       refine ⟨(cs', ds), hlen, fun r hr => ?_, g1, g2, g3⟩
       have := hcell r (by omega)
       rw [Go.Deep.add_add] at this
       rw [this, List.getElem?_eq_getElem (by omega)]
     obtain ⟨z, hz⟩ := Go.Deep.choose_lt each
     have l1 : ∀ i, i < len → (z i).1.length = k := fun i hi => (hz i hi).1
     have l2 : ∀ i, i < len → (z i).2.length = k := fun i hi => by rw [(hz i hi).2.2.2.1.1, hk]
     refine ⟨[.l T k len ((List.range len).flatMap fun i => (z i).2)], InL.cons (.l (some a) T k len cap _ ((List.range len).flatMap fun i => (z i).1) (flat_len len l1) (flat_len len l2) (by unfold maxLen at hm; omega) ?_ (fun j v c hv hc => ?_)) InL.nil, HasL.mk (.l T k len _ fs hk (flat_len len l2) (fun j c t hc ht => ?_)) HasL.none, WfL.cons (.l T k len _ (fun j c hc => ?_)) WfL.nil⟩
     · by_cases h0 : len = 0
       · exact .inl h0
       · have hc0 := (hz 0 (by omega)).2.1 0 (by omega)
         rw [List.getElem?_eq_getElem (by rw [l1 0 (by omega)]; omega)] at hc0
         have hs := spot_none hc0
         obtain ⟨bl, off, sp⟩ := a
         have hs : sp = none := by simpa [Addr.add] using hs
         subst hs
         refine .inr ⟨bl, off, rfl, fun j hj => ?_⟩
         have hjd : j = (j / k) * k + j % k := by rw [Nat.mul_comm]; exact (Nat.div_add_mod j k).symm
         have hd : j / k < len := Nat.div_lt_of_lt_mul (by rwa [Nat.mul_comm])
         have hm' : j % k < k := Nat.mod_lt _ (by omega)
         have := (hz (j / k) hd).2.1 (j % k) hm'
         rw [← hjd] at this
         rw [show (⟨bl, off, none⟩ : Addr).add j = ⟨bl, off + j, none⟩ by simp [Addr.add]] at this
         rw [this]
         conv => rhs; rw [hjd]
         exact (flat_at len l1 _ _ hd hm').symm
     · have hj : j < len * k := by have := (List.getElem?_eq_some_iff.1 hv).1; rwa [flat_len len l1] at this
       have hjd : j = (j / k) * k + j % k := by rw [Nat.mul_comm]; exact (Nat.div_add_mod j k).symm
       have hd : j / k < len := Nat.div_lt_of_lt_mul (by rwa [Nat.mul_comm])
       have hm' : j % k < k := Nat.mod_lt _ hk0
       rw [hjd, flat_at len l1 _ _ hd hm'] at hv
       rw [hjd, flat_at len l2 _ _ hd hm'] at hc
       exact (hz (j / k) hd).2.2.1.2 _ v c hv hc
     · have hj : j < len * k := by have := (List.getElem?_eq_some_iff.1 hc).1; rwa [flat_len len l2] at this
       have hjd : j = (j / k) * k + j % k := by rw [Nat.mul_comm]; exact (Nat.div_add_mod j k).symm
       have hd : j / k < len := Nat.div_lt_of_lt_mul (by rwa [Nat.mul_comm])
       have hm' : j % k < k := Nat.mod_lt _ hk0
       rw [hjd, flat_at len l2 _ _ hd hm'] at hc
       exact (hz (j / k) hd).2.2.2.1.2 _ c t hc ht
     · have hj : j < len * k := by have := (List.getElem?_eq_some_iff.1 hc).1; rwa [flat_len len l2] at this
       have hjd : j = (j / k) * k + j % k := by rw [Nat.mul_comm]; exact (Nat.div_add_mod j k).symm
       have hd : j / k < len := Nat.div_lt_of_lt_mul (by rwa [Nat.mul_comm])
       have hm' : j % k < k := Nat.mod_lt _ hk0
       rw [hjd, flat_at len l2 _ _ hd hm'] at hc
       exact (hz (j / k) hd).2.2.2.2 _ c hc
 | st t Fs gs h hl hc ho hf ih =>
   intro fuel cs x hx
   obtain ⟨xs, n, _, _, hlen, hxl, hxf⟩ := DataW.trod_struct h hx
   refine parts_in gs cs (by omega) fun i g hg => ?_
   have hi : i < Fs.size := by have := (List.getElem?_eq_some_iff.1 hg).1; omega
   have hF : Fs[i]? = some Fs[i] := Array.getElem?_eq_getElem hi
   have h1 := hxf i _ hF
   rw [(ho i _ g hF hg).1, (ho i _ g hF hg).2, List.getElem?_eq_getElem (by omega)] at h1
   exact ih i _ g hF hg h1
theorem open_st {H : Type} {enc : TypeId × Value → H} {P : Program} {W : World} {base b0 : Nat} {held : Bool} {t : TypeId} {Fs : Array Field} {fs : List Ty} {v : Value} {d : DataW H} {p : List MemPlace} (hu : P.underlying t = some (.struct Fs)) (hf : Flat P t fs)
   (hv : Value.okWide P W .any b0 t v) (h : DataW.Trod enc P W base (fun _ => true) held t v d p) : ∃ vs ds, v = .agg vs.toArray ∧ InL W vs ds ∧ HasL ds fs ∧ WfL ds := by
 obtain ⟨cs, rfl, _⟩ := okWide_struct hu hv
 obtain ⟨fuel, hx⟩ := h
 obtain ⟨ds, h1, h2, h3⟩ := open_flat hf hx
 exact ⟨cs.toList, ds, by simp, by simpa [Value.cells] using h1, h2, h3⟩
def numC : Cel → Int
 | .i x => x
 | _ => 0
def boolC : Cel → Bool
 | .b x => x
 | _ => false
def lenC : Cel → Nat
 | .l _ _ n _ => n
 | _ => 0
def listC : Cel → List Cel
 | .l _ _ _ cs => cs
 | _ => []
def nums (cs : List Cel) : List Int := cs.map numC
def nthC (cs : List Cel) (i : Nat) : Cel := cs.getD i (.i 0)
def thD (r : List Cel) : ThD := ⟨lenC (nthC r 0), nums (listC (nthC r 0)), numC (nthC r 1), boolC (nthC r 2), lenC (nthC r 3), nums (listC (nthC r 3)), lenC (nthC r 4), nums (listC (nthC r 4))⟩
def caD (r : List Cel) : CaD := ⟨numC (nthC r 0), numC (nthC r 1), numC (nthC r 2), numC (nthC r 3), numC (nthC r 4), numC (nthC r 5), numC (nthC r 6), numC (nthC r 7)⟩
def dkD (r : List Cel) : DK := ⟨numC (nthC r 0), numC (nthC r 1), lenC (nthC r 2), nums (listC (nthC r 2)), numC (nthC r 3), lenC (nthC r 4), nums (listC (nthC r 4))⟩
def maD (cs : List Cel) : MaD where
 nw := lenC (nthC cs 0)
 ws := nums (listC (nthC cs 0))
 nd := lenC (nthC cs 1)
 ds := (List.range (lenC (nthC cs 1))).map fun i => dkD (row (listC (nthC cs 1)) 5 i)
 nt := lenC (nthC cs 2)
 ts := fun i => thD (row (listC (nthC cs 2)) 5 i)
 tm := numC (nthC cs 3)
 nc := lenC (nthC cs 4)
 f := fun i => caD (row (listC (nthC cs 4)) 9 i)
 no := lenC (nthC cs 5)
 os := nums (listC (nthC cs 5))
 nh := lenC (nthC cs 6)
 hs := nums (listC (nthC cs 6))
 st := numC (nthC cs 7)
def Ty.isI : Ty → Bool
 | .i => true
 | _ => false
theorem at_kAt {q : Bool} {w : World} {a : Option Addr} {n c k : Nat} {T : TypeId} {cs : List Cel} {fs : List Ty} (h : At q w (.slice a n c) (.l T k n cs)) (hs : Has (.l T k n cs) (.l T k fs)) (hf : ∀ t ∈ fs, t = .i) : KAt k w a n (nums cs) := by
 obtain ⟨a', c', vs, e, h1, h2, hn, -, h3, h4⟩ := h.openL
 cases e
 refine ⟨by unfold nums; rw [List.length_map]; exact h2, hn, ?_⟩
 rcases h3 with h0 | ⟨b, o, rfl, hc⟩
 · exact .inl h0
 · refine .inr ⟨b, o, rfl, fun j hj => ?_⟩
   rw [hc j hj]
   have hv : vs[j]? = some (vs[j]'(by omega)) := List.getElem?_eq_getElem (by omega)
   have hcj : cs[j]? = some (cs[j]'(by omega)) := List.getElem?_eq_getElem (by omega)
   have hat := h4 j _ _ hv hcj
   have hx : ∃ x, cs[j]'(by omega) = .i x := by
     cases hs with
     | l _ _ _ _ _ hk hl hh =>
       have hk0 : 0 < k := Nat.pos_of_ne_zero fun e => by rw [e] at hj; simp at hj
       have hm : j % k < fs.length := by rw [hk]; exact Nat.mod_lt _ hk0
       have ht := hh j _ _ hcj (List.getElem?_eq_getElem hm)
       rw [hf _ (List.getElem_mem hm)] at ht
       exact ht.int
   obtain ⟨x, hx⟩ := hx
   rw [hx] at hat
   rw [hv, hat.int]
   have : (nums cs).getD j 0 = x := by
     unfold nums
     have hjc : j < cs.length := by omega
     simp [List.getD, hjc, hx, numC]
   rw [this]
theorem KAt.trip {w : World} {a : Option Addr} {n : Nat} {fs : List Int} (h : KAt 3 w a n fs) (hn : n ≤ 1048576) : TripAt w a n fs := ⟨h.1, hn, h.2.2⟩
theorem KAt.ints {w : World} {a : Option Addr} {n : Nat} {fs : List Int} (h : KAt 1 w a n fs) : IntAt w a n fs := by
 refine ⟨by have := h.1; omega, by have := h.2.1; omega, ?_⟩
 rcases h.2.2 with h0 | ⟨b, o, h1, h2⟩
 · exact .inl h0
 · exact .inr ⟨b, o, h1, fun i hi => h2 i (by omega)⟩
theorem at_rows {q : Bool} {w : World} {a : Option Addr} {n c k : Nat} {T : TypeId} {cs : List Cel} (h : At q w (.slice a n c) (.l T k n cs)) : n = 0 ∨ ∃ b o, a = some ⟨b, o, none⟩ ∧ ∀ i, i < n → ∃ us, AtL q w us (row cs k i) ∧ ∀ r, r < k → w.cell? ⟨b, o + i * k + r, none⟩ = us[r]? := by
 obtain ⟨a', c', vs, e, h1, h2, hn, -, h3, h4⟩ := h.openL
 cases e
 rcases h3 with h0 | ⟨b, o, rfl, hc⟩
 · exact .inl h0
 · refine .inr ⟨b, o, rfl, fun i hi => ⟨_, rowVals h1 h2 h4 hi, fun r hr => ?_⟩⟩
   have hle : i * k + k ≤ n * k := by rw [← Nat.succ_mul]; exact Nat.mul_le_mul_right k hi
   rw [List.getElem?_take_of_lt hr, List.getElem?_drop, Nat.add_assoc, hc (i * k + r) (by omega)]
theorem big_len {T : TypeId} {k n : Nat} {cs : List Cel} : n ≤ (Cel.l T k n cs).big := by simp only [Cel.big]; omega
theorem row_mem_big {cs : List Cel} {k n i : Nat} (hl : cs.length = n * k) (hi : i < n) {j : Nat} {c : Cel} (h : (row cs k i)[j]? = some c) : c.big ≤ bigL cs := by
 have hj : j < k := by have := (List.getElem?_eq_some_iff.1 h).1; rw [rowL_len hl hi] at this; exact this
 rw [row_at hj] at h
 exact big_mem h
theorem at_cap {w : World} {a : Option Addr} {n c k : Nat} {T : TypeId} {cs : List Cel} (h : At true w (.slice a n c) (.l T k n cs)) : n ≤ c := by
 obtain ⟨a', c', vs, e, h1, h2, hn, hq, h3, h4⟩ := h.openL
 cases e
 exact (hq rfl).2
theorem int_all {fs : List Ty} (h : fs.all Ty.isI = true) : ∀ t ∈ fs, t = .i := fun t ht => by
 have := (List.all_eq_true.1 h) t ht
 cases t <;> simp [Ty.isI] at this ⊢
end
end Go.Proofs.YtlkdjeneggfhgaaGreatDoor
