/- Texts joined: DatN, CntC, DatVf, VasC, DatVt, Tup18, Ord18, Rd18, ByA, Cur, TupA. -/
import Derived.Test.YtmgofehafjogfabKR02
import Derived.Test.YtmgofehafjogfabKR01
import Derived.Deep.RegionHeld3
import Derived.Deep.Cut
import Derived.Handy
import Derived.Lib.SmallJoins
import Derived.WalkKit
import Derived.WalkSmall
set_option maxHeartbeats 2000000
set_option maxRecDepth 100000
namespace Go.Proofs.Ytmgofehafjogfab
section
open Go.ChangeShapes Go.WideShapes Go.ChangeAt Go.RowKit Go.Joins
def topL (tx : Int → ByteArray) : List Cel → Int → List Cel
  | [], _ => []
  | .l T k n cs :: r, q => .l T k n (markL tx cs q) :: topL tx r (q + (cntL cs : Int))
  | .i x :: r, q => .i x :: topL tx r q
  | .b x :: r, q => .b x :: topL tx r q
  | .s x :: r, q => .s x :: topL tx r q
def tcnt : List Cel → Nat
  | [] => 0
  | .l _ _ _ cs :: r => cntL cs + tcnt r
  | .i _ :: r => tcnt r
  | .b _ :: r => tcnt r
  | .s _ :: r => tcnt r
theorem OwnL.set {w : World} {b : Nat} {vs : List Value} {cs : List Cel} {S S' : Nat → Prop} (h : OwnL w b vs cs S) (hS : ∀ x, S x ↔ S' x) : OwnL w b vs cs S' := by
  obtain ⟨l, Ss, h1, h2, h3⟩ := h
  exact ⟨l, Ss, h1, h2, fun x => (hS x).symm.trans (h3 x)⟩
theorem OwnL.none {w : World} {b : Nat} {S : Nat → Prop} (h : OwnL w b [] [] S) : ∀ x, ¬ S x := fun x hx => by
  obtain ⟨_, Ss, _, _, h3⟩ := h
  obtain ⟨j, hj, _⟩ := (h3 x).1 hx
  simp at hj
theorem OwnL.one {w : World} {b : Nat} {v : Value} {c : Cel} {S : Nat → Prop} (h : OwnL w b [v] [c] S) : Own w b v c S := by
  obtain ⟨S0, S1, h0, h1, -, hS⟩ := h.parts
  exact h0.set fun x => ⟨fun hx => (hS x).2 (.inl hx), fun hx => ((hS x).1 hx).resolve_right (h1.none x)⟩
theorem Own.oneL {w : World} {b : Nat} {v : Value} {c : Cel} {S : Nat → Prop} (h : Own w b v c S) : OwnL w b [v] [c] S :=
  OwnL.cons h (OwnL.nil (S := fun _ => False) (fun _ h => h)) (fun _ _ h => h) (fun _ => by simp)
theorem OwnL.cut : ∀ {cs1 : List Cel} {vs1 vs2 : List Value} {cs2 : List Cel} {w : World} {b : Nat} {S : Nat → Prop}, vs1.length = cs1.length → OwnL w b (vs1 ++ vs2) (cs1 ++ cs2) S → ∃ S1 S2, OwnL w b vs1 cs1 S1 ∧ OwnL w b vs2 cs2 S2 ∧ (∀ x, S1 x → ¬ S2 x) ∧ ∀ x, S x ↔ S1 x ∨ S2 x
  | [], vs1, vs2, cs2, w, b, S, hl, h => by
    obtain rfl : vs1 = [] := List.length_eq_zero_iff.1 hl
    exact ⟨fun _ => False, S, OwnL.nil (fun _ h => h), h, fun _ h => h.elim, fun x => by simp⟩
  | c :: cs1, [], vs2, cs2, w, b, S, hl, h => by simp at hl
  | c :: cs1, v :: vs1, vs2, cs2, w, b, S, hl, h => by
    obtain ⟨S0, S', h0, h1, hd, hS⟩ := OwnL.parts h
    obtain ⟨S1, S2, g1, g2, gd, gS⟩ := OwnL.cut (cs1 := cs1) (vs1 := vs1) (by simpa using hl) h1
    refine ⟨fun x => S0 x ∨ S1 x, S2, OwnL.cons h0 g1 (fun x hx hx' => hd x hx ((gS x).2 (.inl hx'))) (fun _ => Iff.rfl), g2, fun x hx hx' => ?_, fun x => ?_⟩
    · rcases hx with hx | hx
      · exact hd x hx ((gS x).2 (.inr hx'))
      · exact gd x hx hx'
    · rw [hS x, gS x, or_assoc]
abbrev Part := List Value × List Cel × (Nat → Prop)
theorem owns_cut {w : World} {b : Nat} : ∀ {G : List (List Value × List Cel)} {S : Nat → Prop}, (∀ p ∈ G, p.1.length = p.2.length) → OwnL w b (G.flatMap (·.1)) (G.flatMap (·.2)) S →
    ∃ R : List Part, R.map (fun r => (r.1, r.2.1)) = G ∧ (∀ r ∈ R, OwnL w b r.1 r.2.1 r.2.2) ∧ R.Pairwise (fun p q => ∀ x, p.2.2 x → ¬ q.2.2 x) ∧ ∀ x, S x ↔ ∃ r ∈ R, r.2.2 x
  | [], S, _, h => ⟨[], rfl, fun r hr => by simp at hr, List.Pairwise.nil, fun x => ⟨fun hx => absurd hx (OwnL.none h x), fun ⟨r, hr, _⟩ => by simp at hr⟩⟩
  | (vs, cs) :: G, S, hG, h => by
    obtain ⟨S1, S2, g1, g2, gd, gS⟩ := OwnL.cut (hG (vs, cs) (by simp)) (by simpa using h)
    obtain ⟨R, e, o, d, u⟩ := owns_cut (fun p hp => hG p (by simp [hp])) g2
    refine ⟨(vs, cs, S1) :: R, by simp [e], fun r hr => ?_, List.pairwise_cons.2 ⟨fun r hr x hx hx' => gd x hx ((u x).2 ⟨r, hr, hx'⟩), d⟩, fun x => ?_⟩
    · rcases List.mem_cons.1 hr with rfl | hr
      · exact g1
      · exact o r hr
    · rw [gS x, u x]; simp
structure Mg (w W : World) (base : Nat) (S : Nat → Prop) (A : Array Value) (T : TypeId) (R : List Part) : Prop where
  a : Box W w.heap.size A T
  on : Below 0 w W
  oth : ∀ x, x < w.heap.size → ¬ S x → W.heap[x]? = w.heap[x]?
  lt : ∀ x, S x → x < w.heap.size
  o : ∀ r ∈ R, OwnL W base r.1 r.2.1 r.2.2
  d : R.Pairwise (fun p q => ∀ x, p.2.2 x → ¬ q.2.2 x)
  u : ∀ x, S x ↔ ∃ r ∈ R, r.2.2 x
theorem mg_new {w : World} {base : Nat} {S : Nat → Prop} {R : List Part} (A : Array Value) (T : TypeId) (o : ∀ r ∈ R, OwnL w base r.1 r.2.1 r.2.2) (d : R.Pairwise (fun p q => ∀ x, p.2.2 x → ¬ q.2.2 x)) (u : ∀ x, S x ↔ ∃ r ∈ R, r.2.2 x) : Mg w (w.alloc (.cells A T)) base S A T R := by
  have hb : Below w.heap.size w (w.alloc (.cells A T)) := (Below.refl _ w).alloc (Nat.le_refl _) _
  exact ⟨box_of w A T, hb.mono (Nat.zero_le _), fun x hx _ => hb.block x hx, fun x hx => by
    obtain ⟨r, hr, hx⟩ := (u x).1 hx
    exact ((o r hr).lt x hx).2, fun r hr => (o r hr).on hb (Nat.le_refl _), d, u⟩
theorem Mg.step {w W W' : World} {base : Nat} {S Sf : Nat → Prop} {A : Array Value} {T : TypeId} {pre post : List Part} {vs : List Value} {cs cs' : List Cel} (h : Mg w W base S A T (pre ++ (vs, cs, Sf) :: post)) (ho : OwnL W' base vs cs' Sf) (hk : Kept Sf W W') : Mg w W' base S A T (pre ++ (vs, cs', Sf) :: post) := by
  have sub : ∀ x, Sf x → S x := fun x hx => (h.u x).2 ⟨(vs, cs, Sf), by simp, hx⟩
  have lt : ∀ x, x < w.heap.size → x < W.heap.size := fun x hx => Nat.lt_of_lt_of_le hx h.on.size
  have hd := List.pairwise_append.1 h.d
  have hd2 := List.pairwise_cons.1 hd.2.1
  refine ⟨?_, h.on.trans hk.on, fun x hx hn => (hk.oth x (lt x hx) fun hs => hn (sub x hs)).trans (h.oth x hx hn), h.lt, fun r hr => ?_, ?_, fun x => ?_⟩
  · exact (hk.oth _ h.a.lt fun hs => by have := h.lt _ (sub _ hs); omega).trans h.a
  · have keep : r ∈ pre ++ (vs, cs, Sf) :: post → (∀ x, r.2.2 x → ¬ Sf x) → OwnL W' base r.1 r.2.1 r.2.2 := fun hr hn => (h.o r hr).heap fun x hx => hk.oth x ((h.o r hr).lt x hx).2 (hn x hx)
    rcases List.mem_append.1 hr with hr | hr
    · exact keep (List.mem_append.2 (.inl hr)) (fun x hx => hd.2.2 r hr _ (List.mem_cons_self ..) x hx)
    · rcases List.mem_cons.1 hr with rfl | hr
      · exact ho
      · exact keep (List.mem_append.2 (.inr (List.mem_cons_of_mem _ hr))) (fun x hx hs => hd2.1 r hr x hs hx)
  · refine List.pairwise_append.2 ⟨hd.1, List.pairwise_cons.2 ⟨fun r hr => hd2.1 r hr, hd2.2⟩, fun r hr q hq => ?_⟩
    rcases List.mem_cons.1 hq with rfl | hq
    · exact hd.2.2 r hr (vs, cs, Sf) (List.mem_cons_self ..)
    · exact hd.2.2 r hr q (List.mem_cons_of_mem _ hq)
  · rw [h.u x]
    constructor
    · rintro ⟨r, hr, hx⟩
      rcases List.mem_append.1 hr with hr | hr
      · exact ⟨r, List.mem_append.2 (.inl hr), hx⟩
      · rcases List.mem_cons.1 hr with rfl | hr
        · exact ⟨(vs, cs', Sf), by simp, hx⟩
        · exact ⟨r, List.mem_append.2 (.inr (List.mem_cons_of_mem _ hr)), hx⟩
    · rintro ⟨r, hr, hx⟩
      rcases List.mem_append.1 hr with hr | hr
      · exact ⟨r, List.mem_append.2 (.inl hr), hx⟩
      · rcases List.mem_cons.1 hr with rfl | hr
        · exact ⟨(vs, cs, Sf), by simp, hx⟩
        · exact ⟨r, List.mem_append.2 (.inr (List.mem_cons_of_mem _ hr)), hx⟩
theorem Mg.at {w W : World} {base : Nat} {S Sf : Nat → Prop} {A : Array Value} {T : TypeId} {pre post : List Part} {vs : List Value} {cs : List Cel} (h : Mg w W base S A T (pre ++ (vs, cs, Sf) :: post)) : OwnL W base vs cs Sf := h.o (vs, cs, Sf) (by simp)
theorem Mg.all {w W : World} {base : Nat} {S : Nat → Prop} {A : Array Value} {T : TypeId} {R : List Part} (h : Mg w W base S A T R) : OwnL W base (R.flatMap (·.1)) (R.flatMap (·.2.1)) S ∧ Kept S w W := ⟨(owns_all h.o h.d).set fun x => (h.u x).symm, h.on, h.oth⟩
def MarkedL (tx : Int → ByteArray) (w : World) (base : Nat) (vs : List Value) (cs : List Cel) (S : Nat → Prop) (q : Int) (e : Ending) (w' : World) : Prop := e = .returned (.int .i64 (q + (tcnt cs : Int))) ∧ OwnL w' base vs (topL tx cs q) S ∧ Kept S w w'
theorem cnt_sum {cs : List Cel} (h : ∀ c ∈ cs, c.cnt ≤ 1 + 3 * c.big) : cntL cs ≤ cs.length + 3 * bigL cs := by
  induction cs with
  | nil => simp [cntL]
  | cons c cs ih =>
    have h1 := h c (by simp)
    have h2 := ih fun d hd => h d (by simp [hd])
    rw [cntL, bigL, List.length_cons]
    omega
theorem cnt_one {c : Cel} {t : Ty} (h : Has c t) (ht : t = .i ∨ t = .b ∨ t = .s ∨ t = .l 3 1 [.i]) : c.cnt ≤ 1 + 3 * c.big := by
  rcases ht with rfl | rfl | rfl | rfl
  · obtain ⟨x, rfl⟩ := h.int; simp [Cel.cnt]
  · obtain ⟨x, rfl⟩ := h.bool; simp [Cel.cnt]
  · obtain ⟨x, rfl⟩ := h.str; simp [Cel.cnt]
  · have h' := h
    obtain ⟨n, ds, rfl, -⟩ := h.list
    have h1 := (cnt_ints h').1
    simp only [Cel.cnt, Cel.big]
    omega
theorem cnt_rows {T : TypeId} {n : Nat} {cs : List Cel} {fs : List Ty} (h : Has (.l T 3 n cs) (.l T 3 fs)) (hf : ∀ t ∈ fs, t = .i ∨ t = .b ∨ t = .s ∨ t = .l 3 1 [.i]) : cntL cs ≤ 3 * (n + bigL cs) := by
  cases h with
  | l _ _ _ _ _ hk hl hh =>
    have h1 := cnt_sum (cs := cs) fun c hc => by
      obtain ⟨j, hj, rfl⟩ := List.getElem_of_mem hc
      have hm : j % 3 < fs.length := by rw [hk]; exact Nat.mod_lt _ (by decide)
      exact cnt_one (hh j _ _ (List.getElem?_eq_getElem hj) (List.getElem?_eq_getElem hm)) (hf _ (List.getElem_mem hm))
    omega
theorem sch_cnt {cs : List Cel} (hs : HasL cs tySchema) : tcnt cs ≤ 3 * bigL cs := by
  obtain ⟨x0, r0, rfl, T0, hH0⟩ := hs.cons
  obtain ⟨x1, r1, rfl, T1, hH1⟩ := hH0.cons
  obtain ⟨x2, r2, rfl, T2, hH2⟩ := hH1.cons
  obtain rfl := hH2.nil
  obtain ⟨n0, l0, rfl, _⟩ := T0.list
  obtain ⟨n1, l1, rfl, _⟩ := T1.list
  obtain ⟨n2, l2, rfl, _⟩ := T2.list
  have h0 := cnt_rows T0 (by intro t ht; simp [tyCol] at ht; rcases ht with rfl | rfl | rfl <;> simp)
  have h1 := (cnt_ints T1).1
  have h2 := cnt_rows T2 (by intro t ht; simp [tyIndex] at ht; rcases ht with rfl | rfl | rfl <;> simp)
  simp only [tcnt, bigL, Cel.big]
  omega
set_option linter.unusedSimpArgs false

theorem flatValue : Flat Try.prog 50 tyValue := by
  refine Flat.st 50 _ [[.i], [.i], [.s]] Try.underlying50 rfl (by kernel_rfl) ?_ ?_
  · intro i f g hf hg
    have hi : i < 3 := by have := (List.getElem?_eq_some_iff.1 hg).1; simpa using this
    rcases (show i = 0 ∨ i = 1 ∨ i = 2 by omega) with rfl | rfl | rfl <;> (simp at hf hg; subst hf hg)
    · exact ⟨rfl, by kernel_rfl⟩
    · exact ⟨rfl, by kernel_rfl⟩
    · exact ⟨rfl, by kernel_rfl⟩
  · intro i f g hf hg
    have hi : i < 3 := by have := (List.getElem?_eq_some_iff.1 hg).1; simpa using this
    rcases (show i = 0 ∨ i = 1 ∨ i = 2 by omega) with rfl | rfl | rfl <;> (simp at hf hg; subst hf hg)
    · exact Flat.i _ Try.underlying3
    · exact Flat.i _ Try.underlying3
    · exact Flat.s _ Try.underlying9
def va3 (r : List Cel) : Va3 := (numC (nthC r 0), numC (nthC r 1), textC (nthC r 2))
def vasD (cs : List Cel) (n : Nat) : List Va3 := (List.range n).map fun i => va3 (row cs 3 i)
theorem vas_of {q : Bool} {w : World} {v : Value} {n : Nat} {cs : List Cel} (h : At q w v (.l 55 3 n cs)) (hs : Has (.l 55 3 n cs) (.l 55 3 tyValue)) : ∃ a c, v = .slice a n c ∧ VasAt w a n (vasD cs n) ∧ (q = true → n ≤ c) := by
  obtain ⟨a, c, vs, rfl, h1, h2, hn, hq, h3, h4⟩ := h.openL
  refine ⟨a, c, rfl, ⟨by simp [vasD], hn, ?_⟩, fun hq' => (hq hq').2⟩
  rcases h3 with h0 | ⟨b, o, rfl, hc⟩
  · exact .inl h0
  · refine .inr ⟨b, o, rfl, fun i x hx => ?_⟩
    have hi : i < n := by have := (List.getElem?_eq_some_iff.1 hx).1; simpa [vasD] using this
    have hx' : x = va3 (row cs 3 i) := by
      have := (List.getElem?_eq_some_iff.1 hx).2
      rw [← this]
      simp [vasD]
    have hA := rowVals h1 h2 h4 hi
    have hH := hs.rowL hi
    have hcv : ∀ r, r < 3 → w.cell? ⟨b, o + (i * 3 + r), none⟩ = ((vs.drop (i * 3)).take 3)[r]? := fun r hr => by
      rw [List.getElem?_take_of_lt hr, List.getElem?_drop]
      exact hc (i * 3 + r) (by omega)
    subst hx'
    obtain ⟨rs, hrs⟩ : ∃ rs, row cs 3 i = rs := ⟨_, rfl⟩
    obtain ⟨ws, hws⟩ : ∃ ws, (vs.drop (i * 3)).take 3 = ws := ⟨_, rfl⟩
    rw [hrs] at hA hH ⊢
    rw [hws] at hA hcv
    obtain ⟨x0, r0, rfl, T0, hH0⟩ := hH.cons
    obtain ⟨x1, r1, rfl, T1, hH1⟩ := hH0.cons
    obtain ⟨x2, r2, rfl, T2, hH2⟩ := hH1.cons
    obtain rfl := hH2.nil
    obtain ⟨v0, vr0, rfl, A0, hA0⟩ := hA.consE
    obtain ⟨v1, vr1, rfl, A1, hA1⟩ := hA0.consE
    obtain ⟨v2, vr2, rfl, A2, hA2⟩ := hA1.consE
    obtain rfl := hA2.nilE
    obtain ⟨k, rfl⟩ := T0.int
    obtain ⟨m, rfl⟩ := T1.int
    obtain ⟨s, rfl⟩ := T2.str
    obtain rfl := A0.int
    obtain rfl := A1.int
    obtain rfl := A2.str
    exact ⟨hcv 0 (by omega), by have := hcv 1 (by omega); rw [Nat.add_assoc]; exact this, by have := hcv 2 (by omega); rw [Nat.add_assoc]; exact this⟩
theorem open_vas {H : Type} {enc : TypeId × Value → H} {W : World} {base : Nat} {held : Bool} {a : Option Addr} {n c : Nat} {d : DataW H} {p : List MemPlace} (h : DataW.Trod enc Try.prog W base (fun _ => true) held 27 (.slice a n c) d p) :
    ∃ n' cl, In W (.slice a n c) (.l 55 3 n' cl) ∧ Has (.l 55 3 n' cl) (.l 55 3 tyValue) ∧ WfL cl := by
  obtain ⟨fuel, hx⟩ := h
  obtain ⟨ds, h1, h2, h3⟩ := open_flat (Flat.l _ _ 55 3 _ Try.underlying27 rfl (by decide) (by kernel_rfl) flatValue) hx
  have h1' : InL W [.slice a n c] ds := by simpa [Value.cells] using h1
  obtain ⟨x, r, rfl, T, hr⟩ := h2.cons
  obtain rfl := hr.nil
  obtain ⟨n', cl, rfl, -⟩ := T.list
  have h4 := h3 0 _ rfl
  exact ⟨n', cl, h1'.2 0 _ _ rfl rfl, T, by cases h4; assumption⟩
set_option linter.unusedSimpArgs false

theorem dInfoValue : (Try.prog.info? 55).map (fun i => (i.zero, i.size)) = some (some (.agg #[.int .i64 0, .int .i64 0, .string ⟨#[]⟩]), 3) := by kernel_rfl
theorem dBytesValue : (Try.prog.info? 55).map (fun i => decide (i.bytes ≤ 1024)) = some true := by kernel_rfl
theorem dToValue (vs : List Value) (cs : List Cel) (w : World) (h : AtL false w vs cs) (hs : HasL cs tyValue) : Calls Try.prog 26 #[.agg vs.toArray] w (RetL w cs) := by
  obtain ⟨c0, r0, rfl, T0, hH0⟩ := hs.cons
  obtain ⟨c1, r1, rfl, T1, hH1⟩ := hH0.cons
  obtain ⟨c2, r2, rfl, T2, hH2⟩ := hH1.cons
  obtain rfl := hH2.nil
  obtain ⟨x0, rfl⟩ := T0.int
  obtain ⟨x1, rfl⟩ := T1.int
  obtain ⟨x2, rfl⟩ := T2.str
  obtain ⟨v0, vr0, rfl, A0, hA0⟩ := h.consE
  obtain ⟨v1, vr1, rfl, A1, hA1⟩ := hA0.consE
  obtain ⟨v2, vr2, rfl, A2, hA2⟩ := hA1.consE
  obtain rfl := hA2.nilE
  obtain rfl := A0.int
  obtain rfl := A1.int
  obtain rfl := A2.str
  obtain ⟨R, hR⟩ : ∃ R, Value.agg #[.int .i64 x0, .int .i64 x1, .string x2] = R := ⟨_, rfl⟩
  have HR : Hid (Value.agg #[.int .i64 x0, .int .i64 x1, .string x2] = R) := hR
  clear hR
  go_enter Try.func26, Try.ntmps26
  go_wp2
  (try simp only [Exit.inBlock, Exit.then])
  refine bodyPost_ret (by simp [results, Try.results26, go_sem]; try rfl) rfl ?_
  exact ⟨(((Below.refl _ _).alloc (Nat.le_refl _) _).alloc (by simp) _).alloc (by simp; omega) _, [.int .i64 x0, .int .i64 x1, .string x2], fun _ => False, rfl, OwnL.cons (S0 := fun _ => False) (S := fun _ => False) (.i x0 _ (fun _ h => h)) (OwnL.cons (S0 := fun _ => False) (S := fun _ => False) (.i x1 _ (fun _ h => h)) (OwnL.cons (S0 := fun _ => False) (S := fun _ => False) (.s x2 _ (fun _ h => h)) (OwnL.nil (fun _ h => h)) (fun _ h => h.elim) (fun _ => by simp)) (fun _ h => h.elim) (fun _ => by simp)) (fun _ h => h.elim) (fun _ => by simp)⟩
theorem dToValueS (v : Value) (n : Nat) (cs : List Cel) (w : World) (h : At false w v (.l 55 3 n cs)) (hs : Has (.l 55 3 n cs) (.l 55 3 tyValue)) :
    Calls Try.prog 9 #[v] w (Ret w (.l 55 3 n cs)) := by
  obtain ⟨a, c, vs, rfl, h1, h2, hn, -, h3, h4⟩ := h.openL
  have SRC : Hid (n = 0 ∨ ∃ b o, a = some ⟨b, o, none⟩ ∧ ∀ j, j < n * 3 → w.cell? ⟨b, o + j, none⟩ = vs[j]?) := h3
  have HV : Hid (∀ j, j < n → AtL false w ((vs.drop (j * 3)).take 3) (row cs 3 j)) := fun j hj => rowVals h1 h2 h4 hj
  have HR : Hid (∀ j, j < n → HasL (row cs 3 j) tyValue) := fun j hj => hs.rowL hj
  have L2 : Hid (cs.length = n * 3) := h2
  have L1 : Hid (vs.length = n * 3) := h1
  obtain ⟨i0, hi, hz⟩ := Option.map_eq_some_iff.1 dInfoValue
  obtain ⟨i1, hi', hb1⟩ := Option.map_eq_some_iff.1 dBytesValue
  obtain rfl : i0 = i1 := Option.some.inj (hi.symm.trans hi')
  have hz0 : i0.zero = some (.agg #[.int .i64 0, .int .i64 0, .string ⟨#[]⟩]) := congrArg Prod.fst hz
  have hz1 : i0.size = 3 := congrArg Prod.snd hz
  have hz2 : i0.bytes ≤ 1024 := of_decide_eq_true hb1
  have hby : i0.bytes * n ≤ 1024 * 2097152 := Nat.mul_le_mul hz2 hn
  clear h h1 h2 h3 h4 hs hz hb1 hi'
  go_enter Try.func9, Try.ntmps9
  go_wp2_with (at_make; refine wpList_make_full _ rfl _ _ 30 rfl w.heap.size 55 i0 (.agg #[.int .i64 0, .int .i64 0, .string ⟨#[]⟩]) 3 Try.underlying30 hi hz0 hz1 .i64 .i64 _ _ n rfl rfl rfl rfl (by first | omega | (rw [Nat.mul_comm]; omega)) (by unfold maxLen; omega) (Nat.le_refl _) ?_; intro w1 own1 grow1)
  obtain ⟨ps0, lp0, O0⟩ := own_made (zv := [.int .i64 0, .int .i64 0, .string ⟨#[]⟩]) (zc := [.i 0, .i 0, .s ⟨#[]⟩]) own1 hn rfl (fun j v hv => made_at hv (by decide)) (by
    intro i v c hv hc w'
    have hi : i < 3 := by have := (List.getElem?_eq_some_iff.1 hv).1; simpa using this
    rcases (show i = 0 ∨ i = 1 ∨ i = 2 by omega) with rfl | rfl | rfl <;> (simp at hv hc; subst hv hc)
    · exact .i _ _ (fun _ h => h)
    · exact .i _ _ (fun _ h => h)
    · exact .s _ _ (fun _ h => h))
  have hb1 : Below w.heap.size w w1 := (Below.refl _ _).grown grow1 (Nat.le_refl _) (fun k e => by cases e)
  clear own1 grow1
  go_loopw [4] (fun i wr => ∃ j : Nat, j ≤ n ∧ i = .int .i64 (j : Int) ∧ (∃ ps S, ps.length = n * 3 ∧ ps.take (j * 3) = cs.take (j * 3) ∧ Own wr w.heap.size (.slice (some ⟨w.heap.size, 0, none⟩) n n) (.l 55 3 n ps) S) ∧ Below w.heap.size w wr) (fun i _ => n - (intOf i).toNat)
  case atStart => exact ⟨0, Nat.zero_le _, by simp, ⟨ps0, _, lp0, by simp, O0⟩, hb1⟩
  case round =>
    obtain ⟨j, hj, rfl, ⟨ps, S, lp, tp, ho⟩, hb⟩ := hrel
    clear O0 hb1 lp0
    by_cases hlt : j < n
    · rcases SRC.out with h0 | ⟨p1, o1, rfl, g1⟩
      · omega
      have hk0 : (0 : Int) ≤ (j : Int) := by omega
      have hk1 : (j : Int) < (n : Int) := by omega
      have hA := HV.out j hlt
      have hH := HR.out j hlt
      have hcv : ∀ i, i < 3 → wr.cell? ⟨p1, o1 + (j * 3 + i), none⟩ = ((vs.drop (j * 3)).take 3)[i]? := fun i hi => by
        have hle : j * 3 + 3 ≤ n * 3 := by omega
        have h5 := g1 (j * 3 + i) (by omega)
        rw [List.getElem?_take_of_lt hi, List.getElem?_drop, ← h5]
        have h6 : w.cell? ⟨p1, o1 + (j * 3 + i), none⟩ = some (vs[j * 3 + i]'(by have := L1.out; omega)) := by rw [h5, List.getElem?_eq_getElem (by have := L1.out; omega)]
        exact hb.cell (show p1 < w.heap.size from World.block_lt_of_cell? w _ h6)
      obtain ⟨rs, hrs⟩ : ∃ rs, row cs 3 j = rs := ⟨_, rfl⟩
      obtain ⟨ws, hws⟩ : ∃ ws, (vs.drop (j * 3)).take 3 = ws := ⟨_, rfl⟩
      have HRS : Hid (row cs 3 j = rs) := hrs
      rw [hrs] at hA hH
      rw [hws] at hA hcv
      clear g1 hrs hws
      obtain ⟨c0, r0, rfl, T0, hH0⟩ := hH.cons
      obtain ⟨c1, r1, rfl, T1, hH1⟩ := hH0.cons
      obtain ⟨c2, r2, rfl, T2, hH2⟩ := hH1.cons
      obtain rfl := hH2.nil
      have HL0 : Hid (HasL [c0, c1, c2] tyValue) := hH
      obtain ⟨v0, vr0, rfl, A0, hA0⟩ := hA.consE
      obtain ⟨v1, vr1, rfl, A1, hA1⟩ := hA0.consE
      obtain ⟨v2, vr2, rfl, A2, hA2⟩ := hA1.consE
      obtain rfl := hA2.nilE
      have HA0 : Hid (AtL false w [v0, v1, v2] [c0, c1, c2]) := hA
      have e0 : wr.cell? ⟨p1, o1 + j * 3, none⟩ = some v0 := hcv 0 (by omega)
      have e1 : wr.cell? ⟨p1, o1 + j * 3 + 1, none⟩ = some v1 := hcv 1 (by omega)
      have e2 : wr.cell? ⟨p1, o1 + j * 3 + 2, none⟩ = some v2 := hcv 2 (by omega)
      clear hcv hA hH hA0 hH0 hA1 hH1 hA2 hH2
      have HO : Hid (Own wr w.heap.size (.slice (some ⟨w.heap.size, 0, none⟩) n n) (.l 55 3 n ps) S) := ho
      clear ho
      go_wp2_with fail
      refine (dToValue [v0, v1, v2] [c0, c1, c2] _ (HA0.out.on hb (Nat.le_refl _)) HL0.out).mono ?_
      rintro e w2 ⟨hb2, us, S', rfl, oL⟩
      have hU := oL.at
      obtain ⟨u0, ur0, rfl, U0, hA0⟩ := hU.consE
      obtain ⟨u1, ur1, rfl, U1, hA1⟩ := hA0.consE
      obtain ⟨u2, ur2, rfl, U2, hA2⟩ := hA1.consE
      obtain rfl := hA2.nilE
      obtain ⟨x0, rfl⟩ := T0.int
      obtain ⟨x1, rfl⟩ := T1.int
      obtain ⟨x2, rfl⟩ := T2.str
      obtain rfl := U0.int
      obtain rfl := U1.int
      obtain rfl := U2.str
      have O2 := HO.out.on hb2 (Nat.le_refl _)
      have hb02 : Below w.heap.size w w2 := hb.trans (hb2.mono hb.size)
      obtain ⟨pv0, -, hc0, hf0, -⟩ := O2.cell (j := j * 3) (List.getElem?_eq_getElem (by omega))
      obtain ⟨pv1, -, hc1, hf1, -⟩ := O2.cell (j := j * 3 + 1) (List.getElem?_eq_getElem (by omega))
      obtain ⟨pv2, -, hc2, hf2, -⟩ := O2.cell (j := j * 3 + 2) (List.getElem?_eq_getElem (by omega))
      have OL : Hid (OwnL w2 wr.heap.size [.int .i64 x0, .int .i64 x1, .string x2] [.i x0, .i x1, .s x2] S') := oL
      have HO2 : Hid (Own w2 w.heap.size (.slice (some ⟨w.heap.size, 0, none⟩) n n) (.l 55 3 n ps) S) := O2
      have HRS' : Hid (row cs 3 j = [.i x0, .i x1, .s x2]) := HRS.out
      clear oL O2 hb2 hU e0 e1 e2 
      go_wp2
      go_roundw
      case rel =>
        have slt : ∀ x, S x → x < wr.heap.size := fun x hx => (HO.out.lt x hx).2
        obtain ⟨S'', o'', -⟩ := Own.storeL (p := j * 3) HO2.out (OL.out.weaken hb.size) (fun x hx hx' => by have h1 := (OL.out.lt x hx).1; have h2 := slt x hx'; omega) (by simp; omega)
        have hle : j * 3 + 3 ≤ n * 3 := by omega
        refine ⟨j + 1, by omega, by go_num, ⟨_, S'', ?_, ?_, o''⟩, stores_below (Nat.le_refl _) [.int .i64 x0, .int .i64 x1, .string x2] w2 (j * 3) hb02⟩
        · rw [over_len]; exact lp
        · have h3 := over_take [.i x0, .i x1, .s x2] ps (j * 3) (by simp; omega)
          rw [row_split (cs := cs), HRS'.out, ← tp, show (j + 1) * 3 = j * 3 + ([.i x0, .i x1, .s x2] : List Cel).length by simp; omega]
          exact h3
      case measure => simp [intOf]; omega
    · obtain rfl : j = n := by omega
      have e : ps = cs := by rwa [List.take_of_length_le (by omega), List.take_of_length_le (by have := L2.out; omega)] at tp
      subst e
      go_wp2
      go_ret
      exact ⟨hb, _, S, rfl, ho⟩
theorem dEqValue (vs us : List Value) (cs : List Cel) (w : World) (h : AtL false w vs cs) (h' : AtL false w us cs) (hs : HasL cs tyValue) : Calls Try.prog 28 #[.agg vs.toArray, .agg us.toArray] w (Yes w) := by
  obtain ⟨c0, r0, rfl, T0, hH0⟩ := hs.cons
  obtain ⟨c1, r1, rfl, T1, hH1⟩ := hH0.cons
  obtain ⟨c2, r2, rfl, T2, hH2⟩ := hH1.cons
  obtain rfl := hH2.nil
  obtain ⟨v0, vr0, rfl, A0, hA0⟩ := h.consE
  obtain ⟨v1, vr1, rfl, A1, hA1⟩ := hA0.consE
  obtain ⟨v2, vr2, rfl, A2, hA2⟩ := hA1.consE
  obtain rfl := hA2.nilE
  obtain ⟨u0, ur0, rfl, B0, hB0⟩ := h'.consE
  obtain ⟨u1, ur1, rfl, B1, hB1⟩ := hB0.consE
  obtain ⟨u2, ur2, rfl, B2, hB2⟩ := hB1.consE
  obtain rfl := hB2.nilE
  obtain ⟨x0, rfl⟩ := T0.int
  obtain rfl := A0.int
  obtain rfl := B0.int
  have ne0 : (x0 != x0) = false := by simp
  obtain ⟨x1, rfl⟩ := T1.int
  obtain rfl := A1.int
  obtain rfl := B1.int
  have ne1 : (x1 != x1) = false := by simp
  obtain ⟨x2, rfl⟩ := T2.str
  obtain rfl := A2.str
  obtain rfl := B2.str
  clear hs h h' hA0 hB0 hH0 T0 A0 B0 hA1 hB1 hH1 T1 A1 B1 hA2 hB2 hH2 T2 A2 B2
  obtain ⟨W, hW⟩ : ∃ W, (w.alloc (.cells #[.int .i64 x0, .int .i64 x1, .string x2] 55)).alloc (.cells #[.int .i64 x0, .int .i64 x1, .string x2] 55) = W := ⟨_, rfl⟩
  have t0 : Hid (Two w W #[.int .i64 x0, .int .i64 x1, .string x2] #[.int .i64 x0, .int .i64 x1, .string x2] 55) := by rw [← hW]; exact two_new w _ _ _
  have HW : Hid _ := hW
  clear hW
  go_enter Try.func28, Try.ntmps28
  go_upto_region 1 with (fail)
  rw [HW.out]
  have ax0 : W.cell? ⟨w.heap.size, 0, none⟩ = some (.int .i64 x0) := t0.out.a.cell 0
  have bx0 : W.cell? ⟨w.heap.size + 1, 0, none⟩ = some (.int .i64 x0) := t0.out.b.cell 0
  have ax1 : W.cell? ⟨w.heap.size, 1, none⟩ = some (.int .i64 x1) := t0.out.a.cell 1
  have bx1 : W.cell? ⟨w.heap.size + 1, 1, none⟩ = some (.int .i64 x1) := t0.out.b.cell 1
  have ax2 : W.cell? ⟨w.heap.size, 2, none⟩ = some (.string x2) := t0.out.a.cell 2
  have bx2 : W.cell? ⟨w.heap.size + 1, 2, none⟩ = some (.string x2) := t0.out.b.cell 2
  go_wp2
  go_ret
  exact ⟨rfl, t0.out.on⟩
theorem dEqValueS (v u : Value) (n : Nat) (cs : List Cel) (w : World) (h : At false w v (.l 55 3 n cs)) (h' : At false w u (.l 55 3 n cs)) (hs : Has (.l 55 3 n cs) (.l 55 3 tyValue)) :
    Calls Try.prog 11 #[v, u] w (Yes w) := by
  obtain ⟨a, c, vs, rfl, h1, h2, hn, -, h3, h4⟩ := h.openL
  have SRC : Hid (n = 0 ∨ ∃ b o, a = some ⟨b, o, none⟩ ∧ ∀ j, j < n * 3 → w.cell? ⟨b, o + j, none⟩ = vs[j]?) := h3
  have HV : Hid (∀ j, j < n → AtL false w ((vs.drop (j * 3)).take 3) (row cs 3 j)) := fun j hj => rowVals h1 h2 h4 hj
  have Lvs : Hid (vs.length = n * 3) := h1
  clear h1 h2 h3 h4 hn
  obtain ⟨a', c', us, rfl, h1, h2, hn, -, h3, h4⟩ := h'.openL
  have SRD : Hid (n = 0 ∨ ∃ b o, a' = some ⟨b, o, none⟩ ∧ ∀ j, j < n * 3 → w.cell? ⟨b, o + j, none⟩ = us[j]?) := h3
  have HU : Hid (∀ j, j < n → AtL false w ((us.drop (j * 3)).take 3) (row cs 3 j)) := fun j hj => rowVals h1 h2 h4 hj
  have Lus : Hid (us.length = n * 3) := h1
  clear h1 h2 h3 h4 
  have HR : Hid (∀ j, j < n → HasL (row cs 3 j) tyValue) := fun j hj => hs.rowL hj
  clear h h' hs
  go_enter Try.func11, Try.ntmps11
  go_wp2
  go_loopw [5] (fun i wr => ∃ j : Nat, j ≤ n ∧ i = .int .i64 j ∧ Below w.heap.size w wr) (fun i _ => n - (intOf i).toNat)
  case atStart => exact ⟨0, Nat.zero_le _, rfl, Below.refl _ _⟩
  case round =>
    obtain ⟨j, hj, rfl, hb⟩ := hrel
    by_cases hlt : j < n
    · have hk0 : (0 : Int) ≤ (j : Int) := by omega
      have hk1 : (j : Int) < (n : Int) := by omega
      have hle : j * 3 + 3 ≤ n * 3 := by omega
      have hH := HR.out j hlt
      obtain ⟨rs, hrs⟩ : ∃ rs, row cs 3 j = rs := ⟨_, rfl⟩
      rw [hrs] at hH
      rcases SRC.out with h0 | ⟨p1, o1, rfl, g1⟩
      · omega
      have hA := HV.out j hlt
      have ce : ∀ i, i < 3 → wr.cell? ⟨p1, o1 + (j * 3 + i), none⟩ = ((vs.drop (j * 3)).take 3)[i]? := fun i hi => by
        have h5 := g1 (j * 3 + i) (by omega)
        rw [List.getElem?_take_of_lt hi, List.getElem?_drop, ← h5]
        have h6 : w.cell? ⟨p1, o1 + (j * 3 + i), none⟩ = some (vs[j * 3 + i]'(by have := Lvs.out; omega)) := by rw [h5, List.getElem?_eq_getElem (by have := Lvs.out; omega)]
        exact hb.cell (show p1 < w.heap.size from World.block_lt_of_cell? w _ h6)
      obtain ⟨ws, hws⟩ : ∃ ws, (vs.drop (j * 3)).take 3 = ws := ⟨_, rfl⟩
      rw [hrs] at hA
      rw [hws] at hA ce
      clear g1 hws
      rcases SRD.out with h0 | ⟨p2, o2, rfl, g2⟩
      · omega
      have hB := HU.out j hlt
      have cf : ∀ i, i < 3 → wr.cell? ⟨p2, o2 + (j * 3 + i), none⟩ = ((us.drop (j * 3)).take 3)[i]? := fun i hi => by
        have h5 := g2 (j * 3 + i) (by omega)
        rw [List.getElem?_take_of_lt hi, List.getElem?_drop, ← h5]
        have h6 : w.cell? ⟨p2, o2 + (j * 3 + i), none⟩ = some (us[j * 3 + i]'(by have := Lus.out; omega)) := by rw [h5, List.getElem?_eq_getElem (by have := Lus.out; omega)]
        exact hb.cell (show p2 < w.heap.size from World.block_lt_of_cell? w _ h6)
      obtain ⟨ws', hws⟩ : ∃ ws, (us.drop (j * 3)).take 3 = ws := ⟨_, rfl⟩
      rw [hrs] at hB
      rw [hws] at hB cf
      clear g2 hws
      obtain ⟨c0, r0, rfl, T0, hH0⟩ := hH.cons
      obtain ⟨c1, r1, rfl, T1, hH1⟩ := hH0.cons
      obtain ⟨c2, r2, rfl, T2, hH2⟩ := hH1.cons
      obtain rfl := hH2.nil
      have HL0 : Hid (HasL [c0, c1, c2] tyValue) := hH
      obtain ⟨v0, vr0, rfl, A0, hA0⟩ := hA.consE
      obtain ⟨v1, vr1, rfl, A1, hA1⟩ := hA0.consE
      obtain ⟨v2, vr2, rfl, A2, hA2⟩ := hA1.consE
      obtain rfl := hA2.nilE
      obtain ⟨u0, ur0, rfl, B0, hB0⟩ := hB.consE
      obtain ⟨u1, ur1, rfl, B1, hB1⟩ := hB0.consE
      obtain ⟨u2, ur2, rfl, B2, hB2⟩ := hB1.consE
      obtain rfl := hB2.nilE
      have HA0 : Hid (AtL false w [v0, v1, v2] [c0, c1, c2]) := hA
      have HB0 : Hid (AtL false w [u0, u1, u2] [c0, c1, c2]) := hB
      have e0 : wr.cell? ⟨p1, o1 + j * 3, none⟩ = some v0 := ce 0 (by omega)
      have f0 : wr.cell? ⟨p2, o2 + j * 3, none⟩ = some u0 := cf 0 (by omega)
      have e1 : wr.cell? ⟨p1, o1 + j * 3 + 1, none⟩ = some v1 := ce 1 (by omega)
      have f1 : wr.cell? ⟨p2, o2 + j * 3 + 1, none⟩ = some u1 := cf 1 (by omega)
      have e2 : wr.cell? ⟨p1, o1 + j * 3 + 2, none⟩ = some v2 := ce 2 (by omega)
      have f2 : wr.cell? ⟨p2, o2 + j * 3 + 2, none⟩ = some u2 := cf 2 (by omega)
      clear ce cf hrs hA0 hB0 hH0 hA1 hB1 hH1 hA2 hB2 hH2 T0 A0 B0 T1 A1 B1 T2 A2 B2 hA hB hH
      have q1 : p1 < wr.heap.size := World.block_lt_of_cell? wr _ e0
      have q2 : p2 < wr.heap.size := World.block_lt_of_cell? wr _ f0
      go_wp2_with fail
      go_region_held3 (fun w' => w'.cell? ⟨p1, o1 + j * 3, none⟩ = some v0 ∧ w'.cell? ⟨p1, o1 + j * 3 + 1, none⟩ = some v1 ∧ w'.cell? ⟨p1, o1 + j * 3 + 2, none⟩ = some v2 ∧ w'.cell? ⟨p2, o2 + j * 3, none⟩ = some u0 ∧ w'.cell? ⟨p2, o2 + j * 3 + 1, none⟩ = some u1 ∧ w'.cell? ⟨p2, o2 + j * 3 + 2, none⟩ = some u2)
        (first | (with_reducible exact K2.out) | go_keep)
        (first
        | (go_at_call 28
           refine (dEqValue [v0, v1, v2] [u0, u1, u2] [c0, c1, c2] _ (HA0.out.on (hb.drew) (Nat.le_refl _)) (HB0.out.on (hb.drew) (Nat.le_refl _)) HL0.out).mono ?_
           rintro e w2 ⟨rfl, hb2⟩
           have hb2' : Below wr.heap.size wr w2 := (Below.refl _ wr).drew.trans hb2
           have K2 : Hid (w2.cell? ⟨p1, o1 + j * 3, none⟩ = some v0 ∧ w2.cell? ⟨p1, o1 + j * 3 + 1, none⟩ = some v1 ∧ w2.cell? ⟨p1, o1 + j * 3 + 2, none⟩ = some v2 ∧ w2.cell? ⟨p2, o2 + j * 3, none⟩ = some u0 ∧ w2.cell? ⟨p2, o2 + j * 3 + 1, none⟩ = some u1 ∧ w2.cell? ⟨p2, o2 + j * 3 + 2, none⟩ = some u2) := ⟨(hb2'.cell (show p1 < _ from q1)).trans e0, (hb2'.cell (show p1 < _ from q1)).trans e1, (hb2'.cell (show p1 < _ from q1)).trans e2, (hb2'.cell (show p2 < _ from q2)).trans f0, (hb2'.cell (show p2 < _ from q2)).trans f1, (hb2'.cell (show p2 < _ from q2)).trans f2⟩
           have hb02 : Below w.heap.size w w2 := hb.trans (hb2'.mono hb.size)
           clear hb2 hb2'))
      clear e0 f0 e1 f1 e2 f2 K2
      go_wp2
      exact ⟨⟨j + 1, by omega, by go_num, hb02⟩, by simp [intOf]; omega⟩
    · obtain rfl : j = n := by omega
      go_wp2
      go_ret
      exact ⟨rfl, hb⟩
end
section
open Go.ChangeShapes Go.WideShapes Go.ChangeAt Go.RowKit
def tupLess : List Va3 → List Va3 → Bool
  | [], b => decide (0 < b.length)
  | _ :: _, [] => false
  | x :: a, y :: b => if sameV x.1 x.2.1 x.2.2 y.1 y.2.1 y.2.2 = true then tupLess a b else lessV x.1 x.2.1 x.2.2 y.1 y.2.1 y.2.2
def beN : Nat → Nat → List UInt8
  | 0, _ => []
  | k + 1, m => beN k (m / 256) ++ [UInt8.ofNat (m % 256)]
def escB : List UInt8 → List UInt8
  | [] => []
  | b :: r => if b = 0 then 0 :: 255 :: escB r else b :: escB r
def vaB (x : Va3) : List UInt8 :=
  if x.1 = 0 then [1] else if x.1 = 1 then [2, UInt8.ofNat x.2.1.toNat] else if x.1 = 2 then 3 :: beN 8 (x.2.1 + 4611686018427387904).toNat else 4 :: (escB x.2.2.data.toList ++ [0, 1])
def tupB (L : List Va3) : List UInt8 := L.flatMap vaB
theorem bl_pre : ∀ (p a b : List UInt8), Op.bytesLess (p ++ a) (p ++ b) = Op.bytesLess a b
  | [], _, _ => rfl
  | x :: p, a, b => by
    show Op.bytesLess (x :: (p ++ a)) (x :: (p ++ b)) = _
    rw [Op.bytesLess, bl_pre p a b]
    have h : ¬ (x < x) := by rw [UInt8.lt_iff_toNat_lt]; omega
    simp [h]
theorem bl_self (a : List UInt8) : Op.bytesLess a a = false := by
  have h := bl_pre a [] []
  rw [List.append_nil] at h
  rw [h]
  rfl
theorem bl_head {x y : UInt8} (a b : List UInt8) (h : ¬ x = y) : Op.bytesLess (x :: a) (y :: b) = decide (x.toNat < y.toNat) := by
  rw [Op.bytesLess]
  have h1 : (x == y) = false := by simpa using h
  rw [h1]
  simp [UInt8.lt_iff_toNat_lt]
theorem u8_ne {p q : Nat} (hp : p < 256) (hq : q < 256) (h : ¬ p = q) : ¬ UInt8.ofNat p = UInt8.ofNat q := by
  intro e
  have := congrArg UInt8.toNat e
  simp at this
  omega
theorem u8_nat {p : Nat} (hp : p < 256) : (UInt8.ofNat p).toNat = p := by simp; omega
theorem bl_beN : ∀ (k m m' : Nat) (a b : List UInt8), m < 256 ^ k → m' < 256 ^ k → ¬ m = m' → Op.bytesLess (beN k m ++ a) (beN k m' ++ b) = decide (m < m')
  | 0, m, m', a, b, h, h', hne => by simp at h h'; omega
  | k + 1, m, m', a, b, h, h', hne => by
    rw [Nat.pow_succ] at h h'
    rw [beN, beN, List.append_assoc, List.append_assoc]
    have h1 : m / 256 < 256 ^ k := Nat.div_lt_of_lt_mul (by omega)
    have h2 : m' / 256 < 256 ^ k := Nat.div_lt_of_lt_mul (by omega)
    by_cases hd : m / 256 = m' / 256
    · rw [hd, bl_pre]
      have hm := Nat.mod_lt m (show 256 > 0 by decide)
      have hm' := Nat.mod_lt m' (show 256 > 0 by decide)
      have hr : ¬ m % 256 = m' % 256 := by omega
      show Op.bytesLess (UInt8.ofNat (m % 256) :: a) (UInt8.ofNat (m' % 256) :: b) = _
      rw [bl_head _ _ (u8_ne hm hm' hr), u8_nat hm, u8_nat hm']
      exact decide_eq_decide.2 (by omega)
    · rw [bl_beN k _ _ _ _ h1 h2 hd]
      exact decide_eq_decide.2 (by omega)
theorem u8_pos {x : UInt8} (h : ¬ x = 0) : 0 < x.toNat := by
  rcases Nat.eq_zero_or_pos x.toNat with h1 | h1
  · exact absurd (UInt8.toNat_inj.1 (by simpa using h1)) h
  · exact h1
theorem bl_esc : ∀ (s s' a b : List UInt8), ¬ s = s' → Op.bytesLess (escB s ++ 0 :: 1 :: a) (escB s' ++ 0 :: 1 :: b) = Op.bytesLess s s'
  | [], [], _, _, h => absurd rfl h
  | [], y :: s', a, b, _ => by
    rw [escB, escB]
    by_cases hy : y = 0
    · rw [if_pos hy]
      show Op.bytesLess ([0] ++ (1 :: a)) ([0] ++ (255 :: (escB s' ++ 0 :: 1 :: b))) = _
      rw [bl_pre, bl_head _ _ (by decide)]
      rfl
    · rw [if_neg hy]
      show Op.bytesLess (0 :: 1 :: a) (y :: (escB s' ++ 0 :: 1 :: b)) = _
      rw [bl_head _ _ (fun e => hy e.symm)]
      exact decide_eq_true (u8_pos hy)
  | x :: s, [], a, b, _ => by
    rw [escB, escB]
    by_cases hx : x = 0
    · rw [if_pos hx]
      show Op.bytesLess ([0] ++ (255 :: (escB s ++ 0 :: 1 :: a))) ([0] ++ (1 :: b)) = _
      rw [bl_pre, bl_head _ _ (by decide)]
      rfl
    · rw [if_neg hx]
      show Op.bytesLess (x :: (escB s ++ 0 :: 1 :: a)) (0 :: 1 :: b) = _
      rw [bl_head _ _ hx]
      exact decide_eq_false (by simp)
  | x :: s, y :: s', a, b, h => by
    by_cases hxy : x = y
    · subst hxy
      have hs : ¬ s = s' := fun e => h (by rw [e])
      have ih := bl_esc s s' a b hs
      have hr : Op.bytesLess (x :: s) (x :: s') = Op.bytesLess s s' := bl_pre [x] s s'
      rw [escB, escB, hr, ← ih]
      by_cases hx : x = 0
      · rw [if_pos hx, if_pos hx]
        exact bl_pre [0, 255] _ _
      · rw [if_neg hx, if_neg hx]
        exact bl_pre [x] _ _
    · rw [escB, escB, bl_head s s' hxy]
      by_cases hx : x = 0
      · subst hx
        rw [if_pos rfl, if_neg (fun e => hxy e.symm)]
        exact bl_head _ _ hxy
      · by_cases hy : y = 0
        · subst hy
          rw [if_neg hx, if_pos rfl]
          exact bl_head _ _ hxy
        · rw [if_neg hx, if_neg hy]
          exact bl_head _ _ hxy
theorem va_less {x y : Va3} (hx : VaGood x.1 x.2.1 x.2.2) (hy : VaGood y.1 y.2.1 y.2.2) (h : sameV x.1 x.2.1 x.2.2 y.1 y.2.1 y.2.2 = false) (a b : List UInt8) :
    Op.bytesLess (vaB x ++ a) (vaB y ++ b) = lessV x.1 x.2.1 x.2.2 y.1 y.2.1 y.2.2 := by
  obtain ⟨k, n, s⟩ := x
  obtain ⟨k', n', s'⟩ := y
  dsimp only at hx hy h ⊢
  have hne : ¬ (k = k' ∧ n = n' ∧ s = s') := of_decide_eq_false h
  unfold lessV vaB
  dsimp only
  by_cases hk : k = k'
  · subst hk
    rw [if_pos rfl]
    rcases hx with ⟨rfl, h1, h2⟩ | ⟨rfl, h1, h2⟩ | ⟨rfl, h1, h2⟩ | ⟨rfl, h1, h2⟩
    · rcases hy with ⟨_, h3, h4⟩ | ⟨h5, _⟩ | ⟨h5, _⟩ | ⟨h5, _⟩ <;> try (exact absurd h5 (by decide))
      exact absurd ⟨rfl, by rw [h1, h3], by rw [str_nil h2, str_nil h4]⟩ hne
    · rcases hy with ⟨h5, _⟩ | ⟨_, h3, h4⟩ | ⟨h5, _⟩ | ⟨h5, _⟩ <;> try (exact absurd h5 (by decide))
      have hn : ¬ n = n' := fun e => hne ⟨rfl, e, by rw [str_nil h2, str_nil h4]⟩
      rw [if_neg hn]
      show Op.bytesLess ([2] ++ (UInt8.ofNat n.toNat :: a)) ([2] ++ (UInt8.ofNat n'.toNat :: b)) = _
      have e1 : n.toNat < 256 := by omega
      have e2 : n'.toNat < 256 := by omega
      rw [bl_pre, bl_head _ _ (u8_ne e1 e2 (by omega)), u8_nat e1, u8_nat e2]
      exact decide_eq_decide.2 (by omega)
    · rcases hy with ⟨h5, _⟩ | ⟨h5, _⟩ | ⟨_, h3, h4⟩ | ⟨h5, _⟩ <;> try (exact absurd h5 (by decide))
      have hn : ¬ n = n' := fun e => hne ⟨rfl, e, by rw [str_nil h2, str_nil h4]⟩
      rw [if_neg hn]
      show Op.bytesLess ([3] ++ (beN 8 (n + 4611686018427387904).toNat ++ a)) ([3] ++ (beN 8 (n' + 4611686018427387904).toNat ++ b)) = _
      rw [bl_pre, bl_beN 8 _ _ _ _ (by omega) (by omega) (by omega)]
      exact decide_eq_decide.2 (by omega)
    · rcases hy with ⟨h5, _⟩ | ⟨h5, _⟩ | ⟨h5, _⟩ | ⟨_, h3, h4⟩ <;> try (exact absurd h5 (by decide))
      rw [if_pos (h1.trans h3.symm)]
      have hs : ¬ s.data.toList = s'.data.toList := fun e => hne ⟨rfl, h1.trans h3.symm, str_eq e⟩
      show Op.bytesLess ([4] ++ ((escB s.data.toList ++ [0, 1]) ++ a)) ([4] ++ ((escB s'.data.toList ++ [0, 1]) ++ b)) = _
      rw [bl_pre, List.append_assoc, List.append_assoc]
      have h6 := bl_esc s.data.toList s'.data.toList a b hs
      simp only [ByteArray.toList_eq]
      exact h6
  · rw [if_neg hk]
    rcases hx with ⟨rfl, _⟩ | ⟨rfl, _⟩ | ⟨rfl, _⟩ | ⟨rfl, _⟩ <;> rcases hy with ⟨rfl, _⟩ | ⟨rfl, _⟩ | ⟨rfl, _⟩ | ⟨rfl, _⟩ <;> first | exact absurd rfl hk | (exact bl_head _ _ (by decide))
theorem vaB_some (x : Va3) : ∃ c r, vaB x = c :: r := by
  unfold vaB
  split
  · exact ⟨_, _, rfl⟩
  · split
    · exact ⟨_, _, rfl⟩
    · split <;> exact ⟨_, _, rfl⟩
theorem tup_less : ∀ {L M : List Va3}, (∀ x ∈ L, VaGood x.1 x.2.1 x.2.2) → (∀ x ∈ M, VaGood x.1 x.2.1 x.2.2) → Op.bytesLess (tupB L) (tupB M) = tupLess L M
  | [], [], _, _ => rfl
  | [], y :: M, _, _ => by
    obtain ⟨c, r, hc⟩ := vaB_some y
    rw [tupLess]
    show Op.bytesLess [] (vaB y ++ tupB M) = _
    rw [hc]
    rfl
  | x :: L, [], _, _ => by
    rw [tupLess]
    show Op.bytesLess _ [] = _
    cases tupB (x :: L) <;> rfl
  | x :: L, y :: M, hL, hM => by
    rw [tupLess]
    show Op.bytesLess (vaB x ++ tupB L) (vaB y ++ tupB M) = _
    rcases hs : sameV x.1 x.2.1 x.2.2 y.1 y.2.1 y.2.2 with _ | _
    · rw [if_neg (by decide)]
      exact va_less (hL x (by simp)) (hM y (by simp)) hs _ _
    · rw [if_pos rfl]
      have h1 := of_decide_eq_true hs
      have h2 : x = y := by
        obtain ⟨a, b, c⟩ := x
        obtain ⟨a', b', c'⟩ := y
        obtain ⟨rfl, rfl, rfl⟩ := h1
        rfl
      rw [h2, bl_pre]
      exact tup_less (fun z hz => hL z (by simp [hz])) (fun z hz => hM z (by simp [hz]))
theorem bl_tri : ∀ (a b : List UInt8), Op.bytesLess a b = false → Op.bytesLess b a = false → a = b
  | [], [], _, _ => rfl
  | [], y :: b, h, _ => by cases h
  | x :: a, [], _, h => by cases h
  | x :: a, y :: b, h, h' => by
    by_cases hxy : x = y
    · subst hxy
      rw [show x :: a = [x] ++ a from rfl, show x :: b = [x] ++ b from rfl, bl_pre] at h h'
      rw [bl_tri a b h h']
    · rw [bl_head _ _ hxy] at h
      rw [bl_head _ _ (fun e => hxy e.symm)] at h'
      have h1 := of_decide_eq_false h
      have h2 := of_decide_eq_false h'
      exact absurd (UInt8.toNat_inj.1 (by omega)) hxy
theorem lessV_or {x y : Va3} (h : sameV x.1 x.2.1 x.2.2 y.1 y.2.1 y.2.2 = false) : lessV x.1 x.2.1 x.2.2 y.1 y.2.1 y.2.2 = !lessV y.1 y.2.1 y.2.2 x.1 x.2.1 x.2.2 := by
  obtain ⟨k, n, s⟩ := x
  obtain ⟨k', n', s'⟩ := y
  dsimp only at h ⊢
  have hne : ¬ (k = k' ∧ n = n' ∧ s = s') := of_decide_eq_false h
  unfold lessV
  by_cases hk : k = k'
  · subst hk
    rw [if_pos rfl, if_pos rfl]
    by_cases hn : n = n'
    · subst hn
      rw [if_pos rfl, if_pos rfl]
      rcases h1 : Op.bytesLess s.toList s'.toList with _ | _
      · rcases h2 : Op.bytesLess s'.toList s.toList with _ | _
        · have h3 := bl_tri _ _ h1 h2
          simp only [ByteArray.toList_eq] at h3
          exact absurd ⟨rfl, rfl, str_eq h3⟩ hne
        · rfl
      · rcases h2 : Op.bytesLess s'.toList s.toList with _ | _
        · rfl
        · exact absurd (h1.symm.trans (bl_asym _ _ h2)) (by decide)
    · rw [if_neg hn, if_neg (fun e => hn e.symm)]
      by_cases h1 : n < n'
      · rw [decide_eq_true h1, decide_eq_false (by omega)]; rfl
      · rw [decide_eq_false h1, decide_eq_true (by omega)]; rfl
  · rw [if_neg hk, if_neg (fun e => hk e.symm)]
    by_cases h1 : k < k'
    · rw [decide_eq_true h1, decide_eq_false (by omega)]; rfl
    · rw [decide_eq_false h1, decide_eq_true (by omega)]; rfl
where
  bl_asym : ∀ (a b : List UInt8), Op.bytesLess a b = true → Op.bytesLess b a = false
    | _, [], h => by simp [Op.bytesLess] at h
    | [], y :: b, _ => rfl
    | x :: a, y :: b, h => by
      by_cases hxy : x = y
      · subst hxy
        rw [show x :: a = [x] ++ a from rfl, show x :: b = [x] ++ b from rfl, bl_pre] at h ⊢
        exact bl_asym a b h
      · rw [bl_head _ _ hxy] at h
        rw [bl_head _ _ (fun e => hxy e.symm)]
        have h1 := of_decide_eq_true h
        exact decide_eq_false (by omega)
theorem tup_tri : ∀ {L M : List Va3}, tupLess L M = false → tupLess M L = false → L = M
  | [], [], _, _ => rfl
  | [], y :: M, h, _ => by rw [tupLess] at h; exact absurd (of_decide_eq_false h) (by simp)
  | x :: L, [], _, h => by rw [tupLess] at h; exact absurd (of_decide_eq_false h) (by simp)
  | x :: L, y :: M, h, h' => by
    rw [tupLess] at h h'
    rcases hs : sameV x.1 x.2.1 x.2.2 y.1 y.2.1 y.2.2 with _ | _
    · have hs' : sameV y.1 y.2.1 y.2.2 x.1 x.2.1 x.2.2 = false := by
        unfold sameV at hs ⊢
        have h1 := of_decide_eq_false hs
        exact decide_eq_false fun e => h1 ⟨e.1.symm, e.2.1.symm, e.2.2.symm⟩
      rw [hs, if_neg (by decide)] at h
      rw [hs', if_neg (by decide)] at h'
      have h1 := lessV_or hs
      rw [h, h'] at h1
      cases h1
    · have h1 := of_decide_eq_true hs
      have h2 : x = y := by
        obtain ⟨a, b, c⟩ := x
        obtain ⟨a', b', c'⟩ := y
        obtain ⟨rfl, rfl, rfl⟩ := h1
        rfl
      subst h2
      rw [hs, if_pos rfl] at h h'
      rw [tup_tri h h']
theorem tup_inj {L M : List Va3} (hL : ∀ x ∈ L, VaGood x.1 x.2.1 x.2.2) (hM : ∀ x ∈ M, VaGood x.1 x.2.1 x.2.2) (h : tupB L = tupB M) : L = M :=
  tup_tri (by rw [← tup_less hL hM, h, bl_self]) (by rw [← tup_less hM hL, h, bl_self])
def rdT : List UInt8 → Option (List UInt8 × List UInt8)
  | a :: b :: r => if a = 0 then (if b = 1 then some ([], r) else (rdT r).map fun p => (0 :: p.1, p.2)) else (rdT (b :: r)).map fun p => (a :: p.1, p.2)
  | _ => none
termination_by l => l.length
def beV : List UInt8 → Nat
  | l => l.foldl (fun n b => n * 256 + b.toNat) 0
def RdSays (b : List UInt8) (at_ : Nat) (x : Va3) (next : Nat) : Prop := at_ < next ∧ ∀ (y : Va3) (r : List UInt8), VaGood y.1 y.2.1 y.2.2 → b.drop at_ = vaB y ++ r → x = y ∧ next = at_ + (vaB y).length
def TupIs (b : List UInt8) (L : List Va3) : Prop := TupGood L ∧ tupB L = b
theorem TupIs.one {b : List UInt8} {L M : List Va3} (h : TupIs b L) (h' : TupIs b M) : L = M := tup_inj h.1.1 h'.1.1 (h.2.trans h'.2.symm)
def RdTup (b : List UInt8) (L : List Va3) (at_ : Nat) : Prop := ∀ M, TupIs b M → ∃ S, M = L ++ S ∧ at_ ≤ b.length ∧ b.drop at_ = tupB S
theorem RdTup.next {b : List UInt8} {L : List Va3} {at_ next : Nat} {x : Va3} (h : RdTup b L at_) (hlt : at_ < b.length) (hr : RdSays b at_ x next) : RdTup b (L ++ [x]) next := by
  intro M hM
  obtain ⟨S, hS, hle, hd⟩ := h M hM
  rcases S with _ | ⟨y, S⟩
  · have h1 : (b.drop at_).length = 0 := by rw [hd]; rfl
    rw [List.length_drop] at h1
    omega
  · have hy : VaGood y.1 y.2.1 y.2.2 := hM.1.1 y (by rw [hS]; simp)
    obtain ⟨hx, hn⟩ := hr.2 y (tupB S) hy hd
    refine ⟨S, by rw [hS, hx]; simp, ?_, ?_⟩
    · have h1 : (b.drop at_).length = (vaB y).length + (tupB S).length := by rw [hd]; show (vaB y ++ tupB S).length = _; rw [List.length_append]
      rw [List.length_drop] at h1
      omega
    · rw [hn, ← List.drop_drop, hd]
      show (vaB y ++ tupB S).drop _ = _
      rw [List.drop_left]
theorem RdTup.none {b : List UInt8} {L : List Va3} {at_ : Nat} (h : RdTup b L at_) (he : ¬ (at_ < b.length ∧ L.length ≤ 4)) (hn : ¬ (at_ = b.length ∧ TupGood L ∧ tupB L = b)) : ∀ M, ¬ TupIs b M := by
  intro M hM
  obtain ⟨S, hS, hle, hd⟩ := h M hM
  by_cases h4 : L.length ≤ 4
  · have h1 : at_ = b.length := by omega
    rw [h1, List.drop_length] at hd
    rcases S with _ | ⟨y, S⟩
    · rw [List.append_nil] at hS
      subst hS
      exact hn ⟨h1, hM.1, hM.2⟩
    · obtain ⟨c, r, hc⟩ := vaB_some y
      have h2 : tupB (y :: S) = c :: (r ++ tupB S) := by show vaB y ++ tupB S = _; rw [hc]; rfl
      rw [h2] at hd
      cases hd
  · have h1 := hM.1.2
    rw [hS, List.length_append] at h1
    omega
open Go.Lib (byteCells byteCells_length byteCells_append)

def BysAt (w : World) (a : Option Addr) (n : Nat) (l : List UInt8) : Prop :=
  l.length = n ∧ n ≤ 2097152 ∧ (n = 0 ∨ ∃ b o, a = some ⟨b, o, none⟩ ∧ ∀ i x, l[i]? = some x → w.cell? ⟨b, o + i, none⟩ = some (.int .u8 (x.toNat : Int)))
theorem BysAt.below {w w' : World} {a : Option Addr} {n : Nat} {l : List UInt8} (h : BysAt w a n l) {B : Nat} (hb : Below B w w') (hB : w.heap.size ≤ B) : BysAt w' a n l := by
  obtain ⟨h1, h2, h3 | ⟨b, o, h3, h4⟩⟩ := h
  · exact ⟨h1, h2, .inl h3⟩
  · refine ⟨h1, h2, .inr ⟨b, o, h3, fun i x hi => ?_⟩⟩
    have h5 := h4 i x hi
    exact (hb.cell (Nat.lt_of_lt_of_le (World.block_lt_of_cell? w _ h5) hB)).trans h5
theorem BysAt.set {w : World} {b o n : Nat} {l : List UInt8} {q : Addr} (h : BysAt w (some ⟨b, o, none⟩) n l) (hq : ¬ b = q.block) (v : Value) : BysAt (w.setCell q v) (some ⟨b, o, none⟩) n l := by
  obtain ⟨h1, h2, h3 | ⟨b', o', h3, h4⟩⟩ := h
  · exact ⟨h1, h2, .inl h3⟩
  · cases h3
    refine ⟨h1, h2, .inr ⟨b, o, rfl, fun i x hi => ?_⟩⟩
    rw [World.cell?_of_block (w := w) (Below.heap_setCell _ _ _ _ hq)]
    exact h4 i x hi
theorem dropB {l : List UInt8} {j : Nat} {x : UInt8} (h : l[j]? = some x) : l.drop j = x :: l.drop (j + 1) := by
  rw [List.drop_eq_getElem_cons (List.getElem?_eq_some_iff.1 h).1, (List.getElem?_eq_some_iff.1 h).2]
def RdT (l : List UInt8) (i j : Nat) (o : List UInt8) : Prop := o.length ≤ j ∧ rdT (l.drop i) = (rdT (l.drop j)).map fun p => (o ++ p.1, p.2)
theorem RdT.two {l : List UInt8} {i j : Nat} {o : List UInt8} {y : UInt8} (h : RdT l i j o) (h0 : l[j]? = some 0) (h1 : l[j + 1]? = some y) (hy : ¬ y = 1) : RdT l i (j + 2) (o ++ [0]) := by
  refine ⟨by rw [List.length_append, List.length_singleton]; have := h.1; omega, ?_⟩
  rw [h.2, dropB h0, dropB h1, rdT, if_pos rfl, if_neg hy]
  rcases rdT (l.drop (j + 2)) with _ | ⟨a, b⟩
  · rfl
  · simp
theorem RdT.one {l : List UInt8} {i j : Nat} {o : List UInt8} {x y : UInt8} (h : RdT l i j o) (h0 : l[j]? = some x) (h1 : l[j + 1]? = some y) (hx : ¬ x = 0) : RdT l i (j + 1) (o ++ [x]) := by
  refine ⟨by rw [List.length_append, List.length_singleton]; have := h.1; omega, ?_⟩
  rw [h.2, dropB h0, dropB h1, rdT, if_neg hx, ← dropB h1]
  rcases rdT (l.drop (j + 1)) with _ | ⟨a, b⟩
  · rfl
  · simp
theorem RdT.none {l : List UInt8} {i j : Nat} {o : List UInt8} (h : RdT l i j o) (hj : ¬ j + 1 < l.length) : rdT (l.drop i) = none := by
  rw [h.2]
  have h1 : (l.drop j).length ≤ 1 := by rw [List.length_drop]; omega
  generalize l.drop j = d at h1 ⊢
  rcases d with _ | ⟨x, _ | ⟨y, r⟩⟩
  · rw [rdT]; rfl
    intro a b r e; cases e
  · rw [rdT]; rfl
    intro a b r e; cases e
  · simp at h1
def TxAns (l : List UInt8) (i : Nat) (e : Ending) : Prop := ∃ (s : ByteArray) (next : Nat), e = .returned (.tuple #[.string s, .int .i64 (next : Int)]) ∧ i < next ∧ next ≤ l.length + 1 ∧ s.size ≤ l.length ∧ ∀ t r, rdT (l.drop i) = some (t, r) → s.data.toList = t ∧ next + r.length = l.length
end
section
open Go.RowKit
structure Only (p : Nat) (w w' : World) : Prop where
  os : w'.os = w.os
  tape : w'.tape = w.tape
  output : w'.output = w.output
  size : w'.heap.size = w.heap.size
  block : ∀ k, k ≠ p → w'.heap[k]? = w.heap[k]?
theorem Only.refl (p : Nat) (w : World) : Only p w w := ⟨rfl, rfl, rfl, rfl, fun _ _ => rfl⟩
theorem Only.trans {p : Nat} {a b c : World} (h : Only p a b) (k : Only p b c) : Only p a c :=
  ⟨k.os.trans h.os, k.tape.trans h.tape, k.output.trans h.output, k.size.trans h.size, fun i hi => (k.block i hi).trans (h.block i hi)⟩
theorem Only.drew {p : Nat} {a b : World} (h : Only p a b) : Only p a b.drew := ⟨h.os, h.tape, h.output, h.size, h.block⟩
theorem Only.setCell {p : Nat} {a b : World} (h : Only p a b) (o : Nat) (v : Value) : Only p a (b.setCell ⟨p, o, none⟩ v) :=
  h.trans ⟨rfl, rfl, rfl, by simp [World.setCell], fun k hk => Below.heap_setCell _ _ _ _ hk⟩
theorem Only.below {p : Nat} {w w' : World} (h : Only p w w') {B : Nat} (hB : B ≤ p) : Below B w w' :=
  ⟨h.os, h.tape, h.output, Nat.le_of_eq h.size.symm, fun k hk => h.block k (by omega)⟩
theorem Only.owns {p : Nat} {w w' : World} (h : Only p w w') {base : Nat} {e : TypeId} {size : Nat} {v : Value} {n : Nat} {xs : List Value} (ho : w.ownsRow base e size v n xs) (hp : p < base) : w'.ownsRow base e size v n xs := by
  obtain ⟨h1, h2 | ⟨g, cap, cur, h3, h4, h5, h6⟩⟩ := ho
  · exact ⟨h1, .inl h2⟩
  · exact ⟨h1, .inr ⟨g, cap, cur, h3, h4, by rw [h.block g (by omega)]; exact h5, h6⟩⟩

def BytesAt (w : World) (p : Nat) (a : Option Addr) (n : Nat) : Prop :=
  n = 0 ∨ ∃ b o, a = some ⟨b, o, none⟩ ∧ b < p ∧ ∀ j, j < n → ∃ z : Nat, z ≤ 255 ∧ w.cell? ⟨b, o + j, none⟩ = some (.int .u8 (z : Int))
theorem BytesAt.keep {w w' : World} {p : Nat} {a : Option Addr} {n : Nat} (h : BytesAt w p a n) (hb : ∀ k, k < p → w'.heap[k]? = w.heap[k]?) : BytesAt w' p a n := by
  rcases h with h | ⟨b, o, h1, h2, h3⟩
  · exact .inl h
  · refine .inr ⟨b, o, h1, h2, fun j hj => ?_⟩
    obtain ⟨z, h4, h5⟩ := h3 j hj
    exact ⟨z, h4, by rw [World.cell?_of_block (w := w) (hb b h2)]; exact h5⟩
theorem BytesAt.mono {w : World} {p q : Nat} {a : Option Addr} {n : Nat} (h : BytesAt w p a n) (hq : p ≤ q) : BytesAt w q a n := by
  rcases h with h | ⟨b, o, h1, h2, h3⟩
  · exact .inl h
  · exact .inr ⟨b, o, h1, by omega, h3⟩

def CurIs (T : TypeId) (w : World) (p : Nat) (a : Option Addr) (n c : Nat) (i h : Int) : Prop :=
  w.heap[p]? = some (.cells #[.slice a n c, .int .i64 i, .int .i64 h] T (0, 0))
def Cur (T : TypeId) (w : World) (p : Nat) (a : Option Addr) (n c : Nat) : Prop :=
  (∃ i h : Int, CurIs T w p a n c i h ∧ 0 ≤ i ∧ i ≤ n) ∧ BytesAt w p a n ∧ n ≤ 1048576
theorem Cur.keep {T : TypeId} {w w' : World} {p : Nat} {a : Option Addr} {n c : Nat} (h : Cur T w p a n c) (hb : ∀ k, k ≤ p → w'.heap[k]? = w.heap[k]?) : Cur T w' p a n c := by
  obtain ⟨⟨i, x, h1, h2⟩, h3, h4⟩ := h
  exact ⟨⟨i, x, by unfold CurIs; rw [hb p (Nat.le_refl _)]; exact h1, h2⟩, h3.keep (fun k hk => hb k (by omega)), h4⟩
theorem Cur.lt {T : TypeId} {w : World} {p : Nat} {a : Option Addr} {n c : Nat} (h : Cur T w p a n c) : p < w.heap.size := by
  obtain ⟨⟨i, x, h1, h2⟩, h3, h4⟩ := h
  exact (Array.getElem?_eq_some_iff.1 h1).1
theorem CurIs.cell {T : TypeId} {w : World} {p : Nat} {a : Option Addr} {n c : Nat} {i x : Int} (h : CurIs T w p a n c i x) :
    w.cell? ⟨p, 0, none⟩ = some (.slice a n c) ∧ w.cell? ⟨p, 1, none⟩ = some (.int .i64 i) ∧ w.cell? ⟨p, 2, none⟩ = some (.int .i64 x) := by
  unfold CurIs at h
  simp [World.cell?, h]
theorem CurIs.frozen {T : TypeId} {w : World} {p : Nat} {a : Option Addr} {n c : Nat} {i x : Int} (h : CurIs T w p a n c i x) (j : Nat) : w.frozen? ⟨p, j, none⟩ = false := by
  unfold CurIs at h
  simp [World.frozen?, h]
theorem CurIs.drew {T : TypeId} {w : World} {p : Nat} {a : Option Addr} {n c : Nat} {i x : Int} (h : CurIs T w p a n c i x) : CurIs T w.drew p a n c i x := h

theorem Only.cell {p : Nat} {w w' : World} (h : Only p w w') {g o : Nat} (hg : g ≠ p) : w'.cell? ⟨g, o, none⟩ = w.cell? ⟨g, o, none⟩ := World.cell?_of_block (w := w) (h.block g hg)
end
section
open Go.ChangeShapes Go.WideShapes Go.ChangeAt Go.RowKit Go.Joins
open Go.Lib (byteCells byteCells_length byteCells_append)

noncomputable def okT (b : List UInt8) : Bool := @decide (∃ L, TupIs b L) (Classical.propDecidable _)
noncomputable def lstT (b : List UInt8) : List Va3 := @dite _ (∃ L, TupIs b L) (Classical.propDecidable _) (fun h => Classical.choose h) (fun _ => [])
theorem lstT_is {b : List UInt8} {L : List Va3} (h : TupIs b L) : okT b = true ∧ lstT b = L := by
  have he : ∃ L, TupIs b L := ⟨L, h⟩
  refine ⟨@decide_eq_true _ (Classical.propDecidable _) he, ?_⟩
  unfold lstT
  rw [dif_pos he]
  exact (Classical.choose_spec he).one h
theorem lstT_no {b : List UInt8} (h : ∀ M, ¬ TupIs b M) : okT b = false ∧ lstT b = [] := by
  have he : ¬ ∃ L, TupIs b L := fun ⟨L, hL⟩ => h L hL
  refine ⟨@decide_eq_false _ (Classical.propDecidable _) he, ?_⟩
  unfold lstT
  rw [dif_neg he]
def TupAns (b : List UInt8) (w : World) (e : Ending) (w' : World) : Prop := ∃ v ok L, e = .returned (.tuple #[v, .bool ok]) ∧ VOwn w' w.heap.size v L ∧ ((ok = true ∧ TupIs b L) ∨ (ok = false ∧ L = [] ∧ ∀ M, ¬ TupIs b M))
theorem TupAns.one {b : List UInt8} {w w' : World} {e : Ending} (h : TupAns b w e w') : ∃ v, e = .returned (.tuple #[v, .bool (okT b)]) ∧ VOwn w' w.heap.size v (lstT b) := by
  obtain ⟨v, ok, L, rfl, ho, ⟨rfl, hL⟩ | ⟨rfl, rfl, hn⟩⟩ := h
  · obtain ⟨h1, h2⟩ := lstT_is hL
    rw [h1, h2]
    exact ⟨v, rfl, ho⟩
  · obtain ⟨h1, h2⟩ := lstT_no hn
    rw [h1, h2]
    exact ⟨v, rfl, ho⟩
end
end Go.Proofs.Ytmgofehafjogfab
