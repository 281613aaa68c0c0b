/- DrawResSame, walked. -/
import Derived.Test.YtlnhmmpmnflagadDrawAll
import Derived.Laws.AppendOwnNone
namespace Go.Proofs.Ytlnhmmpmnflagad
open Go.ChangeShapes Go.WideShapes Go.ChangeAt Go.RowKit

theorem int_alloc {w : World} {a : Option Addr} {m : Nat} {xs : List Int} (h : IntAt w a m xs) (o : Obj) : IntAt (w.alloc o) a m xs := h.below ((Below.refl _ w).alloc (Nat.le_refl _) o) (Nat.le_refl _)
theorem int_grown {w w' : World} {p : Nat} {a : Option Addr} {m : Nat} {xs : List Int} (h : IntAt w a m xs) (hf : w.grownBy w' (some p)) (hq : ∀ q, a = some q → p < q.block) : IntAt w' a m xs := by
  refine ⟨h.1, h.2.1, ?_⟩
  rcases h.2.2 with h0 | ⟨b, o, rfl, g⟩
  · exact .inl h0
  · have hb : p < b := hq ⟨b, o, none⟩ rfl
    exact .inr ⟨b, o, rfl, fun i hi => far_cell hf (g i hi) (by omega)⟩
theorem keep2a {w : World} {br : Nat} {x0 x1 : Value} (h : w.cell? ⟨br, 0, none⟩ = some x0 ∧ w.cell? ⟨br, 1, none⟩ = some x1) (hb : br < w.heap.size) (o : Obj) : (w.alloc o).cell? ⟨br, 0, none⟩ = some x0 ∧ (w.alloc o).cell? ⟨br, 1, none⟩ = some x1 := by
  rw [World.cell?_alloc_past _ _ _ hb, World.cell?_alloc_past _ _ _ hb]
  exact h
theorem keep2s {w : World} {br : Nat} {x0 x1 : Value} (h : w.cell? ⟨br, 0, none⟩ = some x0 ∧ w.cell? ⟨br, 1, none⟩ = some x1) {q : Addr} (hq : q.block ≠ br) (v : Value) : (w.setCell q v).cell? ⟨br, 0, none⟩ = some x0 ∧ (w.setCell q v).cell? ⟨br, 1, none⟩ = some x1 := by
  rw [World.cell?_setCell_far w q ⟨br, 0, none⟩ v hq, World.cell?_setCell_far w q ⟨br, 1, none⟩ v hq]
  exact h
theorem keep4 {w : World} {b br : Nat} {x0 x1 y0 y1 : Value} (h : (w.cell? ⟨b, 0, none⟩ = some x0 ∧ w.cell? ⟨b, 1, none⟩ = some x1) ∧ (w.cell? ⟨br, 0, none⟩ = some y0 ∧ w.cell? ⟨br, 1, none⟩ = some y1)) {q : Addr} (h1 : q.block ≠ b) (h2 : q.block ≠ br) (v : Value) :
    ((w.setCell q v).cell? ⟨b, 0, none⟩ = some x0 ∧ (w.setCell q v).cell? ⟨b, 1, none⟩ = some x1) ∧ ((w.setCell q v).cell? ⟨br, 0, none⟩ = some y0 ∧ (w.setCell q v).cell? ⟨br, 1, none⟩ = some y1) := ⟨keep2s h.1 h1 v, keep2s h.2 h2 v⟩
theorem FreshN.kind {w : World} {a : Option Addr} {m c : Nat} (h : FreshN w a m c) : (a = none ∧ m = 0 ∧ c = 0) ∨ ∃ q, a = some q := by
  rcases h with h | ⟨q, hq, _⟩
  · exact .inl h
  · exact .inr ⟨q, hq⟩
/-- The world in which the two answers lie in their boxes. -/
abbrev Ans2 (w : World) (b : Nat) (k1 : Int) (a1 : Option Addr) (n1 c1 : Nat) (k2 : Int) (a2 : Option Addr) (n2 c2 : Nat) : World :=
  (((w.setCell ⟨b, 0, none⟩ (.int .i64 k1)).setCell ⟨b, 1, none⟩ (.slice a1 n1 c1)).setCell ⟨b + 1, 0, none⟩ (.int .i64 k2)).setCell ⟨b + 1, 1, none⟩ (.slice a2 n2 c2)
theorem answer2 {w : World} {b : Nat} (h1 : SBox w b 0 none 0 0) (h2 : SBox w (b + 1) 0 none 0 0) (k1 : Int) (a1 : Option Addr) (n1 c1 : Nat) (k2 : Int) (a2 : Option Addr) (n2 c2 : Nat) :
    SBox (Ans2 w b k1 a1 n1 c1 k2 a2 n2 c2) b k1 a1 n1 c1 ∧ SBox (Ans2 w b k1 a1 n1 c1 k2 a2 n2 c2) (b + 1) k2 a2 n2 c2 := by
  refine ⟨?_, ?_⟩
  · exact (((h1.put0 k1).put1 a1 n1 c1).set (show b ≠ b + 1 by omega) _).set (show b ≠ b + 1 by omega) _
  · exact (((h2.set (show b + 1 ≠ b by omega) _).set (show b + 1 ≠ b by omega) _).put0 k2).put1 a2 n2 c2
theorem ans2_int {w : World} {b : Nat} {a : Option Addr} {n : Nat} {xs : List Int} (h : IntAt w a n xs) (hq : ∀ q, a = some q → b + 1 < q.block) {k1 : Int} {a1 : Option Addr} {n1 c1 : Nat} {k2 : Int} {a2 : Option Addr} {n2 c2 : Nat} : IntAt (Ans2 w b k1 a1 n1 c1 k2 a2 n2 c2) a n xs := by
  have h0 : ∀ q, a = some q → b ≠ q.block := fun q e => by have := hq q e; omega
  have h1 : ∀ q, a = some q → b + 1 ≠ q.block := fun q e => by have := hq q e; omega
  exact int_far (int_far (int_far (int_far h h0 _) h0 _) h1 _) h1 _
theorem ans2_below {B : Nat} {w0 w : World} {b : Nat} (h : Below B w0 w) (hB : B ≤ b) {k1 : Int} {a1 : Option Addr} {n1 c1 : Nat} {k2 : Int} {a2 : Option Addr} {n2 c2 : Nat} : Below B w0 (Ans2 w b k1 a1 n1 c1 k2 a2 n2 c2) :=
  (((h.setCell hB _).setCell hB _).setCell (Nat.le_succ_of_le hB) _).setCell (Nat.le_succ_of_le hB) _
theorem news_any {w : World} {ad : Addr} {n : Nat} {xs : List Int} (h : IntAt w (some ad) n xs) : ∀ (j : Nat) (u : Value), (xs.map I)[j]? = some u → w.cell? (ad.add j) = some u := by
  intro j u hj
  have hl := h.1
  have hj' : j < n := by
    rcases Nat.lt_or_ge j n with h1 | h1
    · exact h1
    · rw [List.getElem?_eq_none (by simp; omega)] at hj; cases hj
  rcases h.2.2 with h0 | ⟨b, o, e, g⟩
  · omega
  · cases e
    have e : (⟨b, o, none⟩ : Addr).add j = ⟨b, o + j, none⟩ := by simp [Addr.add]
    rw [e, g j hj']
    rw [List.getElem?_map, List.getElem?_eq_getElem (by omega)] at hj
    simpa [List.getD, show j < xs.length by omega] using hj
/-- append of no list onto a list of the call's own, as one step of a region that draws its order. -/
theorem step_append_none {P : Program} {ops : Array Oper} {o : Oper} {a : Act} (w : World) {K : Act → World → Prop} {Q : Exit → Act → World → Prop} {E : Prop} (hg : o.guard = none) (s x : Operand) (t : TypeId)
    (ho : o.op = .call { callee := .builtin .append, args := #[s, x], argTypes := #[t, t] })
    (base : Nat) (e : TypeId) (i : TypeInfo) (size : Nat) (ht : P.underlying t = some (.slice e)) (hi : P.info? e = some i)
    (v : Value) (n : Nat) (xs : List Value) (hs : a.eval s = v) (hown : w.ownsRow base e size v n xs) (hx : a.eval x = .slice none 0 0) (h : K (a.put o.dst v) w) :
    if Region.wanted o (yielded ops a.tmps) = true then Oper.wp P o a w K Q else E := by
  rw [if_pos (by simp [Region.wanted, hg])]
  have hrun := run_append_owned_none (P := P) (w := w) base t o.type e i size ht hi v n xs hown
  unfold Oper.wp
  simp [execOp, ho, resolve, invoke, builtin, hs, hx, hrun, Result.andThen]
  exact h
/-- While two results are drawn. -/
structure SameSt (w : World) (p : Nat) (a : Option Addr) (n c g : Nat) (st : Int) (xs : List Int) (br : Nat) (wr : World) : Prop where
  cur : Cur 67 wr p a n c
  s1 : SBox wr w.heap.size 0 none 0 0
  s2 : SBox wr (w.heap.size + 1) 0 none 0 0
  bel : Below w.heap.size w wr
  here : IntAt wr (some ⟨g, 0, none⟩) 4 xs
  rb : RBox wr br (some ⟨g, 0, none⟩) 4 4 st
theorem SameSt.far {w wr wr' : World} {p n c g br : Nat} {a : Option Addr} {st : Int} {xs : List Int} (h : SameSt w p a n c g st xs br wr) (hp : w.heap.size + 1 < p) (hg : p < g) (hb : g < br) (hC : Cur 67 wr' p a n c) (hf : wr.grownBy wr' (some p)) : SameSt w p a n c g st xs br wr' :=
  ⟨hC, h.s1.far hf (by omega), h.s2.far hf (by omega), h.bel.grown hf h.bel.size (fun k e => by cases e; omega), h.here.far hf (by omega), h.rb.far hf (by omega)⟩

theorem SameSt.set {w wr : World} {p n c g br : Nat} {a : Option Addr} {st : Int} {xs : List Int} (h : SameSt w p a n c g st xs br wr) (hp : w.heap.size + 1 < p) (hg : p < g) (hb : g < br) {q : Addr} (hq : br < q.block) (v : Value) : SameSt w p a n c g st xs br (wr.setCell q v) :=
  ⟨cur_set h.cur (by omega) _, h.s1.set (by omega) _, h.s2.set (by omega) _, h.bel.setCell (by omega) _, h.here.set_far (by omega) _, h.rb.set (by omega) _⟩

set_option maxHeartbeats 1000000 in
set_option maxRecDepth 100000 in
theorem drawResSame_any (a : Option Addr) (n c : Nat) (w : World) (hn : n ≤ 1048576) (hB : BytesAt w w.heap.size a n) :
    Calls Try.prog 9 #[.slice a n c] w fun e w' => ∃ (k1 k2 : Int) (a1 a2 : Option Addr) (n1 c1 n2 c2 : Nat) (xs ys : List Int), e = .returned (.tuple #[ResV k1 a1 n1 c1, ResV k2 a2 n2 c2]) ∧ IntAt w' a1 n1 xs ∧ IntAt w' a2 n2 ys ∧ Below w.heap.size w w' := by
  have HB : Hid (BytesAt w w.heap.size a n) := hB
  clear hB
  go_enter Try.func9, Try.ntmps9
  go_wp2_with fail
  obtain ⟨W0, hW0⟩ : ∃ W0, W0 = (w.alloc (.cells #[.int .i64 0, .slice none 0 0] 30)).alloc (.cells #[.int .i64 0, .slice none 0 0] 30) := ⟨_, rfl⟩
  have hs0 : W0.heap.size = w.heap.size + 1 + 1 := by rw [hW0]; simp
  have hb0 : Below w.heap.size w W0 := by rw [hW0]; exact ((Below.refl _ w).alloc (Nat.le_refl _) _).alloc (by simp) _
  have hx0 : SBox W0 w.heap.size 0 none 0 0 := by rw [hW0]; exact (sbox_new w 0 none 0 0).far (p := w.heap.size + 5) (World.grownBy_alloc _ _ _) (by omega)
  have hz0 : SBox W0 (w.heap.size + 1) 0 none 0 0 := by
    rw [hW0]
    have h := sbox_new (w.alloc (.cells #[.int .i64 0, .slice none 0 0] 30)) 0 none 0 0
    simpa using h
  rw [← hW0]
  clear hW0
  refine (l1New_any a n c _ hn (bytes_now2 HB.out hb0)).mono ?_
  rintro e w1 ⟨rfl, hC1, hb1, hs1⟩
  rw [hs0] at hC1 hb1 hs1
  have HR1 : Hid (SBox w1 w.heap.size 0 none 0 0 ∧ SBox w1 (w.heap.size + 1) 0 none 0 0) :=
    ⟨hx0.far (p := w.heap.size + 5) (far_below (hb1.mono (by omega)) _) (by omega), hz0.far (p := w.heap.size + 5) (far_below (hb1.mono (by omega)) _) (by omega)⟩
  have HB1 : Hid (Below w.heap.size w w1) := hb0.trans (hb1.mono (by omega))
  clear hb0 hb1 hx0 hz0
  obtain ⟨p, hp⟩ : ∃ p, p = w.heap.size + 1 + 1 := ⟨_, rfl⟩
  have HC1 : Hid (Cur 67 w1 p a n c) := by rw [hp]; exact hC1
  rw [hs0, ← hp]
  have hpw : w.heap.size + 1 < p := by omega
  clear hC1 hp hs0 hs1
  go_wp2_with fail
  refine (l3DrawRight_any p a n c _ HC1.out).mono ?_
  rintro e w2 ⟨g, xs, st, rfl, hgw, own2, hsm, hst, hC2, hf2⟩
  have hpl1 := HC1.out.lt
  have hgp : p < g := by omega
  have hg2 : g < w2.heap.size := (own2.lt _ rfl).2
  have S0 : SameSt w p a n c g st xs w2.heap.size (w2.alloc (.cells #[.slice (some ⟨g, 0, none⟩) 4 4, .int .i64 st] 26)) :=
    ⟨cur_alloc hC2 _, (HR1.out.1.far hf2 (by omega)).far (p := p) (World.grownBy_alloc _ _ _) (by omega), (HR1.out.2.far hf2 (by omega)).far (p := p) (World.grownBy_alloc _ _ _) (by omega),
      (HB1.out.grown hf2 HB1.out.size (fun k e => by cases e; omega)).alloc (by have := hf2.size; have := HB1.out.size; omega) _, (own_intAt own2 (by omega)).far (p := p) (World.grownBy_alloc _ _ _) (by omega), rbox_new _ _ _ _ _⟩
  obtain ⟨br, hbr⟩ : ∃ br, br = w2.heap.size := ⟨_, rfl⟩
  obtain ⟨w3, hw3⟩ : ∃ w3, w3 = w2.alloc (.cells #[.slice (some ⟨g, 0, none⟩) 4 4, .int .i64 st] 26) := ⟨_, rfl⟩
  rw [← hbr, ← hw3] at S0
  have HS0 : Hid (SameSt w p a n c g st xs br w3) := S0
  have hbr1 : g < br := by omega
  clear S0 own2 hsm hst hC2 hf2 HR1 HB1 HC1 hg2 hpl1 hgw
  go_wp2_with fail
  rw [← hbr, ← hw3]
  clear hbr hw3
  obtain ⟨r0, r1, -⟩ := HS0.out.rb.facts
  have hbl3 : br < w3.heap.size := HS0.out.rb.facts.2.2.2.2
  refine Code.wp_mono (Q := Exit.then (fun aa w' => ∃ (b : Nat) (kind k v code : Int) (a' : Option Addr) (m' c' : Nat) (ys : List Int), aa = ⟨List.toArray (Value.slice a n c :: undef :: Value.pointer (some ⟨w.heap.size, 0, none⟩) :: Value.pointer (some ⟨w.heap.size + 1, 0, none⟩) :: Value.pointer (some ⟨p, 0, none⟩) :: Value.pointer (some ⟨br, 0, none⟩) :: Value.pointer (some ⟨b, 0, none⟩) :: Value.slice a n c :: Value.pointer (some ⟨p, 0, none⟩) :: Value.pointer (some ⟨p, 0, none⟩) :: Value.agg #[Value.slice (some ⟨g, 0, none⟩) 4 4, Value.int IntKind.i64 st] :: Value.pointer (some ⟨p, 0, none⟩) :: Value.agg #[Value.slice (some ⟨g, 0, none⟩) 4 4, Value.int IntKind.i64 st] :: Value.pointer (some ⟨p, 0, none⟩) :: OpV kind k v :: ResV code a' m' c' :: undef :: undef :: undef :: undef :: undef :: undef :: undef :: undef :: undef :: undef :: undef :: undef :: undef :: undef :: undef :: undef :: []), []⟩ ∧ SameSt w p a n c g st xs br w' ∧ SBox w' b code a' m' c' ∧ IntAt w' a' m' ys ∧ ((∀ q, a' = some q → p < q.block) ∧ ((a' = none ∧ m' = 0 ∧ c' = 0) ∨ ∃ q, a' = some q)) ∧ br < b) (fun _ _ _ => False)) ?rest ?reg
  case reg =>
    go_region_held3 (fun w' => w'.cell? ⟨br, 0, none⟩ = some (.slice (some ⟨g, 0, none⟩) 4 4) ∧ w'.cell? ⟨br, 1, none⟩ = some (.int .i64 st))
      (first | (with_reducible exact R5.out) | (with_reducible exact R5a.out) | (with_reducible exact R5s.out) | (with_reducible exact R5t.out) | (with_reducible exact R5v.out) | (with_reducible exact R4.out) | (with_reducible exact R4a.out) | (with_reducible exact ⟨r0, r1⟩) | go_keep)
      (first
      | (go_at_call 29
         refine (l4DrawRight_any p a n c _ (by first | exact HS0.out.cur | exact cur_alloc HS0.out.cur _)).mono ?_
         rintro e w4 ⟨kind, k, v, rfl, hC4, hf4⟩
         have hf34 : w3.grownBy w4 (some p) := by first | exact ⟨hf4.os, hf4.tape, hf4.output, hf4.size, hf4.block⟩ | exact (World.grownBy_alloc w3 (.cells #[.int .i64 0, .slice none 0 0] 30) (some p)).trans (show (w3.alloc (.cells #[.int .i64 0, .slice none 0 0] 30)).grownBy w4 (some p) from ⟨hf4.os, hf4.tape, hf4.output, hf4.size, hf4.block⟩)
         first
           | (have b4 : SBox w4 w3.heap.size 0 none 0 0 := (sbox_new w3 0 none 0 0).far (show (w3.alloc (.cells #[.int .i64 0, .slice none 0 0] 30)).grownBy w4 (some p) from ⟨hf4.os, hf4.tape, hf4.output, hf4.size, hf4.block⟩) (by omega)
              have B4 : Hid (SBox w4 w3.heap.size 0 none 0 0) := b4
              clear b4)
           | skip
         have hS4 := HS0.out.far hpw hgp hbr1 hC4 hf34
         have R4 : Hid _ := (⟨hS4.rb.facts.1, hS4.rb.facts.2.1⟩ : w4.cell? ⟨br, 0, none⟩ = some (.slice (some ⟨g, 0, none⟩) 4 4) ∧ w4.cell? ⟨br, 1, none⟩ = some (.int .i64 st))
         have hS4a := hS4.far hpw hgp hbr1 (cur_alloc hS4.cur (.cells #[.int .i64 0, .slice none 0 0] 30)) (World.grownBy_alloc _ _ _)
         have R4a : Hid _ := (⟨hS4a.rb.facts.1, hS4a.rb.facts.2.1⟩ : (w4.alloc (.cells #[.int .i64 0, .slice none 0 0] 30)).cell? ⟨br, 0, none⟩ = some (.slice (some ⟨g, 0, none⟩) 4 4) ∧ (w4.alloc (.cells #[.int .i64 0, .slice none 0 0] 30)).cell? ⟨br, 1, none⟩ = some (.int .i64 st))
         have HS4 : Hid (SameSt w p a n c g st xs br w4) := hS4
         have HS4a : Hid (SameSt w p a n c g st xs br (w4.alloc (.cells #[.int .i64 0, .slice none 0 0] 30))) := hS4a
         have hsz4 : br < w4.heap.size := hS4.rb.facts.2.2.2.2
         clear hS4 hS4a hC4 hf4 hf34)
      | (go_at_call 21
         refine (l4DrawRes_any p a n c g 4 st kind k v xs _ (by first | exact HS4.out.cur | exact HS4a.out.cur) (by omega) (by first | exact HS4.out.here | exact HS4a.out.here)).mono ?_
         rintro e w5 ⟨code, a', m', c', ys, rfl, hfr, hat, hC5, hf5⟩
         have hf45 : w4.grownBy w5 (some p) := by first | exact hf5 | exact (World.grownBy_alloc w4 _ (some p)).trans hf5
         first
           | (have b5 : SBox w5 w3.heap.size 0 none 0 0 := B4.out.far hf45 (by omega)
              have B5 : Hid (SBox w5 w3.heap.size 0 none 0 0) := b5
              have hb5 : br < w3.heap.size := hbl3
              have NE5 : Hid (∀ q, a' = some q → w3.heap.size ≠ q.block) := fun q hq => by (have h := hfr.at q hq; have h3 := B4.out.facts.2.2.2.2; omega)
              obtain ⟨k0, k1, k2, k3, k4⟩ := b5.facts
              clear b5)
           | (have b5 : SBox w5 w4.heap.size 0 none 0 0 := (sbox_new w4 0 none 0 0).far hf5 (by omega)
              have B5 : Hid (SBox w5 w4.heap.size 0 none 0 0) := b5
              have hb5 : br < w4.heap.size := hsz4
              have NE5 : Hid (∀ q, a' = some q → w4.heap.size ≠ q.block) := fun q hq => by (have h := hfr.at q hq; simp at h; omega)
              obtain ⟨k0, k1, k2, k3, k4⟩ := b5.facts
              clear b5)
           | skip
         have hS5 := HS4.out.far hpw hgp hbr1 hC5 hf45
         have HF5 : Hid (IntAt w5 a' m' ys ∧ (∀ q, a' = some q → w4.heap.size ≤ q.block) ∧ ((a' = none ∧ m' = 0 ∧ c' = 0) ∨ ∃ q, a' = some q)) := ⟨hat, fun q hq => by (have h := hfr.at q hq; first | exact h | (simp at h; omega)), hfr.kind⟩
         have R5 : Hid _ := (⟨hS5.rb.facts.1, hS5.rb.facts.2.1⟩ : w5.cell? ⟨br, 0, none⟩ = some (.slice (some ⟨g, 0, none⟩) 4 4) ∧ w5.cell? ⟨br, 1, none⟩ = some (.int .i64 st))
         have hsz5 : br < w5.heap.size := hS5.rb.facts.2.2.2.2
         have R5a : Hid _ := keep2a R5.out hsz5 (.cells #[.int .i64 0, .slice none 0 0] 30)
         have R5v : Hid _ := keep2a R5.out hsz5 (.cells #[.int .i64 code, .slice a' m' c'] 30)
         first
           | (have R5s : Hid _ := keep2s (keep2s R5.out (q := ⟨w3.heap.size, 0, none⟩) (show w3.heap.size ≠ br by omega) (.int .i64 code)) (q := ⟨w3.heap.size, 1, none⟩) (show w3.heap.size ≠ br by omega) (.slice a' m' c'))
           | skip
         have R5t : Hid _ := keep2s (keep2s R5.out (q := ⟨w4.heap.size, 0, none⟩) (show w4.heap.size ≠ br by omega) (.int .i64 code)) (q := ⟨w4.heap.size, 1, none⟩) (show w4.heap.size ≠ br by omega) (.slice a' m' c')
         have HS5 : Hid (SameSt w p a n c g st xs br w5) := hS5
         clear hS5 hC5 hf5 hf45 hat hfr))
    all_goals first
      | exact ⟨_, kind, k, v, code, a', m', c', ys, rfl, HS5.out.far hpw hgp hbr1 (cur_alloc HS5.out.cur _) (World.grownBy_alloc _ _ _), sbox_new _ _ _ _ _, int_alloc HF5.out.1 _, ⟨fun q hq => by (have h := HF5.out.2.1 q hq; omega), HF5.out.2.2⟩, hsz5⟩
      | exact ⟨_, kind, k, v, code, a', m', c', ys, rfl, (HS5.out.set hpw hgp hbr1 hb5 _).set hpw hgp hbr1 hb5 _, (B5.out.put0 code).put1 a' m' c', int_far (int_far HF5.out.1 NE5.out _) NE5.out _, ⟨fun q hq => by (have h := HF5.out.2.1 q hq; omega), HF5.out.2.2⟩, hb5⟩
  case rest =>
    intro ex aa w6 h
    cases ex
    case normal =>
      obtain ⟨b, kind, k, v, code, a', m', c', ys, rfl, hS6, hB6, hI6, hF6, hbb⟩ := h
      have HS6 : Hid (SameSt w p a n c g st xs br w6) := hS6
      have HB6 : Hid (SBox w6 b code a' m' c') := hB6
      have HI6 : Hid (IntAt w6 a' m' ys) := hI6
      have HF6 : Hid (∀ q, a' = some q → p < q.block) := hF6.1
      have HK6 : Hid ((a' = none ∧ m' = 0 ∧ c' = 0) ∨ ∃ q, a' = some q) := hF6.2
      clear hS6 hB6 hI6 hF6 r0 r1 hbl3
      go_wp2_with fail
      refine (l1Once_any p a n c 2 (by omega) (by omega) _ HS6.out.cur).mono ?_
      rintro e w7 ⟨⟨bo, rfl⟩, hC7, hO7⟩
      have HS7 : Hid (SameSt w p a n c g st xs br w7) := HS6.out.far hpw hgp hbr1 hC7 (far_only hO7)
      have HB7 : Hid (SBox w7 b code a' m' c') := HB6.out.far (far_only hO7) (by omega)
      have HI7 : Hid (IntAt w7 a' m' ys) := int_grown HI6.out (far_only hO7) HF6.out
      clear hC7 hO7 HS6 HB6 HI6 HS0
      obtain ⟨a0, a1, -⟩ := HB7.out.facts
      obtain ⟨q0, q1, q2, q3, -⟩ := HS7.out.s1.facts
      obtain ⟨x0, x1, x2, x3, -⟩ := HS7.out.s2.facts
      obtain ⟨r0, r1, -⟩ := HS7.out.rb.facts
      cases bo
      · go_wp2_with fail
        go_region_held3 (fun w' => (w'.cell? ⟨b, 0, none⟩ = some (.int .i64 code) ∧ w'.cell? ⟨b, 1, none⟩ = some (.slice a' m' c')) ∧ (w'.cell? ⟨br, 0, none⟩ = some (.slice (some ⟨g, 0, none⟩) 4 4) ∧ w'.cell? ⟨br, 1, none⟩ = some (.int .i64 st)))
          (first | (with_reducible exact K9b.out) | (with_reducible exact K9a.out) | (with_reducible exact K9.out) | (with_reducible exact K8.out) | (with_reducible exact ⟨⟨a0, a1⟩, ⟨r0, r1⟩⟩) | go_keep)
          (first
          | (go_at_call 29
             refine (l4DrawRight_any p a n c w7.drew (by exact HS7.out.cur)).mono ?_
             rintro e w8 ⟨kind2, kk2, v2, rfl, hC8, hf8⟩
             have hf8' : w7.grownBy w8 (some p) := ⟨hf8.os, hf8.tape, hf8.output, hf8.size, hf8.block⟩
             have HS8 : Hid (SameSt w p a n c g st xs br w8) := HS7.out.far hpw hgp hbr1 hC8 hf8'
             have HB8 : Hid (SBox w8 b code a' m' c') := HB7.out.far hf8' (by omega)
             have HI8 : Hid (IntAt w8 a' m' ys) := int_grown HI7.out hf8' HF6.out
             have K8 : Hid _ := (⟨⟨HB8.out.facts.1, HB8.out.facts.2.1⟩, ⟨HS8.out.rb.facts.1, HS8.out.rb.facts.2.1⟩⟩ : (w8.cell? ⟨b, 0, none⟩ = some (.int .i64 code) ∧ w8.cell? ⟨b, 1, none⟩ = some (.slice a' m' c')) ∧ (w8.cell? ⟨br, 0, none⟩ = some (.slice (some ⟨g, 0, none⟩) 4 4) ∧ w8.cell? ⟨br, 1, none⟩ = some (.int .i64 st)))
             clear hC8 hf8 hf8')
          | (go_at_call 21
             refine (l4DrawRes_any p a n c g 4 st kind2 kk2 v2 xs w8 HS8.out.cur (by omega) HS8.out.here).mono ?_
             rintro e w9 ⟨code2, a2, m2, c2, zs, rfl, hfr, hat, hC9, hf9⟩
             have HS9 : Hid (SameSt w p a n c g st xs br w9) := HS8.out.far hpw hgp hbr1 hC9 hf9
             have HB9 : Hid (SBox w9 b code a' m' c') := HB8.out.far hf9 (by omega)
             have HI9 : Hid (IntAt w9 a' m' ys) := int_grown HI8.out hf9 HF6.out
             have hz8 : br < w8.heap.size := HS8.out.rb.facts.2.2.2.2
             have HJ9 : Hid (IntAt w9 a2 m2 zs ∧ ∀ q, a2 = some q → p < q.block) := ⟨hat, fun q hq => by (have h := hfr.at q hq; omega)⟩
             have K9 : Hid _ := (⟨⟨HB9.out.facts.1, HB9.out.facts.2.1⟩, ⟨HS9.out.rb.facts.1, HS9.out.rb.facts.2.1⟩⟩ : (w9.cell? ⟨b, 0, none⟩ = some (.int .i64 code) ∧ w9.cell? ⟨b, 1, none⟩ = some (.slice a' m' c')) ∧ (w9.cell? ⟨br, 0, none⟩ = some (.slice (some ⟨g, 0, none⟩) 4 4) ∧ w9.cell? ⟨br, 1, none⟩ = some (.int .i64 st)))
             have K9a : Hid _ := keep4 (keep4 K9.out (q := ⟨w.heap.size, 0, none⟩) (show w.heap.size ≠ b by omega) (show w.heap.size ≠ br by omega) (.int .i64 code)) (q := ⟨w.heap.size, 1, none⟩) (show w.heap.size ≠ b by omega) (show w.heap.size ≠ br by omega) (.slice a' m' c')
             have K9b : Hid _ := keep4 (keep4 K9a.out (q := ⟨w.heap.size + 1, 0, none⟩) (show w.heap.size + 1 ≠ b by omega) (show w.heap.size + 1 ≠ br by omega) (.int .i64 code2)) (q := ⟨w.heap.size + 1, 1, none⟩) (show w.heap.size + 1 ≠ b by omega) (show w.heap.size + 1 ≠ br by omega) (.slice a2 m2 c2)
             clear q0 q1 q2 q3 x0 x1 x2 x3
             obtain ⟨q0, q1, q2, q3, -⟩ := HS9.out.s1.facts
             obtain ⟨x0, x1, x2, x3, -⟩ := HS9.out.s2.facts
             clear hC9 hf9 hfr hat))
        go_wp2
        (try simp only [Exit.inBlock, Exit.then])
        have E := answer2 HS9.out.s1 HS9.out.s2 code a' m' c' code2 a2 m2 c2
        obtain ⟨e0, e1, -⟩ := E.1.facts
        obtain ⟨f0, f1, -⟩ := E.2.facts
        refine bodyPost_ret (by simp [results, Try.results9, go_sem, e0, e1, f0, f1]; try rfl) rfl ?_
        exact ⟨_, _, _, _, _, _, _, _, ys, zs, rfl, ans2_int HI9.out (fun q hq => by (have h := HF6.out q hq; omega)), ans2_int HJ9.out.1 (fun q hq => by (have h := HJ9.out.2 q hq; omega)), ans2_below HS9.out.bel (Nat.le_refl _)⟩
      · obtain ⟨i0, hi0, hz0, hz1, hz2⟩ := info_parts infoInt
        rcases HK6.out with ⟨rfl, rfl, rfl⟩ | ⟨ad, rfl⟩
        · go_wp2_with fail
          go_region_held3 (fun w' => w'.cell? ⟨b, 0, none⟩ = some (.int .i64 code) ∧ w'.cell? ⟨b, 1, none⟩ = some (.slice none 0 0))
            (first | (with_reducible exact K8b.out) | (with_reducible exact K8a.out) | (with_reducible exact K8.out) | (with_reducible exact ⟨a0, a1⟩) | go_keep)
            (first
            | (refine step_append_none _ (by rfl) _ _ 24 (by rfl) w7.heap.size 3 i0 1 Try.underlying24 hi0 (.slice (some ⟨w7.heap.size, 0, none⟩) 0 0) 0 [] (by rfl) (own_empty_drew rfl (Nat.le_refl _)) (by rfl) ?_
               obtain ⟨w8, hw8⟩ : ∃ w8, w8 = (w7.alloc (.cells #[] 3)).drew := ⟨_, rfl⟩
               have hb8 : Below w7.heap.size w7 w8 := by rw [hw8]; exact ((Below.refl _ w7).alloc (Nat.le_refl _) _).drew
               rw [← hw8]
               have HS8 : Hid (SameSt w p a n c g st xs br w8) := HS7.out.far hpw hgp hbr1 (cur_below HS7.out.cur hb8) (far_below hb8 _)
               have HB8 : Hid (SBox w8 b code none 0 0) := HB7.out.far (p := p) (far_below hb8 _) (by omega)
               have hz7 : br < w7.heap.size := HS7.out.rb.facts.2.2.2.2
               have K8 : Hid _ := (⟨HB8.out.facts.1, HB8.out.facts.2.1⟩ : w8.cell? ⟨b, 0, none⟩ = some (.int .i64 code) ∧ w8.cell? ⟨b, 1, none⟩ = some (.slice none 0 0))
               have K8a : Hid _ := keep2s (keep2s K8.out (q := ⟨w.heap.size, 0, none⟩) (show w.heap.size ≠ b by omega) (.int .i64 code)) (q := ⟨w.heap.size, 1, none⟩) (show w.heap.size ≠ b by omega) (.slice none 0 0)
               have K8b : Hid _ := keep2s (keep2s K8a.out (q := ⟨w.heap.size + 1, 0, none⟩) (show w.heap.size + 1 ≠ b by omega) (.int .i64 code)) (q := ⟨w.heap.size + 1, 1, none⟩) (show w.heap.size + 1 ≠ b by omega) (.slice (some ⟨w7.heap.size, 0, none⟩) 0 0)
               clear q0 q1 q2 q3 x0 x1 x2 x3
               obtain ⟨q0, q1, q2, q3, -⟩ := HS8.out.s1.facts
               obtain ⟨x0, x1, x2, x3, -⟩ := HS8.out.s2.facts
               clear hb8 hw8))
          go_wp2
          (try simp only [Exit.inBlock, Exit.then])
          have E := answer2 HS8.out.s1 HS8.out.s2 code none 0 0 code (some ⟨w7.heap.size, 0, none⟩) 0 0
          obtain ⟨e0, e1, -⟩ := E.1.facts
          obtain ⟨f0, f1, -⟩ := E.2.facts
          refine bodyPost_ret (by simp [results, Try.results9, go_sem, e0, e1, f0, f1]; try rfl) rfl ?_
          exact ⟨_, _, _, _, _, _, _, _, [], [], rfl, ⟨rfl, by omega, .inl rfl⟩, ⟨rfl, by omega, .inl rfl⟩, ans2_below HS8.out.bel (Nat.le_refl _)⟩
        · go_wp2_with fail
          have hm := HI7.out.2.1
          go_region_held3 (fun w' => w'.cell? ⟨b, 0, none⟩ = some (.int .i64 code) ∧ w'.cell? ⟨b, 1, none⟩ = some (.slice (some ad) m' c'))
            (first | (with_reducible exact K8b.out) | (with_reducible exact K8a.out) | (with_reducible exact K8.out) | (with_reducible exact ⟨a0, a1⟩) | go_keep)
            (first
            | (refine step_append_own _ (by rfl) _ _ 24 (by rfl) w7.heap.size 3 i0 (.int .i64 0) 1 8 Try.underlying24 hi0 hz0 hz1 hz2 (by rfl) (by decide) (.slice (some ⟨w7.heap.size, 0, none⟩) 0 0) 0 [] (by rfl) (own_empty_drew rfl (Nat.le_refl _)) ad m' c' (ys.map I) (by rfl) (news_len HI7.out.1) (news_any (show IntAt (w7.alloc (.cells #[] 3)).drew (some ad) m' ys from int_alloc HI7.out _)) news_one (by unfold maxLen; omega) (by omega) (by simp) ?_
               intro v' w8 hown hgrow _
               have hown2 : w8.ownsRow w7.heap.size 3 1 v' m' (ys.map I) := by simpa using hown
               obtain ⟨a2, c2, rfl, hat⟩ := own_at hown2 hm
               have hb8 : Below w7.heap.size w7 w8 := (((Below.refl _ w7).alloc (Nat.le_refl _) _).drew).grown hgrow (by simp) (fun k e => by cases e; exact Nat.le_refl _)
               have HS8 : Hid (SameSt w p a n c g st xs br w8) := HS7.out.far hpw hgp hbr1 (cur_below HS7.out.cur hb8) (far_below hb8 _)
               have HB8 : Hid (SBox w8 b code (some ad) m' c') := HB7.out.far (p := p) (far_below hb8 _) (by omega)
               have HI8 : Hid (IntAt w8 (some ad) m' ys) := HI7.out.below hb8 (Nat.le_refl _)
               have hz7 : br < w7.heap.size := HS7.out.rb.facts.2.2.2.2
               have HJ8 : Hid (IntAt w8 a2 m' ys ∧ ∀ q, a2 = some q → p < q.block) := ⟨hat, fun q hq => by (have h := (hown2.lt q.block (by rw [hq]; rfl)).1; omega)⟩
               have K8 : Hid _ := (⟨HB8.out.facts.1, HB8.out.facts.2.1⟩ : w8.cell? ⟨b, 0, none⟩ = some (.int .i64 code) ∧ w8.cell? ⟨b, 1, none⟩ = some (.slice (some ad) m' c'))
               have K8a : Hid _ := keep2s (keep2s K8.out (q := ⟨w.heap.size, 0, none⟩) (show w.heap.size ≠ b by omega) (.int .i64 code)) (q := ⟨w.heap.size, 1, none⟩) (show w.heap.size ≠ b by omega) (.slice (some ad) m' c')
               have K8b : Hid _ := keep2s (keep2s K8a.out (q := ⟨w.heap.size + 1, 0, none⟩) (show w.heap.size + 1 ≠ b by omega) (.int .i64 code)) (q := ⟨w.heap.size + 1, 1, none⟩) (show w.heap.size + 1 ≠ b by omega) (.slice a2 m' c2)
               clear q0 q1 q2 q3 x0 x1 x2 x3
               obtain ⟨q0, q1, q2, q3, -⟩ := HS8.out.s1.facts
               obtain ⟨x0, x1, x2, x3, -⟩ := HS8.out.s2.facts
               clear hown hown2 hgrow hat hb8))
          go_wp2
          (try simp only [Exit.inBlock, Exit.then])
          have E := answer2 HS8.out.s1 HS8.out.s2 code (some ad) m' c' code a2 m' c2
          obtain ⟨e0, e1, -⟩ := E.1.facts
          obtain ⟨f0, f1, -⟩ := E.2.facts
          refine bodyPost_ret (by simp [results, Try.results9, go_sem, e0, e1, f0, f1]; try rfl) rfl ?_
          exact ⟨_, _, _, _, _, _, _, _, ys, ys, rfl, ans2_int HI8.out (fun q hq => by (have h := HF6.out q hq; omega)), ans2_int HJ8.out.1 (fun q hq => by (have h := HJ8.out.2 q hq; omega)), ans2_below HS8.out.bel (Nat.le_refl _)⟩
    all_goals exact h.elim
end Go.Proofs.Ytlnhmmpmnflagad
