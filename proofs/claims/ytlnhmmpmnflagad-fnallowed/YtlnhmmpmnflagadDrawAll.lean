/- DrawAllowed and DrawResSame, walked. -/
import Derived.Test.YtlnhmmpmnflagadDrawRes
namespace Go.Proofs.Ytlnhmmpmnflagad
open Go.ChangeShapes Go.WideShapes Go.ChangeAt Go.RowKit

theorem RBox.put0 {w : World} {b n c : Nat} {a : Option Addr} {st : Int} (h : RBox w b a n c st) (a' : Option Addr) (n' c' : Nat) : RBox (w.setCell ⟨b, 0, none⟩ (.slice a' n' c')) b a' n' c' st := by
  unfold RBox at h ⊢
  obtain ⟨hlt, h'⟩ := Array.getElem?_eq_some_iff.1 h
  show (w.heap.modify b _)[b]? = _
  rw [Array.getElem?_eq_getElem (by simpa using hlt), Array.getElem_modify_self, h']
  rfl
theorem RBox.put1 {w : World} {b n c : Nat} {a : Option Addr} {st : Int} (h : RBox w b a n c st) (st' : Int) : RBox (w.setCell ⟨b, 1, none⟩ (.int .i64 st')) b a n c st' := by
  unfold RBox at h ⊢
  obtain ⟨hlt, h'⟩ := Array.getElem?_eq_some_iff.1 h
  show (w.heap.modify b _)[b]? = _
  rw [Array.getElem?_eq_getElem (by simpa using hlt), Array.getElem_modify_self, h']
  rfl
theorem SBox.put0 {w : World} {b n c : Nat} {a : Option Addr} {code : Int} (h : SBox w b code a n c) (code' : Int) : SBox (w.setCell ⟨b, 0, none⟩ (.int .i64 code')) b code' a n c := by
  unfold SBox at h ⊢
  obtain ⟨hlt, h'⟩ := Array.getElem?_eq_some_iff.1 h
  show (w.heap.modify b _)[b]? = _
  rw [Array.getElem?_eq_getElem (by simpa using hlt), Array.getElem_modify_self, h']
  rfl
theorem SBox.put1 {w : World} {b n c : Nat} {a : Option Addr} {code : Int} (h : SBox w b code a n c) (a' : Option Addr) (n' c' : Nat) : SBox (w.setCell ⟨b, 1, none⟩ (.slice a' n' c')) b code a' n' c' := by
  unfold SBox at h ⊢
  obtain ⟨hlt, h'⟩ := Array.getElem?_eq_some_iff.1 h
  show (w.heap.modify b _)[b]? = _
  rw [Array.getElem?_eq_getElem (by simpa using hlt), Array.getElem_modify_self, h']
  rfl
/-- The world in which the three answers lie in their boxes. -/
abbrev Ans3 (w : World) (b : Nat) (a : Option Addr) (m c : Nat) (st kind k v code : Int) (a' : Option Addr) (m' c' : Nat) : World :=
  ((((((w.setCell ⟨b, 0, none⟩ (.slice a m c)).setCell ⟨b, 1, none⟩ (.int .i64 st)).setCell ⟨b + 1, 0, none⟩ (.int .i64 kind)).setCell ⟨b + 1, 1, none⟩ (.int .i64 k)).setCell ⟨b + 1, 2, none⟩ (.int .i64 v)).setCell ⟨b + 1 + 1, 0, none⟩ (.int .i64 code)).setCell ⟨b + 1 + 1, 1, none⟩ (.slice a' m' c')
theorem answer3 {w : World} {b : Nat} (hr : RBox w b none 0 0 0) (ho : OBox w (b + 1) 0 0 0) (hs : SBox w (b + 1 + 1) 0 none 0 0) (a : Option Addr) (m c : Nat) (st kind k v code : Int) (a' : Option Addr) (m' c' : Nat) :
    RBox (Ans3 w b a m c st kind k v code a' m' c') b a m c st ∧ OBox (Ans3 w b a m c st kind k v code a' m' c') (b + 1) kind k v ∧ SBox (Ans3 w b a m c st kind k v code a' m' c') (b + 1 + 1) code a' m' c' := by
  refine ⟨?_, ?_, ?_⟩
  · exact ((((((hr.put0 a m c).put1 st).set (show b ≠ b + 1 by omega) _).set (show b ≠ b + 1 by omega) _).set (show b ≠ b + 1 by omega) _).set (show b ≠ b + 1 + 1 by omega) _).set (show b ≠ b + 1 + 1 by omega) _
  · exact ((((((ho.set (show b + 1 ≠ b by omega) _).set (show b + 1 ≠ b by omega) _).put0 kind).put1 k).put2 v).set (show b + 1 ≠ b + 1 + 1 by omega) _).set (show b + 1 ≠ b + 1 + 1 by omega) _
  · exact ((((((hs.set (show b + 1 + 1 ≠ b by omega) _).set (show b + 1 + 1 ≠ b by omega) _).set (show b + 1 + 1 ≠ b + 1 by omega) _).set (show b + 1 + 1 ≠ b + 1 by omega) _).set (show b + 1 + 1 ≠ b + 1 by omega) _).put0 code).put1 a' m' c'
theorem ans3_int {w : World} {b : Nat} {a2 : Option Addr} {n2 : Nat} {xs : List Int} (h : IntAt w a2 n2 xs) (hq : ∀ q, a2 = some q → b + 1 + 1 < q.block) {a : Option Addr} {m c : Nat} {st kind k v code : Int} {a' : Option Addr} {m' c' : Nat} : IntAt (Ans3 w b a m c st kind k v code a' m' c') a2 n2 xs := by
  have h0 : ∀ q, a2 = some q → b ≠ q.block := fun q e => by have := hq q e; omega
  have h1 : ∀ q, a2 = some q → b + 1 ≠ q.block := fun q e => by have := hq q e; omega
  have h2 : ∀ q, a2 = some q → b + 1 + 1 ≠ q.block := fun q e => by have := hq q e; omega
  exact int_far (int_far (int_far (int_far (int_far (int_far (int_far h h0 _) h0 _) h1 _) h1 _) h1 _) h2 _) h2 _
theorem ans3_below {B : Nat} {w0 w : World} {b : Nat} (h : Below B w0 w) (hB : B ≤ b) {a : Option Addr} {m c : Nat} {st kind k v code : Int} {a' : Option Addr} {m' c' : Nat} : Below B w0 (Ans3 w b a m c st kind k v code a' m' c') :=
  ((((((h.setCell hB _).setCell hB _).setCell (Nat.le_succ_of_le hB) _).setCell (Nat.le_succ_of_le hB) _).setCell (Nat.le_succ_of_le hB) _).setCell (Nat.le_succ_of_le (Nat.le_succ_of_le hB)) _).setCell (Nat.le_succ_of_le (Nat.le_succ_of_le hB)) _
theorem keep5 {w : World} {br bo : Nat} {x0 x1 y0 y1 y2 : Value} (h : w.cell? ⟨br, 0, none⟩ = some x0 ∧ w.cell? ⟨br, 1, none⟩ = some x1 ∧ w.cell? ⟨bo, 0, none⟩ = some y0 ∧ w.cell? ⟨bo, 1, none⟩ = some y1 ∧ w.cell? ⟨bo, 2, none⟩ = some y2) {q : Addr} (h1 : q.block ≠ br) (h2 : q.block ≠ bo) (v : Value) :
    (w.setCell q v).cell? ⟨br, 0, none⟩ = some x0 ∧ (w.setCell q v).cell? ⟨br, 1, none⟩ = some x1 ∧ (w.setCell q v).cell? ⟨bo, 0, none⟩ = some y0 ∧ (w.setCell q v).cell? ⟨bo, 1, none⟩ = some y1 ∧ (w.setCell q v).cell? ⟨bo, 2, none⟩ = some y2 := by
  rw [World.cell?_setCell_far w q ⟨br, 0, none⟩ v h1, World.cell?_setCell_far w q ⟨br, 1, none⟩ v h1, World.cell?_setCell_far w q ⟨bo, 0, none⟩ v h2, World.cell?_setCell_far w q ⟨bo, 1, none⟩ v h2, World.cell?_setCell_far w q ⟨bo, 2, none⟩ v h2]
  exact h
/-- While rows, an op and a result are drawn. -/
structure AllSt (w : World) (p : Nat) (a : Option Addr) (n c g m : Nat) (st : Int) (xs : List Int) (br : Nat) (wr : World) : Prop where
  cur : Cur 67 wr p a n c
  rr : RBox wr w.heap.size none 0 0 0
  oo : OBox wr (w.heap.size + 1) 0 0 0
  ss : SBox wr (w.heap.size + 1 + 1) 0 none 0 0
  bel : Below w.heap.size w wr
  here : IntAt wr (some ⟨g, 0, none⟩) m xs
  rb : RBox wr br (some ⟨g, 0, none⟩) m 4 st
theorem AllSt.far {w wr wr' : World} {p n c g m br : Nat} {a : Option Addr} {st : Int} {xs : List Int} (h : AllSt w p a n c g m st xs br wr) (hp : w.heap.size + 1 + 1 < p) (hg : p < g) (hb : g < br) (hC : Cur 67 wr' p a n c) (hf : wr.grownBy wr' (some p)) : AllSt w p a n c g m st xs br wr' :=
  ⟨hC, h.rr.far hf (by omega), h.oo.far hf (by omega), h.ss.far hf (by omega), h.bel.grown hf h.bel.size (fun k e => by cases e; omega), h.here.far hf (by omega), h.rb.far hf (by omega)⟩

set_option maxHeartbeats 400000 in
theorem drawAllowed_any (a : Option Addr) (n c : Nat) (w : World) (hn : n ≤ 1048576) (hB : BytesAt w w.heap.size a n) :
    Calls Try.prog 5 #[.slice a n c] w fun e w' => ∃ (g m : Nat) (st : Int) (xs : List Int) (kind k v code : Int) (a' : Option Addr) (m' c' : Nat) (ys : List Int), e = .returned (.tuple #[.agg #[.slice (some ⟨g, 0, none⟩) m 4, .int .i64 st], OpV kind k v, ResV code a' m' c']) ∧ (m = 4 ∨ m = 2) ∧ IntAt w' (some ⟨g, 0, none⟩) m xs ∧ Small xs ∧ (-1 ≤ st ∧ st ≤ 6) ∧ IntAt w' a' m' ys ∧ Below w.heap.size w w' := by
  have HB : Hid (BytesAt w w.heap.size a n) := hB
  clear hB
  go_enter Try.func5, Try.ntmps5
  go_wp2_with fail
  obtain ⟨W0, hW0⟩ : ∃ W0, W0 = ((w.alloc (.cells #[.slice none 0 0, .int .i64 0] 26)).alloc (.cells #[.int .i64 0, .int .i64 0, .int .i64 0] 28)).alloc (.cells #[.int .i64 0, .slice none 0 0] 30) := ⟨_, rfl⟩
  have hs0 : W0.heap.size = w.heap.size + 1 + 1 + 1 := by rw [hW0]; simp
  have hb0 : Below w.heap.size w W0 := by rw [hW0]; exact (((Below.refl _ w).alloc (Nat.le_refl _) _).alloc (by simp) _).alloc (by simp; omega) _
  have hr0 : RBox W0 w.heap.size none 0 0 0 := by rw [hW0]; exact ((rbox_new w none 0 0 0).far (p := w.heap.size + 5) (World.grownBy_alloc _ _ _) (by omega)).far (p := w.heap.size + 5) (World.grownBy_alloc _ _ _) (by omega)
  have ho0 : OBox W0 (w.heap.size + 1) 0 0 0 := by
    rw [hW0]
    have h := (obox_new (w.alloc (.cells #[.slice none 0 0, .int .i64 0] 26)) 0 0 0).far (p := w.heap.size + 5) (World.grownBy_alloc _ (.cells #[.int .i64 0, .slice none 0 0] 30) _) (by simp)
    simpa using h
  have hz0 : SBox W0 (w.heap.size + 1 + 1) 0 none 0 0 := by
    rw [hW0]
    have h := sbox_new ((w.alloc (.cells #[.slice none 0 0, .int .i64 0] 26)).alloc (.cells #[.int .i64 0, .int .i64 0, .int .i64 0] 28)) 0 none 0 0
    simpa using h
  rw [← hW0]
  clear hW0
  refine (l1New_any a n c _ hn (bytes_now2 HB.out hb0)).mono ?_
  rintro e w1 ⟨rfl, hC1, hb1, hs1⟩
  rw [hs0] at hC1 hb1 hs1
  have HR1 : Hid (RBox w1 w.heap.size none 0 0 0 ∧ OBox w1 (w.heap.size + 1) 0 0 0 ∧ SBox w1 (w.heap.size + 1 + 1) 0 none 0 0) :=
    ⟨hr0.far (p := w.heap.size + 5) (far_below (hb1.mono (by omega)) _) (by omega), ho0.far (p := w.heap.size + 5) (far_below (hb1.mono (by omega)) _) (by omega), hz0.far (p := w.heap.size + 5) (far_below (hb1.mono (by omega)) _) (by omega)⟩
  have HB1 : Hid (Below w.heap.size w w1) := hb0.trans (hb1.mono (by omega))
  clear hb0 hb1 hr0 ho0 hz0
  obtain ⟨p, hp⟩ : ∃ p, p = w.heap.size + 1 + 1 + 1 := ⟨_, rfl⟩
  have HC1 : Hid (Cur 67 w1 p a n c) := by rw [hp]; exact hC1
  rw [hs0, ← hp]
  have hpw : w.heap.size + 1 + 1 < p := by omega
  clear hC1 hp hs0 hs1
  go_wp2_with fail
  refine (l3Draw_any p a n c _ HC1.out).mono ?_
  rintro e w2 ⟨rv, xs, rfl, ⟨g, m, st, rfl, hgw, hm, hI, hsm, hst⟩, hC2, hf2⟩
  have hpl1 := HC1.out.lt
  have hgp : p < g := by omega
  have hg2 : g < w2.heap.size := by
    have hm0 : 0 < m := by omega
    exact World.block_lt_of_cell? w2 _ (hI.cells 0 hm0)
  have S0 : AllSt w p a n c g m st xs w2.heap.size (w2.alloc (.cells #[.slice (some ⟨g, 0, none⟩) m 4, .int .i64 st] 26)) :=
    ⟨cur_alloc hC2 _, (HR1.out.1.far hf2 (by omega)).far (p := p) (World.grownBy_alloc _ _ _) (by omega), (HR1.out.2.1.far hf2 (by omega)).far (p := p) (World.grownBy_alloc _ _ _) (by omega), (HR1.out.2.2.far hf2 (by omega)).far (p := p) (World.grownBy_alloc _ _ _) (by omega),
      (HB1.out.grown hf2 HB1.out.size (fun k e => by cases e; omega)).alloc (by have := hf2.size; have := HB1.out.size; omega) _, hI.far (p := p) (World.grownBy_alloc _ _ _) (by omega), rbox_new _ _ _ _ _⟩
  obtain ⟨br, hbr⟩ : ∃ br, br = w2.heap.size := ⟨_, rfl⟩
  obtain ⟨w3, hw3⟩ : ∃ w3, w3 = w2.alloc (.cells #[.slice (some ⟨g, 0, none⟩) m 4, .int .i64 st] 26) := ⟨_, rfl⟩
  rw [← hbr, ← hw3] at S0
  have HS0 : Hid (AllSt w p a n c g m st xs br w3) := S0
  have hbr1 : g < br := by omega
  have HST : Hid ((m = 4 ∨ m = 2) ∧ Small xs ∧ (-1 ≤ st ∧ st ≤ 6)) := ⟨hm, hsm, hst⟩
  clear S0 hI hsm hst hC2 hf2 HR1 HB1 HC1 hg2 hpl1 hgw hm
  go_wp2_with fail
  rw [← hbr, ← hw3]
  clear hbr hw3
  refine (l4Draw_any p a n c _ HS0.out.cur).mono ?_
  rintro e w4 ⟨kind, k, v, rfl, hC4, hf4⟩
  have S1 := (HS0.out.far hpw hgp hbr1 hC4 hf4)
  have hbo1 : br < w4.heap.size := S1.rb.facts.2.2.2.2
  have S2 : AllSt w p a n c g m st xs br (w4.alloc (.cells #[.int .i64 kind, .int .i64 k, .int .i64 v] 28)) := S1.far hpw hgp hbr1 (cur_alloc hC4 _) (World.grownBy_alloc _ _ _)
  obtain ⟨bo, hbo⟩ : ∃ bo, bo = w4.heap.size := ⟨_, rfl⟩
  have O2 := obox_new w4 kind k v
  obtain ⟨w5, hw5⟩ : ∃ w5, w5 = w4.alloc (.cells #[.int .i64 kind, .int .i64 k, .int .i64 v] 28) := ⟨_, rfl⟩
  rw [← hw5] at S2
  rw [← hw5, ← hbo] at O2
  have HS2 : Hid (AllSt w p a n c g m st xs br w5) := S2
  have HO2 : Hid (OBox w5 bo kind k v) := O2
  have hbo2 : br < bo := by omega
  clear S1 S2 O2 hC4 hf4 HS0
  go_wp2_with fail
  rw [← hbo, ← hw5]
  clear hbo hw5 hbo1
  obtain ⟨r0, r1, -⟩ := HS2.out.rb.facts
  obtain ⟨o0, o1, o2, -⟩ := HO2.out.facts
  obtain ⟨q0, q1, q2, q3, -⟩ := HS2.out.rr.facts
  obtain ⟨u0, u1, u2, u3, u4, u5, -⟩ := HS2.out.oo.facts
  obtain ⟨x0, x1, x2, x3, -⟩ := HS2.out.ss.facts
  go_region_held3 (fun w' => w'.cell? ⟨br, 0, none⟩ = some (.slice (some ⟨g, 0, none⟩) m 4) ∧ w'.cell? ⟨br, 1, none⟩ = some (.int .i64 st) ∧ w'.cell? ⟨bo, 0, none⟩ = some (.int .i64 kind) ∧ w'.cell? ⟨bo, 1, none⟩ = some (.int .i64 k) ∧ w'.cell? ⟨bo, 2, none⟩ = some (.int .i64 v))
    (first | (with_reducible exact K7.out) | (with_reducible exact K8.out) | (with_reducible exact K9.out) | (with_reducible exact ⟨r0, r1, o0, o1, o2⟩) | go_keep)
    (first
    | (go_at_call 21
       refine (l4DrawRes_any p a n c g m st kind k v xs w5.drew (by exact HS2.out.cur) (by omega) (by exact HS2.out.here)).mono ?_
       rintro e w6 ⟨code, a', m', c', ys, rfl, hfr, hat, hC6, hf6⟩
       have hf6' : w5.grownBy w6 (some p) := ⟨hf6.os, hf6.tape, hf6.output, hf6.size, hf6.block⟩
       have hS6 := HS2.out.far hpw hgp hbr1 hC6 hf6'
       have hO6 := HO2.out.far hf6' (by omega)
       clear r0 r1 o0 o1 o2 q0 q1 q2 q3 u0 u1 u2 u3 u4 u5 x0 x1 x2 x3
       obtain ⟨r0, r1, -⟩ := hS6.rb.facts
       obtain ⟨o0, o1, o2, -⟩ := hO6.facts
       obtain ⟨q0, q1, q2, q3, -⟩ := hS6.rr.facts
       obtain ⟨u0, u1, u2, u3, u4, u5, -⟩ := hS6.oo.facts
       obtain ⟨x0, x1, x2, x3, -⟩ := hS6.ss.facts
       have HS6 : Hid (AllSt w p a n c g m st xs br w6) := hS6
       have HAT : Hid (IntAt w6 a' m' ys ∧ ∀ q, a' = some q → w.heap.size + 1 + 1 < q.block) := ⟨hat, fun q hq => by have h := hfr.at q hq; have h2 := HO2.out.facts.2.2.2.2.2.2; simp at h; omega⟩
       have K7 : Hid _ := keep5 (keep5 (⟨r0, r1, o0, o1, o2⟩) (q := ⟨w.heap.size, 0, none⟩) (show w.heap.size ≠ br by omega) (show w.heap.size ≠ bo by omega) (.slice (some ⟨g, 0, none⟩) m 4)) (q := ⟨w.heap.size, 1, none⟩) (show w.heap.size ≠ br by omega) (show w.heap.size ≠ bo by omega) (.int .i64 st)
       have K8 : Hid _ := keep5 (keep5 (keep5 (K7.out) (q := ⟨w.heap.size + 1, 0, none⟩) (show w.heap.size + 1 ≠ br by omega) (show w.heap.size + 1 ≠ bo by omega) (.int .i64 kind)) (q := ⟨w.heap.size + 1, 1, none⟩) (show w.heap.size + 1 ≠ br by omega) (show w.heap.size + 1 ≠ bo by omega) (.int .i64 k)) (q := ⟨w.heap.size + 1, 2, none⟩) (show w.heap.size + 1 ≠ br by omega) (show w.heap.size + 1 ≠ bo by omega) (.int .i64 v)
       have K9 : Hid _ := keep5 (keep5 (K8.out) (q := ⟨w.heap.size + 1 + 1, 0, none⟩) (show w.heap.size + 1 + 1 ≠ br by omega) (show w.heap.size + 1 + 1 ≠ bo by omega) (.int .i64 code)) (q := ⟨w.heap.size + 1 + 1, 1, none⟩) (show w.heap.size + 1 + 1 ≠ br by omega) (show w.heap.size + 1 + 1 ≠ bo by omega) (.slice a' m' c')
       clear hS6 hO6 hfr hat hC6 hf6 hf6'))
  go_wp2
  (try simp only [Exit.inBlock, Exit.then])
  have E := answer3 HS6.out.rr HS6.out.oo HS6.out.ss (some ⟨g, 0, none⟩) m 4 st kind k v code a' m' c'
  obtain ⟨e0, e1, -⟩ := E.1.facts
  obtain ⟨f0, f1, f2, -⟩ := E.2.1.facts
  obtain ⟨g0, g1, -⟩ := E.2.2.facts
  refine bodyPost_ret (by simp [results, Try.results5, go_sem, e0, e1, f0, f1, f2, g0, g1]; try rfl) rfl ?_
  exact ⟨g, m, st, xs, kind, k, v, code, a', m', c', ys, rfl, HST.out.1, ans3_int HS6.out.here (fun q hq => by cases hq; show _ < g; omega), HST.out.2.1, HST.out.2.2, ans3_int HAT.out.1 HAT.out.2, ans3_below HS6.out.bel (Nat.le_refl _)⟩
end Go.Proofs.Ytlnhmmpmnflagad
