/- The drawing of results, walked. -/
import Derived.Test.YtlnhmmpmnflagadDrawOps2
import Derived.Test.YtlnhmmpmnflagadSpecDoneL
import Derived.Test.YtlnhmmpmnflagadSpecRes
import Derived.Test.YtlnhmmpmnflagadSpecOp
namespace Go.Proofs.Ytlnhmmpmnflagad
open Go.ChangeShapes Go.WideShapes Go.ChangeAt Go.RowKit

/-- A box for a result. -/
def SBox (w : World) (b : Nat) (code : Int) (a : Option Addr) (n c : Nat) : Prop := w.heap[b]? = some (.cells #[.int .i64 code, .slice a n c] 30)
theorem SBox.facts {w : World} {b n c : Nat} {a : Option Addr} {code : Int} (h : SBox w b code a n c) : w.cell? ⟨b, 0, none⟩ = some (.int .i64 code) ∧ w.cell? ⟨b, 1, none⟩ = some (.slice a n c) ∧ w.frozen? ⟨b, 0, none⟩ = false ∧ w.frozen? ⟨b, 1, none⟩ = false ∧ b < w.heap.size := by
  unfold SBox at h
  exact ⟨by simp [World.cell?, h], by simp [World.cell?, h], by simp [World.frozen?, h], by simp [World.frozen?, h], (Array.getElem?_eq_some_iff.1 h).1⟩
theorem SBox.far {w w' : World} {p b n c : Nat} {a : Option Addr} {code : Int} (h : SBox w b code a n c) (hg : w.grownBy w' (some p)) (hp : b ≠ p) : SBox w' b code a n c := by
  unfold SBox at h ⊢
  rw [hg.block b (Array.getElem?_eq_some_iff.1 h).1 (by simpa using hp)]
  exact h
theorem SBox.set {w : World} {b n c : Nat} {a : Option Addr} {code : Int} (h : SBox w b code a n c) {q : Addr} (hq : b ≠ q.block) (u : Value) : SBox (w.setCell q u) b code a n c := by
  unfold SBox at h ⊢
  rw [Below.heap_setCell _ _ _ _ hq]
  exact h
theorem sbox_new (w : World) (code : Int) (a : Option Addr) (n c : Nat) : SBox (w.alloc (.cells #[.int .i64 code, .slice a n c] 30)) w.heap.size code a n c := by
  show (w.heap.push _)[w.heap.size]? = _
  simp
/-- No list at all, or one that lies in memory that is new since w. -/
def FreshN (w : World) (a : Option Addr) (m c : Nat) : Prop := (a = none ∧ m = 0 ∧ c = 0) ∨ FreshA w a
theorem FreshN.at {w : World} {a : Option Addr} {m c : Nat} (h : FreshN w a m c) : ∀ q, a = some q → w.heap.size ≤ q.block := fun q hq => by
  rcases h with ⟨h0, _⟩ | h
  · rw [h0] at hq; cases hq
  · exact h.at q hq
theorem FreshA.up {w w' : World} {a : Option Addr} (h : FreshA w a) (hs : w'.heap.size ≤ w.heap.size) : FreshA w' a := by
  obtain ⟨q, hq, hb⟩ := h
  exact ⟨q, hq, Nat.le_trans hs hb⟩
theorem one_at3 {w : World} {g : Nat} {x : Int} (h : w.cell? ⟨g, 0, none⟩ = some (.int .i64 x)) : IntAt w (some ⟨g, 0, none⟩) 1 [x] :=
  ⟨rfl, by omega, .inr ⟨g, 0, rfl, fun i hi => by obtain rfl : i = 0 := by omega
                                                  exact h⟩⟩
theorem int_far {w : World} {a : Option Addr} {m : Nat} {xs : List Int} (h : IntAt w a m xs) {q : Addr} (hq : ∀ b, a = some b → q.block ≠ b.block) (v : Value) : IntAt (w.setCell q v) a m xs := by
  refine ⟨h.1, h.2.1, ?_⟩
  rcases h.2.2 with h0 | ⟨b, o, rfl, g⟩
  · exact .inl h0
  · exact .inr ⟨b, o, rfl, fun i hi => by rw [World.cell?_setCell_far w q ⟨b, o + i, none⟩ v (show q.block ≠ b from hq ⟨b, o, none⟩ rfl)]; exact g i hi⟩
theorem nil_at3 (w : World) : IntAt w none 0 [] := ⟨rfl, by omega, .inl rfl⟩
theorem l1Once_any (p : Nat) (a : Option Addr) (n c : Nat) (m : Int) (h0 : 1 ≤ m) (hm : m ≤ 256) (w : World) (hC : Cur 67 w p a n c) :
    Calls Try.prog 30 #[.pointer (some ⟨p, 0, none⟩), .int .i64 m] w fun e w' => (∃ b : Bool, e = .returned (.bool b)) ∧ Cur 67 w' p a n c ∧ Only p w w' := by
  go_enter Try.func30, Try.ntmps30
  go_wp2_with fail
  refine (l1Below_any p a n c m h0 hm _ hC).mono ?_
  rintro e w1 ⟨x, hx, rfl, hC1, hO1⟩
  go_wp2
  go_ret
  exact ⟨⟨_, rfl⟩, hC1, hO1⟩
/-- While a result is drawn. -/
structure ResSt (w : World) (p : Nat) (a : Option Addr) (n c g m : Nat) (st kind k v : Int) (wr : World) : Prop where
  cur : Cur 67 wr p a n c
  far : w.grownBy wr (some p)
  rb : RBox wr w.heap.size (some ⟨g, 0, none⟩) m 4 st
  ob : OBox wr (w.heap.size + 1) kind k v
  sb : SBox wr (w.heap.size + 1 + 1) 0 none 0 0
section
variable {w wr wr' : World} {p n c g m : Nat} {a : Option Addr} {st kind k v : Int}
theorem ResSt.only (h : ResSt w p a n c g m st kind k v wr) (hp : p < w.heap.size) (hC : Cur 67 wr' p a n c) (hO : Only p wr wr') : ResSt w p a n c g m st kind k v wr' :=
  ⟨hC, h.far.trans (far_only hO), h.rb.far (far_only hO) (by omega), h.ob.far (far_only hO) (by omega), h.sb.far (far_only hO) (by omega)⟩
theorem ResSt.below (h : ResSt w p a n c g m st kind k v wr) (hp : p < w.heap.size) (hB : Below wr.heap.size wr wr') : ResSt w p a n c g m st kind k v wr' :=
  ⟨cur_below h.cur hB, far_below_of h.far hB, h.rb.far (far_below hB (some p)) (by omega), h.ob.far (far_below hB (some p)) (by omega), h.sb.far (far_below hB (some p)) (by omega)⟩
end

set_option maxHeartbeats 2000000 in
theorem l4DrawRes_any (p : Nat) (a : Option Addr) (n c g m : Nat) (st kind k v : Int) (xs : List Int) (w : World) (hC : Cur 67 w p a n c) (hgp : g ≠ p) (hA : IntAt w (some ⟨g, 0, none⟩) m xs) :
    Calls Try.prog 21 #[.pointer (some ⟨p, 0, none⟩), .agg #[.slice (some ⟨g, 0, none⟩) m 4, .int .i64 st], OpV kind k v] w fun e w' => ∃ (code : Int) (a' : Option Addr) (m' c' : Nat) (ys : List Int), e = .returned (ResV code a' m' c') ∧ FreshN w a' m' c' ∧ IntAt w' a' m' ys ∧ Cur 67 w' p a n c ∧ w.grownBy w' (some p) := by
  have HC : Hid (Cur 67 w p a n c) := hC
  have HA : Hid (IntAt w (some ⟨g, 0, none⟩) m xs) := hA
  have hpw := hC.lt
  clear hC hA
  go_enter Try.func21, Try.ntmps21
  go_wp2_with fail
  obtain ⟨W0, hW0⟩ : ∃ W0, W0 = ((w.alloc (.cells #[.slice (some ⟨g, 0, none⟩) m 4, .int .i64 st] 26)).alloc (.cells #[.int .i64 kind, .int .i64 k, .int .i64 v] 28)).alloc (.cells #[.int .i64 0, .slice none 0 0] 30) := ⟨_, rfl⟩
  have HS0 : Hid (ResSt w p a n c g m st kind k v W0) := by
    subst hW0
    refine ⟨cur_alloc (cur_alloc (cur_alloc HC.out _) _) _, ((World.grownBy_alloc w _ _).trans (World.grownBy_alloc _ _ _)).trans (World.grownBy_alloc _ _ _), ((rbox_new w _ _ _ _).far (p := p) (World.grownBy_alloc _ _ _) (by omega)).far (p := p) (World.grownBy_alloc _ _ _) (by omega), ?_, ?_⟩
    · have h := ((obox_new (w.alloc (.cells #[.slice (some ⟨g, 0, none⟩) m 4, .int .i64 st] 26)) kind k v).far (p := p) (World.grownBy_alloc _ (.cells #[.int .i64 0, .slice none 0 0] 30) _) (by simp; omega))
      simpa using h
    · have h := sbox_new ((w.alloc (.cells #[.slice (some ⟨g, 0, none⟩) m 4, .int .i64 st] 26)).alloc (.cells #[.int .i64 kind, .int .i64 k, .int .i64 v] 28)) 0 none 0 0
      simpa using h
  rw [← hW0]
  clear hW0
  refine (specRowsOk_any _ m 4 st xs _ (HA.out.far HS0.out.far hgp)).mono ?_
  rintro e w1 ⟨⟨ok, rfl, hok⟩, hb1⟩
  have hS1 := HS0.out.below hpw hb1
  obtain ⟨b0, b1, -⟩ := hS1.rb.facts
  obtain ⟨o0, o1, o2, -⟩ := hS1.ob.facts
  obtain ⟨s0, s1, z0, z1, sl⟩ := hS1.sb.facts
  have HS1 : Hid (ResSt w p a n c g m st kind k v w1) := hS1
  have HOK : Hid (ok = true ↔ SpecOk xs m st) := hok
  clear hS1 hok hb1 HS0
  cases ok
  · skip
    go_wp2_with fail
    refine (l1Below_any p a n c 7 (by omega) (by omega) _ HS1.out.cur).mono ?_
    rintro e w5 ⟨x, hx, rfl, hC5, hO5⟩
    have hS5 := HS1.out.only hpw hC5 hO5
    clear b0 b1 o0 o1 o2 s0 s1 z0 z1 sl
    obtain ⟨b0, b1, -⟩ := hS5.rb.facts
    obtain ⟨o0, o1, o2, -⟩ := hS5.ob.facts
    obtain ⟨s0, s1, z0, z1, sl⟩ := hS5.sb.facts
    have HS5 : Hid (ResSt w p a n c g m st kind k v w5) := hS5
    clear hC5 hO5 hS5
    have HS6 : Hid (ResSt w p a n c g m st kind k v (w5.alloc (.cells #[.int .i64 ((x : Int) - 1), .slice none 0 0] 30))) := HS5.out.below hpw ((Below.refl _ _).alloc (Nat.le_refl _) _)
    have hsz5 : w.heap.size + 1 + 1 < w5.heap.size := sl
    go_wp2_with fail
    refine (l1Once_any p a n c 4 (by omega) (by omega) _ HS6.out.cur).mono ?_
    rintro e w7 ⟨⟨bo, rfl⟩, hC7, hO7⟩
    have hS7 := HS6.out.only hpw hC7 hO7
    clear b0 b1 o0 o1 o2 s0 s1 z0 z1 sl
    obtain ⟨b0, b1, -⟩ := hS7.rb.facts
    obtain ⟨o0, o1, o2, -⟩ := hS7.ob.facts
    obtain ⟨s0, s1, z0, z1, sl⟩ := hS7.sb.facts
    obtain ⟨t0, t1, y0, y1, tl⟩ := ((sbox_new w5 ((x : Int) - 1) none 0 0).far (far_only hO7) (by omega)).facts
    have HS7 : Hid (ResSt w p a n c g m st kind k v w7) := hS7
    have hT7 : Hid (SBox w7 w5.heap.size ((x : Int) - 1) none 0 0) := (sbox_new w5 ((x : Int) - 1) none 0 0).far (far_only hO7) (by omega)
    clear hC7 hO7 hS7
    cases bo
    · go_wp2
      have E := stored_box2 s0 s1 (.int .i64 ((x : Int) - 1)) (.slice none 0 0)
      (try simp only [Exit.inBlock, Exit.then])
      refine bodyPost_ret (by simp [results, Try.results21, go_sem, E.1, E.2]; try rfl) rfl ?_
      exact ⟨_, _, _, _, [], rfl, .inl ⟨rfl, rfl, rfl⟩, nil_at3 _, cur_set (cur_set HS7.out.cur (show p < w.heap.size + 1 + 1 by omega) _) (show p < w.heap.size + 1 + 1 by omega) _, far_set (far_set HS7.out.far (show w.heap.size ≤ w.heap.size + 1 + 1 by omega) _) (show w.heap.size ≤ w.heap.size + 1 + 1 by omega) _⟩
    · go_wp2_with fail
      refine (l1Below_any p a n c 4 (by omega) (by omega) _ HS7.out.cur).mono ?_
      rintro e w8 ⟨y, hy, rfl, hC8, hO8⟩
      have hS8 := HS7.out.only hpw hC8 hO8
      have hT8 : SBox w8 w5.heap.size ((x : Int) - 1) none 0 0 := hT7.out.far (far_only hO8) (by omega)
      clear b0 b1 o0 o1 o2 s0 s1 z0 z1 sl
      clear t0 t1 y0 y1 tl
      obtain ⟨b0, b1, -⟩ := hS8.rb.facts
      obtain ⟨o0, o1, o2, -⟩ := hS8.ob.facts
      obtain ⟨s0, s1, z0, z1, sl⟩ := hS8.sb.facts
      obtain ⟨t0, t1, y0, y1, tl⟩ := hT8.facts
      have HS8 : Hid (ResSt w p a n c g m st kind k v w8) := hS8
      have hy8 : w5.heap.size < w8.heap.size := tl
      clear hC8 hO8 hS8 hT8
      go_wp2
      obtain ⟨s0, s1, -⟩ := (HS8.out.sb.set (q := ⟨w5.heap.size, 1, none⟩) (show w.heap.size + 1 + 1 ≠ w5.heap.size by omega) (.slice (some ⟨w8.heap.size, 0, none⟩) 1 1)).facts
      have E := stored_box2 s0 s1 (.int .i64 ((x : Int) - 1)) (.slice (some ⟨w8.heap.size, 0, none⟩) 1 1)
      have hcu := cur_set (cur_set (cur_set HS8.out.cur (q := ⟨w5.heap.size, 1, none⟩) (show p < w5.heap.size by omega) (.slice (some ⟨w8.heap.size, 0, none⟩) 1 1)) (q := ⟨w.heap.size + 1 + 1, 0, none⟩) (show p < w.heap.size + 1 + 1 by omega) (.int .i64 ((x : Int) - 1))) (q := ⟨w.heap.size + 1 + 1, 1, none⟩) (show p < w.heap.size + 1 + 1 by omega) (.slice (some ⟨w8.heap.size, 0, none⟩) 1 1)
      have hfa := far_set (far_set (far_set HS8.out.far (a := ⟨w5.heap.size, 1, none⟩) (show w.heap.size ≤ w5.heap.size by omega) (.slice (some ⟨w8.heap.size, 0, none⟩) 1 1)) (a := ⟨w.heap.size + 1 + 1, 0, none⟩) (show w.heap.size ≤ w.heap.size + 1 + 1 by omega) (.int .i64 ((x : Int) - 1))) (a := ⟨w.heap.size + 1 + 1, 1, none⟩) (show w.heap.size ≤ w.heap.size + 1 + 1 by omega) (.slice (some ⟨w8.heap.size, 0, none⟩) 1 1)
      obtain ⟨X, hX⟩ : ∃ X, X = ((w8.setCell ⟨w5.heap.size, 1, none⟩ (.slice (some ⟨w8.heap.size, 0, none⟩) 1 1)).setCell ⟨w.heap.size + 1 + 1, 0, none⟩ (.int .i64 ((x : Int) - 1))).setCell ⟨w.heap.size + 1 + 1, 1, none⟩ (.slice (some ⟨w8.heap.size, 0, none⟩) 1 1) := ⟨_, rfl⟩
      have hXs : X.heap.size = w8.heap.size := by rw [hX]; simp [World.setCell]
      rw [← hX] at E hcu hfa ⊢
      clear hX s0 s1
      have E1 : (X.alloc (.cells #[.int .i64 (y : Int)] 3)).cell? ⟨w.heap.size + 1 + 1, 0, none⟩ = _ := (World.cell?_alloc_past _ _ _ (show w.heap.size + 1 + 1 < X.heap.size by omega)).trans E.1
      have E2 : (X.alloc (.cells #[.int .i64 (y : Int)] 3)).cell? ⟨w.heap.size + 1 + 1, 1, none⟩ = _ := (World.cell?_alloc_past _ _ _ (show w.heap.size + 1 + 1 < X.heap.size by omega)).trans E.2
      (try simp only [Exit.inBlock, Exit.then])
      refine bodyPost_ret (by simp [results, Try.results21, go_sem, E1, E2]; try rfl) rfl ?_
      have hI : IntAt (X.alloc (.cells #[.int .i64 (y : Int)] 3)) (some ⟨w8.heap.size, 0, none⟩) 1 [(y : Int)] := one_at3 (by rw [← hXs]; simp)
      exact ⟨_, _, _, _, [(y : Int)], rfl, .inr (fresh_at (by omega)), hI, cur_alloc hcu _, hfa.trans (World.grownBy_alloc _ _ _)⟩
  · obtain rfl : m = 4 := (HOK.out.1 rfl).2.1
    clear HOK
    go_wp2_with fail
    refine (specOpOk_any kind k v _).mono ?_
    rintro e w2 ⟨rfl, hb2⟩
    have hS2 := HS1.out.below hpw hb2
    clear b0 b1 o0 o1 o2 s0 s1 z0 z1 sl
    obtain ⟨b0, b1, -⟩ := hS2.rb.facts
    obtain ⟨o0, o1, o2, -⟩ := hS2.ob.facts
    obtain ⟨s0, s1, z0, z1, sl⟩ := hS2.sb.facts
    have HS2 : Hid (ResSt w p a n c g 4 st kind k v w2) := hS2
    clear hS2 hb2
    by_cases hop : OpGood kind k v
    · rw [show decide (OpGood kind k v) = true from decide_eq_true hop]
      have HP : Hid (OpGood kind k v) := hop
      clear hop
      go_wp2_with fail
      refine (l1Once_any p a n c 3 (by omega) (by omega) _ HS2.out.cur).mono ?_
      rintro e w3 ⟨⟨bo, rfl⟩, hC3, hO3⟩
      have hS3 := HS2.out.only hpw hC3 hO3
      clear b0 b1 o0 o1 o2 s0 s1 z0 z1 sl
      obtain ⟨b0, b1, -⟩ := hS3.rb.facts
      obtain ⟨o0, o1, o2, -⟩ := hS3.ob.facts
      obtain ⟨s0, s1, z0, z1, sl⟩ := hS3.sb.facts
      have HS3 : Hid (ResSt w p a n c g 4 st kind k v w3) := hS3
      clear hS3 hC3 hO3
      cases bo
      · go_wp2_with fail
        refine (l4DoneL_any _ 4 st kind k v xs _ (HA.out.far HS3.out.far hgp) HP.out).mono ?_
        rintro e w4 ⟨⟨a', c', hfr, rfl, hat⟩, hb4⟩
        have hS4 := HS3.out.below hpw hb4
        clear b0 b1 o0 o1 o2 s0 s1 z0 z1 sl
        obtain ⟨b0, b1, -⟩ := hS4.rb.facts
        obtain ⟨o0, o1, o2, -⟩ := hS4.ob.facts
        obtain ⟨s0, s1, z0, z1, sl⟩ := hS4.sb.facts
        have HS4 : Hid (ResSt w p a n c g 4 st kind k v w4) := hS4
        have HAT : Hid (IntAt w4 a' (listM xs kind k v).length (listM xs kind k v)) := hat
        have HFR : Hid (FreshA w3 a') := hfr
        have hs3 : w.heap.size + 1 + 1 < w3.heap.size := HS3.out.sb.facts.2.2.2.2
        obtain ⟨zl, hzl⟩ : ∃ zl, (listM xs kind k v).length = zl := ⟨_, rfl⟩
        rw [hzl]
        have HZ : Hid ((listM xs kind k v).length = zl) := hzl
        clear hS4 hb4 hat hfr hzl
        by_cases hd : DoneM xs st kind k v
        · rw [show decide (DoneM xs st kind k v) = true from decide_eq_true hd]
          clear hd
          go_wp2
          have hI : IntAt w4 a' zl (listM xs kind k v) := by rw [← HZ.out]; exact HAT.out
          have E := stored_box2 s0 s1 (.int .i64 (0)) (.slice a' zl c')
          (try simp only [Exit.inBlock, Exit.then])
          refine bodyPost_ret (by simp [results, Try.results21, go_sem, E.1, E.2]; try rfl) rfl ?_
          exact ⟨_, _, _, _, (listM xs kind k v), rfl, .inr (HFR.out.up (by omega)), int_far (int_far hI (by intro q hq; have := HFR.out.at q hq; show w.heap.size + 1 + 1 ≠ q.block; omega) _) (by intro q hq; have := HFR.out.at q hq; show w.heap.size + 1 + 1 ≠ q.block; omega) _, cur_set (cur_set HS4.out.cur (show p < w.heap.size + 1 + 1 by omega) _) (show p < w.heap.size + 1 + 1 by omega) _, far_set (far_set HS4.out.far (show w.heap.size ≤ w.heap.size + 1 + 1 by omega) _) (show w.heap.size ≤ w.heap.size + 1 + 1 by omega) _⟩
        · rw [show decide (DoneM xs st kind k v) = false from decide_eq_false hd]
          clear hd
          go_wp2_with fail
          refine (l1Below_any p a n c 7 (by omega) (by omega) _ HS4.out.cur).mono ?_
          rintro e w5 ⟨x, hx, rfl, hC5, hO5⟩
          have hS5 := HS4.out.only hpw hC5 hO5
          clear b0 b1 o0 o1 o2 s0 s1 z0 z1 sl
          obtain ⟨b0, b1, -⟩ := hS5.rb.facts
          obtain ⟨o0, o1, o2, -⟩ := hS5.ob.facts
          obtain ⟨s0, s1, z0, z1, sl⟩ := hS5.sb.facts
          have HS5 : Hid (ResSt w p a n c g 4 st kind k v w5) := hS5
          clear hC5 hO5 hS5
          have HS6 : Hid (ResSt w p a n c g 4 st kind k v (w5.alloc (.cells #[.int .i64 ((x : Int) - 1), .slice none 0 0] 30))) := HS5.out.below hpw ((Below.refl _ _).alloc (Nat.le_refl _) _)
          have hsz5 : w.heap.size + 1 + 1 < w5.heap.size := sl
          go_wp2_with fail
          refine (l1Once_any p a n c 4 (by omega) (by omega) _ HS6.out.cur).mono ?_
          rintro e w7 ⟨⟨bo, rfl⟩, hC7, hO7⟩
          have hS7 := HS6.out.only hpw hC7 hO7
          clear b0 b1 o0 o1 o2 s0 s1 z0 z1 sl
          obtain ⟨b0, b1, -⟩ := hS7.rb.facts
          obtain ⟨o0, o1, o2, -⟩ := hS7.ob.facts
          obtain ⟨s0, s1, z0, z1, sl⟩ := hS7.sb.facts
          obtain ⟨t0, t1, y0, y1, tl⟩ := ((sbox_new w5 ((x : Int) - 1) none 0 0).far (far_only hO7) (by omega)).facts
          have HS7 : Hid (ResSt w p a n c g 4 st kind k v w7) := hS7
          have hT7 : Hid (SBox w7 w5.heap.size ((x : Int) - 1) none 0 0) := (sbox_new w5 ((x : Int) - 1) none 0 0).far (far_only hO7) (by omega)
          clear hC7 hO7 hS7
          cases bo
          · go_wp2
            have E := stored_box2 s0 s1 (.int .i64 ((x : Int) - 1)) (.slice none 0 0)
            (try simp only [Exit.inBlock, Exit.then])
            refine bodyPost_ret (by simp [results, Try.results21, go_sem, E.1, E.2]; try rfl) rfl ?_
            exact ⟨_, _, _, _, [], rfl, .inl ⟨rfl, rfl, rfl⟩, nil_at3 _, cur_set (cur_set HS7.out.cur (show p < w.heap.size + 1 + 1 by omega) _) (show p < w.heap.size + 1 + 1 by omega) _, far_set (far_set HS7.out.far (show w.heap.size ≤ w.heap.size + 1 + 1 by omega) _) (show w.heap.size ≤ w.heap.size + 1 + 1 by omega) _⟩
          · go_wp2_with fail
            refine (l1Below_any p a n c 4 (by omega) (by omega) _ HS7.out.cur).mono ?_
            rintro e w8 ⟨y, hy, rfl, hC8, hO8⟩
            have hS8 := HS7.out.only hpw hC8 hO8
            have hT8 : SBox w8 w5.heap.size ((x : Int) - 1) none 0 0 := hT7.out.far (far_only hO8) (by omega)
            clear b0 b1 o0 o1 o2 s0 s1 z0 z1 sl
            clear t0 t1 y0 y1 tl
            obtain ⟨b0, b1, -⟩ := hS8.rb.facts
            obtain ⟨o0, o1, o2, -⟩ := hS8.ob.facts
            obtain ⟨s0, s1, z0, z1, sl⟩ := hS8.sb.facts
            obtain ⟨t0, t1, y0, y1, tl⟩ := hT8.facts
            have HS8 : Hid (ResSt w p a n c g 4 st kind k v w8) := hS8
            have hy8 : w5.heap.size < w8.heap.size := tl
            clear hC8 hO8 hS8 hT8
            go_wp2
            obtain ⟨s0, s1, -⟩ := (HS8.out.sb.set (q := ⟨w5.heap.size, 1, none⟩) (show w.heap.size + 1 + 1 ≠ w5.heap.size by omega) (.slice (some ⟨w8.heap.size, 0, none⟩) 1 1)).facts
            have E := stored_box2 s0 s1 (.int .i64 ((x : Int) - 1)) (.slice (some ⟨w8.heap.size, 0, none⟩) 1 1)
            have hcu := cur_set (cur_set (cur_set HS8.out.cur (q := ⟨w5.heap.size, 1, none⟩) (show p < w5.heap.size by omega) (.slice (some ⟨w8.heap.size, 0, none⟩) 1 1)) (q := ⟨w.heap.size + 1 + 1, 0, none⟩) (show p < w.heap.size + 1 + 1 by omega) (.int .i64 ((x : Int) - 1))) (q := ⟨w.heap.size + 1 + 1, 1, none⟩) (show p < w.heap.size + 1 + 1 by omega) (.slice (some ⟨w8.heap.size, 0, none⟩) 1 1)
            have hfa := far_set (far_set (far_set HS8.out.far (a := ⟨w5.heap.size, 1, none⟩) (show w.heap.size ≤ w5.heap.size by omega) (.slice (some ⟨w8.heap.size, 0, none⟩) 1 1)) (a := ⟨w.heap.size + 1 + 1, 0, none⟩) (show w.heap.size ≤ w.heap.size + 1 + 1 by omega) (.int .i64 ((x : Int) - 1))) (a := ⟨w.heap.size + 1 + 1, 1, none⟩) (show w.heap.size ≤ w.heap.size + 1 + 1 by omega) (.slice (some ⟨w8.heap.size, 0, none⟩) 1 1)
            obtain ⟨X, hX⟩ : ∃ X, X = ((w8.setCell ⟨w5.heap.size, 1, none⟩ (.slice (some ⟨w8.heap.size, 0, none⟩) 1 1)).setCell ⟨w.heap.size + 1 + 1, 0, none⟩ (.int .i64 ((x : Int) - 1))).setCell ⟨w.heap.size + 1 + 1, 1, none⟩ (.slice (some ⟨w8.heap.size, 0, none⟩) 1 1) := ⟨_, rfl⟩
            have hXs : X.heap.size = w8.heap.size := by rw [hX]; simp [World.setCell]
            rw [← hX] at E hcu hfa ⊢
            clear hX s0 s1
            have E1 : (X.alloc (.cells #[.int .i64 (y : Int)] 3)).cell? ⟨w.heap.size + 1 + 1, 0, none⟩ = _ := (World.cell?_alloc_past _ _ _ (show w.heap.size + 1 + 1 < X.heap.size by omega)).trans E.1
            have E2 : (X.alloc (.cells #[.int .i64 (y : Int)] 3)).cell? ⟨w.heap.size + 1 + 1, 1, none⟩ = _ := (World.cell?_alloc_past _ _ _ (show w.heap.size + 1 + 1 < X.heap.size by omega)).trans E.2
            (try simp only [Exit.inBlock, Exit.then])
            refine bodyPost_ret (by simp [results, Try.results21, go_sem, E1, E2]; try rfl) rfl ?_
            have hI : IntAt (X.alloc (.cells #[.int .i64 (y : Int)] 3)) (some ⟨w8.heap.size, 0, none⟩) 1 [(y : Int)] := one_at3 (by rw [← hXs]; simp)
            exact ⟨_, _, _, _, [(y : Int)], rfl, .inr (fresh_at (by omega)), hI, cur_alloc hcu _, hfa.trans (World.grownBy_alloc _ _ _)⟩
      · skip
        go_wp2_with fail
        refine (l1Below_any p a n c 7 (by omega) (by omega) _ HS3.out.cur).mono ?_
        rintro e w5 ⟨x, hx, rfl, hC5, hO5⟩
        have hS5 := HS3.out.only hpw hC5 hO5
        clear b0 b1 o0 o1 o2 s0 s1 z0 z1 sl
        obtain ⟨b0, b1, -⟩ := hS5.rb.facts
        obtain ⟨o0, o1, o2, -⟩ := hS5.ob.facts
        obtain ⟨s0, s1, z0, z1, sl⟩ := hS5.sb.facts
        have HS5 : Hid (ResSt w p a n c g 4 st kind k v w5) := hS5
        clear hC5 hO5 hS5
        have HS6 : Hid (ResSt w p a n c g 4 st kind k v (w5.alloc (.cells #[.int .i64 ((x : Int) - 1), .slice none 0 0] 30))) := HS5.out.below hpw ((Below.refl _ _).alloc (Nat.le_refl _) _)
        have hsz5 : w.heap.size + 1 + 1 < w5.heap.size := sl
        go_wp2_with fail
        refine (l1Once_any p a n c 4 (by omega) (by omega) _ HS6.out.cur).mono ?_
        rintro e w7 ⟨⟨bo, rfl⟩, hC7, hO7⟩
        have hS7 := HS6.out.only hpw hC7 hO7
        clear b0 b1 o0 o1 o2 s0 s1 z0 z1 sl
        obtain ⟨b0, b1, -⟩ := hS7.rb.facts
        obtain ⟨o0, o1, o2, -⟩ := hS7.ob.facts
        obtain ⟨s0, s1, z0, z1, sl⟩ := hS7.sb.facts
        obtain ⟨t0, t1, y0, y1, tl⟩ := ((sbox_new w5 ((x : Int) - 1) none 0 0).far (far_only hO7) (by omega)).facts
        have HS7 : Hid (ResSt w p a n c g 4 st kind k v w7) := hS7
        have hT7 : Hid (SBox w7 w5.heap.size ((x : Int) - 1) none 0 0) := (sbox_new w5 ((x : Int) - 1) none 0 0).far (far_only hO7) (by omega)
        clear hC7 hO7 hS7
        cases bo
        · go_wp2
          have E := stored_box2 s0 s1 (.int .i64 ((x : Int) - 1)) (.slice none 0 0)
          (try simp only [Exit.inBlock, Exit.then])
          refine bodyPost_ret (by simp [results, Try.results21, go_sem, E.1, E.2]; try rfl) rfl ?_
          exact ⟨_, _, _, _, [], rfl, .inl ⟨rfl, rfl, rfl⟩, nil_at3 _, cur_set (cur_set HS7.out.cur (show p < w.heap.size + 1 + 1 by omega) _) (show p < w.heap.size + 1 + 1 by omega) _, far_set (far_set HS7.out.far (show w.heap.size ≤ w.heap.size + 1 + 1 by omega) _) (show w.heap.size ≤ w.heap.size + 1 + 1 by omega) _⟩
        · go_wp2_with fail
          refine (l1Below_any p a n c 4 (by omega) (by omega) _ HS7.out.cur).mono ?_
          rintro e w8 ⟨y, hy, rfl, hC8, hO8⟩
          have hS8 := HS7.out.only hpw hC8 hO8
          have hT8 : SBox w8 w5.heap.size ((x : Int) - 1) none 0 0 := hT7.out.far (far_only hO8) (by omega)
          clear b0 b1 o0 o1 o2 s0 s1 z0 z1 sl
          clear t0 t1 y0 y1 tl
          obtain ⟨b0, b1, -⟩ := hS8.rb.facts
          obtain ⟨o0, o1, o2, -⟩ := hS8.ob.facts
          obtain ⟨s0, s1, z0, z1, sl⟩ := hS8.sb.facts
          obtain ⟨t0, t1, y0, y1, tl⟩ := hT8.facts
          have HS8 : Hid (ResSt w p a n c g 4 st kind k v w8) := hS8
          have hy8 : w5.heap.size < w8.heap.size := tl
          clear hC8 hO8 hS8 hT8
          go_wp2
          obtain ⟨s0, s1, -⟩ := (HS8.out.sb.set (q := ⟨w5.heap.size, 1, none⟩) (show w.heap.size + 1 + 1 ≠ w5.heap.size by omega) (.slice (some ⟨w8.heap.size, 0, none⟩) 1 1)).facts
          have E := stored_box2 s0 s1 (.int .i64 ((x : Int) - 1)) (.slice (some ⟨w8.heap.size, 0, none⟩) 1 1)
          have hcu := cur_set (cur_set (cur_set HS8.out.cur (q := ⟨w5.heap.size, 1, none⟩) (show p < w5.heap.size by omega) (.slice (some ⟨w8.heap.size, 0, none⟩) 1 1)) (q := ⟨w.heap.size + 1 + 1, 0, none⟩) (show p < w.heap.size + 1 + 1 by omega) (.int .i64 ((x : Int) - 1))) (q := ⟨w.heap.size + 1 + 1, 1, none⟩) (show p < w.heap.size + 1 + 1 by omega) (.slice (some ⟨w8.heap.size, 0, none⟩) 1 1)
          have hfa := far_set (far_set (far_set HS8.out.far (a := ⟨w5.heap.size, 1, none⟩) (show w.heap.size ≤ w5.heap.size by omega) (.slice (some ⟨w8.heap.size, 0, none⟩) 1 1)) (a := ⟨w.heap.size + 1 + 1, 0, none⟩) (show w.heap.size ≤ w.heap.size + 1 + 1 by omega) (.int .i64 ((x : Int) - 1))) (a := ⟨w.heap.size + 1 + 1, 1, none⟩) (show w.heap.size ≤ w.heap.size + 1 + 1 by omega) (.slice (some ⟨w8.heap.size, 0, none⟩) 1 1)
          obtain ⟨X, hX⟩ : ∃ X, X = ((w8.setCell ⟨w5.heap.size, 1, none⟩ (.slice (some ⟨w8.heap.size, 0, none⟩) 1 1)).setCell ⟨w.heap.size + 1 + 1, 0, none⟩ (.int .i64 ((x : Int) - 1))).setCell ⟨w.heap.size + 1 + 1, 1, none⟩ (.slice (some ⟨w8.heap.size, 0, none⟩) 1 1) := ⟨_, rfl⟩
          have hXs : X.heap.size = w8.heap.size := by rw [hX]; simp [World.setCell]
          rw [← hX] at E hcu hfa ⊢
          clear hX s0 s1
          have E1 : (X.alloc (.cells #[.int .i64 (y : Int)] 3)).cell? ⟨w.heap.size + 1 + 1, 0, none⟩ = _ := (World.cell?_alloc_past _ _ _ (show w.heap.size + 1 + 1 < X.heap.size by omega)).trans E.1
          have E2 : (X.alloc (.cells #[.int .i64 (y : Int)] 3)).cell? ⟨w.heap.size + 1 + 1, 1, none⟩ = _ := (World.cell?_alloc_past _ _ _ (show w.heap.size + 1 + 1 < X.heap.size by omega)).trans E.2
          (try simp only [Exit.inBlock, Exit.then])
          refine bodyPost_ret (by simp [results, Try.results21, go_sem, E1, E2]; try rfl) rfl ?_
          have hI : IntAt (X.alloc (.cells #[.int .i64 (y : Int)] 3)) (some ⟨w8.heap.size, 0, none⟩) 1 [(y : Int)] := one_at3 (by rw [← hXs]; simp)
          exact ⟨_, _, _, _, [(y : Int)], rfl, .inr (fresh_at (by omega)), hI, cur_alloc hcu _, hfa.trans (World.grownBy_alloc _ _ _)⟩
    · rw [show decide (OpGood kind k v) = false from decide_eq_false hop]
      clear hop
      go_wp2_with fail
      refine (l1Below_any p a n c 7 (by omega) (by omega) _ HS2.out.cur).mono ?_
      rintro e w5 ⟨x, hx, rfl, hC5, hO5⟩
      have hS5 := HS2.out.only hpw hC5 hO5
      clear b0 b1 o0 o1 o2 s0 s1 z0 z1 sl
      obtain ⟨b0, b1, -⟩ := hS5.rb.facts
      obtain ⟨o0, o1, o2, -⟩ := hS5.ob.facts
      obtain ⟨s0, s1, z0, z1, sl⟩ := hS5.sb.facts
      have HS5 : Hid (ResSt w p a n c g 4 st kind k v w5) := hS5
      clear hC5 hO5 hS5
      have HS6 : Hid (ResSt w p a n c g 4 st kind k v (w5.alloc (.cells #[.int .i64 ((x : Int) - 1), .slice none 0 0] 30))) := HS5.out.below hpw ((Below.refl _ _).alloc (Nat.le_refl _) _)
      have hsz5 : w.heap.size + 1 + 1 < w5.heap.size := sl
      go_wp2_with fail
      refine (l1Once_any p a n c 4 (by omega) (by omega) _ HS6.out.cur).mono ?_
      rintro e w7 ⟨⟨bo, rfl⟩, hC7, hO7⟩
      have hS7 := HS6.out.only hpw hC7 hO7
      clear b0 b1 o0 o1 o2 s0 s1 z0 z1 sl
      obtain ⟨b0, b1, -⟩ := hS7.rb.facts
      obtain ⟨o0, o1, o2, -⟩ := hS7.ob.facts
      obtain ⟨s0, s1, z0, z1, sl⟩ := hS7.sb.facts
      obtain ⟨t0, t1, y0, y1, tl⟩ := ((sbox_new w5 ((x : Int) - 1) none 0 0).far (far_only hO7) (by omega)).facts
      have HS7 : Hid (ResSt w p a n c g 4 st kind k v w7) := hS7
      have hT7 : Hid (SBox w7 w5.heap.size ((x : Int) - 1) none 0 0) := (sbox_new w5 ((x : Int) - 1) none 0 0).far (far_only hO7) (by omega)
      clear hC7 hO7 hS7
      cases bo
      · go_wp2
        have E := stored_box2 s0 s1 (.int .i64 ((x : Int) - 1)) (.slice none 0 0)
        (try simp only [Exit.inBlock, Exit.then])
        refine bodyPost_ret (by simp [results, Try.results21, go_sem, E.1, E.2]; try rfl) rfl ?_
        exact ⟨_, _, _, _, [], rfl, .inl ⟨rfl, rfl, rfl⟩, nil_at3 _, cur_set (cur_set HS7.out.cur (show p < w.heap.size + 1 + 1 by omega) _) (show p < w.heap.size + 1 + 1 by omega) _, far_set (far_set HS7.out.far (show w.heap.size ≤ w.heap.size + 1 + 1 by omega) _) (show w.heap.size ≤ w.heap.size + 1 + 1 by omega) _⟩
      · go_wp2_with fail
        refine (l1Below_any p a n c 4 (by omega) (by omega) _ HS7.out.cur).mono ?_
        rintro e w8 ⟨y, hy, rfl, hC8, hO8⟩
        have hS8 := HS7.out.only hpw hC8 hO8
        have hT8 : SBox w8 w5.heap.size ((x : Int) - 1) none 0 0 := hT7.out.far (far_only hO8) (by omega)
        clear b0 b1 o0 o1 o2 s0 s1 z0 z1 sl
        clear t0 t1 y0 y1 tl
        obtain ⟨b0, b1, -⟩ := hS8.rb.facts
        obtain ⟨o0, o1, o2, -⟩ := hS8.ob.facts
        obtain ⟨s0, s1, z0, z1, sl⟩ := hS8.sb.facts
        obtain ⟨t0, t1, y0, y1, tl⟩ := hT8.facts
        have HS8 : Hid (ResSt w p a n c g 4 st kind k v w8) := hS8
        have hy8 : w5.heap.size < w8.heap.size := tl
        clear hC8 hO8 hS8 hT8
        go_wp2
        obtain ⟨s0, s1, -⟩ := (HS8.out.sb.set (q := ⟨w5.heap.size, 1, none⟩) (show w.heap.size + 1 + 1 ≠ w5.heap.size by omega) (.slice (some ⟨w8.heap.size, 0, none⟩) 1 1)).facts
        have E := stored_box2 s0 s1 (.int .i64 ((x : Int) - 1)) (.slice (some ⟨w8.heap.size, 0, none⟩) 1 1)
        have hcu := cur_set (cur_set (cur_set HS8.out.cur (q := ⟨w5.heap.size, 1, none⟩) (show p < w5.heap.size by omega) (.slice (some ⟨w8.heap.size, 0, none⟩) 1 1)) (q := ⟨w.heap.size + 1 + 1, 0, none⟩) (show p < w.heap.size + 1 + 1 by omega) (.int .i64 ((x : Int) - 1))) (q := ⟨w.heap.size + 1 + 1, 1, none⟩) (show p < w.heap.size + 1 + 1 by omega) (.slice (some ⟨w8.heap.size, 0, none⟩) 1 1)
        have hfa := far_set (far_set (far_set HS8.out.far (a := ⟨w5.heap.size, 1, none⟩) (show w.heap.size ≤ w5.heap.size by omega) (.slice (some ⟨w8.heap.size, 0, none⟩) 1 1)) (a := ⟨w.heap.size + 1 + 1, 0, none⟩) (show w.heap.size ≤ w.heap.size + 1 + 1 by omega) (.int .i64 ((x : Int) - 1))) (a := ⟨w.heap.size + 1 + 1, 1, none⟩) (show w.heap.size ≤ w.heap.size + 1 + 1 by omega) (.slice (some ⟨w8.heap.size, 0, none⟩) 1 1)
        obtain ⟨X, hX⟩ : ∃ X, X = ((w8.setCell ⟨w5.heap.size, 1, none⟩ (.slice (some ⟨w8.heap.size, 0, none⟩) 1 1)).setCell ⟨w.heap.size + 1 + 1, 0, none⟩ (.int .i64 ((x : Int) - 1))).setCell ⟨w.heap.size + 1 + 1, 1, none⟩ (.slice (some ⟨w8.heap.size, 0, none⟩) 1 1) := ⟨_, rfl⟩
        have hXs : X.heap.size = w8.heap.size := by rw [hX]; simp [World.setCell]
        rw [← hX] at E hcu hfa ⊢
        clear hX s0 s1
        have E1 : (X.alloc (.cells #[.int .i64 (y : Int)] 3)).cell? ⟨w.heap.size + 1 + 1, 0, none⟩ = _ := (World.cell?_alloc_past _ _ _ (show w.heap.size + 1 + 1 < X.heap.size by omega)).trans E.1
        have E2 : (X.alloc (.cells #[.int .i64 (y : Int)] 3)).cell? ⟨w.heap.size + 1 + 1, 1, none⟩ = _ := (World.cell?_alloc_past _ _ _ (show w.heap.size + 1 + 1 < X.heap.size by omega)).trans E.2
        (try simp only [Exit.inBlock, Exit.then])
        refine bodyPost_ret (by simp [results, Try.results21, go_sem, E1, E2]; try rfl) rfl ?_
        have hI : IntAt (X.alloc (.cells #[.int .i64 (y : Int)] 3)) (some ⟨w8.heap.size, 0, none⟩) 1 [(y : Int)] := one_at3 (by rw [← hXs]; simp)
        exact ⟨_, _, _, _, [(y : Int)], rfl, .inr (fresh_at (by omega)), hI, cur_alloc hcu _, hfa.trans (World.grownBy_alloc _ _ _)⟩
end Go.Proofs.Ytlnhmmpmnflagad
