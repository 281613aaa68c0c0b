/- The drawing of ops, walked. -/
import Derived.Test.YtlnhmmpmnflagadDrawRows
import Derived.Test.YtlnhmmpmnflagadOpM
namespace Go.Proofs.Ytlnhmmpmnflagad
open Go.ChangeShapes Go.WideShapes Go.ChangeAt Go.RowKit

/-- A box for an op. -/
def OBox (w : World) (b : Nat) (kind k v : Int) : Prop := w.heap[b]? = some (.cells #[.int .i64 kind, .int .i64 k, .int .i64 v] 28)
theorem OBox.facts {w : World} {b : Nat} {kind k v : Int} (h : OBox w b kind k v) : w.cell? ⟨b, 0, none⟩ = some (.int .i64 kind) ∧ w.cell? ⟨b, 1, none⟩ = some (.int .i64 k) ∧ w.cell? ⟨b, 2, none⟩ = some (.int .i64 v) ∧ w.frozen? ⟨b, 0, none⟩ = false ∧ w.frozen? ⟨b, 1, none⟩ = false ∧ w.frozen? ⟨b, 2, none⟩ = false ∧ b < w.heap.size := by
  unfold OBox at h
  exact ⟨by simp [World.cell?, h], by simp [World.cell?, h], by simp [World.cell?, h], by simp [World.frozen?, h], by simp [World.frozen?, h], by simp [World.frozen?, h], (Array.getElem?_eq_some_iff.1 h).1⟩
theorem OBox.far {w w' : World} {p b : Nat} {kind k v : Int} (h : OBox w b kind k v) (hg : w.grownBy w' (some p)) (hp : b ≠ p) : OBox w' b kind k v := by
  unfold OBox at h ⊢
  rw [hg.block b (Array.getElem?_eq_some_iff.1 h).1 (by simpa using hp)]
  exact h
theorem OBox.set {w : World} {b : Nat} {kind k v : Int} (h : OBox w b kind k v) {q : Addr} (hq : b ≠ q.block) (u : Value) : OBox (w.setCell q u) b kind k v := by
  unfold OBox at h ⊢
  rw [Below.heap_setCell _ _ _ _ hq]
  exact h
theorem obox_new (w : World) (kind k v : Int) : OBox (w.alloc (.cells #[.int .i64 kind, .int .i64 k, .int .i64 v] 28)) w.heap.size kind k v := by
  show (w.heap.push _)[w.heap.size]? = _
  simp

theorem list_at (w : World) (xs : List Int) (g : Nat) (hg : w.heap.size = g) {cs : Array Value} (hc : cs = (xs.map I).toArray) : ∀ i, i < xs.length → (w.alloc (.cells cs 3)).cell? ⟨g, i, none⟩ = some (.int .i64 (xs.getD i 0)) := by
  intro i hi
  subst hg hc
  simp [World.cell?_alloc_at, List.getD, hi]
theorem OBox.put1 {w : World} {b : Nat} {kind k v : Int} (h : OBox w b kind k v) (x : Int) : OBox (w.setCell ⟨b, 1, none⟩ (.int .i64 x)) b kind x v := by
  unfold OBox at h ⊢
  obtain ⟨hlt, h'⟩ := Array.getElem?_eq_some_iff.1 h
  show (w.heap.modify b _)[b]? = _
  rw [Array.getElem?_eq_getElem (by simpa using hlt), Array.getElem_modify_self, h']
  rfl
theorem OBox.put2 {w : World} {b : Nat} {kind k v : Int} (h : OBox w b kind k v) (x : Int) : OBox (w.setCell ⟨b, 2, none⟩ (.int .i64 x)) b kind k x := by
  unfold OBox at h ⊢
  obtain ⟨hlt, h'⟩ := Array.getElem?_eq_some_iff.1 h
  show (w.heap.modify b _)[b]? = _
  rw [Array.getElem?_eq_getElem (by simpa using hlt), Array.getElem_modify_self, h']
  rfl
theorem OBox.put0 {w : World} {b : Nat} {kind k v : Int} (h : OBox w b kind k v) (x : Int) : OBox (w.setCell ⟨b, 0, none⟩ (.int .i64 x)) b x k v := by
  unfold OBox at h ⊢
  obtain ⟨hlt, h'⟩ := Array.getElem?_eq_some_iff.1 h
  show (w.heap.modify b _)[b]? = _
  rw [Array.getElem?_eq_getElem (by simpa using hlt), Array.getElem_modify_self, h']
  rfl
/-- While an op is drawn. -/
structure OpSt (w : World) (p : Nat) (a : Option Addr) (n c b : Nat) (wr : World) (kind k v : Int) : Prop where
  cur : Cur 67 wr p a n c
  far : w.grownBy wr (some p)
  box : OBox wr b kind k v
  res : OBox wr w.heap.size 0 0 0
section
variable {w wr wr' : World} {p n c b : Nat} {a : Option Addr} {kind k v : Int}
theorem OpSt.only (h : OpSt w p a n c b wr kind k v) (hp : p < w.heap.size) (hb : w.heap.size < b) (hC : Cur 67 wr' p a n c) (hO : Only p wr wr') : OpSt w p a n c b wr' kind k v :=
  ⟨hC, h.far.trans (far_only hO), h.box.far (far_only hO) (by omega), h.res.far (far_only hO) (by omega)⟩
theorem OpSt.put1 (h : OpSt w p a n c b wr kind k v) (hp : p < w.heap.size) (hb : w.heap.size < b) (x : Int) : OpSt w p a n c b (wr.setCell ⟨b, 1, none⟩ (.int .i64 x)) kind x v :=
  ⟨cur_set h.cur (show p < b by omega) _, far_set h.far (show w.heap.size ≤ b by omega) _, h.box.put1 x, h.res.set (show w.heap.size ≠ b by omega) _⟩
theorem OpSt.put2 (h : OpSt w p a n c b wr kind k v) (hp : p < w.heap.size) (hb : w.heap.size < b) (x : Int) : OpSt w p a n c b (wr.setCell ⟨b, 2, none⟩ (.int .i64 x)) kind k x :=
  ⟨cur_set h.cur (show p < b by omega) _, far_set h.far (show w.heap.size ≤ b by omega) _, h.box.put2 x, h.res.set (show w.heap.size ≠ b by omega) _⟩
theorem OpSt.put0 (h : OpSt w p a n c b wr kind k v) (hp : p < w.heap.size) (hb : w.heap.size < b) (x : Int) : OpSt w p a n c b (wr.setCell ⟨b, 0, none⟩ (.int .i64 x)) x k v :=
  ⟨cur_set h.cur (show p < b by omega) _, far_set h.far (show w.heap.size ≤ b by omega) _, h.box.put0 x, h.res.set (show w.heap.size ≠ b by omega) _⟩
/-- The answer's own box, when the op is laid there. -/
theorem OpSt.fin (h : OpSt w p a n c b wr kind k v) (hp : p < w.heap.size) (k1 k2 k3 : Int) :
    (OBox (((wr.setCell ⟨w.heap.size, 0, none⟩ (.int .i64 k1)).setCell ⟨w.heap.size, 1, none⟩ (.int .i64 k2)).setCell ⟨w.heap.size, 2, none⟩ (.int .i64 k3)) w.heap.size k1 k2 k3)
    ∧ Cur 67 (((wr.setCell ⟨w.heap.size, 0, none⟩ (.int .i64 k1)).setCell ⟨w.heap.size, 1, none⟩ (.int .i64 k2)).setCell ⟨w.heap.size, 2, none⟩ (.int .i64 k3)) p a n c
    ∧ w.grownBy (((wr.setCell ⟨w.heap.size, 0, none⟩ (.int .i64 k1)).setCell ⟨w.heap.size, 1, none⟩ (.int .i64 k2)).setCell ⟨w.heap.size, 2, none⟩ (.int .i64 k3)) (some p) :=
  ⟨((h.res.put0 k1).put1 k2).put2 k3, cur_set (cur_set (cur_set h.cur (show p < w.heap.size from hp) _) (show p < w.heap.size from hp) _) (show p < w.heap.size from hp) _, far_set (far_set (far_set h.far (Nat.le_refl _) _) (Nat.le_refl _) _) (Nat.le_refl _) _⟩
end
theorem l4Key_any (k : Int) (w : World) : Calls Try.prog 37 #[.int .i64 k] w fun e w' => e = .returned (.bool (decide (1 ≤ k ∧ k ≤ 4))) ∧ w' = w := by
  rcases tri 1 4 k (by decide) with ⟨h0, h1⟩ | ⟨h0, h1⟩ | ⟨h0, h1⟩
  · rw [show decide (1 ≤ k ∧ k ≤ 4) = true from decide_eq_true ⟨h0, h1⟩]
    go_enter Try.func37, Try.ntmps37
    go_wp2
    go_ret
    exact ⟨rfl, rfl⟩
  · rw [show decide (1 ≤ k ∧ k ≤ 4) = false from decide_eq_false (fun h => h0 h.1)]
    go_enter Try.func37, Try.ntmps37
    go_wp2
    go_ret
    exact ⟨rfl, rfl⟩
  · rw [show decide (1 ≤ k ∧ k ≤ 4) = false from decide_eq_false (fun h => h1 h.2)]
    go_enter Try.func37, Try.ntmps37
    go_wp2
    go_ret
    exact ⟨rfl, rfl⟩
theorem l4Val_any (k : Int) (w : World) : Calls Try.prog 39 #[.int .i64 k] w fun e w' => (∃ b : Bool, e = .returned (.bool b)) ∧ w' = w := by
  rcases eqb k 1 with ⟨h1, g1⟩ | ⟨h1, g1⟩ <;> rcases eqb k 2 with ⟨h2, g2⟩ | ⟨h2, g2⟩ <;> rcases eqb k 5 with ⟨h5, g5⟩ | ⟨h5, g5⟩ <;> rcases eqb k 10 with ⟨h9, g9⟩ | ⟨h9, g9⟩
  all_goals
    clear h1 h2 h5 h9
    go_enter Try.func39, Try.ntmps39
    go_wp2
    go_ret
    exact ⟨⟨_, rfl⟩, rfl⟩

set_option maxHeartbeats 2000000 in
theorem l4DrawRight_any (p : Nat) (a : Option Addr) (n c : Nat) (w : World) (hC : Cur 67 w p a n c) :
    Calls Try.prog 29 #[.pointer (some ⟨p, 0, none⟩)] w fun e w' => ∃ kind k v : Int, e = .returned (OpV kind k v) ∧ Cur 67 w' p a n c ∧ w.grownBy w' (some p) := by
  have HC : Hid (Cur 67 w p a n c) := hC
  have hpw := hC.lt
  clear hC
  go_enter Try.func29, Try.ntmps29
  go_wp2_with fail
  refine (l1PickInt_any p a n c (w.heap.size + 1) 14 14 [1, 1, 1, 2, 2, 3, 4, 5, 6, 7, 8, 9, 9, 10] (by omega) (by omega) _ (cur_alloc (cur_alloc HC.out _) _) (by omega) (by intro i hi; exact list_at _ [1, 1, 1, 2, 2, 3, 4, 5, 6, 7, 8, 9, 9, 10] _ (by simp) rfl i hi)).mono ?_
  rintro e w1 ⟨x, hx, rfl, hC1, hO1⟩
  obtain ⟨kind, hk1⟩ : ∃ kind, ([1, 1, 1, 2, 2, 3, 4, 5, 6, 7, 8, 9, 9, 10] : List Int).getD x 0 = kind := ⟨_, rfl⟩
  rw [hk1]
  have hsz : w1.heap.size = w.heap.size + 1 + 1 := by rw [hO1.size]; simp
  have S0 : OpSt w p a n c w1.heap.size (w1.alloc (.cells #[.int .i64 kind, .int .i64 0, .int .i64 0] 28)) kind 0 0 :=
    ⟨cur_alloc hC1 _, (((World.grownBy_alloc w _ _).trans (World.grownBy_alloc _ _ _)).trans (far_only hO1)).trans (World.grownBy_alloc _ _ _), obox_new _ _ _ _, (((obox_new w 0 0 0).far (p := p) (World.grownBy_alloc _ _ _) (by omega)).far (far_only hO1) (by omega)).far (p := p) (World.grownBy_alloc _ _ _) (by omega)⟩
  obtain ⟨b, hb⟩ : ∃ b, b = w.heap.size + 1 + 1 := ⟨_, rfl⟩
  obtain ⟨w2, hw2⟩ : ∃ w2, w2 = w1.alloc (.cells #[.int .i64 kind, .int .i64 0, .int .i64 0] 28) := ⟨_, rfl⟩
  rw [← hw2, hsz, ← hb] at S0
  have HS : Hid (OpSt w p a n c b w2 kind 0 0) := S0
  have hbw : w.heap.size < b := by omega
  clear S0 hC1 hO1 hk1 hx
  obtain ⟨b0, b1, b2, z0, z1, z2, bl⟩ := HS.out.box.facts
  obtain ⟨r0, r1, r2, y0, y1, y2, rl⟩ := HS.out.res.facts
  go_wp2_with fail
  rw [← hw2, ← hb]
  clear hw2 hb
  refine (l4Key_any kind _).mono ?_
  rintro e w3 ⟨rfl, rfl⟩
  by_cases hK : 1 ≤ kind ∧ kind ≤ 4
  · rw [show decide (1 ≤ kind ∧ kind ≤ 4) = true from decide_eq_true hK]
    have h6 : (kind == 6) = false := by simp; omega
    go_wp2_with fail
    refine (l1Below_any p a n c 4 (by omega) (by omega) _ HS.out.cur).mono ?_
    rintro e w4 ⟨x4, hx4, rfl, hC4, hO4⟩
    have hS4 := HS.out.only hpw hbw hC4 hO4
    clear b0 b1 b2 z0 z1 z2 bl r0 r1 r2 y0 y1 y2 rl
    obtain ⟨b0, b1, b2, z0, z1, z2, bl⟩ := hS4.box.facts
    obtain ⟨r0, r1, r2, y0, y1, y2, rl⟩ := hS4.res.facts
    have HS4 : Hid (OpSt w p a n c b w4 kind 0 0) := hS4
    clear hS4 hC4 hO4
    go_wp2_with fail
    refine (l4Val_any kind _).mono ?_
    rintro e w8 ⟨⟨bv, rfl⟩, rfl⟩
    cases bv
    · go_wp2
      have E := (HS4.out.put1 hpw hbw (x4 : Int)).fin hpw kind (x4 : Int) 0
      obtain ⟨q0, q1, q2, _⟩ := E.1.facts
      (try simp only [Exit.inBlock, Exit.then])
      refine bodyPost_ret (by simp [results, Try.results29, go_sem, q0, q1, q2]; try rfl) rfl ?_
      exact ⟨_, _, _, rfl, E.2.1, E.2.2⟩
    · go_wp2_with fail
      refine (l1Below_any p a n c 4 (by omega) (by omega) _ (HS4.out.put1 hpw hbw (x4 : Int)).cur).mono ?_
      rintro e w9 ⟨y, hy, rfl, hC9, hO9⟩
      have hS9 := (HS4.out.put1 hpw hbw (x4 : Int)).only hpw hbw hC9 hO9
      clear b0 b1 b2 z0 z1 z2 bl r0 r1 r2 y0 y1 y2 rl
      obtain ⟨b0, b1, b2, z0, z1, z2, bl⟩ := hS9.box.facts
      obtain ⟨r0, r1, r2, y0, y1, y2, rl⟩ := hS9.res.facts
      have HS9 : Hid (OpSt w p a n c b w9 kind (x4 : Int) 0) := hS9
      clear hS9 hC9 hO9
      go_wp2
      have E := (HS9.out.put2 hpw hbw (1 + (y : Int))).fin hpw kind (x4 : Int) (1 + (y : Int))
      obtain ⟨q0, q1, q2, _⟩ := E.1.facts
      (try simp only [Exit.inBlock, Exit.then])
      refine bodyPost_ret (by simp [results, Try.results29, go_sem, q0, q1, q2]; try rfl) rfl ?_
      exact ⟨_, _, _, rfl, E.2.1, E.2.2⟩
  · rw [show decide (1 ≤ kind ∧ kind ≤ 4) = false from decide_eq_false hK]
    rcases eqb kind 6 with ⟨h6, h6'⟩ | ⟨h6, h6'⟩
    · clear h6
      go_wp2_with fail
      refine (l1Below_any p a n c 3 (by omega) (by omega) _ HS.out.cur).mono ?_
      rintro e w4 ⟨x4, hx4, rfl, hC4, hO4⟩
      have hS4 := HS.out.only hpw hbw hC4 hO4
      clear b0 b1 b2 z0 z1 z2 bl r0 r1 r2 y0 y1 y2 rl
      obtain ⟨b0, b1, b2, z0, z1, z2, bl⟩ := hS4.box.facts
      obtain ⟨r0, r1, r2, y0, y1, y2, rl⟩ := hS4.res.facts
      have HS4 : Hid (OpSt w p a n c b w4 kind 0 0) := hS4
      clear hS4 hC4 hO4
      go_wp2_with fail
      refine (l4Val_any kind _).mono ?_
      rintro e w8 ⟨⟨bv, rfl⟩, rfl⟩
      cases bv
      · go_wp2
        have E := (HS4.out.put1 hpw hbw (x4 : Int)).fin hpw kind (x4 : Int) 0
        obtain ⟨q0, q1, q2, _⟩ := E.1.facts
        (try simp only [Exit.inBlock, Exit.then])
        refine bodyPost_ret (by simp [results, Try.results29, go_sem, q0, q1, q2]; try rfl) rfl ?_
        exact ⟨_, _, _, rfl, E.2.1, E.2.2⟩
      · go_wp2_with fail
        refine (l1Below_any p a n c 4 (by omega) (by omega) _ (HS4.out.put1 hpw hbw (x4 : Int)).cur).mono ?_
        rintro e w9 ⟨y, hy, rfl, hC9, hO9⟩
        have hS9 := (HS4.out.put1 hpw hbw (x4 : Int)).only hpw hbw hC9 hO9
        clear b0 b1 b2 z0 z1 z2 bl r0 r1 r2 y0 y1 y2 rl
        obtain ⟨b0, b1, b2, z0, z1, z2, bl⟩ := hS9.box.facts
        obtain ⟨r0, r1, r2, y0, y1, y2, rl⟩ := hS9.res.facts
        have HS9 : Hid (OpSt w p a n c b w9 kind (x4 : Int) 0) := hS9
        clear hS9 hC9 hO9
        go_wp2
        have E := (HS9.out.put2 hpw hbw (1 + (y : Int))).fin hpw kind (x4 : Int) (1 + (y : Int))
        obtain ⟨q0, q1, q2, _⟩ := E.1.facts
        (try simp only [Exit.inBlock, Exit.then])
        refine bodyPost_ret (by simp [results, Try.results29, go_sem, q0, q1, q2]; try rfl) rfl ?_
        exact ⟨_, _, _, rfl, E.2.1, E.2.2⟩
    · clear h6
      go_wp2_with fail
      refine (l4Val_any kind _).mono ?_
      rintro e w8 ⟨⟨bv, rfl⟩, rfl⟩
      cases bv
      · go_wp2
        have E := HS.out.fin hpw kind 0 0
        obtain ⟨q0, q1, q2, _⟩ := E.1.facts
        (try simp only [Exit.inBlock, Exit.then])
        refine bodyPost_ret (by simp [results, Try.results29, go_sem, q0, q1, q2]; try rfl) rfl ?_
        exact ⟨_, _, _, rfl, E.2.1, E.2.2⟩
      · go_wp2_with fail
        refine (l1Below_any p a n c 4 (by omega) (by omega) _ HS.out.cur).mono ?_
        rintro e w9 ⟨y, hy, rfl, hC9, hO9⟩
        have hS9 := HS.out.only hpw hbw hC9 hO9
        clear b0 b1 b2 z0 z1 z2 bl r0 r1 r2 y0 y1 y2 rl
        obtain ⟨b0, b1, b2, z0, z1, z2, bl⟩ := hS9.box.facts
        obtain ⟨r0, r1, r2, y0, y1, y2, rl⟩ := hS9.res.facts
        have HS9 : Hid (OpSt w p a n c b w9 kind 0 0) := hS9
        clear hS9 hC9 hO9
        go_wp2
        have E := (HS9.out.put2 hpw hbw (1 + (y : Int))).fin hpw kind 0 (1 + (y : Int))
        obtain ⟨q0, q1, q2, _⟩ := E.1.facts
        (try simp only [Exit.inBlock, Exit.then])
        refine bodyPost_ret (by simp [results, Try.results29, go_sem, q0, q1, q2]; try rfl) rfl ?_
        exact ⟨_, _, _, rfl, E.2.1, E.2.2⟩
end Go.Proofs.Ytlnhmmpmnflagad
