/- Lists of pairs: the law's own functions on them. -/
import Derived.Test.YtekafaoleniebapPairRd
import Derived.Deep.RegionHeld3
namespace Go.Proofs.Ytekafaoleniebap
open Go.ChangeShapes Go.WideShapes Go.ChangeAt Go.RowKit

/-- What has been laid of fs, nought behind it. -/
def uptoP (fs : List Int) (k n : Nat) : List Int := fs.take k ++ List.replicate (n - k) 0
theorem uptoP_step {fs : List Int} {k n : Nat} (hx : fs.length = n) (h : k < n) : (((uptoP fs k n).map I).set k (I (fs.getD k 0))) = (uptoP fs (k + 1) n).map I := by
  rw [← List.map_set]
  congr 1
  unfold uptoP
  have hl : (fs.take k).length = k := by rw [List.length_take]; omega
  rw [List.set_append_right _ _ (by omega), hl, Nat.sub_self, show n - k = (n - (k + 1)) + 1 by omega, List.replicate_succ, List.set_cons_zero,
    List.take_succ_eq_append_getElem (show k < fs.length by omega), List.append_assoc]
  simp [List.getD, show k < fs.length by omega]
theorem uptoP_end {fs : List Int} {n : Nat} (hx : fs.length = n) : uptoP fs n n = fs := by
  unfold uptoP
  rw [List.take_of_length_le (by omega)]; simp
theorem made_pairs (n : Nat) : (madeCells (Value.agg #[.int .i64 0, .int .i64 0]).cells n).toList = List.replicate n (Value.int .i64 0) := by
  apply List.ext_getElem?
  intro j
  by_cases hj : j < n
  · have h2 : j % 2 = 0 ∨ j % 2 = 1 := by omega
    rcases h2 with h2 | h2 <;> simp [madeCells, hj, Value.cells, h2]
  · simp [madeCells, hj]
theorem infoPair : (Try.prog.info? 31).map (fun i => (i.zero, i.size, i.bytes)) = some (some (.agg #[.int .i64 0, .int .i64 0]), 2, 16) := by kernel_rfl

set_option maxHeartbeats 1000000 in
theorem toPair_any (x y : Int) (w : World) : Calls Try.prog 9 #[.agg #[.int .i64 x, .int .i64 y]] w fun e w' => e = .returned (.agg #[.int .i64 x, .int .i64 y]) ∧ Below w.heap.size w w' := by
  go_enter Try.func9, Try.ntmps9
  go_wp2
  (try simp only [Exit.inBlock, Exit.then])
  refine bodyPost_ret (by simp [results, Try.results9, go_sem]; try rfl) rfl ?_
  exact ⟨rfl, (((Below.refl _ _).alloc (Nat.le_refl _) _).alloc (by simp) _).alloc (by simp; omega) _⟩

set_option maxHeartbeats 1000000 in
theorem toPairS_any (a : Option Addr) (n c : Nat) (fs : List Int) (w : World) (h : PairAt w a n fs) (hn : n ≤ 1048576) :
    Calls Try.prog 6 #[.slice a n c] w fun e w' => e = .returned (.slice (some ⟨w.heap.size, 0, none⟩) n n) ∧ w'.ownsRow w.heap.size 31 2 (.slice (some ⟨w.heap.size, 0, none⟩) n n) n (fs.map I) ∧ Below w.heap.size w w' := by
  have HH : Hid (PairAt w a n fs) := h
  have L1 : Hid (fs.length = n * 2) := h.1
  clear h
  obtain ⟨i0, hi, hz0, hz1, hz2⟩ := info_parts infoPair
  go_enter Try.func6, Try.ntmps6
  go_wp2_with (at_make; refine wpList_make_full _ rfl _ _ 26 rfl w.heap.size 31 i0 (.agg #[.int .i64 0, .int .i64 0]) 2 Try.underlying26 hi hz0 hz1 .i64 .i64 _ _ n rfl rfl rfl rfl (by rw [hz2]; omega) (by unfold maxLen; omega) (Nat.le_refl _) ?_; intro w1 own1 grow1)
  have own0 : w1.ownsRow w.heap.size 31 2 (.slice (some ⟨w.heap.size, 0, none⟩) n n) n ((uptoP fs 0 (n * 2)).map I) := by
    rw [made_pairs] at own1
    simpa [uptoP] using own1
  have hb1 : Below w.heap.size w w1 := (Below.refl _ _).grown grow1 (Nat.le_refl _) (fun k e => by cases e)
  clear own1 grow1
  go_loopw [4] (fun i wr => ∃ k : Nat, k ≤ n ∧ i = .int .i64 (k : Int) ∧ wr.ownsRow w.heap.size 31 2 (.slice (some ⟨w.heap.size, 0, none⟩) n n) n ((uptoP fs (k * 2) (n * 2)).map I) ∧ Below w.heap.size w wr) (fun i _ => n - (intOf i).toNat)
  case atStart => exact ⟨0, Nat.zero_le _, rfl, own0, hb1⟩
  case round =>
    obtain ⟨k, hk, rfl, ho, hb⟩ := hrel
    clear own0 hb1
    by_cases hlt : k < n
    · rcases (HH.out.below hb (Nat.le_refl _)).2.2 with h0 | ⟨p1, o1, rfl, g1⟩
      · omega
      have hk0 : (0 : Int) ≤ (k : Int) := by omega
      have hk1 : (k : Int) < (n : Int) := by omega
      have e1 := g1 (k * 2) (by omega)
      have e2 := g1 (k * 2 + 1) (by omega)
      obtain ⟨x, hx⟩ : ∃ x, fs.getD (k * 2) 0 = x := ⟨_, rfl⟩
      obtain ⟨y, hy⟩ : ∃ y, fs.getD (k * 2 + 1) 0 = y := ⟨_, rfl⟩
      rw [hx] at e1
      rw [hy, ← Nat.add_assoc] at e2
      have hf0 := ho.frozenAt (k * 2)
      have hs1 := ho.stored (k * 2) (I x)
      rw [← hx, uptoP_step L1.out (show k * 2 < n * 2 by omega), hx] at hs1
      have hs2 := hs1.1.stored (k * 2 + 1) (I y)
      rw [← hy, uptoP_step L1.out (show k * 2 + 1 < n * 2 by omega), hy] at hs2
      have HO : Hid (wr.ownsRow w.heap.size 31 2 (.slice (some ⟨w.heap.size, 0, none⟩) n n) n ((uptoP fs (k * 2) (n * 2)).map I)) := ho
      have HX : Hid (fs.getD (k * 2) 0 = x ∧ fs.getD (k * 2 + 1) 0 = y) := ⟨hx, hy⟩
      clear g1 hx hy hs1 hs2 ho hf0
      go_wp2_with fail
      refine (toPair_any x y _).mono ?_
      rintro e w2 ⟨rfl, hb2⟩
      have ho2 := owns_below HO.out hb2 (Nat.le_refl _)
      have hb02 : Below w.heap.size w w2 := hb.trans (hb2.mono hb.size)
      have hs1 := ho2.stored (k * 2) (I x)
      rw [← HX.out.1, uptoP_step L1.out (show k * 2 < n * 2 by omega), HX.out.1] at hs1
      have hs2 := hs1.1.stored (k * 2 + 1) (I y)
      rw [← HX.out.2, uptoP_step L1.out (show k * 2 + 1 < n * 2 by omega), HX.out.2] at hs2
      have HS : Hid (((w2.setCell ⟨w.heap.size, k * 2, none⟩ (I x)).setCell ⟨w.heap.size, k * 2 + 1, none⟩ (I y)).ownsRow w.heap.size 31 2 (.slice (some ⟨w.heap.size, 0, none⟩) n n) n ((uptoP fs ((k + 1) * 2) (n * 2)).map I)) := by
        rw [show (k + 1) * 2 = k * 2 + 1 + 1 by omega]
        exact hs2.1
      have z0 := ho2.frozenAt (k * 2)
      have z1 := ho2.frozenAt (k * 2 + 1)
      have hc0 := ho2.cellAt (k * 2) (by omega)
      have hc1 := ho2.cellAt (k * 2 + 1) (by omega)
      rw [List.getElem?_eq_getElem (by rw [ho2.1]; omega)] at hc0 hc1
      obtain ⟨u0, hu0⟩ : ∃ u, w2.cell? ⟨w.heap.size, k * 2, none⟩ = some u := ⟨_, hc0⟩
      obtain ⟨u1, hu1⟩ : ∃ u, w2.cell? ⟨w.heap.size, k * 2 + 1, none⟩ = some u := ⟨_, hc1⟩
      clear hs1 hs2 ho2 hb2 hc0 hc1 e1 e2
      go_wp2
      go_roundw
      case rel => exact ⟨k + 1, by omega, by go_num, HS.out, (hb02.setCell (Nat.le_refl _) _).setCell (Nat.le_refl _) _⟩
      case measure => simp [intOf]; omega
    · obtain rfl : k = n := by omega
      rw [uptoP_end L1.out] at ho
      go_wp2
      go_ret
      exact ⟨rfl, ho, hb⟩

set_option maxHeartbeats 1000000 in
theorem eqPair_any (x y x' y' : Int) (w : World) : Calls Try.prog 11 #[.agg #[.int .i64 x, .int .i64 y], .agg #[.int .i64 x', .int .i64 y']] w fun e w' => e = .returned (.bool (decide (x = x' ∧ y = y'))) ∧ Below w.heap.size w w' := by
  obtain ⟨B, hB⟩ : ∃ B, decide (x = x' ∧ y = y') = B := ⟨_, rfl⟩
  rw [hB]
  have HB : Hid (decide (x = x' ∧ y = y') = B) := hB
  clear hB
  have neb2 : ∀ a b : Int, (a = b ∧ (a != b) = false) ∨ (¬ a = b ∧ (a != b) = true) := fun a b => by
    by_cases h : a = b
    · exact .inl ⟨h, by simp [h]⟩
    · exact .inr ⟨h, by simp [h]⟩
  rcases neb2 x x' with ⟨h1, g1⟩ | ⟨h1, g1⟩ <;> rcases neb2 y y' with ⟨h2, g2⟩ | ⟨h2, g2⟩
  all_goals
    have H1 : Hid _ := h1
    have H2 : Hid _ := h2
    clear h1 h2 neb2
    go_enter Try.func11, Try.ntmps11
    go_wp2
    all_goals (try go_region)
    all_goals (try go_wp2)
    all_goals (try go_region)
    all_goals (try go_wp2)
    all_goals
      go_ret
      refine ⟨?_, (by first | exact ((Below.refl _ _).alloc (Nat.le_refl _) _).alloc (by simp) _ | exact (((Below.refl _ _).alloc (Nat.le_refl _) _).alloc (by simp) _).drew | exact (((Below.refl _ _).alloc (Nat.le_refl _) _).alloc (by simp) _).drew.drew)⟩
      rw [← HB.out]
      have h1 := H1.out
      have h2 := H2.out
      first
        | (rw [decide_eq_true (show x = x' ∧ y = y' from ⟨h1, h2⟩)]; rfl)
        | (rw [decide_eq_false (fun h : x = x' ∧ y = y' => h2 h.2)]; rfl)
        | (rw [decide_eq_false (fun h : x = x' ∧ y = y' => h1 h.1)]; rfl)
theorem szPairS_at (a : Option Addr) (n c : Nat) (w : World) (hn : n ≤ 1048576) :
    Calls Try.prog 4 #[.slice a n c, .int .i64 1048576] w fun e w' => e = .returned (.int .i64 (1048576 - (n : Int))) ∧ w' = w := by
  have h0 : ¬ (1048576 - (n : Int) < 0) := by omega
  go_enter Try.func4, Try.ntmps4
  go_wp2
  go_ret
  exact ⟨rfl, rfl⟩
theorem szPairS_big (a : Option Addr) (n c : Nat) (w : World) (hn : ¬ n ≤ 1048576) (hm : n ≤ 9223372036854775807) :
    Calls Try.prog 4 #[.slice a n c, .int .i64 1048576] w fun e w' => e = .returned (.int .i64 (-1)) ∧ w' = w := by
  have h0 : 1048576 - (n : Int) < 0 := by omega
  go_enter Try.func4, Try.ntmps4
  go_wp2
  go_ret
  exact ⟨rfl, rfl⟩

theorem take_two {fs gs : List Int} {k : Nat} (hf : k * 2 + 1 < fs.length) (hg : k * 2 + 1 < gs.length) (h : fs.take (k * 2) = gs.take (k * 2)) (e1 : fs.getD (k * 2) 0 = gs.getD (k * 2) 0) (e2 : fs.getD (k * 2 + 1) 0 = gs.getD (k * 2 + 1) 0) : fs.take ((k + 1) * 2) = gs.take ((k + 1) * 2) := by
  rw [show (k + 1) * 2 = k * 2 + 1 + 1 by omega]
  exact take_nextI hf hg (take_nextI (by omega) (by omega) h e1) e2
set_option maxHeartbeats 1000000 in
theorem eqPairS_any (a1 a2 : Option Addr) (n1 n2 c1 c2 : Nat) (fs gs : List Int) (w : World) (h1 : PairAt w a1 n1 fs) (h2 : PairAt w a2 n2 gs) :
    Calls Try.prog 8 #[.slice a1 n1 c1, .slice a2 n2 c2] w fun e w' => e = .returned (.bool (decide (fs = gs))) ∧ Below w.heap.size w w' := by
  have H1 : Hid (PairAt w a1 n1 fs) := h1
  have H2 : Hid (PairAt w a2 n2 gs) := h2
  have L1 : Hid (fs.length = n1 * 2) := h1.1
  have L2 : Hid (gs.length = n2 * 2) := h2.1
  have b1 := h1.2.1
  have b2 := h2.2.1
  obtain ⟨B, hB⟩ : ∃ B, decide (fs = gs) = B := ⟨_, rfl⟩
  rw [hB]
  have HB : Hid (decide (fs = gs) = B) := hB
  clear h1 h2 hB
  by_cases hn : n1 = n2
  · subst hn
    go_enter Try.func8, Try.ntmps8
    go_wp2
    go_loopw [5] (fun i wr => ∃ k : Nat, k ≤ n1 ∧ i = .int .i64 k ∧ fs.take (k * 2) = gs.take (k * 2) ∧ Below w.heap.size w wr) (fun i _ => n1 - (intOf i).toNat)
    case atStart => exact ⟨0, Nat.zero_le _, rfl, rfl, Below.refl _ _⟩
    case round =>
      obtain ⟨k, hk1, rfl, ht, hb⟩ := hrel
      have HT : Hid (fs.take (k * 2) = gs.take (k * 2)) := ht
      clear ht
      by_cases hlt1 : k < n1
      · have hk0 : (0 : Int) ≤ (k : Int) := by omega
        have hk1' : (k : Int) < (n1 : Int) := by omega
        rcases (H1.out.below hb (Nat.le_refl _)).2.2 with h | ⟨p1, o1, rfl, g1⟩
        · omega
        rcases (H2.out.below hb (Nat.le_refl _)).2.2 with h | ⟨p2, o2, rfl, g2⟩
        · omega
        obtain ⟨x, hx⟩ : ∃ x, fs.getD (k * 2) 0 = x := ⟨_, rfl⟩
        obtain ⟨y, hy⟩ : ∃ y, fs.getD (k * 2 + 1) 0 = y := ⟨_, rfl⟩
        obtain ⟨x', hx'⟩ : ∃ x, gs.getD (k * 2) 0 = x := ⟨_, rfl⟩
        obtain ⟨y', hy'⟩ : ∃ y, gs.getD (k * 2 + 1) 0 = y := ⟨_, rfl⟩
        have e1 := g1 (k * 2) (by omega)
        have e2 := g1 (k * 2 + 1) (by omega)
        have e3 := g2 (k * 2) (by omega)
        have e4 := g2 (k * 2 + 1) (by omega)
        rw [hx] at e1
        rw [hy, ← Nat.add_assoc] at e2
        rw [hx'] at e3
        rw [hy', ← Nat.add_assoc] at e4
        have HX : Hid (fs.getD (k * 2) 0 = x ∧ fs.getD (k * 2 + 1) 0 = y ∧ gs.getD (k * 2) 0 = x' ∧ gs.getD (k * 2 + 1) 0 = y') := ⟨hx, hy, hx', hy'⟩
        clear g1 g2 hx hy hx' hy'
        have q1 : p1 < wr.heap.size := World.block_lt_of_cell? wr _ e1
        have q2 : p2 < wr.heap.size := World.block_lt_of_cell? wr _ e3
        obtain ⟨D, hD⟩ : ∃ D, decide (x = x' ∧ y = y') = D := ⟨_, rfl⟩
        have HD : Hid (decide (x = x' ∧ y = y') = D) := hD
        clear hD
        go_wp2_with fail
        go_region_held3 (fun w' => w'.cell? ⟨p1, o1 + k * 2, none⟩ = some (I x) ∧ w'.cell? ⟨p1, o1 + k * 2 + 1, none⟩ = some (I y) ∧ w'.cell? ⟨p2, o2 + k * 2, none⟩ = some (I x') ∧ w'.cell? ⟨p2, o2 + k * 2 + 1, none⟩ = some (I y'))
          (first | (with_reducible exact K2.out) | go_keep)
          (first
          | (go_at_call 11
             refine (eqPair_any x y x' y' _).mono ?_
             rintro e w2 ⟨rfl, hb2⟩
             rw [HD.out]
             have hb2' : Below wr.heap.size wr w2 := (Below.refl _ wr).drew.trans hb2
             have K2 : Hid (w2.cell? ⟨p1, o1 + k * 2, none⟩ = some (I x) ∧ w2.cell? ⟨p1, o1 + k * 2 + 1, none⟩ = some (I y) ∧ w2.cell? ⟨p2, o2 + k * 2, none⟩ = some (I x') ∧ w2.cell? ⟨p2, o2 + k * 2 + 1, none⟩ = some (I y')) := ⟨(hb2'.cell (show p1 < _ from q1)).trans e1, (hb2'.cell (show p1 < _ from q1)).trans e2, (hb2'.cell (show p2 < _ from q2)).trans e3, (hb2'.cell (show p2 < _ from q2)).trans e4⟩
             have hb02 : Below w.heap.size w w2 := hb.trans (hb2'.mono hb.size)
             clear hb2 hb2'))
        clear e1 e2 e3 e4 K2
        by_cases hh : x = x' ∧ y = y'
        · obtain rfl : D = true := by rw [← HD.out]; exact decide_eq_true hh
          have HH : Hid (x = x' ∧ y = y') := hh
          clear hh HD
          go_wp2
          have l1 := L1.out
          have l2 := L2.out
          exact ⟨⟨k + 1, by omega, by go_num, take_two (by omega) (by omega) HT.out (by rw [HX.out.1, HX.out.2.2.1]; exact HH.out.1) (by rw [HX.out.2.1, HX.out.2.2.2]; exact HH.out.2), hb02⟩, by simp [intOf]; omega⟩
        · obtain rfl : D = false := by rw [← HD.out]; exact decide_eq_false hh
          have HH : Hid (fs ≠ gs) := fun e => hh ⟨by rw [← HX.out.1, ← HX.out.2.2.1, e], by rw [← HX.out.2.1, ← HX.out.2.2.2, e]⟩
          clear hh
          go_wp2
          go_ret
          refine ⟨?_, hb02⟩
          rw [← HB.out]
          simp [HH.out]
      · obtain rfl : k = n1 := by omega
        go_wp2
        go_ret
        refine ⟨?_, hb⟩
        have l1 := L1.out
        have l2 := L2.out
        have e : fs = gs := by
          have e0 := HT.out
          rwa [List.take_of_length_le (by omega), List.take_of_length_le (by omega)] at e0
        rw [← HB.out]
        simp [e]
  · have hne : ((n1 : Int) != (n2 : Int)) = true := by simp; omega
    have hxy : fs ≠ gs := fun e => by have l1 := L1.out; have l2 := L2.out; rw [e] at l1; omega
    have HX : Hid (fs ≠ gs) := hxy
    clear hxy
    go_enter Try.func8, Try.ntmps8
    go_wp2
    go_ret
    refine ⟨?_, Below.refl _ _⟩
    rw [← HB.out]
    simp [HX.out]
end Go.Proofs.Ytekafaoleniebap
