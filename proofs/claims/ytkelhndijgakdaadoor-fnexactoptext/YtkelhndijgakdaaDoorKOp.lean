/- Lists of the type Op (3 numbers each): the law's own functions on them. -/
import Derived.Test.YtkelhndijgakdaaDoorKRow
import Derived.Deep.RegionHeld3
namespace Go.Proofs.YtkelhndijgakdaaDoor
open Go.ChangeShapes Go.WideShapes Go.ChangeAt Go.RowKit

theorem kInfoOp : (Tryd.prog.info? 25).map (fun i => (i.zero, i.size, i.bytes)) = some (some (.agg #[.int .i64 0, .int .i64 0, .int .i64 0]), 3, 24) := by kernel_rfl
set_option maxHeartbeats 1000000 in
theorem kToOp (x0 x1 x2 : Int) (w : World) : Calls Tryd.prog 7 #[.agg #[.int .i64 x0, .int .i64 x1, .int .i64 x2]] w fun e w' => e = .returned (.agg #[.int .i64 x0, .int .i64 x1, .int .i64 x2]) ∧ Below w.heap.size w w' := by
  go_enter Tryd.func7, Tryd.ntmps7
  go_wp2
  (try simp only [Exit.inBlock, Exit.then])
  refine bodyPost_ret (by simp [results, Tryd.results7, go_sem]; try rfl) rfl ?_
  exact ⟨rfl, (((Below.refl _ _).alloc (Nat.le_refl _) _).alloc (by simp) _).alloc (by simp; omega) _⟩

set_option maxHeartbeats 1000000 in
theorem kToOpS (a : Option Addr) (n c : Nat) (fs : List Int) (w : World) (h : KAt 3 w a n fs) :
    Calls Tryd.prog 11 #[.slice a n c] w fun e w' => e = .returned (.slice (some ⟨w.heap.size, 0, none⟩) n n) ∧ w'.ownsRow w.heap.size 25 3 (.slice (some ⟨w.heap.size, 0, none⟩) n n) n (fs.map I) ∧ Below w.heap.size w w' := by
  have HH : Hid (KAt 3 w a n fs) := h
  have L1 : Hid (fs.length = n * 3) := h.1
  have hn : n ≤ 2097152 := h.2.1
  clear h
  obtain ⟨i0, hi, hz0, hz1, hz2⟩ := info_parts kInfoOp
  go_enter Tryd.func11, Tryd.ntmps11
  go_wp2_with (at_make; refine wpList_make_full _ rfl _ _ 31 rfl w.heap.size 25 i0 (.agg #[.int .i64 0, .int .i64 0, .int .i64 0]) 3 Tryd.underlying31 hi hz0 hz1 .i64 .i64 _ _ n rfl rfl rfl rfl (by rw [hz2]; omega) (by unfold maxLen; omega) (Nat.le_refl _) ?_; intro w1 own1 grow1)
  have own0 : w1.ownsRow w.heap.size 25 3 (.slice (some ⟨w.heap.size, 0, none⟩) n n) n ((uptoT fs 0 (n * 3)).map I) := by
    rw [made_3] at own1
    simpa [uptoT] using own1
  have hb1 : Below w.heap.size w w1 := (Below.refl _ _).grown grow1 (Nat.le_refl _) (fun k e => by cases e)
  clear own1 grow1
  go_loopw [4] (fun i wr => ∃ k : Nat, k ≤ n ∧ i = .int .i64 (k : Int) ∧ wr.ownsRow w.heap.size 25 3 (.slice (some ⟨w.heap.size, 0, none⟩) n n) n ((uptoT fs (k * 3) (n * 3)).map I) ∧ Below w.heap.size w wr) (fun i _ => n - (intOf i).toNat)
  case atStart => exact ⟨0, Nat.zero_le _, by simp, by simpa using own0, hb1⟩
  case round =>
    obtain ⟨k, hk, rfl, ho, hb⟩ := hrel
    clear own0 hb1
    by_cases hlt : k < n
    · rcases (HH.out.below hb (Nat.le_refl _)).2.2 with h0 | ⟨p1, o1, rfl, g1⟩
      · omega
      have hk0 : (0 : Int) ≤ (k : Int) := by omega
      have hk1 : (k : Int) < (n : Int) := by omega
      have e0 := g1 (k * 3) (by omega)
      have e1 := g1 (k * 3 + 1) (by omega)
      have e2 := g1 (k * 3 + 2) (by omega)
      obtain ⟨x0, hx0⟩ : ∃ x, fs.getD (k * 3) 0 = x := ⟨_, rfl⟩
      obtain ⟨x1, hx1⟩ : ∃ x, fs.getD (k * 3 + 1) 0 = x := ⟨_, rfl⟩
      obtain ⟨x2, hx2⟩ : ∃ x, fs.getD (k * 3 + 2) 0 = x := ⟨_, rfl⟩
      rw [hx0] at e0
      rw [hx1, ← Nat.add_assoc] at e1
      rw [hx2, ← Nat.add_assoc] at e2
      have HO : Hid (wr.ownsRow w.heap.size 25 3 (.slice (some ⟨w.heap.size, 0, none⟩) n n) n ((uptoT fs (k * 3) (n * 3)).map I)) := ho
      have HX0 : Hid (fs.getD (k * 3) 0 = x0) := hx0
      have HX1 : Hid (fs.getD (k * 3 + 1) 0 = x1) := hx1
      have HX2 : Hid (fs.getD (k * 3 + 2) 0 = x2) := hx2
      clear g1 hx0 hx1 hx2 ho
      go_wp2_with fail
      refine (kToOp x0 x1 x2 _).mono ?_
      rintro e w2 ⟨rfl, hb2⟩
      have ho2 := owns_below HO.out hb2 (Nat.le_refl _)
      have hb02 : Below w.heap.size w w2 := hb.trans (hb2.mono hb.size)
      have hs0 := ho2.stored (k * 3) (I x0)
      rw [← HX0.out, uptoT_step L1.out (show k * 3 < n * 3 by omega), HX0.out] at hs0
      have hs1 := hs0.1.stored (k * 3 + 1) (I x1)
      rw [← HX1.out, uptoT_step L1.out (show k * 3 + 1 < n * 3 by omega), HX1.out] at hs1
      have hs2 := hs1.1.stored (k * 3 + 2) (I x2)
      rw [← HX2.out, uptoT_step L1.out (show k * 3 + 1 + 1 < n * 3 by omega), HX2.out] at hs2
      have HS : Hid ((((w2.setCell ⟨w.heap.size, k * 3, none⟩ (I x0)).setCell ⟨w.heap.size, k * 3 + 1, none⟩ (I x1)).setCell ⟨w.heap.size, k * 3 + 2, none⟩ (I x2)).ownsRow w.heap.size 25 3 (.slice (some ⟨w.heap.size, 0, none⟩) n n) n ((uptoT fs ((k + 1) * 3) (n * 3)).map I)) := by
        rw [show (k + 1) * 3 = k * 3 + 1 + 1 + 1 by omega]
        exact hs2.1
      have z0 := ho2.frozenAt (k * 3)
      have hc0 := ho2.cellAt (k * 3) (by omega)
      have z1 := ho2.frozenAt (k * 3 + 1)
      have hc1 := ho2.cellAt (k * 3 + 1) (by omega)
      have z2 := ho2.frozenAt (k * 3 + 2)
      have hc2 := ho2.cellAt (k * 3 + 2) (by omega)
      rw [List.getElem?_eq_getElem (by rw [ho2.1]; omega)] at hc0 hc1 hc2
      obtain ⟨u0, hu0⟩ : ∃ u, w2.cell? ⟨w.heap.size, k * 3, none⟩ = some u := ⟨_, hc0⟩
      obtain ⟨u1, hu1⟩ : ∃ u, w2.cell? ⟨w.heap.size, k * 3 + 1, none⟩ = some u := ⟨_, hc1⟩
      obtain ⟨u2, hu2⟩ : ∃ u, w2.cell? ⟨w.heap.size, k * 3 + 2, none⟩ = some u := ⟨_, hc2⟩
      clear hs0 hc0 e0 hs1 hc1 e1 hs2 hc2 e2 ho2 hb2
      go_wp2
      go_roundw
      case rel => exact ⟨k + 1, by omega, by go_num, HS.out, (((hb02.setCell (Nat.le_refl _) _).setCell (Nat.le_refl _) _).setCell (Nat.le_refl _) _)⟩
      case measure => simp [intOf]; omega
    · obtain rfl : k = n := by omega
      rw [uptoT_end L1.out] at ho
      go_wp2
      go_ret
      exact ⟨rfl, ho, hb⟩

set_option maxHeartbeats 1000000 in
theorem kEqOp (x0 x1 x2 : Int) (w : World) : Calls Tryd.prog 28 #[.agg #[.int .i64 x0, .int .i64 x1, .int .i64 x2], .agg #[.int .i64 x0, .int .i64 x1, .int .i64 x2]] w fun e w' => e = .returned (.bool true) ∧ Below w.heap.size w w' := by
  have ne : ∀ a : Int, (a != a) = false := fun a => by simp
  have g0 := ne x0
  have g1 := ne x1
  have g2 := ne x2
  clear ne
  go_enter Tryd.func28, Tryd.ntmps28
  go_wp2
  iterate 3
    all_goals (try go_region)
    all_goals (try go_wp2)
  all_goals
    go_ret
    refine ⟨rfl, (by
      have h0 := ((Below.refl w.heap.size w).alloc (Nat.le_refl _) (.cells #[.int .i64 x0, .int .i64 x1, .int .i64 x2] 25)).alloc (by simp) (.cells #[.int .i64 x0, .int .i64 x1, .int .i64 x2] 25)
      first | exact h0 | exact h0.drew | exact h0.drew.drew | exact h0.drew.drew.drew | exact h0.drew.drew.drew.drew)⟩

set_option maxHeartbeats 1000000 in
theorem kEqOpS (a1 a2 : Option Addr) (n c1 c2 : Nat) (fs : List Int) (w : World) (h1 : KAt 3 w a1 n fs) (h2 : KAt 3 w a2 n fs) :
    Calls Tryd.prog 13 #[.slice a1 n c1, .slice a2 n c2] w fun e w' => e = .returned (.bool true) ∧ Below w.heap.size w w' := by
  have H1 : Hid (KAt 3 w a1 n fs) := h1
  have H2 : Hid (KAt 3 w a2 n fs) := h2
  have b1 := h1.2.1
  clear h1 h2
  go_enter Tryd.func13, Tryd.ntmps13
  go_wp2
  go_loopw [5] (fun i wr => ∃ k : Nat, k ≤ n ∧ i = .int .i64 k ∧ Below w.heap.size w wr) (fun i _ => n - (intOf i).toNat)
  case atStart => exact ⟨0, Nat.zero_le _, rfl, Below.refl _ _⟩
  case round =>
    obtain ⟨k, hk1, rfl, hb⟩ := hrel
    by_cases hlt1 : k < n
    · have hk0 : (0 : Int) ≤ (k : Int) := by omega
      have hk1' : (k : Int) < (n : Int) := by omega
      rcases (H1.out.below hb (Nat.le_refl _)).2.2 with h | ⟨p1, o1, rfl, g1⟩
      · omega
      rcases (H2.out.below hb (Nat.le_refl _)).2.2 with h | ⟨p2, o2, rfl, g2⟩
      · omega
      obtain ⟨x0, hx0⟩ : ∃ x, fs.getD (k * 3) 0 = x := ⟨_, rfl⟩
      have e0 := g1 (k * 3) (by omega)
      have f0 := g2 (k * 3) (by omega)
      rw [hx0] at e0
      rw [hx0] at f0
      obtain ⟨x1, hx1⟩ : ∃ x, fs.getD (k * 3 + 1) 0 = x := ⟨_, rfl⟩
      have e1 := g1 (k * 3 + 1) (by omega)
      have f1 := g2 (k * 3 + 1) (by omega)
      rw [hx1, ← Nat.add_assoc] at e1
      rw [hx1, ← Nat.add_assoc] at f1
      obtain ⟨x2, hx2⟩ : ∃ x, fs.getD (k * 3 + 2) 0 = x := ⟨_, rfl⟩
      have e2 := g1 (k * 3 + 2) (by omega)
      have f2 := g2 (k * 3 + 2) (by omega)
      rw [hx2, ← Nat.add_assoc] at e2
      rw [hx2, ← Nat.add_assoc] at f2
      clear g1 g2 hx0 hx1 hx2
      have q1 : p1 < wr.heap.size := World.block_lt_of_cell? wr _ e0
      have q2 : p2 < wr.heap.size := World.block_lt_of_cell? wr _ f0
      go_wp2_with fail
      go_region_held3 (fun w' => w'.cell? ⟨p1, o1 + k * 3, none⟩ = some (I x0) ∧ w'.cell? ⟨p1, o1 + k * 3 + 1, none⟩ = some (I x1) ∧ w'.cell? ⟨p1, o1 + k * 3 + 2, none⟩ = some (I x2) ∧ w'.cell? ⟨p2, o2 + k * 3, none⟩ = some (I x0) ∧ w'.cell? ⟨p2, o2 + k * 3 + 1, none⟩ = some (I x1) ∧ w'.cell? ⟨p2, o2 + k * 3 + 2, none⟩ = some (I x2))
        (first | (with_reducible exact K2.out) | go_keep)
        (first
        | (go_at_call 28
           refine (kEqOp x0 x1 x2 _).mono ?_
           rintro e w2 ⟨rfl, hb2⟩
           have hb2' : Below wr.heap.size wr w2 := (Below.refl _ wr).drew.trans hb2
           have K2 : Hid (w2.cell? ⟨p1, o1 + k * 3, none⟩ = some (I x0) ∧ w2.cell? ⟨p1, o1 + k * 3 + 1, none⟩ = some (I x1) ∧ w2.cell? ⟨p1, o1 + k * 3 + 2, none⟩ = some (I x2) ∧ w2.cell? ⟨p2, o2 + k * 3, none⟩ = some (I x0) ∧ w2.cell? ⟨p2, o2 + k * 3 + 1, none⟩ = some (I x1) ∧ w2.cell? ⟨p2, o2 + k * 3 + 2, none⟩ = some (I x2)) := ⟨(hb2'.cell (show p1 < _ from q1)).trans e0, (hb2'.cell (show p1 < _ from q1)).trans e1, (hb2'.cell (show p1 < _ from q1)).trans e2, (hb2'.cell (show p2 < _ from q2)).trans f0, (hb2'.cell (show p2 < _ from q2)).trans f1, (hb2'.cell (show p2 < _ from q2)).trans f2⟩
           have hb02 : Below w.heap.size w w2 := hb.trans (hb2'.mono hb.size)
           clear hb2 hb2'))
      clear e0 f0 e1 f1 e2 f2 K2
      go_wp2
      exact ⟨⟨k + 1, by omega, by go_num, hb02⟩, by simp [intOf]; omega⟩
    · obtain rfl : k = n := by omega
      go_wp2
      go_ret
      exact ⟨rfl, hb⟩
theorem kSzOpS (a : Option Addr) (n c : Nat) (left : Int) (w : World) (h0 : 0 ≤ left) (h1 : left ≤ 1048576) (hn : (n : Int) ≤ left) :
    Calls Tryd.prog 9 #[.slice a n c, .int .i64 left] w fun e w' => e = .returned (.int .i64 (left - (n : Int))) ∧ w' = w := by
  have h2 : ¬ (left - (n : Int) < 0) := by omega
  go_enter Tryd.func9, Tryd.ntmps9
  go_wp2
  go_ret
  exact ⟨rfl, rfl⟩
theorem kSzOpS_big (a : Option Addr) (n c : Nat) (left : Int) (w : World) (h0 : 0 ≤ left) (h1 : left ≤ 1048576) (hn : ¬ (n : Int) ≤ left) (hm : n ≤ 9223372036854775807) :
    Calls Tryd.prog 9 #[.slice a n c, .int .i64 left] w fun e w' => e = .returned (.int .i64 (-1)) ∧ w' = w := by
  have h2 : left - (n : Int) < 0 := by omega
  go_enter Tryd.func9, Tryd.ntmps9
  go_wp2
  go_ret
  exact ⟨rfl, rfl⟩

end Go.Proofs.YtkelhndijgakdaaDoor
