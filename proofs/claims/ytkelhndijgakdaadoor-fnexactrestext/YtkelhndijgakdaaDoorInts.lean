/- The laws' own helpers toIntS and eqIntS, walked: a new list of the same numbers; whether two lists of numbers are alike. -/
import Derived.Test.YtkelhndijgakdaaDoorRows
import Derived.Test.YtkelhndijgakdaaDoorOwn
import Derived.Test.YtkelhndijgakdaaDoorIntAt
import Derived.WalkKit
import Derived.ProofKit
import Derived.WalkSmall
import Derived.OpenShut
namespace Go.Proofs.YtkelhndijgakdaaDoor
open Go.ChangeShapes Go.WideShapes Go.ChangeAt Go.RowKit

set_option maxHeartbeats 400000 in
theorem eqIntS_any (a1 a2 : Option Addr) (n1 n2 c1 c2 : Nat) (xs ys : List Int) (w : World) (h1 : IntAt w a1 n1 xs) (h2 : IntAt w a2 n2 ys) :
    Calls Tryd.prog 35 #[.slice a1 n1 c1, .slice a2 n2 c2] w fun e w' => e = .returned (.bool (decide (xs = ys))) ∧ ∃ m, w' = w.drewN m := by
  obtain ⟨l1, b1, h1⟩ := h1
  obtain ⟨l2, b2, h2⟩ := h2
  have H1 : Hid (n1 = 0 ∨ ∃ b o, a1 = some ⟨b, o, none⟩ ∧ ∀ i, i < n1 → w.cell? ⟨b, o + i, none⟩ = some (I (xs.getD i 0))) := h1
  have H2 : Hid (n2 = 0 ∨ ∃ b o, a2 = some ⟨b, o, none⟩ ∧ ∀ i, i < n2 → w.cell? ⟨b, o + i, none⟩ = some (I (ys.getD i 0))) := h2
  have L1 : Hid (xs.length = n1) := l1
  have L2 : Hid (ys.length = n2) := l2
  clear h1 h2 l1 l2
  by_cases hn : n1 = n2
  · subst hn
    go_enter Tryd.func35, Tryd.ntmps35
    go_wp2
    go_loopw [5] (fun i wr => ∃ k m : Nat, k ≤ n1 ∧ i = .int .i64 k ∧ xs.take k = ys.take k ∧ wr = w.drewN m) (fun i _ => n1 - (intOf i).toNat)
    case atStart => exact ⟨0, 0, Nat.zero_le _, rfl, rfl, rfl⟩
    case round =>
      obtain ⟨k, m, hk, rfl, ht, rfl⟩ := hrel
      have HT : Hid (xs.take k = ys.take k) := ht
      clear ht
      by_cases hlt : k < n1
      · rcases H1.out with h | ⟨p1, o1, rfl, g1⟩
        · omega
        rcases H2.out with h | ⟨p2, o2, rfl, g2⟩
        · omega
        obtain ⟨x, hx⟩ : ∃ x, xs.getD k 0 = x := ⟨_, rfl⟩
        obtain ⟨y, hy⟩ : ∃ y, ys.getD k 0 = y := ⟨_, rfl⟩
        have e1 := g1 k hlt
        have e2 := g2 k hlt
        rw [hx] at e1
        rw [hy] at e2
        have HX : Hid (xs.getD k 0 = x) := hx
        have HY : Hid (ys.getD k 0 = y) := hy
        clear g1 g2 hx hy
        go_wp2
        go_region
        go_wp2
        · have hd : (x != y) = true := by assumption
          go_ret
          refine ⟨?_, m + 1, rfl⟩
          have e : xs ≠ ys := fun e => by rw [← HX.out, ← HY.out, e] at hd; simp at hd
          simp [e]
        · have hd : (x != y) = false := by assumption
          have l1 := L1.out
          have l2 := L2.out
          exact ⟨⟨k + 1, m + 1, by omega, by go_num, take_nextI (by omega) (by omega) HT.out (by rw [HX.out, HY.out]; simpa using hd), rfl⟩, by simp [intOf]; omega⟩
      · go_wp2
        go_ret
        refine ⟨?_, m, rfl⟩
        have e : xs = ys := by
          have := HT.out
          rwa [List.take_of_length_le (by have := L1.out; omega), List.take_of_length_le (by have := L2.out; omega)] at this
        simp [e]
  · have hz : ((n1 : Int) != (n2 : Int)) = true := by simp; omega
    go_enter Tryd.func35, Tryd.ntmps35
    go_wp2
    go_ret
    refine ⟨?_, 0, rfl⟩
    have e : xs ≠ ys := fun e => hn (by rw [← L1.out, ← L2.out, e])
    simp [e]

/-- What has been written of a list so far: the first k of xs, noughts behind them. -/
def upto (xs : List Int) (k n : Nat) : List Int := xs.take k ++ List.replicate (n - k) 0
theorem upto_step {xs : List Int} {k n : Nat} (hx : xs.length = n) (h : k < n) : (((upto xs k n).map I).set k (I (xs.getD k 0))) = (upto xs (k + 1) n).map I := by
  rw [← List.map_set]
  congr 1
  unfold upto
  have hl : (xs.take k).length = k := by rw [List.length_take]; omega
  rw [List.set_append_right _ _ (by omega), hl, Nat.sub_self, show n - k = (n - (k + 1)) + 1 by omega, List.replicate_succ, List.set_cons_zero,
    List.take_succ_eq_append_getElem (show k < xs.length by omega), List.append_assoc]
  simp [List.getD, show k < xs.length by omega]
theorem upto_end {xs : List Int} {n : Nat} (hx : xs.length = n) : upto xs n n = xs := by
  unfold upto
  rw [List.take_of_length_le (by omega)]; simp

set_option maxHeartbeats 400000 in
theorem toIntS_any (a : Option Addr) (n c : Nat) (xs : List Int) (w : World) (h : IntAt w a n xs) :
    Calls Tryd.prog 32 #[.slice a n c] w fun e w' => e = .returned (.slice (some ⟨w.heap.size, 0, none⟩) n n) ∧ w'.ownsRow w.heap.size 3 1 (.slice (some ⟨w.heap.size, 0, none⟩) n n) n (xs.map I) ∧ Below w.heap.size w w' := by
  have HA := h
  have HH : Hid (IntAt w a n xs) := HA
  obtain ⟨l1, b1, _⟩ := h
  have L1 : Hid (xs.length = n) := l1
  clear l1 HA
  obtain ⟨i0, hi, hz0, hz1, hz2⟩ := info_parts infoInt
  go_enter Tryd.func32, Tryd.ntmps32
  go_wp2_with (at_make; refine wpList_make_full _ rfl _ _ 35 rfl w.heap.size 3 i0 (.int .i64 0) 1 Tryd.underlying35 hi hz0 hz1 .i64 .i64 _ _ n rfl rfl rfl rfl (by rw [hz2]; omega) (by unfold maxLen; omega) (Nat.le_refl _) ?_; intro w1 own1 grow1)
  have own0 : w1.ownsRow w.heap.size 3 1 (.slice (some ⟨w.heap.size, 0, none⟩) n n) n ((upto xs 0 n).map I) := by
    have e : (madeCells (Value.int .i64 0).cells (n * 1)).toList = (upto xs 0 n).map I := by
      rw [Nat.mul_one]
      exact (toList_madeCells_one _ _).trans (by simp [upto])
    rwa [e] at own1
  have hb1 : Below w.heap.size w w1 := (Below.refl _ _).grown grow1 (Nat.le_refl _) (fun k e => by cases e)
  clear own1 grow1
  go_loopw [4] (fun i wr => ∃ k : Nat, k ≤ n ∧ i = .int .i64 (k : Int) ∧ wr.ownsRow w.heap.size 3 1 (.slice (some ⟨w.heap.size, 0, none⟩) n n) n ((upto xs k n).map I) ∧ Below w.heap.size w wr) (fun i _ => n - (intOf i).toNat)
  case atStart => exact ⟨0, Nat.zero_le _, rfl, own0, hb1⟩
  case round =>
    obtain ⟨k, hk, rfl, ho, hb⟩ := hrel
    clear own0 hb1
    by_cases hlt : k < n
    · rcases (HH.out.below hb (Nat.le_refl _)).2.2 with h0 | ⟨p1, o1, rfl, g1⟩
      · omega
      have e1 := g1 k hlt
      obtain ⟨x, hx⟩ : ∃ x, xs.getD k 0 = x := ⟨_, rfl⟩
      rw [hx] at e1
      have hst := ho.stored k (I x)
      rw [← hx, upto_step L1.out hlt, hx] at hst
      have HS : Hid ((wr.setCell ⟨w.heap.size, k, none⟩ (I x)).ownsRow w.heap.size 3 1 (.slice (some ⟨w.heap.size, 0, none⟩) n n) n ((upto xs (k + 1) n).map I)) := hst.1
      have hf := ho.frozenAt k
      obtain ⟨u, hc⟩ := own_cell ho hlt
      clear g1 hx hst ho
      go_wp2
      go_roundw
      case rel => exact ⟨k + 1, by omega, by go_num, HS.out, hb.setCell (Nat.le_refl _) _⟩
      case measure => simp [intOf]; omega
    · obtain rfl : k = n := by omega
      rw [upto_end L1.out] at ho
      go_wp2
      go_ret
      exact ⟨rfl, ho, hb⟩
end Go.Proofs.YtkelhndijgakdaaDoor
