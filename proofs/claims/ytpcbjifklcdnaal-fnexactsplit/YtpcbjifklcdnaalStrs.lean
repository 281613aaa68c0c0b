/- The laws' own helper eqStringS, walked: of two lists of texts it tells whether they are alike; it only reads. -/
import Derived.Test.YtpcbjifklcdnaalRows
import Derived.Test.YtpcbjifklcdnaalStr
import Derived.Test.YtpcbjifklcdnaalStrAt
import Derived.Test.YtpcbjifklcdnaalMark
import Derived.Test.YtpcbjifklcdnaalOwn
import Derived.WalkKit
import Derived.ProofKit
import Derived.WalkSmall
import Derived.Deep.RegionWith
namespace Go.Proofs.Ytpcbjifklcdnaal
open Go.ChangeShapes Go.WideShapes Go.ChangeAt Go.RowKit

set_option maxHeartbeats 400000 in
theorem eqStringS_any (a1 a2 : Option Addr) (n1 n2 c1 c2 : Nat) (xs ys : List (List UInt8)) (w : World) (h1 : StrAt w a1 n1 xs) (h2 : StrAt w a2 n2 ys) :
    Calls Try.prog 9 #[.slice a1 n1 c1, .slice a2 n2 c2] w fun e w' => e = .returned (.bool (decide (xs = ys))) ∧ ∃ m, w' = w.drewN m := by
  obtain ⟨l1, b1, h1⟩ := h1
  obtain ⟨l2, b2, h2⟩ := h2
  have H1 : Hid (n1 = 0 ∨ ∃ b o, a1 = some ⟨b, o, none⟩ ∧ ∀ i, i < n1 → w.cell? ⟨b, o + i, none⟩ = some (S (xs.getD i []))) := h1
  have H2 : Hid (n2 = 0 ∨ ∃ b o, a2 = some ⟨b, o, none⟩ ∧ ∀ i, i < n2 → w.cell? ⟨b, o + i, none⟩ = some (S (ys.getD i []))) := h2
  have L1 : Hid (xs.length = n1) := l1
  have L2 : Hid (ys.length = n2) := l2
  clear h1 h2 l1 l2
  by_cases hn : n1 = n2
  · subst hn
    go_enter Try.func9, Try.ntmps9
    go_wp2
    go_loopw [5] (fun i wr => ∃ k m : Nat, k ≤ n1 ∧ i = .int .i64 k ∧ xs.take k = ys.take k ∧ wr = w.drewN m) (fun i _ => n1 - (intOf i).toNat)
    case atStart => exact ⟨0, 0, Nat.zero_le _, rfl, rfl, rfl⟩
    case round =>
      obtain ⟨k, m, hk, rfl, ht, rfl⟩ := hrel
      have HT : Hid (xs.take k = ys.take k) := ht
      clear ht
      by_cases hlt : k < n1
      · rcases H1.out with h | ⟨p1, o1, rfl, g1⟩
        · omega
        rcases H2.out with h | ⟨p2, o2, rfl, g2⟩
        · omega
        have e1 := g1 k hlt
        have e2 := g2 k hlt
        clear g1 g2
        go_wp2
        go_region
        go_wp2
        · have hd : (!xs[k]?.getD [] == ys[k]?.getD []) = true := by assumption
          go_ret
          refine ⟨?_, m + 1, rfl⟩
          have e : xs ≠ ys := fun e => by rw [e] at hd; simp at hd
          simp [e]
        · have hd : (!xs[k]?.getD [] == ys[k]?.getD []) = false := by assumption
          have l1 := L1.out
          have l2 := L2.out
          exact ⟨⟨k + 1, m + 1, by omega, by go_num, take_next (by omega) (by omega) HT.out (by simpa [List.getD] using hd), rfl⟩, by simp [intOf]; omega⟩
      · go_wp2
        go_ret
        refine ⟨?_, m, rfl⟩
        have e : xs = ys := by
          have := HT.out
          rwa [List.take_of_length_le (by have := L1.out; omega), List.take_of_length_le (by have := L2.out; omega)] at this
        simp [e]
  · have hz : ((n1 : Int) != (n2 : Int)) = true := by simp; omega
    go_enter Try.func9, Try.ntmps9
    go_wp2
    go_ret
    refine ⟨?_, 0, rfl⟩
    have e : xs ≠ ys := fun e => hn (by rw [← L1.out, ← L2.out, e])
    simp [e]

/-- The texts that markStringS lays, from the number k on. -/
def marks (k n : Nat) : List (List UInt8) := (List.range n).map fun i => markS (k + i)
theorem marks_len (k n : Nat) : (marks k n).length = n := by simp [marks]
theorem marks_at (k n i : Nat) (h : i < n) : (marks k n).getD i [] = markS (k + i) := by simp [marks, List.getD, h]

theorem mark_step (k n j : Nat) (xs : List (List UInt8)) (hx : xs.length = n) (h : j < n) :
    ((marks k j ++ xs.drop j).map S).set j (S (markS (k + j))) = (marks k (j + 1) ++ xs.drop (j + 1)).map S := by
  have e : marks k (j + 1) = marks k j ++ [markS (k + j)] := by simp [marks, List.range_succ]
  rw [← List.map_set, e]
  congr 1
  rw [List.set_append_right _ _ (by simp [marks]), show j - (marks k j).length = 0 by simp [marks], List.drop_eq_getElem_cons (show j < xs.length by omega), List.set_cons_zero, List.append_assoc]
  rfl

set_option maxHeartbeats 400000 in
theorem markStringS_any (base g n cap k : Nat) (xs : List (List UInt8)) (w : World) (hx : xs.length = n) (hn : n ≤ 1099511627776) (hk0 : 0 < k) (hk : k ≤ 1099511627776) (hB : base ≤ w.heap.size)
    (hown : w.ownsRow base 9 1 (.slice (some ⟨g, 0, none⟩) n cap) n (xs.map S)) :
    Calls Try.prog 10 #[.slice (some ⟨g, 0, none⟩) n cap, .int .i64 (k : Int)] w fun e w' =>
      e = .returned (.int .i64 ((k + n : Nat) : Int)) ∧ w'.ownsRow base 9 1 (.slice (some ⟨g, 0, none⟩) n cap) n ((marks k n).map S) ∧ Below base w w' := by
  have HX : Hid (xs.length = n) := hx
  clear hx
  go_enter Try.func10, Try.ntmps10
  go_wp2
  go_loopw [1, 5] (fun q i wr => ∃ j : Nat, j ≤ n ∧ q = .int .i64 ((k + j : Nat) : Int) ∧ i = .int .i64 (j : Int) ∧ wr.ownsRow base 9 1 (.slice (some ⟨g, 0, none⟩) n cap) n ((marks k j ++ xs.drop j).map S) ∧ Below base w wr) (fun _ i _ => n - (intOf i).toNat)
  case atStart => exact ⟨0, Nat.zero_le _, rfl, rfl, by simpa [marks] using hown, Below.refl _ _⟩
  case round =>
    obtain ⟨j, hj, rfl, rfl, ho, hb⟩ := hrel
    clear hown
    by_cases hlt : j < n
    · go_wp2_with (go_at_call 17; refine (markText_any (k + j) (by omega) (by omega) _).mono ?_; rintro e w1 ⟨rfl, hb1⟩; have hf1 := (owns_below ho hb1 (Nat.le_refl _)).frozenAt j; obtain ⟨u, hc1⟩ := own_cell (owns_below ho hb1 (Nat.le_refl _)) hlt)
      have ho1 := (owns_below ho hb1 (Nat.le_refl _)).stored j (S (markS (k + j)))
      rw [mark_step k n j xs HX.out hlt] at ho1
      have hg := (own_base ho).1
      have hs := hb.size
      go_roundw
      case rel => exact ⟨j + 1, by omega, by go_num, by go_num, ho1.1, (hb.trans (hb1.mono (by omega))).setCell hg _⟩
      case measure => simp [intOf]; omega
    · go_wp2
      go_ret
      obtain rfl : j = n := by omega
      refine ⟨rfl, ?_, hb⟩
      have hx := HX.out
      rwa [List.drop_of_length_le (by omega), List.append_nil] at ho

set_option maxHeartbeats 1000000 in
theorem heldStringS_any (g n cap k : Nat) (w : World) (hn : n ≤ 1099511627776) (hk0 : 0 < k) (hk : k ≤ 1099511627776) (hg : g < w.heap.size)
    (hc : StrAt w (some ⟨g, 0, none⟩) n (marks k n)) :
    Calls Try.prog 11 #[.slice (some ⟨g, 0, none⟩) n cap, .int .i64 (k : Int)] w fun e w' =>
      e = .returned (.int .i64 ((k + n : Nat) : Int)) ∧ Below w.heap.size w w' := by
  have HC : Hid (∀ i, i < n → w.cell? ⟨g, i, none⟩ = some (S (markS (k + i)))) := fun i hi => by
    obtain ⟨_, _, h | ⟨b, o, e, h⟩⟩ := hc
    · omega
    · have := h i hi
      rw [marks_at k n i hi] at this
      simp at e
      obtain ⟨rfl, rfl⟩ := e
      simpa using this
  clear hc
  go_enter Try.func11, Try.ntmps11
  go_wp2
  go_loopw [1, 5] (fun q i wr => ∃ j : Nat, j ≤ n ∧ q = .int .i64 ((k + j : Nat) : Int) ∧ i = .int .i64 (j : Int) ∧ Below w.heap.size w wr) (fun _ i _ => n - (intOf i).toNat)
  case atStart => exact ⟨0, Nat.zero_le _, rfl, rfl, Below.refl _ _⟩
  case round =>
    obtain ⟨j, hj, rfl, rfl, hb⟩ := hrel
    have hs := hb.size
    by_cases hlt : j < n
    · have hcell : wr.cell? ⟨g, j, none⟩ = some (S (markS (k + j))) := (hb.cell hg).trans (HC.out j hlt)
      go_wp2
      go_region_with (go_at_call 17; refine (markText_any (k + j) (by omega) (by omega) _).mono ?_; rintro e w1 ⟨rfl, hb1⟩; have hc1 : w1.cell? ⟨g, j, none⟩ = some (S (markS (k + j))) := (hb1.cell (by simp; omega)).trans hcell)
      all_goals
        go_wp2
        go_roundw
        case rel => exact ⟨j + 1, by omega, by go_num, by go_num, hb.drew.trans (hb1.mono hs)⟩
        case measure => simp [intOf]; omega
    · go_wp2
      go_ret
      obtain rfl : j = n := by omega
      exact ⟨rfl, hb⟩

theorem markStringS_one (base g n cap : Nat) (xs : List (List UInt8)) (w : World) (hx : xs.length = n) (hn : n ≤ 1099511627776) (hB : base ≤ w.heap.size)
    (hown : w.ownsRow base 9 1 (.slice (some ⟨g, 0, none⟩) n cap) n (xs.map S)) :
    Calls Try.prog 10 #[.slice (some ⟨g, 0, none⟩) n cap, .int .i64 1] w fun e w' =>
      e = .returned (.int .i64 ((n : Int) + 1)) ∧ w'.ownsRow base 9 1 (.slice (some ⟨g, 0, none⟩) n cap) n ((marks 1 n).map S) ∧ Below base w w' := by
  have h := markStringS_any base g n cap 1 xs w hx hn (by omega) (by omega) hB hown
  rwa [show ((1 : Nat) : Int) = 1 from rfl, show ((1 + n : Nat) : Int) = (n : Int) + 1 by omega] at h
theorem heldStringS_one (g n cap : Nat) (w : World) (hn : n ≤ 1099511627776) (hg : g < w.heap.size) (hc : StrAt w (some ⟨g, 0, none⟩) n (marks 1 n)) :
    Calls Try.prog 11 #[.slice (some ⟨g, 0, none⟩) n cap, .int .i64 1] w fun e w' =>
      e = .returned (.int .i64 ((n : Int) + 1)) ∧ Below w.heap.size w w' := by
  have h := heldStringS_any g n cap 1 w hn (by omega) (by omega) hg hc
  rwa [show ((1 : Nat) : Int) = 1 from rfl, show ((1 + n : Nat) : Int) = (n : Int) + 1 by omega] at h
end Go.Proofs.Ytpcbjifklcdnaal
