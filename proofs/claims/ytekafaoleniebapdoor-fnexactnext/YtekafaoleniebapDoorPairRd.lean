/- Lists of pairs: as they lie in memory (number by number), and what was read last. -/
import Derived.Test.YtekafaoleniebapDoorIntAt
import Derived.Test.YtekafaoleniebapDoorClone
import Derived.Handy
import Derived.Deep.RegionHeld3
namespace Go.Proofs.YtekafaoleniebapDoor
open Go.ChangeShapes Go.WideShapes Go.ChangeAt Go.RowKit

/-- n pairs lie there: 2 * n numbers. -/
def PairAt (w : World) (a : Option Addr) (n : Nat) (fs : List Int) : Prop :=
  fs.length = n * 2 ∧ n ≤ 1099511627776 ∧ (n = 0 ∨ ∃ b o, a = some ⟨b, o, none⟩ ∧ ∀ i, i < n * 2 → w.cell? ⟨b, o + i, none⟩ = some (I (fs.getD i 0)))
theorem PairAt.below {w w' : World} {a : Option Addr} {n : Nat} {fs : List Int} (h : PairAt w a n fs) {B : Nat} (hb : Below B w w') (hB : w.heap.size ≤ B) : PairAt w' a n fs := by
  obtain ⟨h1, h2, h3 | ⟨b, o, h3, h4⟩⟩ := h
  · exact ⟨h1, h2, .inl h3⟩
  · refine ⟨h1, h2, .inr ⟨b, o, h3, fun i hi => ?_⟩⟩
    have h5 := h4 i hi
    rw [hb.cell (show b < B from Nat.lt_of_lt_of_le (World.block_lt_of_cell? w _ h5) hB)]
    exact h5
theorem own_pairAt {w : World} {base : Nat} {e : TypeId} {g n cap : Nat} {fs : List Int} (h : w.ownsRow base e 2 (.slice (some ⟨g, 0, none⟩) n cap) n (fs.map I)) (hn : n ≤ 1099511627776) : PairAt w (some ⟨g, 0, none⟩) n fs := by
  have hl : fs.length = n * 2 := by have := h.1; simpa using this
  refine ⟨hl, hn, .inr ⟨g, 0, rfl, fun i hi => ?_⟩⟩
  rw [Nat.zero_add, h.cellAt i (by omega), List.getElem?_map, List.getElem?_eq_getElem (by omega)]
  simp [List.getD, show i < fs.length by omega]
/-- What the last of the first k pairs at that place says. -/
def readF (fs : List Int) (at_ : Int) : Nat → Int × Bool
  | 0 => (0, false)
  | k + 1 => if fs.getD (k * 2) 0 = at_ then (fs.getD (k * 2 + 1) 0, true) else readF fs at_ k

set_option maxHeartbeats 1000000 in
theorem specRead_any (a : Option Addr) (n c : Nat) (at_ : Int) (fs : List Int) (w : World) (h : PairAt w a n fs) :
    Calls Tryd.prog 39 #[.slice a n c, .int .i64 at_] w fun e w' => e = .returned (.tuple #[.int .i64 (readF fs at_ n).1, .bool (readF fs at_ n).2]) ∧ Below w.heap.size w w' := by
  have HH : Hid (PairAt w a n fs) := h
  have hn := h.2.1
  clear h
  go_enter Tryd.func39, Tryd.ntmps39
  go_wp2
  go_loopw [6, 7, 8] (fun q b i wr => ∃ k : Nat, k ≤ n ∧ q = .int .i64 (readF fs at_ k).1 ∧ b = .bool (readF fs at_ k).2 ∧ i = .int .i64 k ∧ Below w.heap.size w wr) (fun _ _ i _ => n - (intOf i).toNat)
  case atStart => exact ⟨0, Nat.zero_le _, rfl, rfl, rfl, Below.refl _ _⟩
  case round =>
    obtain ⟨k, hk, rfl, rfl, rfl, hb⟩ := hrel
    obtain ⟨x, hx⟩ : ∃ x, fs.getD (k * 2) 0 = x := ⟨_, rfl⟩
    obtain ⟨y, hy⟩ : ∃ y, fs.getD (k * 2 + 1) 0 = y := ⟨_, rfl⟩
    have HN : Hid (readF fs at_ (k + 1) = if x = at_ then (y, true) else readF fs at_ k) := by rw [← hx, ← hy]; rfl
    obtain ⟨r, hr⟩ : ∃ r, readF fs at_ k = r := ⟨_, rfl⟩
    rw [hr]
    have HR : Hid (readF fs at_ k = r) := hr
    by_cases hlt : k < n
    · have hk0 : (0 : Int) ≤ (k : Int) := by omega
      have hk1 : (k : Int) < (n : Int) := by omega
      rcases (HH.out.below hb (Nat.le_refl _)).2.2 with h0 | ⟨p1, o1, rfl, g1⟩
      · omega
      have e1 := g1 (k * 2) (by omega)
      have e2 := g1 (k * 2 + 1) (by omega)
      rw [hx] at e1
      rw [hy] at e2
      rw [← Nat.add_assoc] at e2
      clear g1 hx hy hr
      by_cases hxa : x = at_
      · have hxb : (x == at_) = true := by simpa using hxa
        have HX : Hid (x = at_) := hxa
        clear hxa
        go_wp2
        refine ⟨⟨k + 1, by omega, ?_, ?_, by go_num, hb⟩, by simp [intOf]; omega⟩
        · rw [HN.out, if_pos HX.out]
        · rw [HN.out, if_pos HX.out]
      · have hxb : (x == at_) = false := by simpa using hxa
        have HX : Hid (¬ x = at_) := hxa
        clear hxa
        go_wp2
        refine ⟨⟨k + 1, by omega, ?_, ?_, by go_num, hb⟩, by simp [intOf]; omega⟩
        · rw [HN.out, if_neg HX.out, HR.out]
        · rw [HN.out, if_neg HX.out, HR.out]
    · obtain rfl : k = n := by omega
      go_wp2
      go_ret2
      exact ⟨by rw [HR.out]; rfl, hb⟩

end Go.Proofs.YtekafaoleniebapDoor
