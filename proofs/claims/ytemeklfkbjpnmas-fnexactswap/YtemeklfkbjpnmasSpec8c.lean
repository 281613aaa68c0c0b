/- The specification's Push. -/
import Derived.Test.YtemeklfkbjpnmasSpec8b
namespace Go.Proofs.Ytemeklfkbjpnmas
open Go.ChangeShapes Go.WideShapes Go.ChangeAt Go.RowKit Go.Joins

/-- One struct of four numbers in a block of its own is a list of one. -/
theorem one_kAt {w : World} {q : Nat} {h : Nat → Int} {T : TypeId} (b : Box w q #[.int .i64 (h 0), .int .i64 (h 1), .int .i64 (h 2), .int .i64 (h 3)] T) : KAt 4 w (some ⟨q, 0, none⟩) 1 (helpL h) := by
  obtain ⟨x0, x1, x2, x3, -⟩ := b.four
  refine ⟨rfl, by omega, .inr ⟨q, 0, rfl, fun i hi => ?_⟩⟩
  rcases (show i = 0 ∨ i = 1 ∨ i = 2 ∨ i = 3 by omega) with rfl | rfl | rfl | rfl
  · exact x0
  · exact x1
  · exact x2
  · exact x3
/-- What holds while Push's own list is made. -/
structure PI (W1 : World) (g n2 : Nat) (hs : List Int) (h : Nat → Int) (b0 b3 b5 b6 b7 : Bool) (s8 s11 s13 s14 s15 x : Value) (w : World) : Prop where
  bel : Below W1.heap.size W1 w
  way : b6 = false → Way 37 4 W1.heap.size n2 hs w b0 b3 s8 s11 x
  one : b6 = false → b5 = true → ∃ q, s13 = .slice (some ⟨q, 0, none⟩) 1 1 ∧ Box w q #[.int .i64 (h 0), .int .i64 (h 1), .int .i64 (h 2), .int .i64 (h 3)] 37 ∧ x.ownBlock ≠ some q
  dep : b6 = true → b0 = true ∧ b3 = true ∧ b5 = true
  fin : b6 = true → w.ownsRow W1.heap.size 37 4 s14 (n2 + 1) ((hs ++ helpL h).map I)
  adr : b7 = true → b6 = true ∧ s15 = .pointer (some ⟨g, 4, none⟩)
def PR (W1 : World) (sz g : Nat) (a0 a1 a2 p0 p1 p2 : Option Addr) (c0 c1 c2 d0 d1 d2 n0 n1 n2 : Nat) (hs : List Int) (pc : Int) (on : Bool) (h : Nat → Int) (l : Array Bool) (a : Act) (w : World) : Prop :=
  ∃ (b0 b3 b5 b6 b7 : Bool) (s8 s11 s13 s14 s15 x : Value), l = #[b0, true, true, b3, true, b5, b6, b7, false] ∧ a = ⟨#[ThV (.slice a0 n0 c0) (.slice a1 n1 c1) (.slice a2 n2 c2) pc on, HelpV h, .pointer (some ⟨sz, 0, none⟩), .pointer (some ⟨sz + 1, 0, none⟩), .pointer (some ⟨sz + 1 + 1, 0, none⟩), .pointer (some ⟨g, 0, none⟩), .agg #[.slice a0 n0 c0, .int .i64 pc, .bool on, .slice a1 n1 c1, .slice a2 n2 c2], ThV (.slice p0 n0 d0) (.slice p1 n1 d1) (.slice p2 n2 d2) pc on, s8, .pointer (some ⟨sz, 4, none⟩), .slice a2 n2 c2, s11, .agg #[.int .i64 (h 0), .int .i64 (h 1), .int .i64 (h 2), .int .i64 (h 3)], s13, s14, s15, undef], []⟩ ∧ PI W1 g n2 hs h b0 b3 b5 b6 b7 s8 s11 s13 s14 s15 x w
theorem no_of {a b : Bool} (h : a = true → b = true) (hb : b = false) : a = false := by
  cases a with
  | false => rfl
  | true => have := h rfl; rw [hb] at this; cases this
end Go.Proofs.Ytemeklfkbjpnmas
