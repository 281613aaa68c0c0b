/- Small facts on lists of texts in memory. -/
import Derived.Test.YtgibeakclknhnabDoorRows
import Derived.Test.YtgibeakclknhnabDoorStr
import Derived.Test.YtgibeakclknhnabDoorOwn
import Derived.WalkKit
import Derived.ProofKit
import Derived.WalkSmall
namespace Go.Proofs.YtgibeakclknhnabDoor
open Go.ChangeShapes Go.WideShapes Go.ChangeAt Go.RowKit

/-- The slice of address a and length n holds the texts xs. -/
def StrAt (w : World) (a : Option Addr) (n : Nat) (xs : List (List UInt8)) : Prop :=
  xs.length = n ∧ n ≤ 1099511627776 ∧ (n = 0 ∨ ∃ b o, a = some ⟨b, o, none⟩ ∧ ∀ i, i < n → w.cell? ⟨b, o + i, none⟩ = some (S (xs.getD i [])))

theorem StrAt.draws {w : World} {a : Option Addr} {n : Nat} {xs : List (List UInt8)} (h : StrAt w a n xs) (m : Nat) : StrAt (w.drewN m) a n xs := h

theorem take_next {xs ys : List (List UInt8)} {k : Nat} (hx : k < xs.length) (hy : k < ys.length) (h : xs.take k = ys.take k) (e : xs.getD k [] = ys.getD k []) : xs.take (k + 1) = ys.take (k + 1) := by
  have e' : xs[k] = ys[k] := by simpa [List.getD, hx, hy] using e
  rw [List.take_succ_eq_append_getElem hx, List.take_succ_eq_append_getElem hy, h, e']

theorem own_strAt {w : World} {base : Nat} {e : TypeId} {g n cap : Nat} {xs : List (List UInt8)} (h : w.ownsRow base e 1 (.slice (some ⟨g, 0, none⟩) n cap) n (xs.map S)) (hn : n ≤ 1099511627776) : StrAt w (some ⟨g, 0, none⟩) n xs := by
  have hl : xs.length = n := by have := h.1; simpa using this
  refine ⟨hl, hn, .inr ⟨g, 0, rfl, fun i hi => ?_⟩⟩
  rw [Nat.zero_add, h.cellAt i (by omega), List.getElem?_map, List.getElem?_eq_getElem (by omega)]
  simp [List.getD, show i < xs.length by omega]

theorem infoStr : (Tryd.prog.info? 9).map (fun i => (i.zero, i.size, i.bytes)) = some (some (.string ⟨#[]⟩), 1, 16) := by kernel_rfl
end Go.Proofs.YtgibeakclknhnabDoor
