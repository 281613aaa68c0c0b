/- All but one block is as it was: what follows of it. -/
import Derived.Test.YtmgofehafjogfaaRows
import Derived.WalkKit
import Derived.ProofKit
import Derived.Below
import Derived.Maps.AppendAt
import Derived.OwnWalk
namespace Go.Proofs.Ytmgofehafjogfaa
open Go.ChangeShapes Go.WideShapes Go.ChangeAt Go.RowKit

theorem far_drew {w w' : World} {row : Option Nat} (h : w.grownBy w' row) : w.grownBy w'.drew row := ⟨h.os, h.tape, h.output, h.size, h.block⟩
theorem far_below {w w' : World} (h : Below w.heap.size w w') (row : Option Nat) : w.grownBy w' row := ⟨h.os, h.tape, h.output, h.size, fun k hk _ => h.block k hk⟩
theorem far_below_of {w0 w w' : World} {row : Option Nat} (h0 : w0.grownBy w row) (h : Below w.heap.size w w') : w0.grownBy w' row := h0.trans (far_below h row)
theorem far_set {w0 w : World} {row : Option Nat} (h : w0.grownBy w row) {a : Addr} (ha : w0.heap.size ≤ a.block) (v : Value) : w0.grownBy (w.setCell a v) row :=
  ⟨h.os, h.tape, h.output, by simpa [World.setCell] using h.size, fun k hk hr => by rw [Below.heap_setCell _ _ _ _ (fun e => by omega)]; exact h.block k hk hr⟩
theorem far_cell {w w' : World} {p g o : Nat} {v : Value} (h : w.grownBy w' (some p)) (hv : w.cell? ⟨g, o, none⟩ = some v) (hg : g ≠ p) : w'.cell? ⟨g, o, none⟩ = some v := h.cell hv (by simpa using hg)
end Go.Proofs.Ytmgofehafjogfaa
