/- The program's tables of the words of kinds and of codes. -/
import Derived.Test.YtkelhndijgakdaaDoorRows
import Derived.Test.YtkelhndijgakdaaDoorTabS
import Derived.Test.YtkelhndijgakdaaDoorSpecTx3
import Derived.KernelRfl
namespace Go.Proofs.YtkelhndijgakdaaDoor
open Go.ChangeShapes Go.WideShapes Go.ChangeAt Go.RowKit Go.Lib

theorem cStr14 : Tryd.prog.cellsOf 9 = 1 := by kernel_rfl
theorem gOpNames : Tryd.prog.globalNamed "loop.example/g00468/impl.opNames" = some 0 := by kernel_rfl
theorem tOpNames : (Tryd.prog.globals[0]?).map (·.type) = some 49 := by kernel_rfl
theorem cOpNames : Tryd.prog.cellsOf 49 = 11 := by kernel_rfl
def OpNamesIs (w : World) : Prop := StrsIs Tryd.prog w "loop.example/g00468/impl.opNames" namesT
theorem OpNames_tab : (Rows.laid_loop_example_g00468_impl_opNames : DataW Unit) = strD namesT := by kernel_rfl
theorem OpNames_reads {H : Type} (enc : TypeId × Value → H) (W : World) (base : Nat) (sp : Nat → Bool) (held : Bool) : DataW.trod enc Tryd.prog W base sp held 4 49 (namesT.map S) = some (strD namesT, []) := by kernel_rfl
theorem OpNames_of_laid {r : List (String × DataW Unit)} {W : World} (h : laidMet Tryd.prog (("loop.example/g00468/impl.opNames", Rows.laid_loop_example_g00468_impl_opNames) :: r) W) : OpNamesIs W := by
  rw [OpNames_tab] at h
  exact strsIs_of_head gOpNames tOpNames Tryd.underlying49 Tryd.underlying9 cStr14 cOpNames h
theorem OpNames_open {H : Type} {enc : TypeId × Value → H} {W : World} {sp : Nat → Bool} {gs : List (DataW H)} {q : List MemPlace} (hN : OpNamesIs W)
    (hV : DataW.TrodVars enc Tryd.prog W sp ["loop.example/g00468/impl.opNames"] gs q) : gs = [strD namesT] :=
  strs_open hN gOpNames tOpNames (fun b h => OpNames_reads enc W b sp h) hV
theorem OpNames_shut {H : Type} {enc : TypeId × Value → H} {W : World} (sp : Nat → Bool) (hN : OpNamesIs W) :
    DataW.TrodVars enc Tryd.prog W sp ["loop.example/g00468/impl.opNames"] [strD namesT] (MemPlace.row ⟨0, 0, none⟩ (namesT.map S).toArray.size ++ []) :=
  trodVars_mk1 gOpNames tOpNames hN (OpNames_reads enc W _ _ _)
theorem OpNamesIs.below {w w' : World} {B : Nat} (h : OpNamesIs w) (hb : Below B w w') (hB : w.heap.size ≤ B) : OpNamesIs w' := StrsIs.below h gOpNames hb hB
/-- The words of codes. -/
def codesR : List (List UInt8) := [codeB 0, codeB 1, codeB 2, codeB 3, codeB 4]
theorem gResNames : Tryd.prog.globalNamed "loop.example/g00468/impl.resNames" = some 1 := by kernel_rfl
theorem tResNames : (Tryd.prog.globals[1]?).map (·.type) = some 57 := by kernel_rfl
theorem cResNames : Tryd.prog.cellsOf 57 = 5 := by kernel_rfl
def ResNamesIs (w : World) : Prop := StrsIs Tryd.prog w "loop.example/g00468/impl.resNames" codesR
theorem ResNames_tab : (Rows.laid_loop_example_g00468_impl_resNames : DataW Unit) = strD codesR := by kernel_rfl
theorem ResNames_reads {H : Type} (enc : TypeId × Value → H) (W : World) (base : Nat) (sp : Nat → Bool) (held : Bool) : DataW.trod enc Tryd.prog W base sp held 4 57 (codesR.map S) = some (strD codesR, []) := by kernel_rfl
theorem ResNames_of_laid {r : List (String × DataW Unit)} {W : World} (h : laidMet Tryd.prog (("loop.example/g00468/impl.resNames", Rows.laid_loop_example_g00468_impl_resNames) :: r) W) : ResNamesIs W := by
  rw [ResNames_tab] at h
  exact strsIs_of_head gResNames tResNames Tryd.underlying57 Tryd.underlying9 cStr14 cResNames h
theorem ResNames_open {H : Type} {enc : TypeId × Value → H} {W : World} {sp : Nat → Bool} {gs : List (DataW H)} {q : List MemPlace} (hN : ResNamesIs W)
    (hV : DataW.TrodVars enc Tryd.prog W sp ["loop.example/g00468/impl.resNames"] gs q) : gs = [strD codesR] :=
  strs_open hN gResNames tResNames (fun b h => ResNames_reads enc W b sp h) hV
theorem ResNames_shut {H : Type} {enc : TypeId × Value → H} {W : World} (sp : Nat → Bool) (hN : ResNamesIs W) :
    DataW.TrodVars enc Tryd.prog W sp ["loop.example/g00468/impl.resNames"] [strD codesR] (MemPlace.row ⟨1, 0, none⟩ (codesR.map S).toArray.size ++ []) :=
  trodVars_mk1 gResNames tResNames hN (ResNames_reads enc W _ _ _)
theorem ResNamesIs.below {w w' : World} {B : Nat} (h : ResNamesIs w) (hb : Below B w w') (hB : w.heap.size ≤ B) : ResNamesIs w' := StrsIs.below h gResNames hb hB
end Go.Proofs.YtkelhndijgakdaaDoor
