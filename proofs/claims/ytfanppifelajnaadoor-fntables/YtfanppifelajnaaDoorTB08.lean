/- Texts joined: Laid. -/
import Derived.Test.YtfanppifelajnaaDoorRows
import Derived.Test.YtfanppifelajnaaDoorTB02
import Derived.ChangeVars
import Derived.ChangeReads
import Derived.Lib.LaidTab
import Derived.Lib.LaidU8
import Derived.LaidMore
import Derived.MakeChecks
set_option maxHeartbeats 200000
set_option maxRecDepth 100000
namespace Go.Proofs.YtfanppifelajnaaDoor
section
open Go.ChangeShapes Go.WideShapes Go.ChangeAt Go.RowKit
def namesD {H : Type} : DataW H := .agg (nmL.map fun p => .agg [.lit (.int .i64 p.1), .lit (.int .i64 p.2)])
theorem reads_names {H : Type} (enc : TypeId × Value → H) (W : World) (base : Nat) (sp : Nat → Bool) (held : Bool) : DataW.trod enc Tryd.prog W base sp held 4 59 nmCells.toList = some (namesD, []) := by kernel_rfl
theorem cells_name : Tryd.prog.cellsOf 52 = 2 := by kernel_rfl
theorem cells_names : Tryd.prog.cellsOf 59 = 40 := by kernel_rfl
theorem nm_cells (i : Nat) (hi : i < 20) (r : Nat) (hr : r < 2) : nmCells.toList[i * 2 + r]? = [Value.int .i64 (nmA i), .int .i64 (nmB i)][r]? := by
 have h : i = 0 ∨ i = 1 ∨ i = 2 ∨ i = 3 ∨ i = 4 ∨ i = 5 ∨ i = 6 ∨ i = 7 ∨ i = 8 ∨ i = 9 ∨ i = 10 ∨ i = 11 ∨ i = 12 ∨ i = 13 ∨ i = 14 ∨ i = 15 ∨ i = 16 ∨ i = 17 ∨ i = 18 ∨ i = 19 := by omega
 have h2 : r = 0 ∨ r = 1 := by omega
 rcases h2 with rfl | rfl <;> rcases h with rfl | rfl | rfl | rfl | rfl | rfl | rfl | rfl | rfl | rfl | rfl | rfl | rfl | rfl | rfl | rfl | rfl | rfl | rfl | rfl <;> rfl
theorem nm_data {H : Type} (i : Nat) (hi : i < 20) : (nmL.map fun p => (DataW.agg [.lit (.int .i64 p.1), .lit (.int .i64 p.2)] : DataW H))[i]? = some (Lib.tabData .i64 [nmA i, nmB i]) := by
 have h : i = 0 ∨ i = 1 ∨ i = 2 ∨ i = 3 ∨ i = 4 ∨ i = 5 ∨ i = 6 ∨ i = 7 ∨ i = 8 ∨ i = 9 ∨ i = 10 ∨ i = 11 ∨ i = 12 ∨ i = 13 ∨ i = 14 ∨ i = 15 ∨ i = 16 ∨ i = 17 ∨ i = 18 ∨ i = 19 := by omega
 rcases h with rfl | rfl | rfl | rfl | rfl | rfl | rfl | rfl | rfl | rfl | rfl | rfl | rfl | rfl | rfl | rfl | rfl | rfl | rfl | rfl <;> rfl
theorem names_of_trod {H : Type} {enc : TypeId × Value → H} {w : World} {base : Nat} {sp : Nat → Bool} {held : Bool} {fuel : Nat} {cs : List Value} {p : List MemPlace}
   (h : DataW.trod enc Tryd.prog w base sp held fuel 59 cs = some (namesD, p)) : cs = nmCells.toList := by
 have hl : cs.length = 40 := by
   cases fuel with
   | zero => simp [DataW.trod] at h
   | succ fuel =>
     simp only [DataW.trod, Tryd.underlying59, cells_names, cells_name] at h
     split at h
     · rename_i hl
       omega
     · cases h
 have key : ∀ i, i < 20 → (cs.drop (i * 2)).take 2 = [Value.int .i64 (nmA i), .int .i64 (nmB i)] := by
   intro i hi
   obtain ⟨fuel', d, q, hd, ht⟩ := Lib.array_elem Tryd.underlying59 h i hi
   rw [nm_data i hi] at hd
   obtain rfl := Option.some.inj hd
   rw [cells_name] at ht
   exact Lib.cells_of_tab Tryd.underlying52 Tryd.underlying3 cells_int cells_name ht
 apply List.ext_getElem?
 intro j
 by_cases hj : j < 40
 · obtain ⟨i, r, rfl, hi, hr⟩ : ∃ i r, j = i * 2 + r ∧ i < 20 ∧ r < 2 := ⟨j / 2, j % 2, by omega, by omega, by omega⟩
   rw [nm_cells i hi r hr, ← key i hi]
   simp [hr]
 · rw [List.getElem?_eq_none (by omega), List.getElem?_eq_none (by rw [show nmCells.toList.length = 40 by decide +kernel]; omega)]
theorem names_of_laid_r {r : List (String × DataW Unit)} {W : World} (h : laidMet Tryd.prog (("loop.example/g00468/impl.wordNames", namesD) :: r) W) : Names W := by
 obtain ⟨ps, ⟨g', t', cs, fuel, p, q, hg', ht', hvar, hd, _, _⟩, _⟩ := h
 obtain rfl := Option.some.inj (gNames.symm.trans hg')
 obtain rfl := Option.some.inj (gNamesType.symm.trans ht')
 have hc := names_of_trod hd
 unfold Names
 rw [hvar]
 congr 1
 cases cs
 simp_all
theorem names_of_laid {W : World} (h : laidMet Tryd.prog [("loop.example/g00468/impl.wordNames", namesD)] W) : Names W := names_of_laid_r h
theorem vars_open {H : Type} {enc : TypeId × Value → H} {W : World} {sp : Nat → Bool} {gs : List (DataW H)} {q : List MemPlace} (hN : Names W)
   (hV : DataW.TrodVars enc Tryd.prog W sp ["loop.example/g00468/impl.wordNames"] gs q) : gs = [namesD] := by
 obtain ⟨g, t, cs, fuel, d, p', rfl, hg, ht, hvar, hd, rfl⟩ := trodVars_one hV
 obtain rfl := Option.some.inj (gNames.symm.trans hg)
 obtain rfl := Option.some.inj (gNamesType.symm.trans ht)
 obtain rfl : cs = nmCells := Option.some.inj (hvar.symm.trans hN)
 obtain ⟨rfl, rfl⟩ := DataW.Trod.unique (v := .agg nmCells) ⟨fuel, hd⟩ ⟨4, reads_names enc W _ _ _⟩
 rfl
theorem vars_shut {H : Type} {enc : TypeId × Value → H} {W : World} (sp : Nat → Bool) (hN : Names W) :
   DataW.TrodVars enc Tryd.prog W sp ["loop.example/g00468/impl.wordNames"] [namesD] (MemPlace.row ⟨0, 0, none⟩ nmCells.size ++ []) :=
 trodVars_mk1 gNames gNamesType hN (reads_names enc W _ _ _)
end
end Go.Proofs.YtfanppifelajnaaDoor
