/- A table of texts at package level, from the row's condition to memory and back. No program. -/
import Derived.Test.YtkelhndijgakdaaDoorStr
import Derived.WalkKit
import Derived.WalkSmall
import Derived.ProofKit
import Derived.Below
import Derived.Lib.LaidTab
import Derived.ChangeArms
import Derived.ChangeVars
import Derived.ChangeReads
import Derived.LaidMore
import Derived.Lib.SmallJoins
namespace Go.Proofs.YtkelhndijgakdaaDoor
open Go.ChangeShapes Go.WideShapes Go.ChangeAt Go.RowKit Go.Lib

/-- The table as a row lists it. -/
def strD {H : Type} (zs : List (List UInt8)) : DataW H := .agg (zs.map fun z => .lit (.string z))
/-- The variable holds just these texts. -/
def StrsIs (P : Program) (w : World) (name : String) (zs : List (List UInt8)) : Prop := w.var? P name = some (zs.map S).toArray
theorem cells_of_strs {H : Type} {enc : TypeId × Value → H} {P : Program} {w : World} {base : Nat} {sp : Nat → Bool} {held : Bool} {fuel : Nat} {t e : TypeId} {n : Nat} {cs : List Value} {zs : List (List UInt8)} {p : List MemPlace}
    (ht : P.underlying t = some (.array n e)) (he : P.underlying e = some .string) (hce : P.cellsOf e = 1) (hct : P.cellsOf t = n)
    (h : DataW.trod enc P w base sp held fuel t cs = some (strD zs, p)) : cs = zs.map S := by
  cases fuel with
  | zero => simp [DataW.trod] at h
  | succ fuel =>
    simp only [DataW.trod, ht, hce, hct, Nat.mul_one] at h
    split at h
    · rename_i hl
      obtain ⟨xs, hm, hx⟩ := Option.map_eq_some_iff.1 h
      have hxs : xs.map (·.1) = zs.map fun z => (DataW.lit (.string z) : DataW H) := by
        have := congrArg Prod.fst hx
        simpa [strD] using this
      have hxl : xs.length = n := by simpa using mapM_length hm
      have hzl : zs.length = n := by
        have := congrArg List.length hxs
        simp at this
        omega
      apply List.ext_getElem?
      intro i
      by_cases hi : i < n
      · obtain ⟨b, hb, hf⟩ := mapM_at hm i i (by simp [hi])
        obtain ⟨z, hc, rfl, _⟩ := DataW.trod_string he hf
        have h1 : cs[i]? = some (.string z) := by
          have := congrArg (·[0]?) hc
          simpa [List.getElem?_take, List.getElem?_drop] using this
        have h2 : (xs.map (·.1))[i]? = some (DataW.lit (.string z.data.toList) : DataW H) := by simp [hb]
        rw [hxs] at h2
        simp only [List.getElem?_map, Option.map_eq_some_iff, DataW.lit.injEq, Lit.string.injEq] at h2
        obtain ⟨z', hz', hz2⟩ := h2
        rw [h1, str_S, List.getElem?_map, hz', hz2]
        rfl
      · rw [List.getElem?_eq_none (by omega), List.getElem?_eq_none (by simp; omega)]
    · cases h
theorem strsIs_of_head {P : Program} {W : World} {name : String} {zs : List (List UInt8)} {rest : List (String × DataW Unit)} {g : Nat} {t e : TypeId} {n : Nat}
    (hg : P.globalNamed name = some g) (hty : (P.globals[g]?).map (·.type) = some t) (ht : P.underlying t = some (.array n e)) (he : P.underlying e = some .string) (hce : P.cellsOf e = 1) (hct : P.cellsOf t = n)
    (h : laidMet P ((name, strD zs) :: rest) W) : StrsIs P W name zs := by
  obtain ⟨ps, ⟨g', t', cs, fuel, p, q, hg', ht', hvar, hd, _, _⟩, _⟩ := h
  obtain rfl := Option.some.inj (hg.symm.trans hg')
  obtain rfl := Option.some.inj (hty.symm.trans ht')
  unfold StrsIs
  rw [hvar, ← cells_of_strs ht he hce hct hd]
theorem StrsIs.cell {P : Program} {W : World} {name : String} {zs : List (List UInt8)} {g : Nat} (h : StrsIs P W name zs) (hg : P.globalNamed name = some g) (i : Nat) (hi : i < zs.length) :
    W.cell? ⟨g, i, none⟩ = some (S (zs.getD i [])) := by
  have := World.var?_cell hg h i
  simpa [List.getD, hi] using this
theorem StrsIs.lt {P : Program} {w : World} {name : String} {zs : List (List UInt8)} {g : Nat} (h : StrsIs P w name zs) (hg : P.globalNamed name = some g) : g < w.heap.size := by
  unfold StrsIs at h
  simp only [World.var?, hg, Option.bind_some] at h
  split at h
  · rename_i c t fr hb
    exact (Array.getElem?_eq_some_iff.1 hb).1
  · cases h
theorem StrsIs.below {P : Program} {w w' : World} {name : String} {zs : List (List UInt8)} {g B : Nat} (h : StrsIs P w name zs) (hg : P.globalNamed name = some g) (hb : Below B w w') (hB : w.heap.size ≤ B) : StrsIs P w' name zs :=
  var?_below hb hg (Nat.lt_of_lt_of_le (h.lt hg) hB) h
/-- What the table reads as, ahead of the call and behind it. -/
theorem strs_open {H : Type} {enc : TypeId × Value → H} {P : Program} {W : World} {sp : Nat → Bool} {name : String} {zs : List (List UInt8)} {gs : List (DataW H)} {q : List MemPlace} {g : Nat} {t : TypeId} (hN : StrsIs P W name zs)
    (hg : P.globalNamed name = some g) (hty : (P.globals[g]?).map (·.type) = some t)
    (hr : ∀ base held, DataW.trod enc P W base sp held 4 t (zs.map S) = some (strD zs, []))
    (hV : DataW.TrodVars enc P W sp [name] gs q) : gs = [strD zs] := by
  obtain ⟨g1, t1, cs, fuel, d, p', rfl, hg1, ht1, hvar, hd, rfl⟩ := trodVars_one hV
  obtain rfl := Option.some.inj (hg.symm.trans hg1)
  obtain rfl := Option.some.inj (hty.symm.trans ht1)
  obtain rfl : cs = (zs.map S).toArray := Option.some.inj (hvar.symm.trans hN)
  obtain ⟨rfl, rfl⟩ := DataW.Trod.unique (v := .agg (zs.map S).toArray) ⟨fuel, hd⟩ ⟨4, by simpa [Value.cells] using hr _ _⟩
  rfl
end Go.Proofs.YtkelhndijgakdaaDoor
