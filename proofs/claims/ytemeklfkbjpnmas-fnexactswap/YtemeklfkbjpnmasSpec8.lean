/- The specification's ThreadDone, ThreadNew, Top, Swap, Pop. -/
import Derived.Test.YtemeklfkbjpnmasCopy8
namespace Go.Proofs.Ytemeklfkbjpnmas
open Go.ChangeShapes Go.WideShapes Go.ChangeAt Go.RowKit Go.Joins

abbrev HelpV (h : Nat → Int) : Value := .agg #[.int .i64 (h 0), .int .i64 (h 1), .int .i64 (h 2), .int .i64 (h 3)]
abbrev helpL (h : Nat → Int) : List Int := [h 0, h 1, h 2, h 3]
/-- Whom a thread helps last. -/
def TD.top (t : TD) : Nat → Int := fun i => t.hs.getD ((t.n2 - 1) * 4 + i) 0
def TD.topV (t : TD) : Value := if t.n2 = 0 then HelpV (fun _ => 0) else HelpV t.top
def TD.push (t : TD) (h : Nat → Int) : TD := { t with n2 := t.n2 + 1, hs := t.hs ++ helpL h }
def TD.swap (t : TD) (h : Nat → Int) : TD := if t.n2 = 0 then t else { t with hs := t.hs.take ((t.n2 - 1) * 4) ++ helpL h }
def TD.pop (t : TD) : TD := { t with n2 := t.n2 - 1, hs := t.hs.take ((t.n2 - 1) * 4) }

theorem ThO.set5 {w : World} {base : Nat} {v0 v1 v2 : Value} {t : TD} (h : ThO w base v0 v1 v2 t) {b : Nat} (hb : ¬ In3 v0 v1 v2 b) (x0 x1 x2 x3 x4 : Value) :
    ThO (((((w.setCell ⟨b, 0, none⟩ x0).setCell ⟨b, 1, none⟩ x1).setCell ⟨b, 2, none⟩ x2).setCell ⟨b, 3, none⟩ x3).setCell ⟨b, 4, none⟩ x4) base v0 v1 v2 t :=
  ((((h.set (q := ⟨b, 0, none⟩) hb x0).set (q := ⟨b, 1, none⟩) hb x1).set (q := ⟨b, 2, none⟩) hb x2).set (q := ⟨b, 3, none⟩) hb x3).set (q := ⟨b, 4, none⟩) hb x4
theorem below_set5 {B : Nat} {w w' : World} (h : Below B w w') {b : Nat} (hb : B ≤ b) (x0 x1 x2 x3 x4 : Value) :
    Below B w (((((w'.setCell ⟨b, 0, none⟩ x0).setCell ⟨b, 1, none⟩ x1).setCell ⟨b, 2, none⟩ x2).setCell ⟨b, 3, none⟩ x3).setCell ⟨b, 4, none⟩ x4) :=
  ((((h.setCell hb x0).setCell hb x1).setCell hb x2).setCell hb x3).setCell hb x4
end Go.Proofs.Ytemeklfkbjpnmas
