/- The words of rows, told by both; the program's in a list of its own. -/
import Derived.Test.YtkifebhkgldefaaDoorImplWords
import Derived.Test.YtkifebhkgldefaaDoorLawRows
namespace Go.Proofs.YtkifebhkgldefaaDoor
open Go.ChangeShapes Go.WideShapes Go.ChangeAt Go.RowKit

/-- What both tell of the rows. -/
def TellsL (xs : List Int) (st : Int) (L : List Int) : Prop := (OkRows xs st ∧ L = specL xs st) ∨ (¬ OkRows xs st ∧ L = [])
theorem tellsL (xs : List Int) (st : Int) : ∃ L, TellsL xs st L := by
  by_cases h : OkRows xs st
  · exact ⟨_, .inl ⟨h, rfl⟩⟩
  · exact ⟨_, .inr ⟨h, rfl⟩⟩
theorem TellsL.len {xs : List Int} {st : Int} {L : List Int} (h : TellsL xs st L) : L.length ≤ 20 := by
  rcases h with ⟨_, rfl⟩ | ⟨_, rfl⟩
  · exact Nat.le_of_eq rfl
  · simp
theorem specWordsT (a : Option Addr) (n c : Nat) (st : Int) (xs L : List Int) (w : World) (hA : IntAt w a n xs) (hL : TellsL xs st L) :
    Calls Tryd.prog 30 #[RowsV a n c st] w fun e w' => ListSays e w' L ∧ Below w.heap.size w w' := by
  rcases hL with ⟨h, rfl⟩ | ⟨h, rfl⟩
  · obtain rfl : n = 4 := hA.1.symm.trans h.1
    exact specWordsOf_yes a c st xs w hA ((ok_iff hA.1).2 h)
  · exact specWordsOf_not a n c st xs w hA (fun h' => h ((ok_iff hA.1).1 h'))
theorem implWordsT (a : Option Addr) (n : Nat) (st : Int) (xs L : List Int) (w : World) (hA : IntAt w a n xs) (hi : ∀ x ∈ xs, (Lit.int .i64 x).wf = true) (hN : Names w) (hL : TellsL xs st L) :
    Calls Tryd.prog 33 #[RowsV a n n st] w fun e w' => ListSays e w' L ∧ Below w.heap.size w w' := by
  rcases hL with ⟨h, rfl⟩ | ⟨h, rfl⟩
  · obtain rfl : n = 4 := hA.1.symm.trans h.1
    refine (implWordsOf_yes a st xs w hA hi h hN).mono ?_
    rintro e w' ⟨⟨g, _, rfl, ho⟩, hb⟩
    exact ⟨⟨_, _, _, rfl, own_intAt ho (by omega)⟩, hb⟩
  · refine (implWordsOf_not a n st xs w hA hi h).mono ?_
    rintro e w' ⟨rfl, hb⟩
    exact ⟨⟨_, _, _, rfl, rfl, by omega, .inl rfl⟩, hb⟩
set_option maxHeartbeats 2000000 in
set_option maxRecDepth 100000 in
theorem implWordsOf_notR (a : Option Addr) (n c : Nat) (hc : n ≤ c) (st : Int) (xs : List Int) (w : World) (hA : IntAt w a n xs) (hi : ∀ x ∈ xs, (Lit.int .i64 x).wf = true) (hno : ¬ OkRows xs st) :
    Calls Tryd.prog 33 #[.agg #[.slice a n c, .int .i64 st]] w fun e w' => e = .returned (.slice none 0 0) ∧ Below w.heap.size w w' := by
  have HA : Hid (IntAt w a n xs) := hA
  have HI : Hid (∀ x ∈ xs, (Lit.int .i64 x).wf = true) := hi
  have HN : Hid (¬ OkRows xs st) := hno
  clear hA hno hi
  go_enter Tryd.func33, Tryd.ntmps33
  go_wp2_with fail
  refine (implRowsOk_room a n c hc st xs _ (HA.out.below ((Below.refl _ w).alloc (Nat.le_refl _) _) (Nat.le_refl _)) HI.out).mono ?_
  rintro e w1 ⟨⟨ok, rfl, hok⟩, hb1⟩
  obtain rfl : ok = false := by
    cases ok
    · rfl
    · exact absurd (hok.1 rfl) HN.out
  have hbw : Below w.heap.size w w1 := ((Below.refl _ w).alloc (Nat.le_refl _) _).trans (hb1.mono (by simp))
  clear hok hb1
  go_wp2
  go_ret
  exact ⟨rfl, hbw⟩
/-- The program's words, of rows whose list may have more room. -/
theorem implWordsR (a : Option Addr) (n c : Nat) (hc : n ≤ c) (st : Int) (xs L : List Int) (w : World) (hA : IntAt w a n xs) (hi : ∀ x ∈ xs, (Lit.int .i64 x).wf = true) (hN : Names w) (hL : TellsL xs st L) :
    Calls Tryd.prog 33 #[.agg #[.slice a n c, .int .i64 st]] w fun e w' => ListSays e w' L ∧ Below w.heap.size w w' := by
  rcases hL with ⟨h, rfl⟩ | ⟨h, rfl⟩
  · obtain rfl : n = 4 := hA.1.symm.trans h.1
    refine (implWordsOf_room a c hc st xs w hA hi h hN).mono ?_
    rintro e w' ⟨⟨g, _, rfl, ho⟩, hb⟩
    exact ⟨⟨_, _, _, rfl, own_intAt ho (by omega)⟩, hb⟩
  · refine (implWordsOf_notR a n c hc st xs w hA hi h).mono ?_
    rintro e w' ⟨rfl, hb⟩
    exact ⟨⟨_, _, _, rfl, rfl, by omega, .inl rfl⟩, hb⟩
end Go.Proofs.YtkifebhkgldefaaDoor
