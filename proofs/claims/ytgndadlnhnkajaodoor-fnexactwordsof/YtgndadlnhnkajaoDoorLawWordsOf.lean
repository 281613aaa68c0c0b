/- WordsOf of the program answers as the specification's WordsOf at all rows, with memory of its own, and leaves the rows as they were: the card of the law FnExactWordsOf holds, with no condition beyond the program's own table of names as its text lays it. -/
import Derived.Test.YtgndadlnhnkajaoDoorRows
import Derived.Test.YtgndadlnhnkajaoDoorTie
import Derived.Test.YtgndadlnhnkajaoDoorCards
import Derived.Test.YtgndadlnhnkajaoDoorImplWords
import Derived.Test.YtgndadlnhnkajaoDoorLawRows
import Derived.Test.YtgndadlnhnkajaoDoorOpenRows
import Derived.Test.YtgndadlnhnkajaoDoorMarkI
import Derived.Test.YtgndadlnhnkajaoDoorLaid
import Derived.WalkKit
import Derived.ProofKit
import Derived.OpenShut
import Derived.ChangeOld
import Derived.Below
import Derived.LaidMore
import Derived.Stop.Joined
import Derived.Stop.LaidErr
import Derived.MakeChecks
import Derived.SevenTiedAt
import Derived.Lib.SmallJoins
import Derived.Deep.RegionWith
namespace Go.Proofs.YtgndadlnhnkajaoDoor
open Go.ChangeShapes Go.WideShapes Go.ChangeAt Go.RowKit Go.Joins

namespace fnExactWordsOf
theorem own : ownKnob Tryd.prog.godebug = none := by kernel_rfl
theorem laidOut : laidOutB Tryd.prog = true := by kernel_rfl

/-- What both tell of the rows. -/
def Tells (xs : List Int) (st : Int) (L : List Int) : Prop := (OkRows xs st ∧ L = specL xs st) ∨ (¬ OkRows xs st ∧ L = [])
theorem tells (xs : List Int) (st : Int) : ∃ L, Tells xs st L := by
  by_cases h : OkRows xs st
  · exact ⟨_, .inl ⟨h, rfl⟩⟩
  · exact ⟨_, .inr ⟨h, rfl⟩⟩

/-- A list of the call's own, or an empty one. -/
def OwnAt (v : World) (base : Nat) (ag : Option Addr) (n c g : Nat) (L : List Int) : Prop :=
  base ≤ g ∧ L.length = n ∧ n ≤ 20 ∧ (n = 0 ∨ (ag = some ⟨g, 0, none⟩ ∧ v.ownsRow g 3 1 (.slice (some ⟨g, 0, none⟩) n c) n (L.map I)))
theorem OwnAt.intAt {v : World} {base : Nat} {ag : Option Addr} {n c g : Nat} {L : List Int} (h : OwnAt v base ag n c g L) : IntAt v ag n L := by
  obtain ⟨h1, h2, h3, h4 | ⟨rfl, h5⟩⟩ := h
  · exact ⟨h2, by omega, .inl h4⟩
  · exact own_intAt h5 (by omega)
theorem OwnAt.below {v v' : World} {base : Nat} {ag : Option Addr} {n c g : Nat} {L : List Int} (h : OwnAt v base ag n c g L) (hb : Below v.heap.size v v') : OwnAt v' base ag n c g L := by
  obtain ⟨h1, h2, h3, h4 | ⟨rfl, h5⟩⟩ := h
  · exact ⟨h1, h2, h3, .inl h4⟩
  · exact ⟨h1, h2, h3, .inr ⟨rfl, owns_below h5 hb (Nat.le_refl _)⟩⟩
theorem OwnAt.kept {v v' : World} {base : Nat} {ag : Option Addr} {n c g : Nat} {L : List Int} (h : OwnAt v base ag n c g L) {row : Option Nat} (hb : v.grownBy v' row) (hne : row ≠ some g) : OwnAt v' base ag n c g L := by
  obtain ⟨h1, h2, h3, h4 | ⟨rfl, h5⟩⟩ := h
  · exact ⟨h1, h2, h3, .inl h4⟩
  · exact ⟨h1, h2, h3, .inr ⟨rfl, h5.kept hb (.inr (fun e => hne (e.symm.trans rfl)))⟩⟩

theorem specWords (a : Option Addr) (n c : Nat) (st : Int) (xs L : List Int) (w : World) (hA : IntAt w a n xs) (hL : Tells xs st L) :
    Calls Tryd.prog 5 #[RowsV a n c st] w fun e w' => ListSays e w' L ∧ Below w.heap.size w w' := by
  rcases hL with ⟨h, rfl⟩ | ⟨h, rfl⟩
  · obtain rfl : n = 4 := hA.1.symm.trans h.1
    exact specWordsOf_yes a c st xs w hA ((ok_iff hA.1).2 h)
  · exact specWordsOf_not a n c st xs w hA (fun h' => h ((ok_iff hA.1).1 h'))
/-- The program's answer. -/
def GSays (e : Ending) (w w' : World) (L : List Int) : Prop := ∃ ag n c g, e = .returned (.slice ag n c) ∧ OwnAt w' w.heap.size ag n c g L
theorem implWords (a : Option Addr) (n : Nat) (st : Int) (xs L : List Int) (w : World) (hA : IntAt w a n xs) (hi : ∀ x ∈ xs, (Lit.int .i64 x).wf = true) (hN : Names w) (hL : Tells xs st L) :
    Calls Tryd.prog 7 #[RowsV a n n st] w fun e w' => GSays e w w' L ∧ Below w.heap.size w w' := by
  rcases hL with ⟨h, rfl⟩ | ⟨h, rfl⟩
  · obtain rfl : n = 4 := hA.1.symm.trans h.1
    refine (implWordsOf_yes a st xs w hA hi h hN).mono ?_
    rintro e w' ⟨⟨g, hg, rfl, ho⟩, hb⟩
    exact ⟨⟨_, _, _, g, rfl, hg, rfl, by omega, .inr ⟨rfl, ho⟩⟩, hb⟩
  · refine (implWordsOf_not a n st xs w hA hi h).mono ?_
    rintro e w' ⟨rfl, hb⟩
    exact ⟨⟨_, _, _, w.heap.size, rfl, Nat.le_refl _, rfl, by omega, .inl rfl⟩, hb⟩
theorem markG (base : Nat) (ag : Option Addr) (n c g : Nat) (L : List Int) (v : World) (h : OwnAt v base ag n c g L) :
    Calls Tryd.prog 11 #[.slice ag n c, .int .i64 1] v fun e v' => e = .returned (.int .i64 ((n : Int) + 1)) ∧ OwnAt v' base ag n c g (marksI n) ∧ v.grownBy v' (some g) := by
  obtain ⟨h1, h2, h3, rfl | ⟨rfl, h5⟩⟩ := h
  · refine (markIntS_none ag c v).mono ?_
    rintro e v' ⟨rfl, rfl⟩
    exact ⟨rfl, ⟨h1, rfl, by omega, .inl rfl⟩, rfl, rfl, rfl, Nat.le_refl _, fun _ _ _ => rfl⟩
  · refine (markIntS_own g g n c L v h2 (by omega) h5).mono ?_
    rintro e v' ⟨rfl, o, hb, hs, hk⟩
    exact ⟨rfl, ⟨h1, marksI_len n, h3, .inr ⟨rfl, o⟩⟩, hb.os, hb.tape, hb.output, hb.size, fun i _ hi => hk i (fun e => hi (by rw [e]))⟩

theorem eqSame (a1 a2 : Option Addr) (n1 n2 c1 c2 : Nat) (L : List Int) (w : World) (h1 : IntAt w a1 n1 L) (h2 : IntAt w a2 n2 L) :
    Calls Tryd.prog 8 #[.slice a1 n1 c1, .slice a2 n2 c2] w fun e w' => e = .returned (.bool true) ∧ Below w.heap.size w w' := by
  refine (eqIntS_any a1 a2 n1 n2 c1 c2 L L w h1 h2).mono ?_
  rintro e w' ⟨rfl, m, rfl⟩
  exact ⟨by simp, ⟨rfl, rfl, rfl, Nat.le_refl _, fun _ _ => rfl⟩⟩
theorem heldG (ag : Option Addr) (n c : Nat) (w : World) (h : IntAt w ag n (marksI n)) :
    Calls Tryd.prog 12 #[.slice ag n c, .int .i64 1] w fun e w' => e = .returned (.int .i64 ((n : Int) + 1)) ∧ Below w.heap.size w w' := by
  refine (heldIntS_any ag n c w h).mono ?_
  rintro e w' ⟨rfl, m, rfl⟩
  exact ⟨rfl, ⟨rfl, rfl, rfl, Nat.le_refl _, fun _ _ => rfl⟩⟩

set_option maxHeartbeats 4000000 in
set_option maxRecDepth 100000 in
theorem walk (a : Option Addr) (n c : Nat) (st : Int) (xs : List Int) (w : World) (hA : n ≤ 1099511627776 → IntAt w a n xs) (hm : n ≤ 9223372036854775807) (hi : ∀ x ∈ xs, (Lit.int .i64 x).wf = true) (hN : Names w) :
    Calls Tryd.prog 3 #[RowsV a n c st] w fun e w' => e = .returned (.bool true) ∧ Below w.heap.size w w' := by
  by_cases hn : n ≤ 1048576
  case neg =>
    go_enter Tryd.func3, Tryd.ntmps3
    go_wp2_with fail
    refine (szRows_big a n c st _ hn hm).mono ?_
    rintro e w1 ⟨rfl, hb1⟩
    go_wp2
    go_ret
    exact ⟨rfl, ((Below.refl _ w).alloc (Nat.le_refl _) _).trans (hb1.mono (by simp))⟩
  obtain ⟨L, hL⟩ := tells xs st
  have HL : Hid (Tells xs st L) := hL
  have hA0 : Hid (IntAt w a n xs) := hA (by omega)
  have HI : Hid (∀ x ∈ xs, (Lit.int .i64 x).wf = true) := hi
  have HLn : Hid (xs.length = n) := hA0.out.1
  have HN : Hid (Names w) := hN
  have nlt := hN.lt
  -- the box of the argument, in every later world
  have box : ∀ {w' : World}, Below (w.heap.size + 1) (w.alloc (.cells #[.slice a n c, .int .i64 st] 24)) w' →
      w'.cell? ⟨w.heap.size, 0, none⟩ = some (.slice a n c) ∧ w'.cell? ⟨w.heap.size, 1, none⟩ = some (.int .i64 st) ∧ Below w.heap.size w w' ∧ IntAt w' a n xs ∧ Names w' := fun {w'} hb => by
    have h1 : Below w.heap.size w w' := ((Below.refl _ w).alloc (Nat.le_refl _) _).trans (hb.mono (Nat.le_succ _))
    exact ⟨by rw [hb.cell (by simp)]; simp, by rw [hb.cell (by simp)]; simp, h1, hA0.out.below h1 (Nat.le_refl _), hN.below h1 nlt⟩
  have BOX : Hid (∀ {w' : World}, Below (w.heap.size + 1) (w.alloc (.cells #[.slice a n c, .int .i64 st] 24)) w' →
      w'.cell? ⟨w.heap.size, 0, none⟩ = some (.slice a n c) ∧ w'.cell? ⟨w.heap.size, 1, none⟩ = some (.int .i64 st) ∧ Below w.heap.size w w' ∧ IntAt w' a n xs ∧ Names w') := box
  clear box hA hi hL hN
  go_enter Tryd.func3, Tryd.ntmps3
  go_wp2_with fail
  refine (szRows_small a n c st _ hn).mono ?_
  rintro e w1 ⟨⟨m, rfl, hm0⟩, hb1⟩
  simp only [World.size_alloc] at hb1
  have hs1 : w.heap.size + 1 ≤ w1.heap.size := by simpa using hb1.size
  obtain ⟨c0, c1, bw1, A1, N1⟩ := BOX.out hb1
  have HA1 : Hid (IntAt w1 a n xs) := A1
  clear A1 N1
  go_wp2_with fail
  refine (toRows_any a n c st xs _ HA1.out).mono ?_
  rintro e w2 ⟨rfl, own2, hb2⟩
  have hb02 := hb1.trans (hb2.mono hs1)
  clear hb1 hb2 c0 c1 bw1 HA1
  go_wp2_with fail
  refine (specWords _ n n st xs L _ (own_intAt own2 (by omega)) HL.out).mono ?_
  rintro e w3 ⟨⟨a3, n3, k3, rfl, A3⟩, hb3⟩
  have HA3 : Hid (IntAt w3 a3 n3 L) := A3
  have hs2 : w.heap.size + 1 ≤ w2.heap.size := by simpa using hb02.size
  have hb03 := hb02.trans (hb3.mono hs2)
  have hs3 : w.heap.size + 1 ≤ w3.heap.size := by simpa using hb03.size
  obtain ⟨c0, c1, bw3, B3, N3⟩ := BOX.out hb03
  have HB3 : Hid (IntAt w3 a n xs) := B3
  clear hb3 hb02 own2 A3 B3 N3 hs1 hs2
  go_wp2_with fail
  refine (toRows_any a n c st xs _ HB3.out).mono ?_
  rintro e w4 ⟨rfl, own4, hb4⟩
  have hb04 := hb03.trans (hb4.mono hs3)
  have hs4 : w.heap.size + 1 ≤ w4.heap.size := by simpa using hb04.size
  obtain ⟨h4, hh4⟩ : ∃ h4, h4 = w3.heap.size + 3 := ⟨_, rfl⟩
  rw [← hh4] at own4 ⊢
  have HH4 : Hid (h4 = w3.heap.size + 3) := hh4
  have lt4 := (own_base own4).2
  clear hh4 c0 c1 bw3 HB3
  go_wp2_with fail
  have hx4 : Below w4.heap.size w4 (w4.alloc (.cells #[.slice (some ⟨h4, 0, none⟩) n n, .int .i64 st] 27)) := (Below.refl _ w4).alloc (Nat.le_refl _) _
  refine (implWords _ n st xs L _ ((own_intAt own4 (by omega)).below hx4 (Nat.le_refl _)) HI.out ((BOX.out (hb04.trans (hx4.mono hs4))).2.2.2.2) HL.out).mono ?_
  rintro e w6 ⟨⟨ag, gn, gc, g, rfl, G6⟩, hb6⟩
  simp only [World.size_alloc] at hb6 G6
  have d0 : w6.cell? ⟨w4.heap.size, 0, none⟩ = some (.slice (some ⟨h4, 0, none⟩) n n) := by rw [hb6.cell (by simp)]; simp
  have d1 : w6.cell? ⟨w4.heap.size, 1, none⟩ = some (.int .i64 st) := by rw [hb6.cell (by simp)]; simp
  have hs6 : w4.heap.size + 1 ≤ w6.heap.size := by simpa using hb6.size
  have hb46 : Below w4.heap.size w4 w6 := hx4.trans (hb6.mono (Nat.le_succ _))
  have hb36 : Below w3.heap.size w3 w6 := hb4.trans (hb46.mono hb4.size)
  have HO6 : Hid (w6.ownsRow h4 3 1 (.slice (some ⟨h4, 0, none⟩) n n) n (xs.map I)) := owns_below own4 hb46 (Nat.le_refl _)
  have hs36 := hb36.size
  clear own4 hx4 hb6 hb46 hb04 hb4
  go_wp2_with fail
  refine (eqSame _ _ gn n3 gc k3 L _ G6.intAt (HA3.out.below hb36 (Nat.le_refl _))).mono ?_
  rintro e w7 ⟨rfl, hb7⟩
  have hs7 := hb7.size
  have G7 : Hid (OwnAt w7 (w4.heap.size + 1) ag gn gc g L) := G6.below hb7
  have HO7 : Hid (w7.ownsRow h4 3 1 (.slice (some ⟨h4, 0, none⟩) n n) n (xs.map I)) := owns_below HO6.out hb7 (Nat.le_refl _)
  have d70 : w7.cell? ⟨w4.heap.size, 0, none⟩ = some (.slice (some ⟨h4, 0, none⟩) n n) := (hb7.cell (p := ⟨w4.heap.size, 0, none⟩) (show w4.heap.size < w6.heap.size by omega)).trans d0
  have d71 : w7.cell? ⟨w4.heap.size, 1, none⟩ = some (.int .i64 st) := (hb7.cell (p := ⟨w4.heap.size, 1, none⟩) (show w4.heap.size < w6.heap.size by omega)).trans d1
  have hb37 : Below w3.heap.size w3 w7 := hb36.trans (hb7.mono hs36)
  obtain ⟨c0, c1, bw7, A7, N7⟩ := BOX.out (hb03.trans (hb37.mono hs3))
  have HA7 : Hid (IntAt w7 a n xs) := A7
  have ltg : w4.heap.size + 1 ≤ g := G6.1
  clear hb7 G6 HO6 d0 d1 hb36 A7 N7
  go_wp2_with fail
  go_region_with (first
    | (go_at_call 6; refine (toRows_any a n c st xs _ (HA7.out.below (Below.refl _ w7).drew (Nat.le_refl _))).mono ?_; rintro e w8 ⟨rfl, own8, hb8⟩
       have d80 : w8.cell? ⟨w4.heap.size, 0, none⟩ = some (.slice (some ⟨h4, 0, none⟩) n n) := (hb8.cell (show w4.heap.size < w7.heap.size by omega)).trans d70
       have d81 : w8.cell? ⟨w4.heap.size, 1, none⟩ = some (.int .i64 st) := (hb8.cell (show w4.heap.size < w7.heap.size by omega)).trans d71)
    | (go_at_call 9; refine (eqRows_same _ _ n n n n st xs _ (own_intAt (owns_below HO7.out ((Below.refl w7.heap.size w7).drew.trans hb8) (Nat.le_refl _)) (by omega)) (own_intAt own8 (by omega))).mono ?_; rintro e w9 ⟨rfl, hb9⟩))
  all_goals
    have hb78 : Below w7.heap.size w7 w8 := (Below.refl w7.heap.size w7).drew.trans hb8
    have hb79 : Below w7.heap.size w7 w9 := hb78.trans (hb9.mono hb78.size)
    have G9 : Hid (OwnAt w9 (w4.heap.size + 1) ag gn gc g L) := G7.out.below hb79
    have HO9 : Hid (w9.ownsRow h4 3 1 (.slice (some ⟨h4, 0, none⟩) n n) n (xs.map I)) := owns_below HO7.out hb79 (Nat.le_refl _)
    have d90 : w9.cell? ⟨w4.heap.size, 0, none⟩ = some (.slice (some ⟨h4, 0, none⟩) n n) := (hb79.cell (show w4.heap.size < w7.heap.size by omega)).trans d70
    have d91 : w9.cell? ⟨w4.heap.size, 1, none⟩ = some (.int .i64 st) := (hb79.cell (show w4.heap.size < w7.heap.size by omega)).trans d71
    have hb39 : Below w3.heap.size w3 w9 := hb37.trans (hb79.mono hb37.size)
    have hn0 : ¬ ((n : Int) + 1 < 0) := by omega
    have hgn0 : ¬ ((gn : Int) + 1 < 0) := by omega
    clear hb78 hb79 hb8 hb9 own8 d80 d81 d70 d71 G7 HO7 hb37 c0 c1 bw7 HA7
    go_wp2_with fail
    refine (markRows_own h4 h4 n n st xs _ HLn.out (by omega) HO9.out).mono ?_
    rintro e w10 ⟨rfl, own10, hs10, e1, e2, e3, ho10⟩
    have hg10 : w9.grownBy w10 (some h4) := ⟨e1, e2, e3, hs10, fun i hi hne => ho10 i hi (fun e => hne (by rw [e]))⟩
    have h4g : h4 ≠ g := by omega
    have h43 : w3.heap.size ≤ h4 := by have := HH4.out; omega
    have hg3 : w3.heap.size ≤ g := by omega
    have G10 : Hid (OwnAt w10 (w4.heap.size + 1) ag gn gc g L) := G9.out.kept hg10 (fun e => h4g (by cases e; rfl))
    have hb310 : Below w3.heap.size w3 w10 := hb39.grown hg10 hb39.size (fun k e => by cases e; exact h43)
    clear own10 hs10 e1 e2 e3 ho10 hg10 HO9 d90 d91 G9 hb39 h43
    go_wp2_with fail
    refine (eqSame _ _ gn n3 gc k3 L _ G10.out.intAt (HA3.out.below hb310 (Nat.le_refl _))).mono ?_
    rintro e w11 ⟨rfl, hb11⟩
    have G11 : Hid (OwnAt w11 (w4.heap.size + 1) ag gn gc g L) := G10.out.below hb11
    have hb311 : Below w3.heap.size w3 w11 := hb310.trans (hb11.mono hb310.size)
    clear hb11 G10 hb310
    go_wp2_with fail
    refine (markG _ ag gn gc g L _ G11.out).mono ?_
    rintro e w12 ⟨rfl, G12, hg12⟩
    have HG12 : Hid (OwnAt w12 (w4.heap.size + 1) ag gn gc g (marksI gn)) := G12
    have hb312 : Below w3.heap.size w3 w12 := hb311.grown hg12 hb311.size (fun k e => by cases e; exact hg3)
    clear G12 hg12 G11 hb311
    go_wp2_with fail
    refine (heldG ag gn gc _ HG12.out.intAt).mono ?_
    rintro e w13 ⟨rfl, hb13⟩
    have G13 : Hid (OwnAt w13 (w4.heap.size + 1) ag gn gc g (marksI gn)) := HG12.out.below hb13
    have hb313 : Below w3.heap.size w3 w13 := hb312.trans (hb13.mono hb312.size)
    obtain ⟨c0, c1, bw13, A13, N13⟩ := BOX.out (hb03.trans (hb313.mono hs3))
    have HA13 : Hid (IntAt w13 a n xs) := A13
    clear hb13 HG12 hb312 A13 N13
    go_wp2_with fail
    refine (toRows_any a n c st xs _ HA13.out).mono ?_
    rintro e w14 ⟨rfl, own14, hb14⟩
    have G14 : Hid (OwnAt w14 (w4.heap.size + 1) ag gn gc g (marksI gn)) := G13.out.below hb14
    have hb314 : Below w3.heap.size w3 w14 := hb313.trans (hb14.mono hb313.size)
    clear hb14 G13 hb313 c0 c1 bw13 HA13
    go_wp2_with fail
    refine (implWords _ n st xs L _ (own_intAt own14 (by omega)) HI.out ((BOX.out (hb03.trans (hb314.mono hs3))).2.2.2.2) HL.out).mono ?_
    rintro e w15 ⟨⟨ag2, gn2, gc2, g2, rfl, H15⟩, hb15⟩
    have HH15 : Hid (OwnAt w15 w14.heap.size ag2 gn2 gc2 g2 L) := H15
    have G15 : Hid (OwnAt w15 (w4.heap.size + 1) ag gn gc g (marksI gn)) := G14.out.below hb15
    have hb315 : Below w3.heap.size w3 w15 := hb314.trans (hb15.mono hb314.size)
    clear hb15 G14 hb314 own14 H15
    go_wp2_with fail
    refine (eqSame _ _ gn2 n3 gc2 k3 L _ HH15.out.intAt (HA3.out.below hb315 (Nat.le_refl _))).mono ?_
    rintro e w16 ⟨rfl, hb16⟩
    have G16 : Hid (OwnAt w16 (w4.heap.size + 1) ag gn gc g (marksI gn)) := G15.out.below hb16
    have hb316 : Below w3.heap.size w3 w16 := hb315.trans (hb16.mono hb315.size)
    clear hb16 G15 hb315
    go_wp2_with fail
    refine (heldG ag gn gc _ G16.out.intAt).mono ?_
    rintro e w17 ⟨rfl, hb17⟩
    have bw17 := (BOX.out (hb03.trans ((hb316.trans (hb17.mono hb316.size)).mono hs3))).2.2.1
    clear hb17 G16 hb316
    go_wp2
    go_ret
    exact ⟨rfl, bw17⟩

/-- The heap that the door's own run leaves meets the row's condition on the table. -/
theorem door_met (os : Os) (args : Array Value) : laidMetH Tryd.prog Rows.fnExactWordsOfRow.laid ((World.doorLaid Tryd.prog 64 os).forCall (fun _ _ => 0) ⟨#[], args, []⟩).memory :=
  laidMetH_of_parts3 (fuel := 8) (laidMet_of_run' 8 (by kernel_rfl) (by kernel_rfl)) (by kernel_rfl) (by kernel_rfl)

theorem of_laid {W : World} (h : laidMetH Tryd.prog Rows.fnExactWordsOfRow.laid W) : Names W := by
  rw [MakeChecks.laidMetH_plain _ _ _ (by kernel_rfl)] at h
  exact names_of_laid h

set_option maxRecDepth 100000 in
theorem lifted (os : Os) (started : os.Started) (H : Type) (enc : TypeId × Value → H) :
    ReturnsInHanded {} Tryd.checked os 3 .any (fun w args => (Rows.fnExactWordsOfSpec.pre enc Tryd.prog Tryd.f3 [] false w args ∧ laidMetH Tryd.prog Rows.fnExactWordsOfRow.laid w) ∧ sizedMet enc Tryd.prog Tryd.f3 (OpenSpec.ofChange Rows.fnExactWordsOfSpec) false w args)
      (Rows.fnExactWordsOfSpec.post enc Tryd.prog Tryd.f3 false true false false) := by
  refine returnsInHanded_of_change_and (C := Tryd.checked) (X := fun w _ => laidMetH Tryd.prog Rows.fnExactWordsOfRow.laid w) (fun _ _ _ hh h => h.of_heap hh) own started (by kernel_rfl) Tryd.func3
    (ChangeSpec.witness_shaped (enc := enc) (C := Tryd.checked) (os := os) (X := fun w _ => laidMetH Tryd.prog Rows.fnExactWordsOfRow.laid w) false (World.doorLaid Tryd.prog 64 os) #[.agg #[.slice none 0 0, .int .i64 0]] 8 rfl (World.shaped_of_RefB (by kernel_rfl) (by kernel_rfl)) (by kernel_rfl) (by kernel_rfl) (by kernel_rfl) (door_met os _)) ?_
  intro W base args ds gs before hval0 hW _ _ hL _
  have hval : ∀ (j : Nat) t v, Tryd.f3.params[j]? = some t → args[j]? = some v → Value.okWide Tryd.prog W .any base t v := hval0
  have hW' := hW
  obtain ⟨p, q, hA0, hV0, rfl, hfz, hnd⟩ := hW
  have hA : DataW.TrodAll enc Tryd.prog W 0 (fun _ => true) true Tryd.f3.params.toList args.toList ds p := hA0
  have hV : DataW.TrodVars enc Tryd.prog W (fun _ => true) ["loop.example/g00468/impl.wordNames"] gs q := hV0
  have hN := of_laid hL
  obtain rfl := vars_open hN hV
  rw [Tryd.params3] at hA hval
  obtain ⟨v0, d0, rfl, rfl, h0⟩ := trodAll_one hA
  have k0 := h0
  have lt0 : ∀ x ∈ p, x.block < W.heap.size := by obtain ⟨m, hm⟩ := k0; exact DataW.trod_lt m _ _ _ hm
  obtain ⟨a0, n, c, st, xs, rfl, hm, hi, hA1⟩ := open_rows (hval 0 24 v0 rfl rfl) h0
  clear hA0 hV0 hval0
  refine (walk a0 n c st xs W hA1 hm hi hN).mono fun e W' ⟨he, bel⟩ => ?_
  subst he
  exact ⟨_, rfl, _, _, _, [], _, _, hW', trodAll_mk1 (shut_bool Tryd.underlying4 _), (trodAll_cons_mk (Below.trod laidOut (by kernel_rfl) (of_decide_eq_true (by kernel_rfl)) k0 bel lt0) trodAll_mk0), vars_shut _ (hN.below bel hN.lt), bel.frame _, fun h => by cases h⟩

theorem row_holds : Rows.FnExactWordsOfSaid :=
  OpenClaim.holds_of_wide 3 Tryd.f3 rfl rfl rfl rfl rfl rfl rfl ⟨rfl, rfl, rfl, rfl, rfl⟩ rfl rfl rfl rfl rfl (by kernel_rfl) Tryd.func3 (by kernel_rfl)
    (of_decide_eq_true (by kernel_rfl)) (by unfold Func.isWrapper; first | (rw [if_pos (by decide +kernel)]; kernel_rfl) | (rw [if_neg (by decide +kernel)]; exact ⟨rfl, rfl⟩))
    (fun os started H enc _ => lifted os started H enc)
end fnExactWordsOf

theorem fnExactWordsOf_holds : Rows.FnExactWordsOfCardSaid :=
  Claim7.holds_tied_plain_at .later [] [.data] true Rows.fnExactWordsOfCard.stood.harness false
    fnExactWordsOf.row_holds (fun _ h => by cases h) (by kernel_rfl) (fun _ h => by cases h) fnExactWordsOf_row_tie rfl ⟨rfl, rfl⟩ (by kernel_rfl) rfl
    (fun f fn hf hfn => by
      obtain rfl : f = 3 := Option.some.inj ((show Tryd.prog.funcNamed Rows.fnExactWordsOfRow.func = some 3 by kernel_rfl).symm.trans hf) |>.symm
      obtain rfl : fn = Tryd.f3 := (Option.some.inj (Tryd.func3.symm.trans hfn)).symm
      exact ⟨by kernel_rfl, fun j t ht => by
        rw [Tryd.params3] at ht
        have hm : t ∈ [24] := by simpa using Array.mem_of_getElem? ht
        have hall : ([24].all fun u => !Tryd.prog.wantsStandIn u) = true := by kernel_rfl
        exact (show Tryd.prog.wantsStandIn t = false by simpa using List.all_eq_true.1 hall t hm)⟩)
    (by kernel_rfl)
#print axioms fnExactWordsOf_holds
end Go.Proofs.YtgndadlnhnkajaoDoor
