/- If ResSame of the program answers of every two results as the document says, then the statement of the law FnExactResSame holds. -/
import Derived.Test.YtlnhmmpmnflagaoRows
import Derived.Test.YtlnhmmpmnflagaoLawRes
import Derived.WalkKit
import Derived.ProofKit
import Derived.OpenShut
import Derived.ChangeOld
import Derived.Below
import Derived.Lib.SmallJoins
import Derived.Deep.RegionWith
import Derived.Deep.RegionHeld3
namespace Go.Proofs.Ytlnhmmpmnflagao.fnExactResSame
open Go.ChangeShapes Go.WideShapes Go.ChangeAt Go.RowKit Go.Joins

theorem own : ownKnob Try.prog.godebug = none := by kernel_rfl
theorem laidOut : laidOutB Try.prog = true := by kernel_rfl
/-- What is asked of the program's ResSame: of lists of the caller's own (capacity as long as the list). -/
def Asked : Prop := ∀ (p1 p2 n1 n2 : Nat) (k1 k2 : Int) (xs ys : List Int) (w : World), IntAt w (some ⟨p1, 0, none⟩) n1 xs → IntAt w (some ⟨p2, 0, none⟩) n2 ys → (∀ x ∈ xs, (Lit.int .i64 x).wf = true) → (∀ x ∈ ys, (Lit.int .i64 x).wf = true) →
  Calls Try.prog 13 #[ResV k1 (some ⟨p1, 0, none⟩) n1 n1, ResV k2 (some ⟨p2, 0, none⟩) n2 n2] w fun e w' => e = .returned (.bool (decide (k1 = k2 ∧ xs = ys))) ∧ Below w.heap.size w w'

/-- The boxes of the two arguments. -/
abbrev W0 (w : World) (k1 k2 : Int) (a1 a2 : Option Addr) (n1 n2 c1 c2 : Nat) : World := (w.alloc (.cells #[.int .i64 k1, .slice a1 n1 c1] 30)).alloc (.cells #[.int .i64 k2, .slice a2 n2 c2] 30)
theorem boxes {w w' : World} {k1 k2 : Int} {a1 a2 : Option Addr} {n1 n2 c1 c2 : Nat} (hb : Below (w.heap.size + 1 + 1) (W0 w k1 k2 a1 a2 n1 n2 c1 c2) w') :
    (w'.cell? ⟨w.heap.size, 0, none⟩ = some (.int .i64 k1) ∧ w'.cell? ⟨w.heap.size, 1, none⟩ = some (.slice a1 n1 c1) ∧ w'.cell? ⟨w.heap.size + 1, 0, none⟩ = some (.int .i64 k2) ∧ w'.cell? ⟨w.heap.size + 1, 1, none⟩ = some (.slice a2 n2 c2)) ∧ Below w.heap.size w w' := by
  refine ⟨⟨?_, ?_, ?_, ?_⟩, (((Below.refl _ w).alloc (Nat.le_refl _) _).alloc (by simp) _).trans (hb.mono (by omega))⟩
  · rw [hb.cell (show w.heap.size < w.heap.size + 1 + 1 by omega)]; simp [World.cell?_alloc_past, World.cell?_alloc_at]
  · rw [hb.cell (show w.heap.size < w.heap.size + 1 + 1 by omega)]; simp [World.cell?_alloc_past, World.cell?_alloc_at]
  · rw [hb.cell (show w.heap.size + 1 < w.heap.size + 1 + 1 by omega)]; simp [World.cell?_alloc_at]
  · rw [hb.cell (show w.heap.size + 1 < w.heap.size + 1 + 1 by omega)]; simp [World.cell?_alloc_at]

set_option maxHeartbeats 2000000 in
set_option maxRecDepth 100000 in
theorem walk (hI : Asked) (a1 a2 : Option Addr) (n1 n2 c1 c2 : Nat) (k1 k2 : Int) (xs ys : List Int) (w : World) (hA : n1 ≤ 1099511627776 → IntAt w a1 n1 xs) (hB : n2 ≤ 1099511627776 → IntAt w a2 n2 ys)
    (hm1 : n1 ≤ 9223372036854775807) (hm2 : n2 ≤ 9223372036854775807) (hx : ∀ x ∈ xs, (Lit.int .i64 x).wf = true) (hy : ∀ x ∈ ys, (Lit.int .i64 x).wf = true) :
    Calls Try.prog 4 #[ResV k1 a1 n1 c1, ResV k2 a2 n2 c2] w fun e w' => e = .returned (.bool true) ∧ Below w.heap.size w w' := by
  have HI : Hid Asked := hI
  clear hI
  have HBX : Hid (∀ {w' : World}, Below (w.heap.size + 1 + 1) (W0 w k1 k2 a1 a2 n1 n2 c1 c2) w' → (w'.cell? ⟨w.heap.size, 0, none⟩ = some (.int .i64 k1) ∧ w'.cell? ⟨w.heap.size, 1, none⟩ = some (.slice a1 n1 c1) ∧ w'.cell? ⟨w.heap.size + 1, 0, none⟩ = some (.int .i64 k2) ∧ w'.cell? ⟨w.heap.size + 1, 1, none⟩ = some (.slice a2 n2 c2)) ∧ Below w.heap.size w w') := fun {w'} hb => boxes hb
  by_cases hn1 : n1 ≤ 1048576
  case neg =>
    go_enter Try.func4, Try.ntmps4
    go_wp2_with fail
    refine (szRes_big a1 n1 c1 k1 _ _ (by decide) (by decide) (by omega) hm1).mono ?_
    rintro e w1 ⟨rfl, hb1⟩
    simp only [World.size_alloc] at hb1
    have hall := (HBX.out hb1).2
    go_wp2
    go_ret
    exact ⟨rfl, hall⟩
  have hA0 : Hid (IntAt w a1 n1 xs) := hA (by omega)
  clear hA
  by_cases hn2 : (n2 : Int) ≤ 1048576 - (n1 : Int)
  case neg =>
    go_enter Try.func4, Try.ntmps4
    go_wp2_with fail
    refine (szRes_fits a1 n1 c1 k1 _ _ (by decide) (by decide) (by omega)).mono ?_
    rintro e w1 ⟨rfl, hb1⟩
    simp only [World.size_alloc] at hb1
    obtain ⟨⟨d0, d1, d2, d3⟩, _⟩ := HBX.out hb1
    have hs1 : w.heap.size + 1 + 1 ≤ w1.heap.size := by simpa using hb1.size
    have h0 : ¬ (1048576 - (n1 : Int) < 0) := by omega
    go_wp2_with fail
    refine (szRes_big a2 n2 c2 k2 _ _ (by omega) (by omega) (by omega) hm2).mono ?_
    rintro e w2 ⟨rfl, hb2⟩
    have hall := (HBX.out (hb1.trans (hb2.mono hs1))).2
    go_wp2
    go_ret
    exact ⟨rfl, hall⟩
  have hB0 : Hid (IntAt w a2 n2 ys) := hB (by omega)
  clear hB
  have HX : Hid (∀ x ∈ xs, (Lit.int .i64 x).wf = true) := hx
  have HY : Hid (∀ x ∈ ys, (Lit.int .i64 x).wf = true) := hy
  clear hx hy
  obtain ⟨B, hB⟩ : ∃ B, decide (k1 = k2 ∧ xs = ys) = B := ⟨_, rfl⟩
  have HB : Hid (decide (k1 = k2 ∧ xs = ys) = B) := hB
  clear hB
  have h0 : ¬ (1048576 - (n1 : Int) < 0) := by omega
  have h1 : ¬ (1048576 - (n1 : Int) - (n2 : Int) < 0) := by omega
  go_enter Try.func4, Try.ntmps4
  go_wp2_with fail
  refine (szRes_fits a1 n1 c1 k1 _ _ (by decide) (by decide) (by omega)).mono ?_
  rintro e w1 ⟨rfl, hb1⟩
  simp only [World.size_alloc] at hb1
  obtain ⟨⟨d0, d1, d2, d3⟩, _⟩ := HBX.out hb1
  have hs1 : w.heap.size + 1 + 1 ≤ w1.heap.size := by simpa using hb1.size
  go_wp2_with fail
  refine (szRes_fits a2 n2 c2 k2 _ _ (by omega) (by omega) (by omega)).mono ?_
  rintro e w2 ⟨rfl, hb2⟩
  have hb02 := hb1.trans (hb2.mono hs1)
  have hs2 : w.heap.size + 1 + 1 ≤ w2.heap.size := by simpa using hb02.size
  clear hb1 hb2 hs1 d0 d1 d2 d3
  obtain ⟨⟨d0, d1, d2, d3⟩, bw2⟩ := HBX.out hb02
  go_wp2_with fail
  go_region_held3 (fun w' => w'.cell? ⟨w.heap.size, 0, none⟩ = some (.int .i64 k1) ∧ w'.cell? ⟨w.heap.size, 1, none⟩ = some (.slice a1 n1 c1) ∧ w'.cell? ⟨w.heap.size + 1, 0, none⟩ = some (.int .i64 k2) ∧ w'.cell? ⟨w.heap.size + 1, 1, none⟩ = some (.slice a2 n2 c2))
    (first | (exact (HBX.out hb03).1) | (exact (HBX.out hb04).1) | (exact (HBX.out hb05).1) | go_keep)
    (first
    | (go_at_call_of 12 (Value.slice a1 n1 c1)
       refine (toRes_any a1 n1 c1 k1 xs _ (hA0.out.below bw2.drew (Nat.le_refl _))).mono ?_
       rintro e w3 ⟨rfl, own3, hb3⟩
       have hb03 := hb02.drew.trans (hb3.mono hs2)
       have hs3 : w.heap.size + 1 + 1 ≤ w3.heap.size := by simpa using hb03.size
       have bw3 := (HBX.out hb03).2)
    | (go_at_call_of 12 (Value.slice a2 n2 c2)
       refine (toRes_any a2 n2 c2 k2 ys _ (hB0.out.below bw3 (Nat.le_refl _))).mono ?_
       rintro e w4 ⟨rfl, own4, hb4⟩
       have hb04 := hb03.trans (hb4.mono hs3)
       have hs4 : w.heap.size + 1 + 1 ≤ w4.heap.size := by simpa using hb04.size
       have own34 := owns_below own3 hb4 (Nat.le_refl _))
    | (go_at_call 11
       refine (specResSame_any _ _ n1 n2 n1 n2 k1 k2 xs ys _ (own_intAt own34 (by omega)) (own_intAt own4 (by omega))).mono ?_
       rintro e w5 ⟨rfl, hb5⟩
       rw [HB.out]
       have hb05 := hb04.trans (hb5.mono hs4)
       have hs5 : w.heap.size + 1 + 1 ≤ w5.heap.size := by simpa using hb05.size))
  clear hb02 hb3 hb03 hb4 hb04 hb5 hs2 hs3 hs4 own3 own34 own4 bw3 bw2 d0 d1 d2 d3
  obtain ⟨⟨d0, d1, d2, d3⟩, bw5⟩ := HBX.out hb05
  go_wp2_with fail
  refine (toRes_g a1 n1 c1 k1 xs _ (hA0.out.below bw5 (Nat.le_refl _))).mono ?_
  rintro e w6 ⟨g1, rfl, hg1, own6, hb6⟩
  have hb06 := (hb05.trans (hb6.mono hs5)).alloc (by have := hb6.size; omega) (.cells #[.int .i64 k1, .slice (some ⟨g1, 0, none⟩) n1 n1] 33)
  have hs6 : w.heap.size + 1 + 1 ≤ w6.heap.size := by have := hb6.size; omega
  have O6 : Hid ((w6.alloc (.cells #[.int .i64 k1, .slice (some ⟨g1, 0, none⟩) n1 n1] 33)).ownsRow g1 3 1 (.slice (some ⟨g1, 0, none⟩) n1 n1) n1 (xs.map I)) := own6.alloc _
  clear hb05 hb6 d0 d1 d2 d3 bw5 own6
  obtain ⟨⟨d0, d1, d2, d3⟩, bw6⟩ := HBX.out hb06
  go_wp2_with fail
  refine (toRes_g a2 n2 c2 k2 ys _ (hB0.out.below bw6 (Nat.le_refl _))).mono ?_
  rintro e w7 ⟨g2, rfl, hg2, own7, hb7⟩
  simp only [World.size_alloc] at hb7 hg2
  have hs7 : w6.heap.size + 1 ≤ w7.heap.size := by simpa using hb7.size
  have hb07 := (hb06.trans (hb7.mono (by omega))).alloc (by omega) (.cells #[.int .i64 k2, .slice (some ⟨g2, 0, none⟩) n2 n2] 33)
  have hb67 := hb7.alloc (by omega) (.cells #[.int .i64 k2, .slice (some ⟨g2, 0, none⟩) n2 n2] 33)
  have O67 : Hid ((w7.alloc (.cells #[.int .i64 k2, .slice (some ⟨g2, 0, none⟩) n2 n2] 33)).ownsRow g1 3 1 (.slice (some ⟨g1, 0, none⟩) n1 n1) n1 (xs.map I)) := owns_below O6.out hb67 (by simp)
  have O7 : Hid ((w7.alloc (.cells #[.int .i64 k2, .slice (some ⟨g2, 0, none⟩) n2 n2] 33)).ownsRow g2 3 1 (.slice (some ⟨g2, 0, none⟩) n2 n2) n2 (ys.map I)) := own7.alloc _
  have e0 : (w7.alloc (.cells #[.int .i64 k2, .slice (some ⟨g2, 0, none⟩) n2 n2] 33)).cell? ⟨w6.heap.size, 0, none⟩ = some (.int .i64 k1) := by rw [hb67.cell (by simp)]; simp
  have e1 : (w7.alloc (.cells #[.int .i64 k2, .slice (some ⟨g2, 0, none⟩) n2 n2] 33)).cell? ⟨w6.heap.size, 1, none⟩ = some (.slice (some ⟨g1, 0, none⟩) n1 n1) := by rw [hb67.cell (by simp)]; simp
  clear hb06 hb7 d0 d1 d2 d3 bw6 own7 hb67 O6
  go_wp2_with fail
  refine (HI.out g1 g2 n1 n2 k1 k2 xs ys _ (own_intAt O67.out (by omega)) (own_intAt O7.out (by omega)) HX.out HY.out).mono ?_
  rintro e w8 ⟨rfl, hb8⟩
  rw [HB.out]
  simp only [World.size_alloc] at hb8
  have ALL : Hid (∀ {w' : World}, Below (w7.heap.size + 1) (w7.alloc (.cells #[.int .i64 k2, .slice (some ⟨g2, 0, none⟩) n2 n2] 33)) w' → (w'.cell? ⟨w.heap.size, 0, none⟩ = some (.int .i64 k1) ∧ w'.cell? ⟨w.heap.size, 1, none⟩ = some (.slice a1 n1 c1) ∧ w'.cell? ⟨w.heap.size + 1, 0, none⟩ = some (.int .i64 k2) ∧ w'.cell? ⟨w.heap.size + 1, 1, none⟩ = some (.slice a2 n2 c2) ∧ w'.cell? ⟨w6.heap.size, 0, none⟩ = some (.int .i64 k1) ∧ w'.cell? ⟨w6.heap.size, 1, none⟩ = some (.slice (some ⟨g1, 0, none⟩) n1 n1) ∧ w'.cell? ⟨w7.heap.size, 0, none⟩ = some (.int .i64 k2) ∧ w'.cell? ⟨w7.heap.size, 1, none⟩ = some (.slice (some ⟨g2, 0, none⟩) n2 n2)) ∧ w7.heap.size + 1 ≤ w'.heap.size ∧ Below w.heap.size w w' ∧ IntAt w' (some ⟨g1, 0, none⟩) n1 xs ∧ IntAt w' (some ⟨g2, 0, none⟩) n2 ys ∧ IntAt w' a1 n1 xs ∧ IntAt w' a2 n2 ys) := fun {w'} hb => by
    obtain ⟨⟨q0, q1, q2, q3⟩, bw⟩ := HBX.out (hb07.trans (hb.mono (by omega)))
    exact ⟨⟨q0, q1, q2, q3, (hb.cell (show w6.heap.size < w7.heap.size + 1 by omega)).trans e0, (hb.cell (show w6.heap.size < w7.heap.size + 1 by omega)).trans e1, by rw [hb.cell (by simp)]; simp, by rw [hb.cell (by simp)]; simp⟩, by simpa using hb.size, bw,
      (own_intAt O67.out (by omega)).below hb (by simp), (own_intAt O7.out (by omega)).below hb (by simp), hA0.out.below bw (Nat.le_refl _), hB0.out.below bw (Nat.le_refl _)⟩
  obtain ⟨⟨d0, d1, d2, d3, d4, d5, d6, d7⟩, hs8, bw8, X8, Y8, A8, B8⟩ := ALL.out hb8
  have HX8 : Hid (IntAt w8 (some ⟨g1, 0, none⟩) n1 xs ∧ IntAt w8 (some ⟨g2, 0, none⟩) n2 ys ∧ IntAt w8 a1 n1 xs ∧ IntAt w8 a2 n2 ys) := ⟨X8, Y8, A8, B8⟩
  clear hb07 e0 e1 O67 O7 HX HY HI X8 Y8 A8 B8
  have hBB : (B != B) = false := by simp
  go_wp2_with fail
  go_region_held3 (fun w' => (w'.cell? ⟨w.heap.size, 0, none⟩ = some (.int .i64 k1) ∧ w'.cell? ⟨w.heap.size, 1, none⟩ = some (.slice a1 n1 c1) ∧ w'.cell? ⟨w.heap.size + 1, 0, none⟩ = some (.int .i64 k2) ∧ w'.cell? ⟨w.heap.size + 1, 1, none⟩ = some (.slice a2 n2 c2) ∧ w'.cell? ⟨w6.heap.size, 0, none⟩ = some (.int .i64 k1) ∧ w'.cell? ⟨w6.heap.size, 1, none⟩ = some (.slice (some ⟨g1, 0, none⟩) n1 n1) ∧ w'.cell? ⟨w7.heap.size, 0, none⟩ = some (.int .i64 k2) ∧ w'.cell? ⟨w7.heap.size, 1, none⟩ = some (.slice (some ⟨g2, 0, none⟩) n2 n2)))
    (first | (exact (ALL.out hb9).1) | (exact (ALL.out hb10).1) | go_keep)
    (first
    | (go_at_call 12
       refine (toRes_g a1 n1 c1 k1 xs _ (HX8.out.2.2.1.below (Below.refl _ w8).drew (Nat.le_refl _))).mono ?_
       rintro e w9 ⟨g3, rfl, _, own9, hb9'⟩
       have hb9 := hb8.drew.trans (hb9'.mono hs8))
    | (go_at_call 14
       refine (eqRes_same _ _ n1 n1 n1 n1 k1 xs _ (ALL.out hb9).2.2.2.1 (own_intAt own9 (by omega))).mono ?_
       rintro e w10 ⟨rfl, hb10'⟩
       have hb10 := hb9.trans (hb10'.mono (ALL.out hb9).2.1)))
  clear d0 d1 d2 d3 d4 d5 d6 d7 hb8 hs8 bw8 HX8 hb9 hb9' hb10' own9
  obtain ⟨⟨d0, d1, d2, d3, d4, d5, d6, d7⟩, hs10, bw10, _, _, _, B10⟩ := ALL.out hb10
  have HX10 : Hid (IntAt w10 a2 n2 ys) := B10
  clear B10
  go_wp2_with fail
  go_region_held3 (fun w' => (w'.cell? ⟨w.heap.size, 0, none⟩ = some (.int .i64 k1) ∧ w'.cell? ⟨w.heap.size, 1, none⟩ = some (.slice a1 n1 c1) ∧ w'.cell? ⟨w.heap.size + 1, 0, none⟩ = some (.int .i64 k2) ∧ w'.cell? ⟨w.heap.size + 1, 1, none⟩ = some (.slice a2 n2 c2) ∧ w'.cell? ⟨w6.heap.size, 0, none⟩ = some (.int .i64 k1) ∧ w'.cell? ⟨w6.heap.size, 1, none⟩ = some (.slice (some ⟨g1, 0, none⟩) n1 n1) ∧ w'.cell? ⟨w7.heap.size, 0, none⟩ = some (.int .i64 k2) ∧ w'.cell? ⟨w7.heap.size, 1, none⟩ = some (.slice (some ⟨g2, 0, none⟩) n2 n2)))
    (first | (exact (ALL.out hb11).1) | (exact (ALL.out hb12).1) | go_keep)
    (first
    | (go_at_call 12
       refine (toRes_g a2 n2 c2 k2 ys _ (HX10.out.below (Below.refl _ w10).drew (Nat.le_refl _))).mono ?_
       rintro e w11 ⟨g4, rfl, _, own11, hb11'⟩
       have hb11 := hb10.drew.trans (hb11'.mono hs10))
    | (go_at_call 14
       refine (eqRes_same _ _ n2 n2 n2 n2 k2 ys _ (ALL.out hb11).2.2.2.2.1 (own_intAt own11 (by omega))).mono ?_
       rintro e w12 ⟨rfl, hb12'⟩
       have hb12 := hb11.trans (hb12'.mono (ALL.out hb11).2.1)))
  have hall := (ALL.out hb12).2.2.1
  clear d0 d1 d2 d3 d4 d5 d6 d7 hs10 bw10 HX10 hb10 hb11 hb11' hb12 hb12' own11 ALL
  go_wp2
  go_ret
  exact ⟨rfl, hall⟩

set_option maxRecDepth 100000 in
theorem lifted (hI : Asked) (os : Os) (started : os.Started) (H : Type) (enc : TypeId × Value → H) :
    ReturnsInHanded {} Try.checked os 4 .any (Rows.fnExactResSameSpec.pre6 enc Try.prog Try.f4 Rows.fnExactResSameRow.domain false) (Rows.fnExactResSameSpec.post enc Try.prog Try.f4 false true false false) := by
  refine returnsInHanded_of_change (C := Try.checked) own started (by kernel_rfl) Try.func4
    (ChangeSpec.witness6 (enc := enc) (C := Try.checked) false ⟨#[], #[.agg #[.int .i64 0, .slice none 0 0], .agg #[.int .i64 0, .slice none 0 0]], []⟩ 8 (by kernel_rfl) (by kernel_rfl) (by kernel_rfl) (by kernel_rfl)) ?_
  intro W base args ds gs before hval0 hW hcnd _
  have hval : ∀ (j : Nat) t v, Try.f4.params[j]? = some t → args[j]? = some v → Value.okWide Try.prog W .any base t v := hval0
  have hW' := hW
  obtain ⟨p, q, hA0, hV, rfl, hfz, hnd⟩ := hW
  have hA : DataW.TrodAll enc Try.prog W 0 (fun _ => true) true Try.f4.params.toList args.toList ds p := hA0
  rw [Try.params4] at hA hval
  obtain ⟨v0, v1, d0, d1, p0, p1, rfl, rfl, rfl, h0, h1⟩ := trodAll_two hA
  obtain ⟨rfl, rfl⟩ := trodVars_none hV
  have k0 := h0
  have k1 := h1
  have lt0 : ∀ x ∈ p0, x.block < W.heap.size := by obtain ⟨m, hm⟩ := k0; exact DataW.trod_lt m _ _ _ hm
  have lt1 : ∀ x ∈ p1, x.block < W.heap.size := by obtain ⟨m, hm⟩ := k1; exact DataW.trod_lt m _ _ _ hm
  obtain ⟨a0, n0, c0, s0, xs, rfl, hm0, hi0, hL0⟩ := open_res (hval 0 30 v0 rfl rfl) h0
  obtain ⟨a1, n1, c1, s1, ys, rfl, hm1, hi1, hL1⟩ := open_res (hval 1 30 v1 rfl rfl) h1
  refine (walk hI a0 a1 n0 n1 c0 c1 s0 s1 xs ys W hL0 hL1 hm0 hm1 hi0 hi1).mono fun e W' ⟨he, bel⟩ => ?_
  subst he
  exact ⟨_, rfl, _, _, _, [], _, [], hW', trodAll_mk1 (shut_bool Try.underlying4 _), (trodAll_cons_mk (Below.trod laidOut (by kernel_rfl) (of_decide_eq_true (by kernel_rfl)) k0 bel lt0) (trodAll_cons_mk (Below.trod laidOut (by kernel_rfl) (of_decide_eq_true (by kernel_rfl)) k1 bel lt1) trodAll_mk0)), rfl, bel.frame _, fun h => by cases h⟩

theorem over (hI : Asked) : Rows.FnExactResSameSaid :=
  OpenClaim.holds_of_wide 4 Try.f4 rfl rfl rfl rfl rfl rfl rfl ⟨rfl, rfl, rfl, rfl, rfl⟩ rfl rfl rfl rfl rfl (by kernel_rfl) Try.func4 (by kernel_rfl)
    (of_decide_eq_true (by kernel_rfl)) (by unfold Func.isWrapper; first | (rw [if_pos (by decide +kernel)]; kernel_rfl) | (rw [if_neg (by decide +kernel)]; exact ⟨rfl, rfl⟩))
    (fun os started H enc _ => lifted hI os started H enc)
end Go.Proofs.Ytlnhmmpmnflagao.fnExactResSame
