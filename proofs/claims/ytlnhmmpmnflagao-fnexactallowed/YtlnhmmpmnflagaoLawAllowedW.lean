/- If Allowed of the program answers of all rows, ops and results as the document says, then the statement of the law FnExactAllowed holds. -/
import Derived.Test.YtlnhmmpmnflagaoRows
import Derived.Test.YtlnhmmpmnflagaoLawRes
import Derived.Test.YtlnhmmpmnflagaoLawOp
import Derived.Test.YtlnhmmpmnflagaoSpecAllow
import Derived.WalkKit
import Derived.ProofKit
import Derived.OpenShut
import Derived.ChangeOld
import Derived.Below
import Derived.Lib.SmallJoins
import Derived.Deep.RegionWith
import Derived.Deep.RegionHeld3
namespace Go.Proofs.Ytlnhmmpmnflagao.fnExactAllowed
open Go.ChangeShapes Go.WideShapes Go.ChangeAt Go.RowKit Go.Joins

theorem own : ownKnob Try.prog.godebug = none := by kernel_rfl
theorem laidOut : laidOutB Try.prog = true := by kernel_rfl
/-- What is asked of the program's Allowed: of lists of the caller's own (capacity as long as the list). -/
def Asked : Prop := ∀ (p1 p2 n1 n2 : Nat) (st kind k v code : Int) (xs ys : List Int) (w : World), IntAt w (some ⟨p1, 0, none⟩) n1 xs → IntAt w (some ⟨p2, 0, none⟩) n2 ys → (∀ x ∈ xs, (Lit.int .i64 x).wf = true) → (∀ x ∈ ys, (Lit.int .i64 x).wf = true) →
  (Lit.int .i64 kind).wf = true → (Lit.int .i64 k).wf = true → (Lit.int .i64 v).wf = true →
  Calls Try.prog 18 #[RowsV (some ⟨p1, 0, none⟩) n1 n1 st, OpV kind k v, ResV code (some ⟨p2, 0, none⟩) n2 n2] w fun e w' => Says e (AllowM xs st kind k v code ys) ∧ Below w.heap.size w w'

/-- The boxes of the three arguments. -/
abbrev W0 (w : World) (st kind k v code : Int) (a1 a2 : Option Addr) (n1 n2 c1 c2 : Nat) : World := ((w.alloc (.cells #[.slice a1 n1 c1, .int .i64 st] 37)).alloc (.cells #[.int .i64 kind, .int .i64 k, .int .i64 v] 23)).alloc (.cells #[.int .i64 code, .slice a2 n2 c2] 30)
theorem boxes {w w' : World} {st kind k v code : Int} {a1 a2 : Option Addr} {n1 n2 c1 c2 : Nat} (hb : Below (w.heap.size + 1 + 1 + 1) (W0 w st kind k v code a1 a2 n1 n2 c1 c2) w') :
    (w'.cell? ⟨w.heap.size, 0, none⟩ = some (.slice a1 n1 c1) ∧ w'.cell? ⟨w.heap.size, 1, none⟩ = some (.int .i64 st) ∧ w'.cell? ⟨w.heap.size + 1, 0, none⟩ = some (.int .i64 kind) ∧ w'.cell? ⟨w.heap.size + 1, 1, none⟩ = some (.int .i64 k) ∧ w'.cell? ⟨w.heap.size + 1, 2, none⟩ = some (.int .i64 v) ∧ w'.cell? ⟨w.heap.size + 1 + 1, 0, none⟩ = some (.int .i64 code) ∧ w'.cell? ⟨w.heap.size + 1 + 1, 1, none⟩ = some (.slice a2 n2 c2)) ∧ Below w.heap.size w w' := by
  have h := args_at w _ _ _ _ _ _ w' hb
  exact ⟨⟨h.1 0 _ rfl, h.1 1 _ rfl, h.2.1 0 _ rfl, h.2.1 1 _ rfl, h.2.1 2 _ rfl, h.2.2 0 _ rfl, h.2.2 1 _ rfl⟩, ((((Below.refl _ w).alloc (Nat.le_refl _) _).alloc (by simp) _).alloc (by simp; omega) _).trans (hb.mono (by omega))⟩

set_option maxHeartbeats 2000000 in
set_option maxRecDepth 100000 in
theorem walk (hI : Asked) (a1 a2 : Option Addr) (n1 n2 c1 c2 : Nat) (st kind k v code : Int) (xs ys : List Int) (w : World) (hA : n1 ≤ 1099511627776 → IntAt w a1 n1 xs) (hB : n2 ≤ 1099511627776 → IntAt w a2 n2 ys)
    (hm1 : n1 ≤ 9223372036854775807) (hm2 : n2 ≤ 9223372036854775807) (hx : ∀ x ∈ xs, (Lit.int .i64 x).wf = true) (hy : ∀ x ∈ ys, (Lit.int .i64 x).wf = true) (hw : (Lit.int .i64 kind).wf = true ∧ (Lit.int .i64 k).wf = true ∧ (Lit.int .i64 v).wf = true) :
    Calls Try.prog 5 #[RowsV a1 n1 c1 st, OpV kind k v, ResV code a2 n2 c2] w fun e w' => e = .returned (.bool true) ∧ Below w.heap.size w w' := by
  have HI : Hid Asked := hI
  have HW : Hid ((Lit.int .i64 kind).wf = true ∧ (Lit.int .i64 k).wf = true ∧ (Lit.int .i64 v).wf = true) := hw
  clear hI hw
  have HBX : Hid (∀ {w' : World}, Below (w.heap.size + 1 + 1 + 1) (W0 w st kind k v code a1 a2 n1 n2 c1 c2) w' → (w'.cell? ⟨w.heap.size, 0, none⟩ = some (.slice a1 n1 c1) ∧ w'.cell? ⟨w.heap.size, 1, none⟩ = some (.int .i64 st) ∧ w'.cell? ⟨w.heap.size + 1, 0, none⟩ = some (.int .i64 kind) ∧ w'.cell? ⟨w.heap.size + 1, 1, none⟩ = some (.int .i64 k) ∧ w'.cell? ⟨w.heap.size + 1, 2, none⟩ = some (.int .i64 v) ∧ w'.cell? ⟨w.heap.size + 1 + 1, 0, none⟩ = some (.int .i64 code) ∧ w'.cell? ⟨w.heap.size + 1 + 1, 1, none⟩ = some (.slice a2 n2 c2)) ∧ Below w.heap.size w w') := fun {w'} hb => boxes hb
  by_cases hn1 : n1 ≤ 1048576
  case neg =>
    go_enter Try.func5, Try.ntmps5
    go_wp2_with fail
    refine (szRows_big a1 n1 c1 st _ hn1 hm1).mono ?_
    rintro e w1 ⟨rfl, hb1⟩
    simp only [World.size_alloc] at hb1
    have hall := (HBX.out hb1).2
    go_wp2
    go_ret
    exact ⟨rfl, hall⟩
  have hA0 : Hid (IntAt w a1 n1 xs) := hA (by omega)
  clear hA
  by_cases hn2 : (n2 : Int) ≤ 1048576 - (n1 : Int)
  case neg =>
    go_enter Try.func5, Try.ntmps5
    go_wp2_with fail
    refine (szRows_at a1 n1 c1 st _ hn1).mono ?_
    rintro e w1 ⟨rfl, hb1⟩
    simp only [World.size_alloc] at hb1
    obtain ⟨⟨d0, d1, d2, d3, d4, d5, d6⟩, _⟩ := HBX.out hb1
    have hs1 : w.heap.size + 1 + 1 + 1 ≤ w1.heap.size := by simpa using hb1.size
    have h0 : ¬ (1048576 - (n1 : Int) < 0) := by omega
    go_wp2_with fail
    refine (szRes_big a2 n2 c2 code _ _ (by omega) (by omega) (by omega) hm2).mono ?_
    rintro e w2 ⟨rfl, hb2⟩
    have hall := (HBX.out (hb1.trans (hb2.mono hs1))).2
    go_wp2
    go_ret
    exact ⟨rfl, hall⟩
  have hB0 : Hid (IntAt w a2 n2 ys) := hB (by omega)
  clear hB
  have HX : Hid (∀ x ∈ xs, (Lit.int .i64 x).wf = true) := hx
  have HY : Hid (∀ x ∈ ys, (Lit.int .i64 x).wf = true) := hy
  clear hx hy
  have h0 : ¬ (1048576 - (n1 : Int) < 0) := by omega
  have h1 : ¬ (1048576 - (n1 : Int) - (n2 : Int) < 0) := by omega
  go_enter Try.func5, Try.ntmps5
  go_wp2_with fail
  refine (szRows_at a1 n1 c1 st _ hn1).mono ?_
  rintro e w1 ⟨rfl, hb1⟩
  simp only [World.size_alloc] at hb1
  obtain ⟨⟨d0, d1, d2, d3, d4, d5, d6⟩, _⟩ := HBX.out hb1
  have hs1 : w.heap.size + 1 + 1 + 1 ≤ w1.heap.size := by simpa using hb1.size
  go_wp2_with fail
  refine (szRes_fits a2 n2 c2 code _ _ (by omega) (by omega) (by omega)).mono ?_
  rintro e w2 ⟨rfl, hb2⟩
  have hb02 := hb1.trans (hb2.mono hs1)
  have hs2 : w.heap.size + 1 + 1 + 1 ≤ w2.heap.size := by simpa using hb02.size
  clear hb1 hb2 hs1 d0 d1 d2 d3 d4 d5 d6
  obtain ⟨⟨d0, d1, d2, d3, d4, d5, d6⟩, bw2⟩ := HBX.out hb02
  go_wp2_with fail
  go_region_held3 (fun w' => (w'.cell? ⟨w.heap.size, 0, none⟩ = some (.slice a1 n1 c1) ∧ w'.cell? ⟨w.heap.size, 1, none⟩ = some (.int .i64 st) ∧ w'.cell? ⟨w.heap.size + 1, 0, none⟩ = some (.int .i64 kind) ∧ w'.cell? ⟨w.heap.size + 1, 1, none⟩ = some (.int .i64 k) ∧ w'.cell? ⟨w.heap.size + 1, 2, none⟩ = some (.int .i64 v) ∧ w'.cell? ⟨w.heap.size + 1 + 1, 0, none⟩ = some (.int .i64 code) ∧ w'.cell? ⟨w.heap.size + 1 + 1, 1, none⟩ = some (.slice a2 n2 c2)))
    (first | (exact (HBX.out hb03).1) | (exact (HBX.out hb03o).1) | (exact (HBX.out hb04).1) | (exact (HBX.out hb05).1) | go_keep)
    (first
    | (go_at_call 17
       refine (toRows_g a1 n1 c1 st xs _ (hA0.out.below bw2.drew (Nat.le_refl _))).mono ?_
       rintro e w3 ⟨q1, rfl, _, own3, hb3⟩
       have hb03 := hb02.drew.trans (hb3.mono hs2)
       have hs3 : w.heap.size + 1 + 1 + 1 ≤ w3.heap.size := by simpa using hb03.size)
    | (go_at_call 8
       refine (toOp_any kind k v _).mono ?_
       rintro e w3o ⟨rfl, hb3o⟩
       have hb03o := hb03.trans (hb3o.mono hs3)
       have hs3o : w.heap.size + 1 + 1 + 1 ≤ w3o.heap.size := by simpa using hb03o.size
       have own3o := owns_below own3 hb3o (Nat.le_refl _))
    | (go_at_call 12
       refine (toRes_g a2 n2 c2 code ys _ (hB0.out.below (HBX.out hb03o).2 (Nat.le_refl _))).mono ?_
       rintro e w4 ⟨q2, rfl, _, own4, hb4⟩
       have hb04 := hb03o.trans (hb4.mono hs3o)
       have hs4 : w.heap.size + 1 + 1 + 1 ≤ w4.heap.size := by simpa using hb04.size
       have own34 := owns_below own3o hb4 (Nat.le_refl _))
    | (go_at_call 16
       refine (specAllowed_any _ _ n1 n1 n2 n2 st kind k v code xs ys _ (own_intAt own34 (by omega)) (own_intAt own4 (by omega))).mono ?_
       rintro e w5 ⟨⟨B, rfl, hok⟩, hb5⟩
       have hb05 := hb04.trans (hb5.mono hs4)
       have hs5 : w.heap.size + 1 + 1 + 1 ≤ w5.heap.size := by simpa using hb05.size))
  have HB : Hid (B = true ↔ AllowM xs st kind k v code ys) := hok
  clear hb02 hb3 hb03 hb3o hb03o hb4 hb04 hb5 hs2 hs3 hs3o hs4 own3 own3o own34 own4 bw2 d0 d1 d2 d3 d4 d5 d6 hok
  obtain ⟨⟨d0, d1, d2, d3, d4, d5, d6⟩, bw5⟩ := HBX.out hb05
  go_wp2_with fail
  refine (toRows_g a1 n1 c1 st xs _ (hA0.out.below bw5 (Nat.le_refl _))).mono ?_
  rintro e w6 ⟨g1, rfl, hg1, own6, hb6⟩
  have hb06 := (hb05.trans (hb6.mono hs5)).alloc (by have := hb6.size; omega) (.cells #[.slice (some ⟨g1, 0, none⟩) n1 n1, .int .i64 st] 40)
  have hs6 : w.heap.size + 1 + 1 + 1 ≤ w6.heap.size := by have := hb6.size; omega
  have O6 : Hid ((w6.alloc (.cells #[.slice (some ⟨g1, 0, none⟩) n1 n1, .int .i64 st] 40)).ownsRow g1 3 1 (.slice (some ⟨g1, 0, none⟩) n1 n1) n1 (xs.map I)) := own6.alloc _
  clear hb05 hb6 d0 d1 d2 d3 d4 d5 d6 bw5 own6
  obtain ⟨⟨d0, d1, d2, d3, d4, d5, d6⟩, bw6⟩ := HBX.out hb06
  go_wp2_with fail
  refine (toRes_g a2 n2 c2 code ys _ (hB0.out.below bw6 (Nat.le_refl _))).mono ?_
  rintro e w7 ⟨g2, rfl, hg2, own7, hb7⟩
  simp only [World.size_alloc] at hb7 hg2
  have hs7 : w6.heap.size + 1 ≤ w7.heap.size := by simpa using hb7.size
  have hb07 := (hb06.trans (hb7.mono (by omega))).alloc (by omega) (.cells #[.int .i64 code, .slice (some ⟨g2, 0, none⟩) n2 n2] 33)
  have hb67 := hb7.alloc (by omega) (.cells #[.int .i64 code, .slice (some ⟨g2, 0, none⟩) n2 n2] 33)
  have O67 : Hid ((w7.alloc (.cells #[.int .i64 code, .slice (some ⟨g2, 0, none⟩) n2 n2] 33)).ownsRow g1 3 1 (.slice (some ⟨g1, 0, none⟩) n1 n1) n1 (xs.map I)) := owns_below O6.out hb67 (by simp)
  have O7 : Hid ((w7.alloc (.cells #[.int .i64 code, .slice (some ⟨g2, 0, none⟩) n2 n2] 33)).ownsRow g2 3 1 (.slice (some ⟨g2, 0, none⟩) n2 n2) n2 (ys.map I)) := own7.alloc _
  have e0 : (w7.alloc (.cells #[.int .i64 code, .slice (some ⟨g2, 0, none⟩) n2 n2] 33)).cell? ⟨w6.heap.size, 0, none⟩ = some (.slice (some ⟨g1, 0, none⟩) n1 n1) := by rw [hb67.cell (by simp)]; simp
  have e1 : (w7.alloc (.cells #[.int .i64 code, .slice (some ⟨g2, 0, none⟩) n2 n2] 33)).cell? ⟨w6.heap.size, 1, none⟩ = some (.int .i64 st) := by rw [hb67.cell (by simp)]; simp
  clear hb06 hb7 d0 d1 d2 d3 d4 d5 d6 bw6 own7 hb67 O6
  have ALL : Hid (∀ {w' : World}, Below (w7.heap.size + 1) (w7.alloc (.cells #[.int .i64 code, .slice (some ⟨g2, 0, none⟩) n2 n2] 33)) w' → (w'.cell? ⟨w.heap.size, 0, none⟩ = some (.slice a1 n1 c1) ∧ w'.cell? ⟨w.heap.size, 1, none⟩ = some (.int .i64 st) ∧ w'.cell? ⟨w.heap.size + 1, 0, none⟩ = some (.int .i64 kind) ∧ w'.cell? ⟨w.heap.size + 1, 1, none⟩ = some (.int .i64 k) ∧ w'.cell? ⟨w.heap.size + 1, 2, none⟩ = some (.int .i64 v) ∧ w'.cell? ⟨w.heap.size + 1 + 1, 0, none⟩ = some (.int .i64 code) ∧ w'.cell? ⟨w.heap.size + 1 + 1, 1, none⟩ = some (.slice a2 n2 c2) ∧ w'.cell? ⟨w6.heap.size, 0, none⟩ = some (.slice (some ⟨g1, 0, none⟩) n1 n1) ∧ w'.cell? ⟨w6.heap.size, 1, none⟩ = some (.int .i64 st) ∧ w'.cell? ⟨w7.heap.size, 0, none⟩ = some (.int .i64 code) ∧ w'.cell? ⟨w7.heap.size, 1, none⟩ = some (.slice (some ⟨g2, 0, none⟩) n2 n2)) ∧ w7.heap.size + 1 ≤ w'.heap.size ∧ Below w.heap.size w w' ∧ IntAt w' (some ⟨g1, 0, none⟩) n1 xs ∧ IntAt w' (some ⟨g2, 0, none⟩) n2 ys ∧ IntAt w' a1 n1 xs ∧ IntAt w' a2 n2 ys) := fun {w'} hb => by
    obtain ⟨⟨q0, q1, q2, q3, q4, q5, q6⟩, bw⟩ := HBX.out (hb07.trans (hb.mono (by omega)))
    exact ⟨⟨q0, q1, q2, q3, q4, q5, q6, (hb.cell (show w6.heap.size < w7.heap.size + 1 by omega)).trans e0, (hb.cell (show w6.heap.size < w7.heap.size + 1 by omega)).trans e1, by rw [hb.cell (by simp)]; simp, by rw [hb.cell (by simp)]; simp⟩, by simpa using hb.size, bw,
      (own_intAt O67.out (by omega)).below hb (by simp), (own_intAt O7.out (by omega)).below hb (by simp), hA0.out.below bw (Nat.le_refl _), hB0.out.below bw (Nat.le_refl _)⟩
  obtain ⟨⟨d0, d1, d2, d3, d4, d5, d6, d7, d8, d9, d10⟩, hs70, bw7, X7, Y7, A7, B7⟩ := ALL.out (Below.refl _ (w7.alloc (.cells #[.int .i64 code, .slice (some ⟨g2, 0, none⟩) n2 n2] 33)))
  clear hb07 e0 e1 O67 O7 X7 Y7 A7 B7
  go_wp2_with fail
  go_region_held3 (fun w' => (w'.cell? ⟨w.heap.size, 0, none⟩ = some (.slice a1 n1 c1) ∧ w'.cell? ⟨w.heap.size, 1, none⟩ = some (.int .i64 st) ∧ w'.cell? ⟨w.heap.size + 1, 0, none⟩ = some (.int .i64 kind) ∧ w'.cell? ⟨w.heap.size + 1, 1, none⟩ = some (.int .i64 k) ∧ w'.cell? ⟨w.heap.size + 1, 2, none⟩ = some (.int .i64 v) ∧ w'.cell? ⟨w.heap.size + 1 + 1, 0, none⟩ = some (.int .i64 code) ∧ w'.cell? ⟨w.heap.size + 1 + 1, 1, none⟩ = some (.slice a2 n2 c2) ∧ w'.cell? ⟨w6.heap.size, 0, none⟩ = some (.slice (some ⟨g1, 0, none⟩) n1 n1) ∧ w'.cell? ⟨w6.heap.size, 1, none⟩ = some (.int .i64 st) ∧ w'.cell? ⟨w7.heap.size, 0, none⟩ = some (.int .i64 code) ∧ w'.cell? ⟨w7.heap.size, 1, none⟩ = some (.slice (some ⟨g2, 0, none⟩) n2 n2)))
    (first | (exact (ALL.out hb8o).1) | (exact (ALL.out hb8).1) | go_keep)
    (first
    | (go_at_call 8
       refine (toOp_any kind k v _).mono ?_
       rintro e w8o ⟨rfl, hb8o'⟩
       have hb8o := (Below.refl (w7.heap.size + 1) _).drew.trans (hb8o'.mono (by simp)))
    | (go_at_call 18
       refine (HI.out g1 g2 n1 n2 st kind k v code xs ys _ (ALL.out hb8o).2.2.2.1 (ALL.out hb8o).2.2.2.2.1 HX.out HY.out HW.out.1 HW.out.2.1 HW.out.2.2).mono ?_
       rintro e w8 ⟨⟨B2, rfl, hok2⟩, hb8'⟩
       have hb8 := hb8o.trans (hb8'.mono (ALL.out hb8o).2.1)))
  obtain rfl : B2 = B := by
    have h := hok2.trans HB.out.symm
    cases B <;> cases B2 <;> simp_all
  clear d0 d1 d2 d3 d4 d5 d6 d7 d8 d9 d10 hs70 bw7 hb8o hb8o' hb8' hok2 HB HX HY HI HW
  obtain ⟨⟨d0, d1, d2, d3, d4, d5, d6, d7, d8, d9, d10⟩, hs8, bw8, X8, Y8, A8, B8⟩ := ALL.out hb8
  have HX8 : Hid (IntAt w8 a1 n1 xs) := A8
  clear X8 Y8 A8 B8
  have hBB : (B2 != B2) = false := by simp
  go_wp2_with fail
  go_region_held3 (fun w' => (w'.cell? ⟨w.heap.size, 0, none⟩ = some (.slice a1 n1 c1) ∧ w'.cell? ⟨w.heap.size, 1, none⟩ = some (.int .i64 st) ∧ w'.cell? ⟨w.heap.size + 1, 0, none⟩ = some (.int .i64 kind) ∧ w'.cell? ⟨w.heap.size + 1, 1, none⟩ = some (.int .i64 k) ∧ w'.cell? ⟨w.heap.size + 1, 2, none⟩ = some (.int .i64 v) ∧ w'.cell? ⟨w.heap.size + 1 + 1, 0, none⟩ = some (.int .i64 code) ∧ w'.cell? ⟨w.heap.size + 1 + 1, 1, none⟩ = some (.slice a2 n2 c2) ∧ w'.cell? ⟨w6.heap.size, 0, none⟩ = some (.slice (some ⟨g1, 0, none⟩) n1 n1) ∧ w'.cell? ⟨w6.heap.size, 1, none⟩ = some (.int .i64 st) ∧ w'.cell? ⟨w7.heap.size, 0, none⟩ = some (.int .i64 code) ∧ w'.cell? ⟨w7.heap.size, 1, none⟩ = some (.slice (some ⟨g2, 0, none⟩) n2 n2)))
    (first | (exact (ALL.out hb9).1) | (exact (ALL.out hb10).1) | go_keep)
    (first
    | (go_at_call 17
       refine (toRows_g a1 n1 c1 st xs _ (HX8.out.below (Below.refl _ w8).drew (Nat.le_refl _))).mono ?_
       rintro e w9 ⟨g3, rfl, _, own9, hb9'⟩
       have hb9 := hb8.drew.trans (hb9'.mono hs8))
    | (go_at_call 19
       refine (eqRows_same _ _ n1 n1 n1 n1 st xs _ (ALL.out hb9).2.2.2.1 (own_intAt own9 (by omega))).mono ?_
       rintro e w10 ⟨rfl, hb10'⟩
       have hb10 := hb9.trans (hb10'.mono (ALL.out hb9).2.1)))
  clear d0 d1 d2 d3 d4 d5 d6 d7 d8 d9 d10 hb8 hs8 bw8 HX8 hb9 hb9' hb10' own9
  obtain ⟨⟨d0, d1, d2, d3, d4, d5, d6, d7, d8, d9, d10⟩, hs10, bw10, _, _, _, B10⟩ := ALL.out hb10
  have HX10 : Hid (IntAt w10 a2 n2 ys) := B10
  clear B10
  go_wp2_with fail
  go_region_held3 (fun w' => (w'.cell? ⟨w.heap.size, 0, none⟩ = some (.slice a1 n1 c1) ∧ w'.cell? ⟨w.heap.size, 1, none⟩ = some (.int .i64 st) ∧ w'.cell? ⟨w.heap.size + 1, 0, none⟩ = some (.int .i64 kind) ∧ w'.cell? ⟨w.heap.size + 1, 1, none⟩ = some (.int .i64 k) ∧ w'.cell? ⟨w.heap.size + 1, 2, none⟩ = some (.int .i64 v) ∧ w'.cell? ⟨w.heap.size + 1 + 1, 0, none⟩ = some (.int .i64 code) ∧ w'.cell? ⟨w.heap.size + 1 + 1, 1, none⟩ = some (.slice a2 n2 c2) ∧ w'.cell? ⟨w6.heap.size, 0, none⟩ = some (.slice (some ⟨g1, 0, none⟩) n1 n1) ∧ w'.cell? ⟨w6.heap.size, 1, none⟩ = some (.int .i64 st) ∧ w'.cell? ⟨w7.heap.size, 0, none⟩ = some (.int .i64 code) ∧ w'.cell? ⟨w7.heap.size, 1, none⟩ = some (.slice (some ⟨g2, 0, none⟩) n2 n2)))
    (first | (exact (ALL.out hb11).1) | (exact (ALL.out hb12).1) | go_keep)
    (first
    | (go_at_call 12
       refine (toRes_g a2 n2 c2 code ys _ (HX10.out.below (Below.refl _ w10).drew (Nat.le_refl _))).mono ?_
       rintro e w11 ⟨g4, rfl, _, own11, hb11'⟩
       have hb11 := hb10.drew.trans (hb11'.mono hs10))
    | (go_at_call 14
       refine (eqRes_same _ _ n2 n2 n2 n2 code ys _ (ALL.out hb11).2.2.2.2.1 (own_intAt own11 (by omega))).mono ?_
       rintro e w12 ⟨rfl, hb12'⟩
       have hb12 := hb11.trans (hb12'.mono (ALL.out hb11).2.1)))
  have hall := (ALL.out hb12).2.2.1
  clear d0 d1 d2 d3 d4 d5 d6 d7 d8 d9 d10 hs10 bw10 HX10 hb10 hb11 hb11' hb12 hb12' own11 ALL
  go_wp2
  go_ret
  exact ⟨rfl, hall⟩

set_option maxRecDepth 100000 in
theorem lifted (hI : Asked) (os : Os) (started : os.Started) (H : Type) (enc : TypeId × Value → H) :
    ReturnsInHanded {} Try.checked os 5 .any (Rows.fnExactAllowedSpec.pre6 enc Try.prog Try.f5 Rows.fnExactAllowedRow.domain false) (Rows.fnExactAllowedSpec.post enc Try.prog Try.f5 false true false false) := by
  refine returnsInHanded_of_change (C := Try.checked) own started (by kernel_rfl) Try.func5
    (ChangeSpec.witness6 (enc := enc) (C := Try.checked) false ⟨#[], #[.agg #[.slice none 0 0, .int .i64 0], .agg #[.int .i64 0, .int .i64 0, .int .i64 0], .agg #[.int .i64 0, .slice none 0 0]], []⟩ 8 (by kernel_rfl) (by kernel_rfl) (by kernel_rfl) (by kernel_rfl)) ?_
  intro W base args ds gs before hval0 hW hcnd _
  have hval : ∀ (j : Nat) t v, Try.f5.params[j]? = some t → args[j]? = some v → Value.okWide Try.prog W .any base t v := hval0
  have hW' := hW
  obtain ⟨p, q, hA0, hV, rfl, hfz, hnd⟩ := hW
  have hA : DataW.TrodAll enc Try.prog W 0 (fun _ => true) true Try.f5.params.toList args.toList ds p := hA0
  rw [Try.params5] at hA hval
  obtain ⟨v0, v1, v2, d0, d1, d2, p0, p1, p2, rfl, rfl, rfl, h0, h1, h2⟩ := trodAll_three hA
  obtain ⟨rfl, rfl⟩ := trodVars_none hV
  have k0 := h0
  have k1 := h1
  have k2 := h2
  have lt0 : ∀ x ∈ p0, x.block < W.heap.size := by obtain ⟨m, hm⟩ := k0; exact DataW.trod_lt m _ _ _ hm
  have lt1 : ∀ x ∈ p1, x.block < W.heap.size := by obtain ⟨m, hm⟩ := k1; exact DataW.trod_lt m _ _ _ hm
  have lt2 : ∀ x ∈ p2, x.block < W.heap.size := by obtain ⟨m, hm⟩ := k2; exact DataW.trod_lt m _ _ _ hm
  obtain ⟨a0, n0, c0, s0, xs, rfl, hm0, hi0, hL0⟩ := open_rows (hval 0 37 v0 rfl rfl) h0
  obtain ⟨kind, k, v, rfl, hw0, hw1, hw2⟩ := open_op (hval 1 23 v1 rfl rfl) h1
  obtain ⟨a1, n1, c1, s1, ys, rfl, hm1, hi1, hL1⟩ := open_res (hval 2 30 v2 rfl rfl) h2
  refine (walk hI a0 a1 n0 n1 c0 c1 s0 kind k v s1 xs ys W hL0 hL1 hm0 hm1 hi0 hi1 ⟨hw0, hw1, hw2⟩).mono fun e W' ⟨he, bel⟩ => ?_
  subst he
  exact ⟨_, rfl, _, _, _, [], _, [], hW', trodAll_mk1 (shut_bool Try.underlying4 _), (trodAll_cons_mk (Below.trod laidOut (by kernel_rfl) (of_decide_eq_true (by kernel_rfl)) k0 bel lt0) (trodAll_cons_mk (Below.trod laidOut (by kernel_rfl) (of_decide_eq_true (by kernel_rfl)) k1 bel lt1) (trodAll_cons_mk (Below.trod laidOut (by kernel_rfl) (of_decide_eq_true (by kernel_rfl)) k2 bel lt2) trodAll_mk0))), rfl, bel.frame _, fun h => by cases h⟩

theorem over (hI : Asked) : Rows.FnExactAllowedSaid :=
  OpenClaim.holds_of_wide 5 Try.f5 rfl rfl rfl rfl rfl rfl rfl ⟨rfl, rfl, rfl, rfl, rfl⟩ rfl rfl rfl rfl rfl (by kernel_rfl) Try.func5 (by kernel_rfl)
    (of_decide_eq_true (by kernel_rfl)) (by unfold Func.isWrapper; first | (rw [if_pos (by decide +kernel)]; kernel_rfl) | (rw [if_neg (by decide +kernel)]; exact ⟨rfl, rfl⟩))
    (fun os started H enc _ => lifted hI os started H enc)
end Go.Proofs.Ytlnhmmpmnflagao.fnExactAllowed
