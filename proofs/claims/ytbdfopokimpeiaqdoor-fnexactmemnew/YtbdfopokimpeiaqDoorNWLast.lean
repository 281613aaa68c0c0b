/- MemNew of the program answers as the specification's MemNew at all rows and numbers of threads, with memory of its own, and leaves the rows as they were: the card of the law FnExactMemNew holds, with no condition beyond the program's own table of names as its text lays it. -/
import Derived.Test.YtbdfopokimpeiaqDoorRows
import Derived.Test.YtbdfopokimpeiaqDoorTie
import Derived.Test.YtbdfopokimpeiaqDoorCards
import Derived.Test.YtbdfopokimpeiaqDoorNW05
import Derived.WalkKit
import Derived.ProofKit
import Derived.OpenShut
import Derived.ChangeOld
import Derived.Below
import Derived.LaidMore
import Derived.Stop.Joined
import Derived.Stop.LaidErr
import Derived.MakeChecks
import Derived.SevenTiedAt
import Derived.Lib.SmallJoins
import Derived.Deep.RegionHeld3
namespace Go.Proofs.YtbdfopokimpeiaqDoor
open Go.ChangeShapes Go.WideShapes Go.ChangeAt Go.RowKit Go.Joins

namespace fnExactMemNew
theorem own : ownKnob Tryd.prog.godebug = none := by kernel_rfl
theorem laidOut : laidOutB Tryd.prog = true := by kernel_rfl

theorem eqMemV (F : Nat → Value) (ga ha wa da : Option Addr) (gc hc wc dc m n : Nat) (fs : List Int) (ds : List DK) (base : Nat) (w : World) (h0 : F 0 = .slice ga m gc) (h1 : F 1 = .slice ha n hc) (hm : m ≤ 20) (hn : n ≤ 4) (hs : Small n ds) (h : MemO w base F m fs n ds) (t1 : TripAt w wa m fs) (d1 : DescAt w da n ds) :
    Calls Tryd.prog 8 #[MemV ga m gc ha n hc, MemV wa m wc da n dc] w fun e w' => e = .returned (.bool true) ∧ Below w.heap.size w w' := by
  obtain ⟨ga', gc', ha', hc', _, e0, e1, t, d, _⟩ := h.open (by omega) (by omega) hs
  rw [h0] at e0
  rw [h1] at e1
  cases e0
  cases e1
  exact eqMem_same ga wa ha da m n gc wc hc dc fs ds w t t1 d d1
theorem heldMemV (F : Nat → Value) (ga ha : Option Addr) (gc hc m n : Nat) (ds : List DK) (base : Nat) (w : World) (h0 : F 0 = .slice ga m gc) (h1 : F 1 = .slice ha n hc) (hm : m ≤ 20) (hn : n ≤ 4) (hs : Small n ds) (h : MemO w base F m (asc 1 (m * 3)) n (markDs (1 + (m : Int) * 3) ds n)) :
    Calls Tryd.prog 12 #[MemV ga m gc ha n hc, .int .i64 1] w fun e w' => e = .returned (.int .i64 (1 + (m : Int) * 3 + (offN ds n : Int))) ∧ Below w.heap.size w w' := by
  obtain ⟨ga', gc', ha', hc', _, e0, e1, t, d, _⟩ := h.open (by omega) (by omega) (markDs_small hs)
  rw [h0] at e0
  rw [h1] at e1
  cases e0
  cases e1
  exact heldMem_o ga m gc ha n hc ds 1 w (by omega) (by omega) hs t d
theorem markMemV (F : Nat → Value) (ga ha : Option Addr) (gc hc m n : Nat) (fs : List Int) (ds : List DK) (base : Nat) (w : World) (h0 : F 0 = .slice ga m gc) (h1 : F 1 = .slice ha n hc) (hm : m ≤ 20) (hn : n ≤ 4) (hs : Small n ds) (h : MemO w base F m fs n ds) :
    Calls Tryd.prog 11 #[MemV ga m gc ha n hc, .int .i64 1] w fun e w' => e = .returned (.int .i64 (1 + (m : Int) * 3 + (offN ds n : Int))) ∧ MemO w' base F m (asc 1 (m * 3)) n (markDs (1 + (m : Int) * 3) ds n) ∧ Below (min base w.heap.size) w w' ∧ ∀ b, b < w.heap.size → (∀ a, a < 2 + 2 * n → (F a).ownBlock ≠ some b) → w'.heap[b]? = w.heap[b]? := by
  have e : MemV ga m gc ha n hc = MemF F := by rw [MemF, h0, h1]
  rw [e]
  exact markMem_o base F m fs n ds 1 w (by omega) (by omega) (by omega) (by omega) hs h

set_option maxHeartbeats 8000000 in
set_option maxRecDepth 100000 in
theorem walk (a : Option Addr) (n c : Nat) (st t : Int) (xs : List Int) (w : World) (hA : n ≤ 1099511627776 → IntAt w a n xs) (hm : n ≤ 9223372036854775807) (hi : ∀ x ∈ xs, (Lit.int .i64 x).wf = true) (hN : Names w) :
    Calls Tryd.prog 3 #[RowsV a n c st, .int .i64 t] w fun e w' => e = .returned (.bool true) ∧ Below w.heap.size w w' := by
  by_cases hn : n ≤ 1048576
  case neg =>
    go_enter Tryd.func3, Tryd.ntmps3
    go_wp2_with fail
    refine (szRows_big a n c st _ hn hm).mono ?_
    rintro e w1 ⟨rfl, hb1⟩
    go_wp2
    go_ret
    exact ⟨rfl, ((Below.refl _ w).alloc (Nat.le_refl _) _).trans (hb1.mono (by simp))⟩
  obtain ⟨L, hL⟩ := tellsL xs st
  have HL : Hid (TellsL xs st L) := hL
  have hA0 : Hid (IntAt w a n xs) := hA (by omega)
  have HI : Hid (∀ x ∈ xs, (Lit.int .i64 x).wf = true) := hi
  have HLn : Hid (xs.length = n) := hA0.out.1
  have nlt := hN.lt
  obtain ⟨W, hW⟩ : ∃ W, w.alloc (.cells #[.slice a n c, .int .i64 st] 24) = W := ⟨_, rfl⟩
  have hb0 : Below w.heap.size w W := by rw [← hW]; exact (Below.refl _ w).alloc (Nat.le_refl _) _
  have X0 : Hid (Box W w.heap.size #[.slice a n c, .int .i64 st] 24) := by rw [← hW]; exact box_of w _ _
  have HB0 : Hid (Below w.heap.size w W) := hb0
  have HA0 : Hid (IntAt W a n xs) := hA0.out.below hb0 (Nat.le_refl _)
  have HN0 : Hid (Names W) := hN.below hb0 nlt
  have HW : Hid (w.alloc (.cells #[.slice a n c, .int .i64 st] 24) = W) := hW
  clear hA hi hL hN hW hb0 hA0
  go_enter Tryd.func3, Tryd.ntmps3
  go_wp2_with fail
  rw [HW.out]
  refine (szRows_small a n c st _ hn).mono ?_
  rintro e w1 ⟨⟨m0, rfl, hm0⟩, hb1⟩
  have HB1 : Hid (Below W.heap.size W w1) := hb1
  obtain ⟨c0, c1, _, _⟩ := (X0.out.below hb1 X0.out.lt).two
  clear hb1
  go_wp2_with fail
  refine (toRows_any a n c st xs _ (HA0.out.below HB1.out (Nat.le_refl _))).mono ?_
  rintro e w2 ⟨rfl, own2, hb2⟩
  have HB2 : Hid (Below W.heap.size W w2) := HB1.out.trans (hb2.mono HB1.out.size)
  clear hb2 c0 c1
  go_wp2_with fail
  refine (specMemNew_any _ n n st t xs L _ (own_intAt own2 (by omega)) HL.out).mono ?_
  rintro e w3 ⟨⟨wa, wc, da, dc, m, fs, nn, ds, ok, rfl, says, t3, d3⟩, hb3⟩
  have SAYS : Hid (NewSays L t m fs nn ds ok) := says
  obtain ⟨hm20, hn4, hsm, hdl⟩ := says.small HL.out.len
  have SM : Hid (Small nn ds) := hsm
  have hoff := offN_le hsm nn (Nat.le_refl _)
  have hb03 : Below W.heap.size W w3 := HB2.out.trans (hb3.mono HB2.out.size)
  obtain ⟨W3, hW3⟩ : ∃ W3, w3.alloc (.cells #[.slice wa m wc, .slice da nn dc] 29) = W3 := ⟨_, rfl⟩
  have hx3 : Below w3.heap.size w3 W3 := by rw [← hW3]; exact (Below.refl _ _).alloc (Nat.le_refl _) _
  have HB3 : Hid (Below W.heap.size W W3) := hb03.trans (hx3.mono hb03.size)
  have X6 : Hid (Box W3 w3.heap.size #[.slice wa m wc, .slice da nn dc] 29) := by rw [← hW3]; exact box_of w3 _ _
  have T3 : Hid (TripAt W3 wa m fs ∧ DescAt W3 da nn ds) := ⟨t3.below hx3 (Nat.le_refl _), d3.below hx3 (Nat.le_refl _)⟩
  have HW3 : Hid (w3.alloc (.cells #[.slice wa m wc, .slice da nn dc] 29) = W3) := hW3
  obtain ⟨c0, c1, _, _⟩ := (X0.out.below hb03 X0.out.lt).two
  have l3 := (X0.out.below hb03 X0.out.lt).lt
  obtain ⟨b6, hb6⟩ : ∃ b, w3.heap.size = b := ⟨_, rfl⟩
  have hs3 : W3.heap.size = b6 + 1 := by rw [← hW3, ← hb6]; simp
  rw [hb6] at X6 l3
  clear hb3 hb03 own2 says t3 d3 hx3 hW3 hsm
  go_wp2_with fail
  rw [HW3.out]
  refine (toRows_any a n c st xs _ (HA0.out.below HB3.out (Nat.le_refl _))).mono ?_
  rintro e w4 ⟨rfl, own4, hb4⟩
  obtain ⟨h4, hh4⟩ : ∃ h4, W3.heap.size + 3 = h4 := ⟨_, rfl⟩
  rw [hh4] at own4 ⊢
  have hh43 : W3.heap.size ≤ h4 := by omega
  have hb04 : Below W.heap.size W w4 := HB3.out.trans (hb4.mono HB3.out.size)
  obtain ⟨W4, hW4⟩ : ∃ W4, w4.alloc (.cells #[.slice (some ⟨h4, 0, none⟩) n n, .int .i64 st] 32) = W4 := ⟨_, rfl⟩
  have hx4 : Below w4.heap.size w4 W4 := by rw [← hW4]; exact (Below.refl _ _).alloc (Nat.le_refl _) _
  have X8 : Hid (Box W4 w4.heap.size #[.slice (some ⟨h4, 0, none⟩) n n, .int .i64 st] 32) := by rw [← hW4]; exact box_of w4 _ _
  have HO4 : Hid (W4.ownsRow h4 3 1 (.slice (some ⟨h4, 0, none⟩) n n) n (xs.map I)) := owns_below own4 hx4 (Nat.le_refl _)
  have HB34 : Hid (Below W3.heap.size W3 W4) := hb4.trans (hx4.mono hb4.size)
  have HB4 : Hid (Below W.heap.size W W4) := hb04.trans (hx4.mono hb04.size)
  have HW4 : Hid (w4.alloc (.cells #[.slice (some ⟨h4, 0, none⟩) n n, .int .i64 st] 32) = W4) := hW4
  have h4l : h4 < w4.heap.size := (own4.lt h4 rfl).2
  obtain ⟨b8, hb8⟩ : ∃ b, w4.heap.size = b := ⟨_, rfl⟩
  have hs4 : W4.heap.size = b8 + 1 := by rw [← hW4, ← hb8]; simp
  rw [hb8] at X8 h4l
  have HH : Hid (W3.heap.size + 3 = h4 ∧ w3.heap.size = b6 ∧ w4.heap.size = b8) := ⟨hh4, hb6, hb8⟩
  clear hb4 own4 hb04 hx4 hW4 c0 c1 hh4 hb6 hb8 l3
  go_wp2_with fail
  rw [HW4.out]
  (try rw [HH.out.2.2])
  refine (implMemNew_any _ n st t xs L _ (own_intAt HO4.out (by omega)) HI.out (HN0.out.below HB4.out HN0.out.lt) HL.out).mono ?_
  rintro e w6 ⟨⟨F, m', fs', nn', ds', ok', rfl, says', mo6⟩, hb6'⟩
  obtain ⟨rfl, rfl, rfl, rfl, rfl⟩ := newSays_one SAYS.out says'
  have MO6 : Hid (MemO w6 W4.heap.size F m' fs' nn' ds') := mo6
  obtain ⟨ga, gc, e0, _⟩ := owns_slice mo6.words
  obtain ⟨gvs, gd, _⟩ := mo6.descO.descs
  obtain ⟨ha, hc, e1, _⟩ := owns_slice gd
  have HF0 : Hid (F 0 = .slice ga m' gc) := e0
  have HF1 : Hid (F 1 = .slice ha nn' hc) := e1
  obtain ⟨W6, hW6⟩ : ∃ W6, w6.alloc (.cells #[.slice ga m' gc, .slice ha nn' hc] 29) = W6 := ⟨_, rfl⟩
  have hx6 : Below w6.heap.size w6 W6 := by rw [← hW6]; exact (Below.refl _ _).alloc (Nat.le_refl _) _
  have X9 : Hid (Box W6 w6.heap.size #[.slice ga m' gc, .slice ha nn' hc] 29) := by rw [← hW6]; exact box_of w6 _ _
  have MW6 : Hid (MemO W6 W4.heap.size F m' fs' nn' ds') := mo6.below hx6 (Nat.le_refl _)
  have BLK : Hid (∀ q, q < 2 + 2 * nn' → ∀ k, (F q).ownBlock = some k → W4.heap.size ≤ k ∧ k < w6.heap.size) := mo6.blk
  have hb46 : Below W4.heap.size W4 W6 := hb6'.trans (hx6.mono hb6'.size)
  have HB46 : Hid (Below W4.heap.size W4 W6) := hb46
  have HB36 : Hid (Below W3.heap.size W3 W6) := HB34.out.trans (hb46.mono HB34.out.size)
  have X86 : Hid (Box W6 b8 #[.slice (some ⟨h4, 0, none⟩) n n, .int .i64 st] 32) := X8.out.below hb46 X8.out.lt
  have X66 : Hid (Box W6 b6 #[.slice wa m' wc, .slice da nn' dc] 29) := X6.out.below HB36.out X6.out.lt
  have HW6 : Hid (w6.alloc (.cells #[.slice ga m' gc, .slice ha nn' hc] 29) = W6) := hW6
  obtain ⟨b9, hb9⟩ : ∃ b, w6.heap.size = b := ⟨_, rfl⟩
  rw [hb9] at X9 BLK
  have hs6 : W6.heap.size = b9 + 1 := by rw [← hW6, ← hb9]; simp
  have HH9 : Hid (w6.heap.size = b9) := hb9
  have l89 : b8 < b9 := by have := hb6'.size; omega
  obtain ⟨x60, x61, _, _⟩ := X66.out.two
  have m60 : w6.cell? ⟨b6, 0, none⟩ = some (.slice wa m' wc) ∧ w6.cell? ⟨b6, 1, none⟩ = some (.slice da nn' dc) := by
    have h := (X6.out.below (HB34.out.trans (hb6'.mono HB34.out.size)) X6.out.lt).two
    exact ⟨h.1, h.2.1⟩
  obtain ⟨m61, m62⟩ := m60
  have l6w : b6 < w6.heap.size := World.block_lt_of_cell? w6 _ m61
  have l6 : b6 < b9 := by omega
  rw [show MemF F = MemV ga m' gc ha nn' hc by rw [MemF, e0, e1]]
  clear mo6 gd e0 e1 says' hx6 hW6 hb46 hb9 hb6' x60 x61
  go_wp2_with fail
  rw [HW6.out]
  (try rw [HH9.out])
  refine (eqMemV F ga ha wa da gc hc wc dc m' nn' fs' ds' _ _ HF0.out HF1.out hm20 hn4 SM.out MW6.out (T3.out.1.below HB36.out (Nat.le_refl _)) (T3.out.2.below HB36.out (Nat.le_refl _))).mono ?_
  rintro e w7 ⟨rfl, hb7⟩
  have HB37 : Hid (Below W3.heap.size W3 w7) := HB36.out.trans (hb7.mono HB36.out.size)
  have MO7 : Hid (MemO w7 W4.heap.size F m' fs' nn' ds') := MW6.out.below hb7 (Nat.le_refl _)
  have HO7 : Hid (w7.ownsRow h4 3 1 (.slice (some ⟨h4, 0, none⟩) n n) n (xs.map I)) := owns_below HO4.out (HB46.out.trans (hb7.mono HB46.out.size)) (Nat.le_refl _)
  have X87 : Hid (Box w7 b8 #[.slice (some ⟨h4, 0, none⟩) n n, .int .i64 st] 32) := X86.out.below hb7 X86.out.lt
  have X97 : Hid (Box w7 b9 #[.slice ga m' gc, .slice ha nn' hc] 29) := X9.out.below hb7 X9.out.lt
  have HBW7 : Hid (Below W.heap.size W w7) := HB3.out.trans (HB37.out.mono HB3.out.size)
  obtain ⟨c0, c1, _, _⟩ := (X0.out.below HBW7.out X0.out.lt).two
  obtain ⟨d0, d1, _, _⟩ := X87.out.two
  have l87 := X87.out.lt
  have l07 := (X0.out.below HBW7.out X0.out.lt).lt
  have hn0 : ¬ ((n : Int) + 1 < 0) := by omega
  clear hb7 m61 m62 l6w MO6 MW6 HB36 X86 X66 X9 HO4 HB46 X8
  have K0 : Hid ((w7.cell? ⟨w.heap.size, 0, none⟩ = some (.slice a n c) ∧ w7.cell? ⟨w.heap.size, 1, none⟩ = some (.int .i64 st)) ∧ w7.cell? ⟨b8, 0, none⟩ = some (.slice (some ⟨h4, 0, none⟩) n n) ∧ w7.cell? ⟨b8, 1, none⟩ = some (.int .i64 st)) := ⟨⟨c0, c1⟩, d0, d1⟩
  go_wp2_with fail
  go_region_held3 (fun w' => (w'.cell? ⟨w.heap.size, 0, none⟩ = some (.slice a n c) ∧ w'.cell? ⟨w.heap.size, 1, none⟩ = some (.int .i64 st)) ∧ w'.cell? ⟨b8, 0, none⟩ = some (.slice (some ⟨h4, 0, none⟩) n n) ∧ w'.cell? ⟨b8, 1, none⟩ = some (.int .i64 st))
    (first | (with_reducible exact K2.out) | (with_reducible exact K1.out) | (with_reducible exact K0.out) | go_keep)
    (first
    | (go_at_call 6
       refine (toRows_any a n c st xs _ (HA0.out.below HBW7.out.drew (Nat.le_refl _))).mono ?_
       rintro e w8 ⟨rfl, own8, hb8⟩
       have hb78 : Below w7.heap.size w7 w8 := (Below.refl w7.heap.size w7).drew.trans hb8
       have HB78 : Hid (Below w7.heap.size w7 w8) := hb78
       have O8 : Hid (IntAt w8 (some ⟨w7.heap.size + 3, 0, none⟩) n xs) := own_intAt own8 (by omega)
       have K1 : Hid ((w8.cell? ⟨w.heap.size, 0, none⟩ = some (.slice a n c) ∧ w8.cell? ⟨w.heap.size, 1, none⟩ = some (.int .i64 st)) ∧ w8.cell? ⟨b8, 0, none⟩ = some (.slice (some ⟨h4, 0, none⟩) n n) ∧ w8.cell? ⟨b8, 1, none⟩ = some (.int .i64 st)) :=
         ⟨⟨(hb78.cell l07).trans c0, (hb78.cell l07).trans c1⟩, (hb78.cell l87).trans d0, (hb78.cell l87).trans d1⟩
       clear hb8 own8 hb78)
    | (go_at_call 9
       refine (eqRows_same _ _ n n n n st xs _ (own_intAt (owns_below HO7.out HB78.out (Nat.le_refl _)) (by omega)) O8.out).mono ?_
       rintro e w9 ⟨rfl, hb9⟩
       have hs78 := HB78.out.size
       have K2 : Hid ((w9.cell? ⟨w.heap.size, 0, none⟩ = some (.slice a n c) ∧ w9.cell? ⟨w.heap.size, 1, none⟩ = some (.int .i64 st)) ∧ w9.cell? ⟨b8, 0, none⟩ = some (.slice (some ⟨h4, 0, none⟩) n n) ∧ w9.cell? ⟨b8, 1, none⟩ = some (.int .i64 st)) :=
         ⟨⟨(hb9.cell (Nat.lt_of_lt_of_le l07 hs78)).trans K1.out.1.1, (hb9.cell (Nat.lt_of_lt_of_le l07 hs78)).trans K1.out.1.2⟩, (hb9.cell (Nat.lt_of_lt_of_le l87 hs78)).trans K1.out.2.1, (hb9.cell (Nat.lt_of_lt_of_le l87 hs78)).trans K1.out.2.2⟩
       have HB89 : Hid (Below w8.heap.size w8 w9) := hb9
       clear hb9))
  have hb79 : Below w7.heap.size w7 w9 := HB78.out.trans (HB89.out.mono HB78.out.size)
  have HB39 : Hid (Below W3.heap.size W3 w9) := HB37.out.trans (hb79.mono HB37.out.size)
  have MO9 : Hid (MemO w9 W4.heap.size F m' fs' nn' ds') := MO7.out.below hb79 (Nat.le_refl _)
  have HO9 : Hid (w9.ownsRow h4 3 1 (.slice (some ⟨h4, 0, none⟩) n n) n (xs.map I)) := owns_below HO7.out hb79 (Nat.le_refl _)
  have X99 : Hid (Box w9 b9 #[.slice ga m' gc, .slice ha nn' hc] 29) := X97.out.below hb79 X97.out.lt
  obtain ⟨d90, d91, _, _⟩ := (X87.out.below hb79 X87.out.lt).two
  clear hb79 d0 d1 c0 c1 K0 K1 K2 HB78 HB89 O8
  go_wp2_with fail
  refine (markRows_own h4 h4 n n st xs _ HLn.out (by omega) HO9.out).mono ?_
  rintro e w10 ⟨rfl, own10, hs10, e1, e2, e3, ho10⟩
  have hg10 : w9.grownBy w10 (some h4) := ⟨e1, e2, e3, hs10, fun i hi hne => ho10 i hi (fun e => hne (by rw [e]))⟩
  have MO10 : Hid (MemO w10 W4.heap.size F m' fs' nn' ds') := MO9.out.heap fun q hq k hk => hg10.block k ((MO9.out.blk q hq k hk).2) (fun e => by
    have h1 : k = h4 := by simpa using e
    have h2 := (BLK.out q hq k hk).1
    omega)
  have HB310 : Hid (Below W3.heap.size W3 w10) := HB39.out.grown hg10 HB39.out.size (fun k e => by
    have h1 : h4 = k := by simpa using e
    omega)
  have X910 : Hid (Box w10 b9 #[.slice ga m' gc, .slice ha nn' hc] 29) := by
    show w10.heap[b9]? = _
    rw [hg10.block b9 X99.out.lt (fun e => by
      have h1 : b9 = h4 := by simpa using e
      omega)]
    exact X99.out
  obtain ⟨x90, x91, _, _⟩ := X910.out.two
  obtain ⟨x60, x61, _, _⟩ := (X6.out.below HB310.out X6.out.lt).two
  clear own10 hs10 e1 e2 e3 ho10 hg10 HO9 d90 d91 MO9 HB39 X99
  go_wp2_with fail
  refine (eqMemV F ga ha wa da gc hc wc dc m' nn' fs' ds' _ _ HF0.out HF1.out hm20 hn4 SM.out MO10.out (T3.out.1.below HB310.out (Nat.le_refl _)) (T3.out.2.below HB310.out (Nat.le_refl _))).mono ?_
  rintro e w11 ⟨rfl, hb11⟩
  have MO11 : Hid (MemO w11 W4.heap.size F m' fs' nn' ds') := MO10.out.below hb11 (Nat.le_refl _)
  have HB311 : Hid (Below W3.heap.size W3 w11) := HB310.out.trans (hb11.mono HB310.out.size)
  have X911 : Hid (Box w11 b9 #[.slice ga m' gc, .slice ha nn' hc] 29) := X910.out.below hb11 X910.out.lt
  have l911 := X911.out.lt
  clear x90 x91 x60 x61 hb11 X910 HB310 MO10
  obtain ⟨x90, x91, _, _⟩ := X911.out.two
  go_wp2_with fail
  refine (markMemV F ga ha gc hc m' nn' fs' ds' _ _ HF0.out HF1.out hm20 hn4 SM.out MO11.out).mono ?_
  rintro e w12 ⟨rfl, mo12, hb12, ho12⟩
  have MO12 : Hid (MemO w12 W4.heap.size F m' (asc 1 (m' * 3)) nn' (markDs (1 + (m' : Int) * 3) ds' nn')) := mo12
  have X912 : Hid (Box w12 b9 #[.slice ga m' gc, .slice ha nn' hc] 29) := by
    show w12.heap[b9]? = _
    rw [ho12 b9 l911 (fun q hq e => by have := (BLK.out q hq b9 e).2; omega)]
    exact X911.out
  have HB312 : Hid (Below W3.heap.size W3 w12) := HB311.out.trans (hb12.mono (by have h1 := HB311.out.size; have h2 := HB34.out.size; omega))
  obtain ⟨r, hr⟩ : ∃ r : Int, 1 + (m' : Int) * 3 + (offN ds' nn' : Int) = r := ⟨_, rfl⟩
  have hr0 : ¬ r < 0 := by omega
  have HR : Hid (1 + (m' : Int) * 3 + (offN ds' nn' : Int) = r) := hr
  rw [hr]
  clear x90 x91 mo12 hb12 ho12 hr MO11 HB311 X911
  obtain ⟨x90, x91, _, _⟩ := X912.out.two
  go_wp2_with fail
  refine (heldMemV F ga ha gc hc m' nn' ds' _ _ HF0.out HF1.out hm20 hn4 SM.out MO12.out).mono ?_
  rintro e w13 ⟨rfl, hb13⟩
  rw [HR.out]
  have MO13 : Hid (MemO w13 W4.heap.size F m' (asc 1 (m' * 3)) nn' (markDs (1 + (m' : Int) * 3) ds' nn')) := MO12.out.below hb13 (Nat.le_refl _)
  have X913 : Hid (Box w13 b9 #[.slice ga m' gc, .slice ha nn' hc] 29) := X912.out.below hb13 X912.out.lt
  have HB313 : Hid (Below W3.heap.size W3 w13) := HB312.out.trans (hb13.mono HB312.out.size)
  have HBW13 : Hid (Below W.heap.size W w13) := HB3.out.trans (HB313.out.mono HB3.out.size)
  clear x90 x91 hb13 MO12 X912 HB312
  obtain ⟨c0, c1, _, _⟩ := (X0.out.below HBW13.out X0.out.lt).two
  go_wp2_with fail
  refine (toRows_any a n c st xs _ (HA0.out.below HBW13.out (Nat.le_refl _))).mono ?_
  rintro e w14 ⟨rfl, own14, hb14⟩
  have MO14 : Hid (MemO w14 W4.heap.size F m' (asc 1 (m' * 3)) nn' (markDs (1 + (m' : Int) * 3) ds' nn')) := MO13.out.below hb14 (Nat.le_refl _)
  have X914 : Hid (Box w14 b9 #[.slice ga m' gc, .slice ha nn' hc] 29) := X913.out.below hb14 X913.out.lt
  have HB314 : Hid (Below W3.heap.size W3 w14) := HB313.out.trans (hb14.mono HB313.out.size)
  have HBW14 : Hid (Below W.heap.size W w14) := HBW13.out.trans (hb14.mono HBW13.out.size)
  clear hb14 c0 c1 MO13 X913 HB313 HBW13
  go_wp2_with fail
  refine (implMemNew_any _ n st t xs L _ (own_intAt own14 (by omega)) HI.out (HN0.out.below HBW14.out HN0.out.lt) HL.out).mono ?_
  rintro e w15 ⟨⟨G, m2, fs2, nn2, ds2, ok2, rfl, says2, mo15⟩, hb15⟩
  obtain ⟨rfl, rfl, rfl, rfl, rfl⟩ := newSays_one SAYS.out says2
  have MO15 : Hid (MemO w15 W4.heap.size F m2 (asc 1 (m2 * 3)) nn2 (markDs (1 + (m2 : Int) * 3) ds2 nn2)) := MO14.out.below hb15 (Nat.le_refl _)
  have MG15 : Hid (MemO w15 w14.heap.size G m2 fs2 nn2 ds2) := mo15
  have HB315 : Hid (Below W3.heap.size W3 w15) := HB314.out.trans (hb15.mono HB314.out.size)
  have HBW15 : Hid (Below W.heap.size W w15) := HBW14.out.trans (hb15.mono HBW14.out.size)
  obtain ⟨ka, kc, k0, _⟩ := owns_slice mo15.words
  obtain ⟨kvs, kd, _⟩ := mo15.descO.descs
  obtain ⟨la, lc, k1, _⟩ := owns_slice kd
  have HG0 : Hid (G 0 = .slice ka m2 kc) := k0
  have HG1 : Hid (G 1 = .slice la nn2 lc) := k1
  rw [show MemF G = MemV ka m2 kc la nn2 lc by rw [MemF, k0, k1]]
  obtain ⟨x60, x61, _, _⟩ := (X6.out.below HB315.out X6.out.lt).two
  have l15 := (X6.out.below HB315.out X6.out.lt).lt
  have X915 : Hid (Box w15 b9 #[.slice ga m2 gc, .slice ha nn2 hc] 29) := X914.out.below hb15 X914.out.lt
  obtain ⟨W15, hW15⟩ : ∃ W15, w15.alloc (.cells #[.slice ka m2 kc, .slice la nn2 lc] 29) = W15 := ⟨_, rfl⟩
  have hx15 : Below w15.heap.size w15 W15 := by rw [← hW15]; exact (Below.refl _ _).alloc (Nat.le_refl _) _
  have HW15 : Hid (w15.alloc (.cells #[.slice ka m2 kc, .slice la nn2 lc] 29) = W15) := hW15
  have HX15 : Hid (Below w15.heap.size w15 W15) := hx15
  clear mo15 kd k0 k1 hb15 own14 MO14 X914 HB314 HBW14 says2 hW15 hx15
  go_wp2_with fail
  rw [HW15.out]
  refine (eqMemV G ka la wa da kc lc wc dc m2 nn2 fs2 ds2 _ _ HG0.out HG1.out hm20 hn4 SM.out (MG15.out.below HX15.out (Nat.le_refl _)) (T3.out.1.below (HB315.out.trans (HX15.out.mono HB315.out.size)) (Nat.le_refl _)) (T3.out.2.below (HB315.out.trans (HX15.out.mono HB315.out.size)) (Nat.le_refl _))).mono ?_
  rintro e w16 ⟨rfl, hb16⟩
  have hb516 : Below w15.heap.size w15 w16 := HX15.out.trans (hb16.mono HX15.out.size)
  have MO16 : Hid (MemO w16 W4.heap.size F m2 (asc 1 (m2 * 3)) nn2 (markDs (1 + (m2 : Int) * 3) ds2 nn2)) := MO15.out.below hb516 (Nat.le_refl _)
  obtain ⟨x90, x91, _, _⟩ := (X915.out.below hb516 X915.out.lt).two
  have HBW16 : Hid (Below W.heap.size W w16) := HBW15.out.trans (hb516.mono HBW15.out.size)
  clear hb16 hb516 x60 x61 MO15 MG15 HB315 HBW15 X915
  go_wp2_with fail
  refine (heldMemV F ga ha gc hc m2 nn2 ds2 _ _ HF0.out HF1.out hm20 hn4 SM.out MO16.out).mono ?_
  rintro e w17 ⟨rfl, hb17⟩
  rw [HR.out]
  have HBW17 : Hid (Below w.heap.size w w17) := HB0.out.trans ((HBW16.out.trans (hb17.mono HBW16.out.size)).mono HB0.out.size)
  clear hb17 x90 x91 MO16
  go_wp2
  go_ret
  exact ⟨rfl, HBW17.out⟩

/-- The heap that the door's own run leaves meets the row's condition on the table. -/
theorem door_met (os : Os) (args : Array Value) : laidMetH Tryd.prog Rows.fnExactMemNewRow.laid ((World.doorLaid Tryd.prog 64 os).forCall (fun _ _ => 0) ⟨#[], args, []⟩).memory :=
  laidMetH_of_parts3 (fuel := 8) (laidMet_of_run' 8 (by kernel_rfl) (by kernel_rfl)) (by kernel_rfl) (by kernel_rfl)

theorem of_laid {W : World} (h : laidMetH Tryd.prog Rows.fnExactMemNewRow.laid W) : Names W := by
  rw [MakeChecks.laidMetH_plain _ _ _ (by kernel_rfl)] at h
  exact names_of_laid h

set_option maxRecDepth 100000 in
theorem lifted (os : Os) (started : os.Started) (H : Type) (enc : TypeId × Value → H) :
    ReturnsInHanded {} Tryd.checked os 3 .any (fun w args => (Rows.fnExactMemNewSpec.pre enc Tryd.prog Tryd.f3 [] false w args ∧ laidMetH Tryd.prog Rows.fnExactMemNewRow.laid w) ∧ sizedMet enc Tryd.prog Tryd.f3 (OpenSpec.ofChange Rows.fnExactMemNewSpec) false w args)
      (Rows.fnExactMemNewSpec.post enc Tryd.prog Tryd.f3 false true false false) := by
  refine returnsInHanded_of_change_and (C := Tryd.checked) (X := fun w _ => laidMetH Tryd.prog Rows.fnExactMemNewRow.laid w) (fun _ _ _ hh h => h.of_heap hh) own started (by kernel_rfl) Tryd.func3
    (ChangeSpec.witness_shaped (enc := enc) (C := Tryd.checked) (os := os) (X := fun w _ => laidMetH Tryd.prog Rows.fnExactMemNewRow.laid w) false (World.doorLaid Tryd.prog 64 os) #[.agg #[.slice none 0 0, .int .i64 0], .int .i64 0] 8 rfl (World.shaped_of_RefB (by kernel_rfl) (by kernel_rfl)) (by kernel_rfl) (by kernel_rfl) (by kernel_rfl) (door_met os _)) ?_
  intro W base args ds gs before hval0 hW _ _ hL _
  have hval : ∀ (j : Nat) t v, Tryd.f3.params[j]? = some t → args[j]? = some v → Value.okWide Tryd.prog W .any base t v := hval0
  have hW' := hW
  obtain ⟨p, q, hA0, hV0, rfl, hfz, hnd⟩ := hW
  have hA : DataW.TrodAll enc Tryd.prog W 0 (fun _ => true) true Tryd.f3.params.toList args.toList ds p := hA0
  have hV : DataW.TrodVars enc Tryd.prog W (fun _ => true) ["loop.example/g00468/impl.wordNames"] gs q := hV0
  have hN := of_laid hL
  obtain rfl := vars_open hN hV
  rw [Tryd.params3] at hA hval
  obtain ⟨v0, v1, d0, d1, p0, p1, rfl, rfl, rfl, h0, h1⟩ := trodAll_two hA
  have k0 := h0
  have k1 := h1
  have lt0 : ∀ x ∈ p0, x.block < W.heap.size := by obtain ⟨m, hm⟩ := k0; exact DataW.trod_lt m _ _ _ hm
  have lt1 : ∀ x ∈ p1, x.block < W.heap.size := by obtain ⟨m, hm⟩ := k1; exact DataW.trod_lt m _ _ _ hm
  obtain ⟨a0, n, c, st, xs, rfl, hm, hi, hA1⟩ := open_rows (hval 0 24 v0 rfl rfl) h0
  obtain ⟨tn, rfl⟩ := okWide_int Tryd.underlying3 (hval 1 3 v1 rfl rfl)
  clear hA0 hV0 hval0
  refine (walk a0 n c st tn xs W hA1 hm hi hN).mono fun e W' ⟨he, bel⟩ => ?_
  subst he
  exact ⟨_, rfl, _, _, _, [], _, _, hW', trodAll_mk1 (shut_bool Tryd.underlying4 _), (trodAll_cons_mk (Below.trod laidOut (by kernel_rfl) (of_decide_eq_true (by kernel_rfl)) k0 bel lt0) (trodAll_cons_mk (Below.trod laidOut (by kernel_rfl) (of_decide_eq_true (by kernel_rfl)) k1 bel lt1) trodAll_mk0)), vars_shut _ (hN.below bel hN.lt), bel.frame _, fun h => by cases h⟩

theorem row_holds : Rows.FnExactMemNewSaid :=
  OpenClaim.holds_of_wide 3 Tryd.f3 rfl rfl rfl rfl rfl rfl rfl ⟨rfl, rfl, rfl, rfl, rfl⟩ rfl rfl rfl rfl rfl (by kernel_rfl) Tryd.func3 (by kernel_rfl)
    (of_decide_eq_true (by kernel_rfl)) (by unfold Func.isWrapper; first | (rw [if_pos (by decide +kernel)]; kernel_rfl) | (rw [if_neg (by decide +kernel)]; exact ⟨rfl, rfl⟩))
    (fun os started H enc _ => lifted os started H enc)
end fnExactMemNew

theorem fnExactMemNew_holds : Rows.FnExactMemNewCardSaid :=
  Claim7.holds_tied_plain_at .later [] [.data] true Rows.fnExactMemNewCard.stood.harness false
    fnExactMemNew.row_holds (fun _ h => by cases h) (by kernel_rfl) (fun _ h => by cases h) fnExactMemNew_row_tie rfl ⟨rfl, rfl⟩ (by kernel_rfl) rfl
    (fun f fn hf hfn => by
      obtain rfl : f = 3 := Option.some.inj ((show Tryd.prog.funcNamed Rows.fnExactMemNewRow.func = some 3 by kernel_rfl).symm.trans hf) |>.symm
      obtain rfl : fn = Tryd.f3 := (Option.some.inj (Tryd.func3.symm.trans hfn)).symm
      exact ⟨by kernel_rfl, fun j t ht => by
        rw [Tryd.params3] at ht
        have hm : t ∈ [24, 3] := by simpa using Array.mem_of_getElem? ht
        have hall : ([24, 3].all fun u => !Tryd.prog.wantsStandIn u) = true := by kernel_rfl
        exact (show Tryd.prog.wantsStandIn t = false by simpa using List.all_eq_true.1 hall t hm)⟩)
    (by kernel_rfl)
#print axioms fnExactMemNew_holds
end Go.Proofs.YtbdfopokimpeiaqDoor
