/- Texts joined: LawAlways, LawAlways2, Laid. -/
import Derived.Test.YtenlapppaimkkaeGreatDoorAL16
import Derived.Test.YtenlapppaimkkaeGreatDoorAL19
import Derived.Test.YtenlapppaimkkaeGreatDoorAL22
import Derived.Test.YtenlapppaimkkaeGreatDoorAL15
import Derived.Deep.RegionHeld3
import Derived.Test.YtenlapppaimkkaeGreatDoorRows
import Derived.Test.YtenlapppaimkkaeGreatDoorAL01
import Derived.ChangeVars
import Derived.ChangeReads
import Derived.Lib.LaidTab
import Derived.Lib.LaidU8
import Derived.LaidMore
import Derived.MakeChecks
/- The law FnAlwaysSomething, walked: of each drawn op something may come of any rows, and what is done is done. -/
namespace Go.Proofs.YtenlapppaimkkaeGreatDoor
open Go.ChangeShapes Go.WideShapes Go.ChangeAt Go.RowKit

theorem big_is (a : Option Addr) (n c : Nat) (w : World) : Calls Tryz.prog 4 #[.slice a n c] w fun e w' => e = .returned (.bool (decide (1048576 < n))) ∧ w' = w := by
  obtain ⟨B, hB⟩ : ∃ B, decide (1048576 < n) = B := ⟨_, rfl⟩
  rw [hB]
  have HB : Hid (decide ((1048576 : Int) < (n : Int)) = B) := by
    show _ = _
    rw [← hB, decide_eq_decide]
    omega
  clear hB
  go_enter Tryz.func4, Tryz.ntmps4
  go_wp2
  go_ret
  refine ⟨?_, rfl⟩
  rw [← HB.out]
  first | rfl | simp
set_option maxHeartbeats 1000000 in
theorem sameInts_any (a1 a2 : Option Addr) (n1 n2 c1 c2 : Nat) (xs ys : List Int) (w : World) (h1 : IntAt w a1 n1 xs) (h2 : IntAt w a2 n2 ys) :
    Calls Tryz.prog 10 #[.slice a1 n1 c1, .slice a2 n2 c2] w fun e w' => e = .returned (.bool (decide (xs = ys))) ∧ Below w.heap.size w w' := by
  have H1 : Hid (IntAt w a1 n1 xs) := h1
  have H2 : Hid (IntAt w a2 n2 ys) := h2
  have L1 : Hid (xs.length = n1) := h1.1
  have L2 : Hid (ys.length = n2) := h2.1
  have b1 := h1.2.1
  have b2 := h2.2.1
  obtain ⟨B, hB⟩ : ∃ B, decide (xs = ys) = B := ⟨_, rfl⟩
  rw [hB]
  have HB : Hid (decide (xs = ys) = B) := hB
  clear h1 h2 hB
  by_cases hn : n1 = n2
  · subst hn
    go_enter Tryz.func10, Tryz.ntmps10
    go_wp2
    go_loopw [5] (fun i wr => ∃ k : Nat, k ≤ n1 ∧ i = .int .i64 k ∧ xs.take k = ys.take k ∧ Below w.heap.size w wr) (fun i _ => n1 - (intOf i).toNat)
    case atStart => exact ⟨0, Nat.zero_le _, rfl, rfl, Below.refl _ _⟩
    case round =>
      obtain ⟨k, hk1, rfl, ht, hb⟩ := hrel
      have HT : Hid (xs.take k = ys.take k) := ht
      clear ht
      by_cases hlt1 : k < n1
      · rcases (H1.out.below hb (Nat.le_refl _)).2.2 with h | ⟨p1, o1, rfl, g1⟩
        · omega
        rcases (H2.out.below hb (Nat.le_refl _)).2.2 with h | ⟨p2, o2, rfl, g2⟩
        · omega
        obtain ⟨x, hx⟩ : ∃ x, xs.getD k 0 = x := ⟨_, rfl⟩
        obtain ⟨y, hy⟩ : ∃ y, ys.getD k 0 = y := ⟨_, rfl⟩
        have e1 := g1 k hlt1
        have e2 := g2 k hlt1
        rw [hx] at e1
        rw [hy] at e2
        have HX : Hid (xs.getD k 0 = x) := hx
        have HY : Hid (ys.getD k 0 = y) := hy
        clear g1 g2 hx hy
        go_wp2
        go_region
        go_wp2
        · have hd : (x != y) = true := by assumption
          go_ret
          refine ⟨?_, hb.drew⟩
          have e : xs ≠ ys := fun e => by rw [← HX.out, ← HY.out, e] at hd; simp at hd
          rw [← HB.out]
          simp [e]
        · have hd : (x != y) = false := by assumption
          have l1 := L1.out
          have l2 := L2.out
          exact ⟨⟨k + 1, by omega, by go_num, take_nextI (by omega) (by omega) HT.out (by rw [HX.out, HY.out]; simpa using hd), hb.drew⟩, by simp [intOf]; omega⟩
      · obtain rfl : k = n1 := by omega
        go_wp2
        go_ret
        refine ⟨?_, hb⟩
        have l1 := L1.out
        have l2 := L2.out
        have e : xs = ys := by
          have e0 := HT.out
          rwa [List.take_of_length_le (by omega), List.take_of_length_le (by omega)] at e0
        rw [← HB.out]
        simp [e]
  · have hne : ((n1 : Int) != (n2 : Int)) = true := by simp; omega
    have hxy : xs ≠ ys := fun e => by have l1 := L1.out; have l2 := L2.out; rw [e] at l1; omega
    have HX : Hid (xs ≠ ys) := hxy
    clear hxy
    go_enter Tryz.func10, Tryz.ntmps10
    go_wp2
    go_ret
    refine ⟨?_, Below.refl _ _⟩
    rw [← HB.out]
    simp [HX.out]

theorem ok_wf2 {xs : List Int} {st : Int} (h : OkRows xs st) : ∀ x ∈ xs, (Lit.int .i64 x).wf = true := by
  obtain ⟨y0, y1, y2, y3, rfl⟩ := four_of h.1
  have hf := ((okFour_iff y0 y1 y2 y3 st).1 h).2
  unfold OkFour at hf
  intro x hx
  simp only [List.mem_cons, List.not_mem_nil, or_false] at hx
  exact WalkArith.wf_i64 (by omega)
theorem Box.c3 {w : World} {b : Nat} {T : TypeId} {x y z : Value} (h : Box w b #[x, y, z] T) : w.cell? ⟨b, 0, none⟩ = some x ∧ w.cell? ⟨b, 1, none⟩ = some y ∧ w.cell? ⟨b, 2, none⟩ = some z := ⟨h.cell 0, h.cell 1, h.cell 2⟩
theorem Box.c2 {w : World} {b : Nat} {T : TypeId} {x y : Value} (h : Box w b #[x, y] T) : w.cell? ⟨b, 0, none⟩ = some x ∧ w.cell? ⟨b, 1, none⟩ = some y := ⟨h.cell 0, h.cell 1⟩
theorem Box.c4 {w : World} {b : Nat} {T : TypeId} {x y z u : Value} (h : Box w b #[x, y, z, u] T) : w.cell? ⟨b, 0, none⟩ = some x ∧ w.cell? ⟨b, 1, none⟩ = some y ∧ w.cell? ⟨b, 2, none⟩ = some z ∧ w.cell? ⟨b, 3, none⟩ = some u := ⟨h.cell 0, h.cell 1, h.cell 2, h.cell 3⟩
/-- The rows, the op and the plan, in their places. -/
structure ASt (w : World) (br bo bp g : Nat) (xs : List Int) (st kind k v : Int) (pl : Array Value) (ra : Option Addr) (rm : Nat) (ys : List Int) (wr : World) : Prop where
  rows : Box wr br #[.slice (some ⟨g, 0, none⟩) 4 4, .int .i64 st] 26
  op : Box wr bo #[.int .i64 kind, .int .i64 k, .int .i64 v] 28
  plan : Box wr bp pl 36
  held : IntAt wr (some ⟨g, 0, none⟩) 4 xs
  res : IntAt wr ra rm ys
  bel : Below w.heap.size w wr
theorem ASt.below {w wr wr' : World} {br bo bp g : Nat} {xs : List Int} {st kind k v : Int} {pl : Array Value} {ra : Option Addr} {rm : Nat} {ys : List Int} (h : ASt w br bo bp g xs st kind k v pl ra rm ys wr) (hb : Below wr.heap.size wr wr') : ASt w br bo bp g xs st kind k v pl ra rm ys wr' :=
  ⟨h.rows.below hb h.rows.lt, h.op.below hb h.op.lt, h.plan.below hb h.plan.lt, h.held.below hb (Nat.le_refl _), h.res.below hb (Nat.le_refl _), h.bel.trans (hb.mono h.bel.size)⟩
/-- What is put or set there is found there. -/
theorem key_set {xs : List Int} {st kind k v code : Int} {ys : List Int} (h : AllowM xs st kind k v code ys) (hc : code = 0) (hk : kind = 1 ∨ kind = 2) : (0 ≤ k ∧ k ≤ 3) ∧ (1 ≤ v ∧ v ≤ 6) ∧ (xs.set k.toNat v).getD k.toNat 0 = v ∧ keyN (xs.set k.toNat v) v = k := by
  obtain ⟨hok, hg, hx⟩ := h
  obtain ⟨y0, y1, y2, y3, rfl⟩ := four_of hok.1
  obtain ⟨hkk, hkey, hval⟩ := hg
  have hkr : 0 ≤ k ∧ k ≤ 3 := by unfold KeyGood at hkey; omega
  have hvr : 1 ≤ v ∧ v ≤ 6 := by unfold ValGood at hval; omega
  have hd : DoneM [y0, y1, y2, y3] st kind k v := by
    rcases hx with ⟨h0, _⟩ | ⟨_, h1, _⟩
    · exact absurd hc h0
    · exact h1
  have hn : keyN [y0, y1, y2, y3] v < 0 ∨ keyN [y0, y1, y2, y3] v = k := by unfold DoneM at hd; omega
  refine ⟨hkr, hvr, ?_, ?_⟩
  · have hk4 : k = 0 ∨ k = 1 ∨ k = 2 ∨ k = 3 := by omega
    rcases hk4 with rfl | rfl | rfl | rfl <;> rfl
  · have hk4 : k = 0 ∨ k = 1 ∨ k = 2 ∨ k = 3 := by omega
    rcases hn with hn | hn
    · obtain ⟨n0, n1, n2, n3⟩ := keyN_lt hn
      rcases hk4 with rfl | rfl | rfl | rfl
      · show keyN [v, y1, y2, y3] v = 0; simp [keyN]
      · show keyN [y0, v, y2, y3] v = 1; simp [keyN, n0]
      · show keyN [y0, y1, v, y3] v = 2; simp [keyN, n0, n1]
      · show keyN [y0, y1, y2, v] v = 3; simp [keyN, n0, n1, n2]
    · have hm := hn
      unfold keyN at hn
      simp only [List.getD_cons_zero, List.getD_cons_succ] at hn
      rcases hk4 with rfl | rfl | rfl | rfl
      · show keyN [v, y1, y2, y3] v = 0; simp [keyN]
      · show keyN [y0, v, y2, y3] v = 1
        have n0 : y0 ≠ v := fun e => by simp [e] at hn
        simp [keyN, n0]
      · show keyN [y0, y1, v, y3] v = 2
        have n0 : y0 ≠ v := fun e => by simp [e] at hn
        have n1 : y1 ≠ v := fun e => by simp [e, n0] at hn
        simp [keyN, n0, n1]
      · show keyN [y0, y1, y2, v] v = 3
        have n0 : y0 ≠ v := fun e => by simp [e] at hn
        have n1 : y1 ≠ v := fun e => by simp [e, n0] at hn
        have n2 : y2 ≠ v := fun e => by simp [e, n0, n1] at hn
        simp [keyN, n0, n1, n2]
theorem key_del {xs : List Int} {st kind k v code : Int} {ys : List Int} (h : AllowM xs st kind k v code ys) (hk : kind = 3) : (0 ≤ k ∧ k ≤ 3) ∧ (xs.set k.toNat 0).getD k.toNat 0 = 0 := by
  obtain ⟨hok, hg, hx⟩ := h
  obtain ⟨y0, y1, y2, y3, rfl⟩ := four_of hok.1
  obtain ⟨hkk, hkey, hval⟩ := hg
  have hkr : 0 ≤ k ∧ k ≤ 3 := by unfold KeyGood at hkey; omega
  refine ⟨hkr, ?_⟩
  have hk4 : k = 0 ∨ k = 1 ∨ k = 2 ∨ k = 3 := by omega
  rcases hk4 with rfl | rfl | rfl | rfl <;> rfl
end Go.Proofs.YtenlapppaimkkaeGreatDoor

/- The law FnAlwaysSomething, walked to its end. -/
namespace Go.Proofs.YtenlapppaimkkaeGreatDoor
open Go.ChangeShapes Go.WideShapes Go.ChangeAt Go.RowKit

set_option maxHeartbeats 8000000 in
set_option maxRecDepth 100000 in
theorem always_walk (a : Option Addr) (n c : Nat) (w : World) (hB : BytesAt w w.heap.size a n) (hN : Names w) :
    Calls Tryz.prog 3 #[.slice a n c] w fun e w' => e = .returned (.bool true) ∧ Below w.heap.size w w' := by
  have HBY : Hid (BytesAt w w.heap.size a n) := hB
  have HN : Hid (Names w) := hN
  clear hB hN
  by_cases hbig : 1048576 < n
  · go_enter Tryz.func3, Tryz.ntmps3
    go_wp2_with fail
    refine (big_is a n c _).mono ?_
    rintro e w1 ⟨rfl, rfl⟩
    rw [decide_eq_true hbig]
    go_wp2
    go_ret
    exact ⟨rfl, Below.refl _ _⟩
  go_enter Tryz.func3, Tryz.ntmps3
  go_wp2_with fail
  refine (big_is a n c _).mono ?_
  rintro e w0 ⟨rfl, rfl⟩
  rw [decide_eq_false hbig]
  go_wp2_with fail
  refine (drawKnown_any a n c _ (by omega) HBY.out).mono ?_
  rintro e w1 ⟨g, st, xs, kind, k, v, q, cq, rfl, hi1, hok, hg, hp1, hb1⟩
  have HOK : Hid (OkRows xs st ∧ OpGood kind k v) := ⟨hok, hg⟩
  obtain ⟨N, hNN⟩ : ∃ N, (needL (wordF xs st) kind k v).length = N := ⟨_, rfl⟩
  have HNN : Hid ((needL (wordF xs st) kind k v).length = N) := hNN
  have P1 : Hid (PairAt w1 (some ⟨q, 0, none⟩) (needL (wordF xs st) kind k v).length (flatP (wordF xs st) (needL (wordF xs st) kind k v))) := hp1
  have I1 : Hid (IntAt w1 (some ⟨g, 0, none⟩) 4 xs) := hi1
  have HB1 : Hid (Below w0.heap.size w0 w1) := hb1
  rw [hNN]
  clear hi1 hok hg hp1 hb1 hNN
  go_wp2_with fail
  obtain ⟨W1, hW1⟩ : ∃ W1, (w1.alloc (.cells #[.slice (some ⟨g, 0, none⟩) 4 4, .int .i64 st] 26)).alloc (.cells #[.int .i64 kind, .int .i64 k, .int .i64 v] 28) = W1 := ⟨_, rfl⟩
  have b1 : Below w1.heap.size w1 W1 := by rw [← hW1]; exact ((Below.refl _ w1).alloc (Nat.le_refl _) _).alloc (by simp) _
  have R1 : Hid (Box W1 w1.heap.size #[.slice (some ⟨g, 0, none⟩) 4 4, .int .i64 st] 26) := by rw [← hW1]; exact (box_of w1 _ _).alloc _
  have O1 : Hid (Box W1 (w1.heap.size + 1) #[.int .i64 kind, .int .i64 k, .int .i64 v] 28) := by
    have := box_of (w1.alloc (.cells #[.slice (some ⟨g, 0, none⟩) 4 4, .int .i64 st] 26)) #[.int .i64 kind, .int .i64 k, .int .i64 v] 28
    rw [hW1] at this
    simp at this
    exact this
  have HB2 : Hid (Below w0.heap.size w0 W1) := HB1.out.trans (b1.mono HB1.out.size)
  have P2 : Hid (PairAt W1 (some ⟨q, 0, none⟩) (needL (wordF xs st) kind k v).length (flatP (wordF xs st) (needL (wordF xs st) kind k v))) := P1.out.below b1 (Nat.le_refl _)
  have I2 : Hid (IntAt W1 (some ⟨g, 0, none⟩) 4 xs) := I1.out.below b1 (Nat.le_refl _)
  rw [hW1]
  clear b1 hW1 P1 HB1 I1
  have hpl := implPlan_known (some ⟨q, 0, none⟩) cq xs st kind k v W1 HOK.out.1 HOK.out.2 (HN.out.below HB2.out HN.out.lt) P2.out
  rw [HNN.out] at hpl
  refine hpl.mono ?_
  clear hpl
  rintro e w2 ⟨nw, x, E, ⟨ra, rm, rc, eb, ed, rfl, hri, hre⟩, his, hb2⟩
  have HAL : Hid (AllowM xs st kind k v x.1 x.2) := his.allowed HOK.out.1 HOK.out.2
  obtain ⟨br, hbr⟩ : ∃ br, w1.heap.size = br := ⟨_, rfl⟩
  obtain ⟨bo, hbo⟩ : ∃ bo, w1.heap.size + 1 = bo := ⟨_, rfl⟩
  have O2 : Hid (Box w2 bo #[.int .i64 kind, .int .i64 k, .int .i64 v] 28) := by rw [← hbo]; exact O1.out.below hb2 O1.out.lt
  have R2 : Hid (Box w2 br #[.slice (some ⟨g, 0, none⟩) 4 4, .int .i64 st] 26) := by rw [← hbr]; exact R1.out.below hb2 R1.out.lt
  have P3 : Hid (PairAt w2 (some ⟨q, 0, none⟩) (needL (wordF xs st) kind k v).length (flatP (wordF xs st) (needL (wordF xs st) kind k v))) := P2.out.below hb2 (Nat.le_refl _)
  have I3 : Hid (IntAt w2 (some ⟨g, 0, none⟩) 4 xs) := I2.out.below hb2 (Nat.le_refl _)
  have Y3 : Hid (IntAt w2 ra rm x.2) := hri
  have HB3 : Hid (Below w0.heap.size w0 w2) := HB2.out.trans (hb2.mono HB2.out.size)
  obtain ⟨o0, o1, o2⟩ := O2.out.c3
  have hbl : bo < w2.heap.size := O2.out.lt
  rw [hbo, hbr]
  clear hri hre his hb2 hbo hbr O1 R1 P2 I2 HB2
  go_wp2_with fail
  obtain ⟨W2, hW2⟩ : ∃ W2, w2.alloc (.cells #[.bool nw, .int .i64 x.1, .slice ra rm rc, .slice eb E.length ed] 36) = W2 := ⟨_, rfl⟩
  have b2 : Below w2.heap.size w2 W2 := by rw [← hW2]; exact (Below.refl _ w2).alloc (Nat.le_refl _) _
  have K2 : Hid (ASt w0 br bo w2.heap.size g xs st kind k v #[.bool nw, .int .i64 x.1, .slice ra rm rc, .slice eb E.length ed] ra rm x.2 W2) :=
    ⟨R2.out.below b2 R2.out.lt, O2.out.below b2 O2.out.lt, by rw [← hW2]; exact box_of w2 _ _, I3.out.below b2 (Nat.le_refl _), Y3.out.below b2 (Nat.le_refl _), HB3.out.trans (b2.mono HB3.out.size)⟩
  have P4 : Hid (PairAt W2 (some ⟨q, 0, none⟩) (needL (wordF xs st) kind k v).length (flatP (wordF xs st) (needL (wordF xs st) kind k v))) := P3.out.below b2 (Nat.le_refl _)
  rw [hW2]
  clear b2 hW2 O2 R2 P3 I3 Y3 HB3 o0 o1 o2
  have hsp := specPlan_ok (some ⟨q, 0, none⟩) _ cq _ kind k v W2 P4.out HOK.out.2 (known_next HOK.out.1 HOK.out.2)
  rw [HNN.out] at hsp
  refine hsp.mono ?_
  clear hsp
  rintro e w3 ⟨⟨y0, y1, y2, y3, z2, z3, u2, u3, rfl⟩, hb3⟩
  obtain ⟨W3, hW3⟩ : ∃ W3, w3.alloc (.cells #[.bool y0, .int .i64 y1, .slice y2 z2 u2, .slice y3 z3 u3] 36) = W3 := ⟨_, rfl⟩
  have hb3' : Below W2.heap.size W2 W3 := by rw [← hW3]; exact hb3.alloc hb3.size _
  obtain ⟨bp, hbp⟩ : ∃ bp, w2.heap.size = bp := ⟨_, rfl⟩
  rw [hbp] at K2 ⊢
  have K3 : Hid (ASt w0 br bo bp g xs st kind k v #[.bool nw, .int .i64 x.1, .slice ra rm rc, .slice eb E.length ed] ra rm x.2 W3) := K2.out.below hb3'
  have K3' := K2.out.below hb3
  obtain ⟨r0, r1⟩ := K3'.rows.c2
  obtain ⟨o0, o1, o2⟩ := K3'.op.c3
  obtain ⟨p0, p1, p2, p3⟩ := K3'.plan.c4
  have l0 := K3'.rows.lt
  have l1 := K3'.op.lt
  have l2 := K3'.plan.lt
  have HW3 : Hid (w3.alloc (.cells #[.bool y0, .int .i64 y1, .slice y2 z2 u2, .slice y3 z3 u3] 36) = W3) := hW3
  clear hb3 hb3' hW3 K2 K3' hbp P4
  go_wp2_with fail
  rw [HW3.out]
  refine (implAllowed_cap g 0 4 4 rm rc ra st kind k v x.1 xs x.2 W3 (fun _ => rfl) K3.out.held K3.out.res (ok_wf2 HOK.out.1)).mono ?_
  rintro e w4 ⟨⟨ok, rfl, hal⟩, hb4⟩
  obtain rfl : ok = true := hal.2 HAL.out
  have K4 : Hid (ASt w0 br bo bp g xs st kind k v #[.bool nw, .int .i64 x.1, .slice ra rm rc, .slice eb E.length ed] ra rm x.2 w4) := K3.out.below hb4
  clear r0 r1 o0 o1 o2 p0 p1 p2 p3 l0 l1 l2 hal hb4 K3 HW3
  obtain ⟨r0, r1⟩ := K4.out.rows.c2
  obtain ⟨o0, o1, o2⟩ := K4.out.op.c3
  obtain ⟨p0, p1, p2, p3⟩ := K4.out.plan.c4
  go_wp2_with fail
  refine (implAfter_cap ra g 0 4 4 rm rc st kind k v x.1 xs x.2 _ (fun _ => rfl) K4.out.held K4.out.res (ok_wf2 HOK.out.1)).mono ?_
  rintro e w5 ⟨⟨zs, st', a', c', rfl, ham, hown⟩, hb5⟩
  obtain ⟨hc4, ga, rfl⟩ := own_room hown
  have HAM : Hid (AfterM xs st kind k v x.1 x.2 zs st') := ham
  have Z5 : Hid (IntAt w5 (some ⟨ga, 0, none⟩) 4 zs) := own_intAt hown (by omega)
  have K5 : Hid (ASt w0 br bo bp g xs st kind k v #[.bool nw, .int .i64 x.1, .slice ra rm rc, .slice eb E.length ed] ra rm x.2 w5) := K4.out.below hb5
  clear r0 r1 o0 o1 o2 p0 p1 p2 p3 ham hown hb5 K4
  obtain ⟨W5, hW5⟩ : ∃ W5, w5.alloc (.cells #[.slice (some ⟨ga, 0, none⟩) 4 c', .int .i64 st'] 26) = W5 := ⟨_, rfl⟩
  have b5 : Below w5.heap.size w5 W5 := by rw [← hW5]; exact (Below.refl _ w5).alloc (Nat.le_refl _) _
  have K6 : Hid (ASt w0 br bo bp g xs st kind k v #[.bool nw, .int .i64 x.1, .slice ra rm rc, .slice eb E.length ed] ra rm x.2 W5) := K5.out.below b5
  have A6 : Hid (Box W5 w5.heap.size #[.slice (some ⟨ga, 0, none⟩) 4 c', .int .i64 st'] 26) := by rw [← hW5]; exact box_of w5 _ _
  have Z6 : Hid (IntAt W5 (some ⟨ga, 0, none⟩) 4 zs) := Z5.out.below b5 (Nat.le_refl _)
  obtain ⟨r0, r1⟩ := K5.out.rows.c2
  obtain ⟨o0, o1, o2⟩ := K5.out.op.c3
  obtain ⟨p0, p1, p2, p3⟩ := K5.out.plan.c4
  have l0 := K5.out.rows.lt
  have l1 := K5.out.op.lt
  have l2 := K5.out.plan.lt
  have HW5 : Hid (w5.alloc (.cells #[.slice (some ⟨ga, 0, none⟩) 4 c', .int .i64 st'] 26) = W5) := hW5
  clear hW5 b5 K5
  by_cases hcode : x.1 = 0
  case neg =>
    have hcode' : (x.1 != 0) = true := by simpa using hcode
    obtain ⟨rfl, rfl⟩ := not_done_same HAM.out hcode
    clear hcode
    go_wp2_with fail
    rw [HW5.out]
    refine (sameInts_any _ _ 4 4 c' 4 zs zs _ Z6.out K6.out.held).mono ?_
    rintro e w7 ⟨rfl, hb7⟩
    rw [show decide (zs = zs) = true from decide_eq_true rfl]
    have hall : Below w0.heap.size w0 w7 := K6.out.bel.trans (hb7.mono K6.out.bel.size)
    clear hb7
    go_wp2
    go_ret
    exact ⟨rfl, hall⟩
  have hdone := done_is HAM.out HAL.out hcode
  have HC0 : Hid (x.1 = 0) := hcode
  have hcode' : (x.1 != 0) = false := by simp [hcode]
  have HZW : Hid (∀ y ∈ zs, (Lit.int .i64 y).wf = true) := by
    have h1 := HAL.out
    have h2 := HAM.out
    rw [hcode] at h1 h2
    exact ok_wf2 (after_ok h1 h2)
  have hst : 0 ≤ st ∧ st ≤ 5 := ⟨HOK.out.1.2.1, HOK.out.1.2.2.1⟩
  obtain ⟨ba, hba⟩ : ∃ ba, w5.heap.size = ba := ⟨_, rfl⟩
  rw [hba] at A6
  have HBA : Hid (w5.heap.size = ba) := hba
  clear hcode HAM hba
  rcases hdone with ⟨hk12, hzs, rfl⟩ | ⟨rfl, hzs, rfl⟩ | ⟨hk89, hzs, hst'⟩ | ⟨hkr, hzs, rfl⟩
  · obtain ⟨hk, hv, q1, q2⟩ := key_set HAL.out HC0.out hk12
    rw [← hzs] at q1 q2
    obtain ⟨j, rfl⟩ : ∃ j : Nat, k = (j : Int) := ⟨k.toNat, by omega⟩
    rw [Int.toNat_natCast] at q1
    have hj0 : (0 : Int) ≤ (j : Int) := by omega
    have hj1 : (j : Int) < 4 := by omega
    have HKN : Hid (keyN zs v = (j : Int)) := q2
    have hcell : W5.cell? ⟨ga, j, none⟩ = some (.int .i64 v) := by
      rcases Z6.out.2.2 with h0 | ⟨b', o', e0, gz⟩
      · omega
      · cases e0
        have := gz j (by omega)
        rw [Nat.zero_add, q1] at this
        exact this
    obtain ⟨A0, A1⟩ := A6.out.c2
    obtain ⟨x0, x1, x2⟩ := K6.out.op.c3
    have m0 := A6.out.lt
    have m1 := K6.out.op.lt
    have m2 : ga < W5.heap.size := World.block_lt_of_cell? W5 _ hcell
    have KK : Hid ((W5.cell? ⟨ba, 0, none⟩ = some (.slice (some ⟨ga, 0, none⟩) 4 c') ∧ W5.cell? ⟨ba, 1, none⟩ = some (.int .i64 st')) ∧ (W5.cell? ⟨bo, 1, none⟩ = some (.int .i64 (j : Int)) ∧ W5.cell? ⟨bo, 2, none⟩ = some (.int .i64 v)) ∧ W5.cell? ⟨ga, j, none⟩ = some (.int .i64 v)) := ⟨⟨A0, A1⟩, ⟨x1, x2⟩, hcell⟩
    clear hzs q1 q2
    rcases hk12 with rfl | rfl
    all_goals
      go_wp2_with fail
      rw [HW5.out, HBA.out]
      clear r0 r1 o0 o1 o2 p0 p1 p2 p3 l0 l1 l2 HW5 HBA
      go_region_held3 (fun w' => (w'.cell? ⟨ba, 0, none⟩ = some (.slice (some ⟨ga, 0, none⟩) 4 c') ∧ w'.cell? ⟨ba, 1, none⟩ = some (.int .i64 st')) ∧ (w'.cell? ⟨bo, 1, none⟩ = some (.int .i64 (j : Int)) ∧ w'.cell? ⟨bo, 2, none⟩ = some (.int .i64 v)) ∧ w'.cell? ⟨ga, j, none⟩ = some (.int .i64 v))
        (first | (with_reducible exact K7.out) | (with_reducible exact KK.out) | go_keep)
        (first
        | (go_at_call 11
           refine (implKeyOf_room (some ⟨ga, 0, none⟩) c' hc4 st' v zs _ (Z6.out.below (Below.refl W5.heap.size W5).drew (Nat.le_refl _)) HZW.out hv).mono ?_
           rintro e w7 ⟨rfl, hb7⟩
           rw [HKN.out]
           have hb7' : Below W5.heap.size W5 w7 := (Below.refl _ W5).drew.trans hb7
           have K7 : Hid ((w7.cell? ⟨ba, 0, none⟩ = some (.slice (some ⟨ga, 0, none⟩) 4 c') ∧ w7.cell? ⟨ba, 1, none⟩ = some (.int .i64 st')) ∧ (w7.cell? ⟨bo, 1, none⟩ = some (.int .i64 (j : Int)) ∧ w7.cell? ⟨bo, 2, none⟩ = some (.int .i64 v)) ∧ w7.cell? ⟨ga, j, none⟩ = some (.int .i64 v)) := ⟨⟨(hb7'.cell m0).trans A0, (hb7'.cell m0).trans A1⟩, ⟨(hb7'.cell m1).trans x1, (hb7'.cell m1).trans x2⟩, (hb7'.cell m2).trans hcell⟩
           have hall : Below w0.heap.size w0 w7 := K6.out.bel.trans (hb7'.mono K6.out.bel.size)
           clear hb7 hb7'))
      clear KK K7 A0 A1 x0 x1 x2 hcell
      go_wp2
      go_ret
      exact ⟨by first | rfl | simp, hall⟩
  · obtain ⟨hk, q1⟩ := key_del HAL.out rfl
    rw [← hzs] at q1
    obtain ⟨j, rfl⟩ : ∃ j : Nat, k = (j : Int) := ⟨k.toNat, by omega⟩
    rw [Int.toNat_natCast] at q1
    have hj0 : (0 : Int) ≤ (j : Int) := by omega
    have hj1 : (j : Int) < 4 := by omega
    have hcell : W5.cell? ⟨ga, j, none⟩ = some (.int .i64 0) := by
      rcases Z6.out.2.2 with h0 | ⟨b', o', e0, gz⟩
      · omega
      · cases e0
        have := gz j (by omega)
        rw [Nat.zero_add, q1] at this
        exact this
    have hcell5 : w5.cell? ⟨ga, j, none⟩ = some (.int .i64 0) := by
      rcases Z5.out.2.2 with h0 | ⟨b', o', e0, gz⟩
      · omega
      · cases e0
        have := gz j (by omega)
        rw [Nat.zero_add, q1] at this
        exact this
    have m2 : ga < w5.heap.size := World.block_lt_of_cell? w5 _ hcell5
    clear hzs q1 hcell
    go_wp2
    go_ret
    exact ⟨rfl, by rw [HW5.out]; exact K6.out.bel⟩
  · have HST : Hid (st' = st + 1) := hst'
    have hz2 := Z6.out
    rw [hzs] at hz2
    have ZX : Hid (IntAt W5 (some ⟨ga, 0, none⟩) 4 xs) := hz2
    have hst3 : (st' == st + 1) = true := by simp [hst']
    clear hzs hst' hz2
    rcases hk89 with rfl | rfl
    all_goals
      go_wp2_with fail
      rw [HW5.out]
      refine (sameInts_any _ _ 4 4 c' 4 xs xs _ ZX.out K6.out.held).mono ?_
      rintro e w7 ⟨rfl, hb7⟩
      rw [show decide (xs = xs) = true from decide_eq_true rfl]
      have hall : Below w0.heap.size w0 w7 := K6.out.bel.trans (hb7.mono K6.out.bel.size)
      clear hb7
      go_wp2
      go_ret
      exact ⟨rfl, hall⟩
  · have hz2 := Z6.out
    rw [hzs] at hz2
    have ZX : Hid (IntAt W5 (some ⟨ga, 0, none⟩) 4 xs) := hz2
    have hk5 : kind = 4 ∨ kind = 5 ∨ kind = 6 ∨ kind = 7 ∨ kind = 10 := by omega
    clear hzs hz2 hkr
    rcases hk5 with rfl | rfl | rfl | rfl | rfl
    all_goals
      go_wp2_with fail
      rw [HW5.out]
      refine (sameInts_any _ _ 4 4 c' 4 xs xs _ ZX.out K6.out.held).mono ?_
      rintro e w7 ⟨rfl, hb7⟩
      rw [show decide (xs = xs) = true from decide_eq_true rfl]
      have hall : Below w0.heap.size w0 w7 := K6.out.bel.trans (hb7.mono K6.out.bel.size)
      have K7 := K6.out.below hb7
      obtain ⟨R0, R1⟩ := K7.rows.c2
      obtain ⟨A0, A1⟩ := (A6.out.below hb7 A6.out.lt).c2
      rw [← HBA.out] at A0 A1
      clear hb7 K7 r0 r1 o0 o1 o2 p0 p1 p2 p3
      go_wp2
      go_ret
      exact ⟨by first | rfl | simp, hall⟩
end Go.Proofs.YtenlapppaimkkaeGreatDoor

/- The table of names, from the row's condition to memory and back. -/
namespace Go.Proofs.YtenlapppaimkkaeGreatDoor
open Go.ChangeShapes Go.WideShapes Go.ChangeAt Go.RowKit

def namesD {H : Type} : DataW H := .agg (nmL.map fun p => .agg [.lit (.int .i64 p.1), .lit (.int .i64 p.2)])

theorem reads_names {H : Type} (enc : TypeId × Value → H) (W : World) (base : Nat) (sp : Nat → Bool) (held : Bool) : DataW.trod enc Tryz.prog W base sp held 4 135 nmCells.toList = some (namesD, []) := by kernel_rfl

theorem cells_name : Tryz.prog.cellsOf 124 = 2 := by kernel_rfl
theorem cells_names : Tryz.prog.cellsOf 135 = 40 := by kernel_rfl

theorem nm_cells (i : Nat) (hi : i < 20) (r : Nat) (hr : r < 2) : nmCells.toList[i * 2 + r]? = [Value.int .i64 (nmA i), .int .i64 (nmB i)][r]? := by
  have h : i = 0 ∨ i = 1 ∨ i = 2 ∨ i = 3 ∨ i = 4 ∨ i = 5 ∨ i = 6 ∨ i = 7 ∨ i = 8 ∨ i = 9 ∨ i = 10 ∨ i = 11 ∨ i = 12 ∨ i = 13 ∨ i = 14 ∨ i = 15 ∨ i = 16 ∨ i = 17 ∨ i = 18 ∨ i = 19 := by omega
  have h2 : r = 0 ∨ r = 1 := by omega
  rcases h2 with rfl | rfl <;> rcases h with rfl | rfl | rfl | rfl | rfl | rfl | rfl | rfl | rfl | rfl | rfl | rfl | rfl | rfl | rfl | rfl | rfl | rfl | rfl | rfl <;> rfl
theorem nm_data {H : Type} (i : Nat) (hi : i < 20) : (nmL.map fun p => (DataW.agg [.lit (.int .i64 p.1), .lit (.int .i64 p.2)] : DataW H))[i]? = some (Lib.tabData .i64 [nmA i, nmB i]) := by
  have h : i = 0 ∨ i = 1 ∨ i = 2 ∨ i = 3 ∨ i = 4 ∨ i = 5 ∨ i = 6 ∨ i = 7 ∨ i = 8 ∨ i = 9 ∨ i = 10 ∨ i = 11 ∨ i = 12 ∨ i = 13 ∨ i = 14 ∨ i = 15 ∨ i = 16 ∨ i = 17 ∨ i = 18 ∨ i = 19 := by omega
  rcases h with rfl | rfl | rfl | rfl | rfl | rfl | rfl | rfl | rfl | rfl | rfl | rfl | rfl | rfl | rfl | rfl | rfl | rfl | rfl | rfl <;> rfl

theorem names_of_trod {H : Type} {enc : TypeId × Value → H} {w : World} {base : Nat} {sp : Nat → Bool} {held : Bool} {fuel : Nat} {cs : List Value} {p : List MemPlace}
    (h : DataW.trod enc Tryz.prog w base sp held fuel 135 cs = some (namesD, p)) : cs = nmCells.toList := by
  have hl : cs.length = 40 := by
    cases fuel with
    | zero => simp [DataW.trod] at h
    | succ fuel =>
      simp only [DataW.trod, Tryz.underlying135, cells_names, cells_name] at h
      split at h
      · rename_i hl
        omega
      · cases h
  have key : ∀ i, i < 20 → (cs.drop (i * 2)).take 2 = [Value.int .i64 (nmA i), .int .i64 (nmB i)] := by
    intro i hi
    obtain ⟨fuel', d, q, hd, ht⟩ := Lib.array_elem Tryz.underlying135 h i hi
    rw [nm_data i hi] at hd
    obtain rfl := Option.some.inj hd
    rw [cells_name] at ht
    exact Lib.cells_of_tab Tryz.underlying124 Tryz.underlying3 cells_int cells_name ht
  apply List.ext_getElem?
  intro j
  by_cases hj : j < 40
  · obtain ⟨i, r, rfl, hi, hr⟩ : ∃ i r, j = i * 2 + r ∧ i < 20 ∧ r < 2 := ⟨j / 2, j % 2, by omega, by omega, by omega⟩
    rw [nm_cells i hi r hr, ← key i hi]
    simp [hr]
  · rw [List.getElem?_eq_none (by omega), List.getElem?_eq_none (by rw [show nmCells.toList.length = 40 by decide +kernel]; omega)]

theorem names_of_laid {W : World} (h : laidMet Tryz.prog [("loop.example/g00468/impl.wordNames", namesD)] W) : Names W := by
  obtain ⟨ps, ⟨g', t', cs, fuel, p, q, hg', ht', hvar, hd, _, _⟩, _⟩ := h
  obtain rfl := Option.some.inj (gNames.symm.trans hg')
  obtain rfl := Option.some.inj (gNamesType.symm.trans ht')
  have hc := names_of_trod hd
  unfold Names
  rw [hvar]
  congr 1
  cases cs
  simp_all

/-- What the table reads as, ahead of the call and behind it. -/
theorem vars_open {H : Type} {enc : TypeId × Value → H} {W : World} {sp : Nat → Bool} {gs : List (DataW H)} {q : List MemPlace} (hN : Names W)
    (hV : DataW.TrodVars enc Tryz.prog W sp ["loop.example/g00468/impl.wordNames"] gs q) : gs = [namesD] := by
  obtain ⟨g, t, cs, fuel, d, p', rfl, hg, ht, hvar, hd, rfl⟩ := trodVars_one hV
  obtain rfl := Option.some.inj (gNames.symm.trans hg)
  obtain rfl := Option.some.inj (gNamesType.symm.trans ht)
  obtain rfl : cs = nmCells := Option.some.inj (hvar.symm.trans hN)
  obtain ⟨rfl, rfl⟩ := DataW.Trod.unique (v := .agg nmCells) ⟨fuel, hd⟩ ⟨4, reads_names enc W _ _ _⟩
  rfl
theorem vars_shut {H : Type} {enc : TypeId × Value → H} {W : World} (sp : Nat → Bool) (hN : Names W) :
    DataW.TrodVars enc Tryz.prog W sp ["loop.example/g00468/impl.wordNames"] [namesD] (MemPlace.row ⟨0, 0, none⟩ nmCells.size ++ []) :=
  trodVars_mk1 gNames gNamesType hN (reads_names enc W _ _ _)
end Go.Proofs.YtenlapppaimkkaeGreatDoor
