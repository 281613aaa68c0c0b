/- Texts joined: LawKnows, Laid. -/
import Derived.Test.YtenlapppaimkkabGreatDoorKN16
import Derived.Test.YtenlapppaimkkabGreatDoorKN19
import Derived.Test.YtenlapppaimkkabGreatDoorKN07
import Derived.Deep.QuietTactic
import Derived.BigQuiet
import Derived.Test.YtenlapppaimkkabGreatDoorRows
import Derived.Test.YtenlapppaimkkabGreatDoorKN02
import Derived.ChangeVars
import Derived.ChangeReads
import Derived.Lib.LaidTab
import Derived.Lib.LaidU8
import Derived.LaidMore
import Derived.MakeChecks
/- The law FnKnows, walked: of each drawn plan each word that was read is one of its entries. -/
namespace Go.Proofs.YtenlapppaimkkabGreatDoor
open Go.ChangeShapes Go.WideShapes Go.ChangeAt Go.RowKit

theorem below_dN {B : Nat} {w w' : World} (h : Below B w w') : ∀ n, Below B w (w'.drewN n)
  | 0 => h
  | n + 1 => (below_dN h n).drew
theorem big_is (a : Option Addr) (n c : Nat) (w : World) : Calls Tryz.prog 5 #[.slice a n c] w fun e w' => e = .returned (.bool (decide (1048576 < n))) ∧ w' = w := by
  obtain ⟨B, hB⟩ : ∃ B, decide (1048576 < n) = B := ⟨_, rfl⟩
  rw [hB]
  have HB : Hid (decide ((1048576 : Int) < (n : Int)) = B) := by
    show _ = _
    rw [← hB, decide_eq_decide]
    omega
  clear hB
  go_enter Tryz.func5, Tryz.ntmps5
  go_wp2
  go_ret
  refine ⟨?_, rfl⟩
  rw [← HB.out]
  first | rfl | simp
theorem flatP_at (f : Int → Int) : ∀ (ps : List Int) (i : Nat), i < ps.length → (flatP f ps).getD (i * 2) 0 = ps.getD i 0 ∧ (flatP f ps).getD (i * 2 + 1) 0 = f (ps.getD i 0)
  | p :: ps, 0, _ => by simp [flatP]
  | p :: ps, i + 1, h => by
    have ih := flatP_at f ps i (by simpa using h)
    have e : flatP f (p :: ps) = p :: f p :: flatP f ps := by simp [flatP]
    rw [e, show (i + 1) * 2 = i * 2 + 1 + 1 by omega]
    simpa using ih
theorem known_next' {xs : List Int} {st kind k v : Int} {N : Nat} (hN : (needL (wordF xs st) kind k v).length = N) (hok : OkRows xs st) (hg : OpGood kind k v) : nextM (flatP (wordF xs st) (needL (wordF xs st) kind k v)) N kind k v = -1 := by
  rw [← hN]; exact known_next hok hg
/-- The op, the plan and what was read, in their places. -/
structure KSt (w : World) (bo bp : Nat) (kind k v : Int) (pl : Array Value) (b : Option Addr) (E : List Ent) (q N : Nat) (fs : List Int) (wr : World) : Prop where
  op : Box wr bo #[.int .i64 kind, .int .i64 k, .int .i64 v] 28
  plan : Box wr bp pl 36
  ents : EntAt wr b E.length (flatE E)
  pairs : PairAt wr (some ⟨q, 0, none⟩) N fs
  names : Names wr
  bel : Below w.heap.size w wr
theorem KSt.below {w wr wr' : World} {bo bp : Nat} {kind k v : Int} {pl : Array Value} {b : Option Addr} {E : List Ent} {q N : Nat} {fs : List Int} (h : KSt w bo bp kind k v pl b E q N fs wr) (hb : Below wr.heap.size wr wr') : KSt w bo bp kind k v pl b E q N fs wr' :=
  ⟨h.op.below hb h.op.lt, h.plan.below hb h.plan.lt, h.ents.below hb (Nat.le_refl _), h.pairs.below hb (Nat.le_refl _), h.names.below hb h.names.lt, h.bel.trans (hb.mono h.bel.size)⟩
theorem Box.c3 {w : World} {b : Nat} {T : TypeId} {x y z : Value} (h : Box w b #[x, y, z] T) : w.cell? ⟨b, 0, none⟩ = some x ∧ w.cell? ⟨b, 1, none⟩ = some y ∧ w.cell? ⟨b, 2, none⟩ = some z := ⟨h.cell 0, h.cell 1, h.cell 2⟩
theorem Box.c4 {w : World} {b : Nat} {T : TypeId} {x y z u : Value} (h : Box w b #[x, y, z, u] T) : w.cell? ⟨b, 0, none⟩ = some x ∧ w.cell? ⟨b, 1, none⟩ = some y ∧ w.cell? ⟨b, 2, none⟩ = some z ∧ w.cell? ⟨b, 3, none⟩ = some u := ⟨h.cell 0, h.cell 1, h.cell 2, h.cell 3⟩
/-- Whether one of the first k entries is that word, as it was read. -/
def hitB (E : List Ent) (p u : Int) (k : Nat) : Bool := (E.take k).any fun y => y.1 == p && y.2.1 == u
theorem hitB_next (E : List Ent) (p u : Int) (k : Nat) (h : k < E.length) : hitB E p u (k + 1) = (hitB E p u k || ((E.getD k (0, 0, 0)).1 == p && (E.getD k (0, 0, 0)).2.1 == u)) := by
  unfold hitB
  rw [List.take_succ_eq_append_getElem h, List.any_append]
  simp [List.getD, h]
theorem hitB_all {E : List Ent} {p u : Int} (h : ∃ y ∈ E, keyE y = (p, u)) : hitB E p u E.length = true := by
  unfold hitB
  rw [List.take_length, List.any_eq_true]
  obtain ⟨y, hy, e⟩ := h
  refine ⟨y, hy, ?_⟩
  unfold keyE at e
  simp only [Prod.mk.injEq] at e
  simp [e.1, e.2]

set_option maxHeartbeats 8000000 in
set_option maxRecDepth 100000 in
theorem knows_walk (a : Option Addr) (n c : Nat) (w : World) (hB : BytesAt w w.heap.size a n) (hN : Names w) :
    Calls Tryz.prog 4 #[.slice a n c] w fun e w' => e = .returned (.bool true) ∧ Below w.heap.size w w' := by
  have HBY : Hid (BytesAt w w.heap.size a n) := hB
  have HN : Hid (Names w) := hN
  clear hB hN
  by_cases hbig : 1048576 < n
  · go_enter Tryz.func4, Tryz.ntmps4
    go_wp2_with fail
    refine (big_is a n c _).mono ?_
    rintro e w1 ⟨rfl, rfl⟩
    rw [decide_eq_true hbig]
    go_wp2
    go_ret
    exact ⟨rfl, Below.refl _ _⟩
  go_enter Tryz.func4, Tryz.ntmps4
  go_wp2_with fail
  refine (big_is a n c _).mono ?_
  rintro e w0 ⟨rfl, rfl⟩
  rw [decide_eq_false hbig]
  go_wp2_with fail
  refine (drawKnown_any a n c _ (by omega) HBY.out).mono ?_
  rintro e w1 ⟨g, st, xs, kind, k, v, q, cq, rfl, hi1, hok, hg, hp1, hb1⟩
  have HOK : Hid (OkRows xs st ∧ OpGood kind k v) := ⟨hok, hg⟩
  obtain ⟨N, hNN⟩ : ∃ N, (needL (wordF xs st) kind k v).length = N := ⟨_, rfl⟩
  have HNN : Hid ((needL (wordF xs st) kind k v).length = N) := hNN
  have hN8 : N ≤ 8 ∧ 0 < N := by rw [← hNN]; have := need_ok (wordF_ok hok) hg; omega
  have P1 : Hid (PairAt w1 (some ⟨q, 0, none⟩) (needL (wordF xs st) kind k v).length (flatP (wordF xs st) (needL (wordF xs st) kind k v))) := hp1
  have HB1 : Hid (Below w0.heap.size w0 w1) := hb1
  rw [hNN]
  clear hi1 hok hg hp1 hb1 hNN
  go_wp2_with fail
  obtain ⟨W1, hW1⟩ : ∃ W1, (w1.alloc (.cells #[.slice (some ⟨g, 0, none⟩) 4 4, .int .i64 st] 26)).alloc (.cells #[.int .i64 kind, .int .i64 k, .int .i64 v] 28) = W1 := ⟨_, rfl⟩
  have b1 : Below w1.heap.size w1 W1 := by rw [← hW1]; exact ((Below.refl _ w1).alloc (Nat.le_refl _) _).alloc (by simp) _
  have O1 : Hid (Box W1 (w1.heap.size + 1) #[.int .i64 kind, .int .i64 k, .int .i64 v] 28) := by
    have := box_of (w1.alloc (.cells #[.slice (some ⟨g, 0, none⟩) 4 4, .int .i64 st] 26)) #[.int .i64 kind, .int .i64 k, .int .i64 v] 28
    rw [hW1] at this
    simp at this
    exact this
  have HB2 : Hid (Below w0.heap.size w0 W1) := HB1.out.trans (b1.mono HB1.out.size)
  have P2 : Hid (PairAt W1 (some ⟨q, 0, none⟩) (needL (wordF xs st) kind k v).length (flatP (wordF xs st) (needL (wordF xs st) kind k v))) := P1.out.below b1 (Nat.le_refl _)
  rw [hW1]
  clear b1 hW1 P1 HB1
  have hpl := implPlan_known (some ⟨q, 0, none⟩) cq xs st kind k v W1 HOK.out.1 HOK.out.2 (HN.out.below HB2.out HN.out.lt) P2.out
  rw [HNN.out] at hpl
  refine hpl.mono ?_
  clear hpl
  rintro e w2 ⟨nw, x, E, ⟨ra, rm, rc, eb, ed, rfl, hri, hre⟩, his, hb2⟩
  have HIS : Hid (PlanIs xs st kind k v nw x E) := his
  have E2 : Hid (EntAt w2 eb E.length (flatE E)) := hre
  have HEL : E.length ≤ 1048576 := hre.2.1
  obtain ⟨o0, o1, o2⟩ := (O1.out.below hb2 O1.out.lt).c3
  obtain ⟨bo, hbo⟩ : ∃ bo, w1.heap.size + 1 = bo := ⟨_, rfl⟩
  have O2 : Hid (Box w2 bo #[.int .i64 kind, .int .i64 k, .int .i64 v] 28) := by rw [← hbo]; exact O1.out.below hb2 O1.out.lt
  have P3 : Hid (PairAt w2 (some ⟨q, 0, none⟩) (needL (wordF xs st) kind k v).length (flatP (wordF xs st) (needL (wordF xs st) kind k v))) := P2.out.below hb2 (Nat.le_refl _)
  have HB3 : Hid (Below w0.heap.size w0 w2) := HB2.out.trans (hb2.mono HB2.out.size)
  have hbl : bo < w2.heap.size := O2.out.lt
  rw [hbo] at o0 o1 o2 ⊢
  clear hri hre his hb2 hbo O1 P2 HB2
  go_wp2_with fail
  obtain ⟨W2, hW2⟩ : ∃ W2, w2.alloc (.cells #[.bool nw, .int .i64 x.1, .slice ra rm rc, .slice eb E.length ed] 36) = W2 := ⟨_, rfl⟩
  have b2 : Below w2.heap.size w2 W2 := by rw [← hW2]; exact (Below.refl _ w2).alloc (Nat.le_refl _) _
  have K2 : Hid (KSt w0 bo w2.heap.size kind k v #[.bool nw, .int .i64 x.1, .slice ra rm rc, .slice eb E.length ed] eb E q (needL (wordF xs st) kind k v).length (flatP (wordF xs st) (needL (wordF xs st) kind k v)) W2) :=
    ⟨O2.out.below b2 O2.out.lt, by rw [← hW2]; exact box_of w2 _ _, E2.out.below b2 (Nat.le_refl _), P3.out.below b2 (Nat.le_refl _), HN.out.below (HB3.out.trans (b2.mono HB3.out.size)) HN.out.lt, HB3.out.trans (b2.mono HB3.out.size)⟩
  rw [hW2]
  clear b2 hW2 O2 P3 E2 HB3 o0 o1 o2
  have hsp := specPlan_ok (some ⟨q, 0, none⟩) _ cq _ kind k v W2 K2.out.pairs HOK.out.2 (known_next HOK.out.1 HOK.out.2)
  rw [HNN.out] at hsp
  refine hsp.mono ?_
  clear hsp
  rintro e w3 ⟨⟨y0, y1, y2, y3, z2, z3, u2, u3, rfl⟩, hb3⟩
  obtain ⟨W3, hW3⟩ : ∃ W3, w3.alloc (.cells #[.bool y0, .int .i64 y1, .slice y2 z2 u2, .slice y3 z3 u3] 36) = W3 := ⟨_, rfl⟩
  have K3 : Hid (KSt w0 bo w2.heap.size kind k v #[.bool nw, .int .i64 x.1, .slice ra rm rc, .slice eb E.length ed] eb E q (needL (wordF xs st) kind k v).length (flatP (wordF xs st) (needL (wordF xs st) kind k v)) W3) := by
    refine K2.out.below ?_
    rw [← hW3]
    exact hb3.alloc hb3.size _
  have HW3 : Hid (w3.alloc (.cells #[.bool y0, .int .i64 y1, .slice y2 z2 u2, .slice y3 z3 u3] 36) = W3) := hW3
  obtain ⟨bp, hbp⟩ : ∃ bp, w2.heap.size = bp := ⟨_, rfl⟩
  rw [hbp] at K3 ⊢
  clear hb3 hW3 K2 hbp
  cases nw
  · have hhit := HIS.out.hit HOK.out.1 HOK.out.2
    rw [HNN.out] at hhit
    have HEN : E.length = N := hhit.1
    have HH : Hid (∀ p ∈ needL (wordF xs st) kind k v, ∃ y ∈ E, keyE y = (p, wordF xs st p)) := hhit.2
    have HENH : Hid (E.length = N) := HEN
    clear hhit HEN
    go_wp2
    go_loopw [10] (fun i wr => ∃ j : Nat, j ≤ N ∧ i = .int .i64 (j : Int) ∧ KSt w0 bo bp kind k v #[.bool false, .int .i64 x.1, .slice ra rm rc, .slice eb E.length ed] eb E q (needL (wordF xs st) kind k v).length (flatP (wordF xs st) (needL (wordF xs st) kind k v)) wr) (fun i _ => N - (intOf i).toNat)
    case atStart => exact ⟨0, Nat.zero_le _, rfl, by rw [HW3.out]; exact K3.out⟩
    case round =>
      obtain ⟨j, hj, rfl, hst⟩ := hrel
      have KS : Hid (KSt w0 bo bp kind k v #[.bool false, .int .i64 x.1, .slice ra rm rc, .slice eb E.length ed] eb E q (needL (wordF xs st) kind k v).length (flatP (wordF xs st) (needL (wordF xs st) kind k v)) wr) := hst
      obtain ⟨c0, c1, c2, c3⟩ := hst.plan.c4
      obtain ⟨o0, o1, o2⟩ := hst.op.c3
      have hN12 : (N : Int) ≤ 12 := by omega
      clear hst K3 HW3
      by_cases hlt : j < N
      · have hj0 : (0 : Int) ≤ (j : Int) := by omega
        have hj1 : (j : Int) < (N : Int) := by omega
        obtain ⟨p, hp⟩ : ∃ p, (needL (wordF xs st) kind k v).getD j 0 = p := ⟨_, rfl⟩
        have hpm : p ∈ needL (wordF xs st) kind k v := by
          rw [← hp, List.getD_eq_getElem?_getD, List.getElem?_eq_getElem (by rw [HNN.out]; exact hlt)]
          exact List.getElem_mem _
        obtain ⟨u, hu⟩ : ∃ u, wordF xs st p = u := ⟨_, rfl⟩
        have HIT : Hid (hitB E p u E.length = true) := hitB_all (by rw [← hu]; exact HH.out p hpm)
        have hfl := flatP_at (wordF xs st) (needL (wordF xs st) kind k v) j (by rw [HNN.out]; exact hlt)
        rw [hp, hu] at hfl
        have HFL : Hid ((flatP (wordF xs st) (needL (wordF xs st) kind k v)).getD (j * 2) 0 = p ∧ (flatP (wordF xs st) (needL (wordF xs st) kind k v)).getD (j * 2 + 1) 0 = u) := hfl
        clear hp hpm hu hfl
        go_wp2
        go_loopw [11, 12] (fun h i wr => ∃ m : Nat, m ≤ E.length ∧ h = .bool (hitB E p u m) ∧ i = .int .i64 (m : Int) ∧ KSt w0 bo bp kind k v #[.bool false, .int .i64 x.1, .slice ra rm rc, .slice eb E.length ed] eb E q (needL (wordF xs st) kind k v).length (flatP (wordF xs st) (needL (wordF xs st) kind k v)) wr) (fun _ i _ => E.length - (intOf i).toNat)
        case atStart => exact ⟨0, Nat.zero_le _, rfl, rfl, KS.out⟩
        case round =>
          obtain ⟨m, hm, rfl, rfl, hst⟩ := hrel
          have KS2 : Hid _ := hst
          obtain ⟨x0, x1, x2, x3⟩ := hst.plan.c4
          clear KS c0 c1 c2 c3 o0 o1 o2
          by_cases hml : m < E.length
          · have hm0 : (0 : Int) ≤ (m : Int) := by omega
            have hm1 : (m : Int) < (E.length : Int) := by omega
            rcases hst.ents.2.2 with ⟨_, h0⟩ | ⟨b', o', rfl, ge⟩
            · omega
            rcases hst.pairs.2.2 with h0 | ⟨b2, o2, e0, gp⟩
            · rw [HNN.out] at h0; omega
            cases e0
            have ge0 := ge (m * 3) (by omega)
            have ge1 := ge (m * 3 + 1) (by omega)
            have gt0 := getD_flatE E m hml 0 (by omega)
            have gt1 := getD_flatE E m hml 1 (by omega)
            have gp0 := gp (j * 2) (by rw [HNN.out]; omega)
            have gp1 := gp (j * 2 + 1) (by rw [HNN.out]; omega)
            rw [HFL.out.1] at gp0
            rw [HFL.out.2, ← Nat.add_assoc] at gp1
            simp only [Nat.add_zero, List.getD_cons_zero, List.getD_cons_succ] at gt0 gt1
            obtain ⟨y, hy⟩ : ∃ y, E.getD m (0, 0, 0) = y := ⟨_, rfl⟩
            have HNX : Hid (hitB E p u (m + 1) = (hitB E p u m || (y.1 == p && y.2.1 == u))) := by rw [← hy]; exact hitB_next E p u m hml
            rw [hy] at gt0 gt1
            rw [gt0] at ge0
            rw [gt1, ← Nat.add_assoc] at ge1
            obtain ⟨yp, yo, yn⟩ := y
            dsimp only at ge0 ge1 HNX
            simp only [Nat.zero_add] at gp0 gp1
            clear ge gp gt0 gt1 hy hst
            rcases hh : hitB E p u m with _ | _
            · rw [hh] at HNX
              by_cases hyp : yp = p
              · have hyp' : (yp == p) = true := by simpa using hyp
                by_cases hyo : yo = u
                · have hyo' : (yo == u) = true := by simpa using hyo
                  have HR : Hid (hitB E p u (m + 1) = true) := by show _ = _; rw [HNX.out, hyp', hyo']; rfl
                  clear hh HNX hyp hyo
                  go_wp2
                  go_quiet (fail)
                  go_wp2
                  exact ⟨⟨m + 1, by omega, by rw [HR.out], by go_num, KS2.out.below (below_dN (Below.refl _ _) nq)⟩, by simp [intOf]; omega⟩
                · have hyo' : (yo == u) = false := by simpa using hyo
                  have HR : Hid (hitB E p u (m + 1) = false) := by show _ = _; rw [HNX.out, hyp', hyo']; rfl
                  clear hh HNX hyp hyo
                  go_wp2
                  go_quiet (fail)
                  go_wp2
                  exact ⟨⟨m + 1, by omega, by rw [HR.out], by go_num, KS2.out.below (below_dN (Below.refl _ _) nq)⟩, by simp [intOf]; omega⟩
              · have hyp' : (yp == p) = false := by simpa using hyp
                have HR : Hid (hitB E p u (m + 1) = false) := by show _ = _; rw [HNX.out, hyp']; rfl
                clear hh HNX hyp
                go_wp2
                go_quiet (fail)
                go_wp2
                exact ⟨⟨m + 1, by omega, by rw [HR.out], by go_num, KS2.out.below (below_dN (Below.refl _ _) nq)⟩, by simp [intOf]; omega⟩
            · have HR : Hid (hitB E p u (m + 1) = true) := by show _ = _; rw [HNX.out, hh]; rfl
              clear hh HNX
              go_wp2
              go_quiet (fail)
              go_wp2
              exact ⟨⟨m + 1, by omega, by rw [HR.out], by go_num, KS2.out.below (below_dN (Below.refl _ _) nq)⟩, by simp [intOf]; omega⟩
          · obtain rfl : m = E.length := by omega
            rw [HIT.out]
            clear hst
            go_wp2
            exact ⟨⟨j + 1, by omega, by go_num, KS2.out⟩, by simp [intOf]; omega⟩
      · obtain rfl : j = N := by omega
        have hEj : ((E.length : Int) == (j : Int)) = true := by have := HENH.out; simp; omega
        have hnx := implNext_cap (some ⟨q, 0, none⟩) _ cq kind k v _ wr KS.out.names KS.out.pairs (known_wf HOK.out.1 HOK.out.2)
        rw [HNN.out, known_next' HNN.out HOK.out.1 HOK.out.2] at hnx
        go_wp2_with fail
        refine hnx.mono ?_
        clear hnx
        rintro e w5 ⟨rfl, hb5⟩
        have KS5 : Hid (KSt w0 bo bp kind k v #[.bool false, .int .i64 x.1, .slice ra rm rc, .slice eb E.length ed] eb E q (needL (wordF xs st) kind k v).length (flatP (wordF xs st) (needL (wordF xs st) kind k v)) w5) := KS.out.below hb5
        obtain ⟨d0, d1, d2, d3⟩ := KS5.out.plan.c4
        clear hb5 o0 o1 o2 c0 c1 c2 c3
        go_wp2
        go_ret
        exact ⟨by first | rfl | simp [hN12, HENH.out], KS5.out.bel⟩
  · have HE : Hid (E = []) := by
      show E = []
      rcases HIS.out with ⟨_, h, _⟩ | ⟨h, _⟩
      · exact h
      · cases h
    go_wp2
    go_loopw [10] (fun i wr => i = .int .i64 0 ∧ KSt w0 bo bp kind k v #[.bool true, .int .i64 x.1, .slice ra rm rc, .slice eb E.length ed] eb E q (needL (wordF xs st) kind k v).length (flatP (wordF xs st) (needL (wordF xs st) kind k v)) wr) (fun _ _ => 0)
    case atStart => exact ⟨rfl, by rw [HW3.out]; exact K3.out⟩
    case round =>
      obtain ⟨rfl, hst⟩ := hrel
      have KS : Hid (KSt w0 bo bp kind k v #[.bool true, .int .i64 x.1, .slice ra rm rc, .slice eb E.length ed] eb E q (needL (wordF xs st) kind k v).length (flatP (wordF xs st) (needL (wordF xs st) kind k v)) wr) := hst
      obtain ⟨c0, c1, c2, c3⟩ := hst.plan.c4
      obtain ⟨o0, o1, o2⟩ := hst.op.c3
      have hN0 : (0 : Int) < (N : Int) := by omega
      have hN12 : (N : Int) ≤ 12 := by omega
      clear hst K3 HW3
      have hnx := implNext_cap (some ⟨q, 0, none⟩) _ cq kind k v _ wr KS.out.names KS.out.pairs (known_wf HOK.out.1 HOK.out.2)
      rw [HNN.out, known_next' HNN.out HOK.out.1 HOK.out.2] at hnx
      go_wp2_with fail
      refine hnx.mono ?_
      clear hnx
      rintro e w5 ⟨rfl, hb5⟩
      have KS5 : Hid (KSt w0 bo bp kind k v #[.bool true, .int .i64 x.1, .slice ra rm rc, .slice eb E.length ed] eb E q (needL (wordF xs st) kind k v).length (flatP (wordF xs st) (needL (wordF xs st) kind k v)) w5) := KS.out.below hb5
      obtain ⟨d0, d1, d2, d3⟩ := KS5.out.plan.c4
      clear hb5 o0 o1 o2 c0 c1 c2 c3
      go_wp2
      go_ret
      exact ⟨by first | rfl | simp [hN12], KS5.out.bel⟩
end Go.Proofs.YtenlapppaimkkabGreatDoor

/- The table of names, from the row's condition to memory and back. -/
namespace Go.Proofs.YtenlapppaimkkabGreatDoor
open Go.ChangeShapes Go.WideShapes Go.ChangeAt Go.RowKit

def namesD {H : Type} : DataW H := .agg (nmL.map fun p => .agg [.lit (.int .i64 p.1), .lit (.int .i64 p.2)])

theorem reads_names {H : Type} (enc : TypeId × Value → H) (W : World) (base : Nat) (sp : Nat → Bool) (held : Bool) : DataW.trod enc Tryz.prog W base sp held 4 135 nmCells.toList = some (namesD, []) := by kernel_rfl

theorem cells_name : Tryz.prog.cellsOf 117 = 2 := by kernel_rfl
theorem cells_names : Tryz.prog.cellsOf 135 = 40 := by kernel_rfl

theorem nm_cells (i : Nat) (hi : i < 20) (r : Nat) (hr : r < 2) : nmCells.toList[i * 2 + r]? = [Value.int .i64 (nmA i), .int .i64 (nmB i)][r]? := by
  have h : i = 0 ∨ i = 1 ∨ i = 2 ∨ i = 3 ∨ i = 4 ∨ i = 5 ∨ i = 6 ∨ i = 7 ∨ i = 8 ∨ i = 9 ∨ i = 10 ∨ i = 11 ∨ i = 12 ∨ i = 13 ∨ i = 14 ∨ i = 15 ∨ i = 16 ∨ i = 17 ∨ i = 18 ∨ i = 19 := by omega
  have h2 : r = 0 ∨ r = 1 := by omega
  rcases h2 with rfl | rfl <;> rcases h with rfl | rfl | rfl | rfl | rfl | rfl | rfl | rfl | rfl | rfl | rfl | rfl | rfl | rfl | rfl | rfl | rfl | rfl | rfl | rfl <;> rfl
theorem nm_data {H : Type} (i : Nat) (hi : i < 20) : (nmL.map fun p => (DataW.agg [.lit (.int .i64 p.1), .lit (.int .i64 p.2)] : DataW H))[i]? = some (Lib.tabData .i64 [nmA i, nmB i]) := by
  have h : i = 0 ∨ i = 1 ∨ i = 2 ∨ i = 3 ∨ i = 4 ∨ i = 5 ∨ i = 6 ∨ i = 7 ∨ i = 8 ∨ i = 9 ∨ i = 10 ∨ i = 11 ∨ i = 12 ∨ i = 13 ∨ i = 14 ∨ i = 15 ∨ i = 16 ∨ i = 17 ∨ i = 18 ∨ i = 19 := by omega
  rcases h with rfl | rfl | rfl | rfl | rfl | rfl | rfl | rfl | rfl | rfl | rfl | rfl | rfl | rfl | rfl | rfl | rfl | rfl | rfl | rfl <;> rfl

theorem names_of_trod {H : Type} {enc : TypeId × Value → H} {w : World} {base : Nat} {sp : Nat → Bool} {held : Bool} {fuel : Nat} {cs : List Value} {p : List MemPlace}
    (h : DataW.trod enc Tryz.prog w base sp held fuel 135 cs = some (namesD, p)) : cs = nmCells.toList := by
  have hl : cs.length = 40 := by
    cases fuel with
    | zero => simp [DataW.trod] at h
    | succ fuel =>
      simp only [DataW.trod, Tryz.underlying135, cells_names, cells_name] at h
      split at h
      · rename_i hl
        omega
      · cases h
  have key : ∀ i, i < 20 → (cs.drop (i * 2)).take 2 = [Value.int .i64 (nmA i), .int .i64 (nmB i)] := by
    intro i hi
    obtain ⟨fuel', d, q, hd, ht⟩ := Lib.array_elem Tryz.underlying135 h i hi
    rw [nm_data i hi] at hd
    obtain rfl := Option.some.inj hd
    rw [cells_name] at ht
    exact Lib.cells_of_tab Tryz.underlying117 Tryz.underlying3 cells_int cells_name ht
  apply List.ext_getElem?
  intro j
  by_cases hj : j < 40
  · obtain ⟨i, r, rfl, hi, hr⟩ : ∃ i r, j = i * 2 + r ∧ i < 20 ∧ r < 2 := ⟨j / 2, j % 2, by omega, by omega, by omega⟩
    rw [nm_cells i hi r hr, ← key i hi]
    simp [hr]
  · rw [List.getElem?_eq_none (by omega), List.getElem?_eq_none (by rw [show nmCells.toList.length = 40 by decide +kernel]; omega)]

theorem names_of_laid {W : World} (h : laidMet Tryz.prog [("loop.example/g00468/impl.wordNames", namesD)] W) : Names W := by
  obtain ⟨ps, ⟨g', t', cs, fuel, p, q, hg', ht', hvar, hd, _, _⟩, _⟩ := h
  obtain rfl := Option.some.inj (gNames.symm.trans hg')
  obtain rfl := Option.some.inj (gNamesType.symm.trans ht')
  have hc := names_of_trod hd
  unfold Names
  rw [hvar]
  congr 1
  cases cs
  simp_all

/-- What the table reads as, ahead of the call and behind it. -/
theorem vars_open {H : Type} {enc : TypeId × Value → H} {W : World} {sp : Nat → Bool} {gs : List (DataW H)} {q : List MemPlace} (hN : Names W)
    (hV : DataW.TrodVars enc Tryz.prog W sp ["loop.example/g00468/impl.wordNames"] gs q) : gs = [namesD] := by
  obtain ⟨g, t, cs, fuel, d, p', rfl, hg, ht, hvar, hd, rfl⟩ := trodVars_one hV
  obtain rfl := Option.some.inj (gNames.symm.trans hg)
  obtain rfl := Option.some.inj (gNamesType.symm.trans ht)
  obtain rfl : cs = nmCells := Option.some.inj (hvar.symm.trans hN)
  obtain ⟨rfl, rfl⟩ := DataW.Trod.unique (v := .agg nmCells) ⟨fuel, hd⟩ ⟨4, reads_names enc W _ _ _⟩
  rfl
theorem vars_shut {H : Type} {enc : TypeId × Value → H} {W : World} (sp : Nat → Bool) (hN : Names W) :
    DataW.TrodVars enc Tryz.prog W sp ["loop.example/g00468/impl.wordNames"] [namesD] (MemPlace.row ⟨0, 0, none⟩ nmCells.size ++ []) :=
  trodVars_mk1 gNames gNamesType hN (reads_names enc W _ _ _)
end Go.Proofs.YtenlapppaimkkabGreatDoor
