/- Texts joined: ImplPlan, KnowM, KnowM2. -/
import Derived.Test.YtenlapppaimkkabGreatDoorKN03
import Derived.Test.YtenlapppaimkkabGreatDoorKN08
import Derived.Test.YtenlapppaimkkabGreatDoorKN12
import Derived.Deep.RegionWith
import Derived.Test.YtenlapppaimkkabGreatDoorKN07
/- The program's PlanOf: what comes at once, or what comes of it and the words that were read. -/
namespace Go.Proofs.YtenlapppaimkkabGreatDoor
open Go.ChangeShapes Go.WideShapes Go.ChangeAt Go.RowKit

/-- The words of an op that were read. -/
def gotL (fs : List Int) (n : Nat) (kind k v : Int) : List Ent := (wordsT true (stepsT true fs n kind k v)).filter (goR fs n)
theorem implNow_any (a : Option Addr) (n c : Nat) (kind k v : Int) (fs : List Int) (w : World) (hB : Base w a n fs) (hg : OpGood kind k v) :
    Calls Tryz.prog 23 #[.iface (deedT kind) (OpV kind k v), .slice a n c] w fun e w' => ComNew e w w' (nowL fs n kind k v) ∧ Below w.heap.size w w' := by
  rcases kinds hg.1 with rfl | rfl | rfl | rfl | rfl | rfl | rfl | rfl | rfl | rfl
  · exact implNow_1 a n c k v fs w hB
  · exact implNow_2 a n c k v fs w hB
  · exact implNow_3 a n c k v fs w hB
  · exact implNow_4 a n c k v fs w hB
  · exact implNow_5 a n c k v fs w hB
  · exact implNow_6 a n c k v fs w hB
  · exact implNow_7 a n c k v fs w hB
  · exact implNow_8 a n c k v fs w hB
  · by_cases h : rd fs n 13 = 0
    · exact implNow_9a a n c k v fs w hB h
    · exact implNow_9b a n c k v fs w hB h
  · exact implNow_10 a n c k v fs w hB
theorem now_some (fs : List Int) (n : Nat) (kind k v : Int) (h : kind = 4 ∨ kind = 5 ∨ kind = 6) : nowL fs n kind k v ≠ [] := by
  rcases h with rfl | rfl | rfl
  · rw [nowL_4]; simp
  · rw [nowL_5]; simp
  · rw [nowL_6]; simp
theorem implThen_any (a : Option Addr) (n c : Nat) (kind k v : Int) (fs : List Int) (w : World) (hB : Base w a n fs) (hg : OpGood kind k v) (hn : nowL fs n kind k v = []) :
    Calls Tryz.prog 24 #[.iface (deedT kind) (OpV kind k v), .slice a n c] w fun e w' => ComNew e w w' (thenL fs n kind v) ∧ Below w.heap.size w w' := by
  rcases kinds hg.1 with rfl | rfl | rfl | rfl | rfl | rfl | rfl | rfl | rfl | rfl
  · exact implThen_1 a n c k v fs w hB
  · exact implThen_2 a n c k v fs w hB
  · exact implThen_3 a n c k v fs w hB
  · exact absurd hn (now_some fs n 4 k v (by omega))
  · exact absurd hn (now_some fs n 5 k v (by omega))
  · exact absurd hn (now_some fs n 6 k v (by omega))
  · exact implThen_7 a n c k v fs w hB
  · exact implThen_8 a n c k v fs w hB
  · exact implThen_9 a n c k v fs w hB
  · exact implThen_10 a n c k v fs w hB
/-- The first of what may come, as it lies there. -/
theorem com_first {e : Ending} {w w' : World} {x : Int × List Int} {LL : List (Int × List Int)} (h : ComNew e w w' (x :: LL)) :
    ∃ g l cap a m c, e = .returned (.slice (some ⟨g, 0, none⟩) (l + 1) cap) ∧ w.heap.size ≤ g ∧ w'.cell? ⟨g, 0, none⟩ = some (.int .i64 x.1) ∧ w'.cell? ⟨g, 1, none⟩ = some (.slice a m c) ∧ IntAt w' a m x.2 ∧ ∀ q, a = some q → w.heap.size ≤ q.block := by
  obtain ⟨v, L, rfl, hc, ht, hnw⟩ := h
  match L, ht with
  | r :: L', ht =>
    obtain ⟨⟨h1, a, m, c, h2, h3⟩, _⟩ := ht
    rcases hc.2 with ⟨_, h⟩ | ⟨g, cap, cur, rfl, hb, _⟩
    · simp at h
    · have e0 := hc.cellAt 0 (by simp)
      have e1 := hc.cellAt 1 (by simp only [List.length_cons]; omega)
      refine ⟨g, L'.length, cap, a, m, c, rfl, hb, ?_, ?_, h3, fun q e => hnw r (List.mem_cons_self ..) q m c (by rw [h2, e])⟩
      · rw [e0]; simp [cellsC, h1]
      · rw [e1]; simp [cellsC, h2]
theorem com_none {e : Ending} {w w' : World} (h : ComNew e w w' []) : ∃ v, e = .returned v ∧ (v = .slice none 0 0 ∨ ∃ g cap, v = .slice (some ⟨g, 0, none⟩) 0 cap) := by
  obtain ⟨v, L, rfl, hc, ht, _⟩ := h
  match L, ht with
  | [], _ =>
    rcases hc.2 with ⟨rfl, _⟩ | ⟨g, cap, cur, rfl, _⟩
    · exact ⟨_, rfl, .inl rfl⟩
    · exact ⟨_, rfl, .inr ⟨g, cap, rfl⟩⟩
/-- A plan, as it lies there. -/
def PlanSays (e : Ending) (w' : World) (nw : Bool) (x : Int × List Int) (E : List Ent) : Prop :=
  ∃ a m c b d, e = .returned (.tuple #[.agg #[.bool nw, .int .i64 x.1, .slice a m c, .slice b E.length d], .bool true]) ∧ IntAt w' a m x.2 ∧ EntAt w' b E.length (flatE E)

set_option maxRecDepth 100000 in
set_option maxHeartbeats 4000000 in
theorem implPlan_now (a : Option Addr) (n c : Nat) (kind k v : Int) (fs : List Int) (w : World) (hB : Base w a n fs) (hx : ∀ x ∈ fs, (Lit.int .i64 x).wf = true) (hg : OpGood kind k v) (hn : nextM fs n kind k v = -1) (x : Int × List Int) (LL : List (Int × List Int)) (hN : nowL fs n kind k v = x :: LL) :
    Calls Tryz.prog 7 #[OpV kind k v, .slice a n c] w fun e w' => PlanSays e w' true x [] ∧ Below w.heap.size w w' := by
  have HB : Hid (Base w a n fs ∧ (∀ x ∈ fs, (Lit.int .i64 x).wf = true) ∧ OpGood kind k v ∧ nextM fs n kind k v = -1 ∧ nowL fs n kind k v = x :: LL) := ⟨hB, hx, hg, hn, hN⟩
  clear hB hx hg hn hN
  obtain ⟨W1, hW1⟩ : ∃ W1, (w.alloc (.cells #[.int .i64 kind, .int .i64 k, .int .i64 v] 28)).alloc (.cells #[.bool false, .int .i64 0, .slice none 0 0, .slice none 0 0] 36) = W1 := ⟨_, rfl⟩
  have b1 : Below w.heap.size w W1 := by rw [← hW1]; exact ((Below.refl _ _).alloc (Nat.le_refl _) _).alloc (by simp) _
  have x0 : W1.heap[w.heap.size]? = some (.cells #[.int .i64 kind, .int .i64 k, .int .i64 v] 28 (0, 0)) := by rw [← hW1]; exact (Below.heap_alloc _ _ _ (by simp)).trans (World.alloc_heap_new w _)
  have x1 : W1.heap[w.heap.size + 1]? = some (.cells #[.bool false, .int .i64 0, .slice none 0 0, .slice none 0 0] 36 (0, 0)) := by rw [← hW1]; show ((w.heap.push _).push _)[w.heap.size + 1]? = _; rw [Array.getElem?_push]; simp
  have z1 : w.heap.size + 1 < W1.heap.size := (Array.getElem?_eq_some_iff.1 x1).1
  have CE : Hid (∀ {w' : World}, Below W1.heap.size W1 w' → (w'.cell? ⟨w.heap.size, 0, none⟩ = some (.int .i64 kind) ∧ w'.cell? ⟨w.heap.size, 1, none⟩ = some (.int .i64 k) ∧ w'.cell? ⟨w.heap.size, 2, none⟩ = some (.int .i64 v)) ∧ w'.heap[w.heap.size + 1]? = some (.cells #[.bool false, .int .i64 0, .slice none 0 0, .slice none 0 0] 36 (0, 0)) ∧ Below w.heap.size w w') := fun hb => by
    have h0 := (hb.block _ (Nat.lt_of_succ_lt z1)).trans x0
    exact ⟨⟨by simp [World.cell?, h0], by simp [World.cell?, h0], by simp [World.cell?, h0]⟩, (hb.block _ z1).trans x1, b1.trans (hb.mono (Nat.le_of_lt (Nat.lt_of_succ_lt z1)))⟩
  have Z1 : Hid (w.heap.size + 1 < W1.heap.size) := z1
  clear b1 x0 x1 z1
  obtain ⟨⟨c0, c1, c2⟩, _⟩ := CE.out (Below.refl _ W1)
  go_enter Tryz.func7, Tryz.ntmps7
  go_wp2_with fail
  refine (implOpOk_any kind k v _).mono ?_
  rintro e w1 ⟨rfl, hb⟩
  rw [decide_eq_true HB.out.2.2.1]
  have B1 : Hid (Below W1.heap.size W1 w1) := (by first | exact hb | exact hW1 ▸ hb)
  clear hb c0 c1 c2
  obtain ⟨⟨c0, c1, c2⟩, _, lo⟩ := CE.out B1.out
  have LO1 : Hid (Below w.heap.size w w1) := lo
  clear lo
  go_wp2_with fail
  refine (implNext_cap a n c kind k v fs _ (HB.out.1.on LO1.out).names (HB.out.1.on LO1.out).pairs HB.out.2.1).mono ?_
  rintro e w2 ⟨rfl, hb⟩
  rw [HB.out.2.2.2.1]
  have B2 : Hid (Below W1.heap.size W1 w2) := B1.out.trans (hb.mono B1.out.size)
  clear hb c0 c1 c2
  obtain ⟨⟨c0, c1, c2⟩, _⟩ := CE.out B2.out
  go_wp2_with fail
  refine (implDeedOf_any kind k v _).mono ?_
  rintro e w3 ⟨rfl, hb⟩
  have B3 : Hid (Below W1.heap.size W1 w3) := B2.out.trans (hb.mono B2.out.size)
  clear hb c0 c1 c2
  have LO3 : Hid (Below w.heap.size w w3) := (CE.out B3.out).2.2
  go_wp2_with fail
  refine (implNow_any a n c kind k v fs _ (HB.out.1.on LO3.out) HB.out.2.2.1).mono ?_
  rintro e w4 ⟨hc, hb⟩
  rw [HB.out.2.2.2.2] at hc
  obtain ⟨g, l, cap, a', m', c', rfl, hg, d0, d1, hI, hfr⟩ := com_first hc
  have B4 : Hid (Below W1.heap.size W1 w4) := B3.out.trans (hb.mono B3.out.size)
  have HI : Hid (IntAt w4 a' m' x.2 ∧ (∀ q, a' = some q → q.block ≠ w.heap.size + 1)) := ⟨hI, fun q e => by have h1 := Z1.out; have h2 := B3.out.size; have h3 := hfr q e; omega⟩
  have hl : (0 : Int) < ((l + 1 : Nat) : Int) := by omega
  have hgne : g ≠ w.heap.size + 1 := by have h1 := Z1.out; have h2 := B3.out.size; omega
  obtain ⟨_, x4, lo⟩ := CE.out B4.out
  have LO4 : Hid (Below w.heap.size w w4) := lo
  have p0 : w4.cell? ⟨w.heap.size + 1, 0, none⟩ = some (.bool false) := by simp [World.cell?, x4]
  have p1 : w4.cell? ⟨w.heap.size + 1, 1, none⟩ = some (.int .i64 0) := by simp [World.cell?, x4]
  have p2 : w4.cell? ⟨w.heap.size + 1, 2, none⟩ = some (.slice none 0 0) := by simp [World.cell?, x4]
  have p3 : w4.cell? ⟨w.heap.size + 1, 3, none⟩ = some (.slice none 0 0) := by simp [World.cell?, x4]
  have q0 : w4.frozen? ⟨w.heap.size + 1, 0, none⟩ = false := by simp [World.frozen?, x4]
  have q1 : w4.frozen? ⟨w.heap.size + 1, 1, none⟩ = false := by simp [World.frozen?, x4]
  have q2 : w4.frozen? ⟨w.heap.size + 1, 2, none⟩ = false := by simp [World.frozen?, x4]
  have q3 : w4.frozen? ⟨w.heap.size + 1, 3, none⟩ = false := by simp [World.frozen?, x4]
  clear hb hc x4 lo hI hg hfr
  go_wp2
  (try simp only [Exit.inBlock, Exit.then])
  refine bodyPost_ret (by simp [results, Tryz.results7, go_sem, p0, p1, p2, p3]; try rfl) rfl ?_
  refine ⟨⟨a', m', c', none, 0, rfl, int_far (int_far (int_far (int_far HI.out.1 (p := ⟨w.heap.size + 1, 0, none⟩) HI.out.2 _) (p := ⟨w.heap.size + 1, 1, none⟩) HI.out.2 _) (p := ⟨w.heap.size + 1, 2, none⟩) HI.out.2 _) (p := ⟨w.heap.size + 1, 3, none⟩) HI.out.2 _, ⟨rfl, by simp, .inl ⟨rfl, rfl⟩⟩⟩, ?_⟩
  exact (((LO4.out.setCell (p := ⟨w.heap.size + 1, 0, none⟩) (by simp) _).setCell (p := ⟨w.heap.size + 1, 1, none⟩) (by simp) _).setCell (p := ⟨w.heap.size + 1, 2, none⟩) (by simp) _).setCell (p := ⟨w.heap.size + 1, 3, none⟩) (by simp) _

set_option maxRecDepth 100000 in
set_option maxHeartbeats 4000000 in
theorem implPlan_then (a : Option Addr) (n c : Nat) (kind k v : Int) (fs : List Int) (w : World) (hB : Base w a n fs) (hx : ∀ x ∈ fs, (Lit.int .i64 x).wf = true) (hg : OpGood kind k v) (hn : nextM fs n kind k v = -1) (hN : nowL fs n kind k v = []) (x : Int × List Int) (LL : List (Int × List Int)) (hT : thenL fs n kind v = x :: LL) (h0 : 0 < (gotL fs n kind k v).length) (h12 : (gotL fs n kind k v).length ≤ 12) :
    Calls Tryz.prog 7 #[OpV kind k v, .slice a n c] w fun e w' => PlanSays e w' false x (sortL (gotL fs n kind k v)) ∧ Below w.heap.size w w' := by
  have HB : Hid (Base w a n fs ∧ (∀ x ∈ fs, (Lit.int .i64 x).wf = true) ∧ OpGood kind k v ∧ nextM fs n kind k v = -1 ∧ nowL fs n kind k v = []) := ⟨hB, hx, hg, hn, hN⟩
  have HT : Hid (thenL fs n kind v = x :: LL ∧ 0 < (gotL fs n kind k v).length ∧ (gotL fs n kind k v).length ≤ 12) := ⟨hT, h0, h12⟩
  have HN : Hid (nowL fs n kind k v = []) := hN
  clear hB hx hg hn hN hT h0 h12
  obtain ⟨W1, hW1⟩ : ∃ W1, (w.alloc (.cells #[.int .i64 kind, .int .i64 k, .int .i64 v] 28)).alloc (.cells #[.bool false, .int .i64 0, .slice none 0 0, .slice none 0 0] 36) = W1 := ⟨_, rfl⟩
  have b1 : Below w.heap.size w W1 := by rw [← hW1]; exact ((Below.refl _ _).alloc (Nat.le_refl _) _).alloc (by simp) _
  have x0 : W1.heap[w.heap.size]? = some (.cells #[.int .i64 kind, .int .i64 k, .int .i64 v] 28 (0, 0)) := by rw [← hW1]; exact (Below.heap_alloc _ _ _ (by simp)).trans (World.alloc_heap_new w _)
  have x1 : W1.heap[w.heap.size + 1]? = some (.cells #[.bool false, .int .i64 0, .slice none 0 0, .slice none 0 0] 36 (0, 0)) := by rw [← hW1]; show ((w.heap.push _).push _)[w.heap.size + 1]? = _; rw [Array.getElem?_push]; simp
  have z1 : w.heap.size + 1 < W1.heap.size := (Array.getElem?_eq_some_iff.1 x1).1
  have CE : Hid (∀ {w' : World}, Below W1.heap.size W1 w' → (w'.cell? ⟨w.heap.size, 0, none⟩ = some (.int .i64 kind) ∧ w'.cell? ⟨w.heap.size, 1, none⟩ = some (.int .i64 k) ∧ w'.cell? ⟨w.heap.size, 2, none⟩ = some (.int .i64 v)) ∧ w'.heap[w.heap.size + 1]? = some (.cells #[.bool false, .int .i64 0, .slice none 0 0, .slice none 0 0] 36 (0, 0)) ∧ Below w.heap.size w w') := fun hb => by
    have h0 := (hb.block _ (Nat.lt_of_succ_lt z1)).trans x0
    exact ⟨⟨by simp [World.cell?, h0], by simp [World.cell?, h0], by simp [World.cell?, h0]⟩, (hb.block _ z1).trans x1, b1.trans (hb.mono (Nat.le_of_lt (Nat.lt_of_succ_lt z1)))⟩
  have Z1 : Hid (w.heap.size + 1 < W1.heap.size) := z1
  clear b1 x0 x1 z1
  obtain ⟨⟨c0, c1, c2⟩, _⟩ := CE.out (Below.refl _ W1)
  go_enter Tryz.func7, Tryz.ntmps7
  go_wp2_with fail
  refine (implOpOk_any kind k v _).mono ?_
  rintro e w1 ⟨rfl, hb⟩
  rw [decide_eq_true HB.out.2.2.1]
  have B1 : Hid (Below W1.heap.size W1 w1) := (by first | exact hb | exact hW1 ▸ hb)
  clear hb c0 c1 c2
  obtain ⟨⟨c0, c1, c2⟩, _, lo⟩ := CE.out B1.out
  have LO1 : Hid (Below w.heap.size w w1) := lo
  clear lo
  go_wp2_with fail
  refine (implNext_cap a n c kind k v fs _ (HB.out.1.on LO1.out).names (HB.out.1.on LO1.out).pairs HB.out.2.1).mono ?_
  rintro e w2 ⟨rfl, hb⟩
  rw [HB.out.2.2.2.1]
  have B2 : Hid (Below W1.heap.size W1 w2) := B1.out.trans (hb.mono B1.out.size)
  clear hb c0 c1 c2
  obtain ⟨⟨c0, c1, c2⟩, _⟩ := CE.out B2.out
  go_wp2_with fail
  refine (implDeedOf_any kind k v _).mono ?_
  rintro e w3 ⟨rfl, hb⟩
  have B3 : Hid (Below W1.heap.size W1 w3) := B2.out.trans (hb.mono B2.out.size)
  clear hb c0 c1 c2
  have LO3 : Hid (Below w.heap.size w w3) := (CE.out B3.out).2.2
  go_wp2_with fail
  refine (implNow_any a n c kind k v fs _ (HB.out.1.on LO3.out) HB.out.2.2.1).mono ?_
  rintro e w4 ⟨hc, hb⟩
  rw [HB.out.2.2.2.2] at hc
  obtain ⟨vz, rfl, hz⟩ := com_none hc
  have B4 : Hid (Below W1.heap.size W1 w4) := B3.out.trans (hb.mono B3.out.size)
  have LO4 : Hid (Below w.heap.size w w4) := (CE.out B4.out).2.2
  clear hb hc
  have HE : Hid (∀ args w, (callFunc 73 args).run Tryz.prog w = .ok (.enter 73 args) w) := enters_of Tryz.func73 (by kernel_rfl) rfl
  rcases hz with rfl | ⟨gz, cz, rfl⟩
  all_goals
    go_wp2_with fail
    go_region_with (first
      | (go_at_call 24
         refine (implThen_any a n c kind k v fs _ (HB.out.1.on (by first | exact LO4.out | exact LO4.out.drew)) HB.out.2.2.1 HN.out).mono ?_
         rintro e w5 ⟨hc, hb⟩
         rw [HT.out.1] at hc
         obtain ⟨g, l, cap, a', m', c', rfl, hg, d0, d1, hI, hfr⟩ := com_first hc
         have hb5 : Below w4.heap.size w4 w5 := ⟨hb.os, hb.tape, hb.output, hb.size, hb.block⟩
         have H5 : Hid (Below W1.heap.size W1 w5 ∧ IntAt w5 a' m' x.2 ∧ (∀ q, a' = some q → W1.heap.size ≤ q.block) ∧ W1.heap.size ≤ g ∧ g < w5.heap.size ∧ w5.cell? ⟨g, 0, none⟩ = some (.int .i64 x.1) ∧ w5.cell? ⟨g, 1, none⟩ = some (.slice a' m' c')) := ⟨B4.out.trans (hb5.mono B4.out.size), hI, fun q e => Nat.le_trans B4.out.size (hfr q e), Nat.le_trans B4.out.size hg, World.block_lt_of_cell? w5 _ d0, d0, d1⟩
         have hl : (0 : Int) < ((l + 1 : Nat) : Int) := by omega
         clear hb hb5 hc hg hI hfr)
      | (go_at_call 26
         refine (readOf_any a n c (DeedV kind k v) (deedT kind) _ rfl _).mono ?_
         rintro e w6 ⟨rfl, hw6⟩
         have hb6 : Below w5.heap.size w5 w6 := by rw [hw6]; exact ((Below.refl _ _).alloc (Nat.le_refl _) _).alloc (by simp) _
         have H6 : Hid (Below w5.heap.size w5 w6 ∧ Caught a n c (deedT kind) kind k v (w5.heap.size + 1) w5.heap.size w6) := ⟨hb6, by
           rw [hw6]
           have q1 := Boxed.new (w5.alloc (.cells #[DeedV kind k v] 56)) 29 (.slice a n c)
           rw [World.size_alloc] at q1
           exact ⟨q1.cell, ((Boxed.new w5 56 (DeedV kind k v)).alloc _).cell⟩⟩
         have d0' : w6.cell? ⟨g, 0, none⟩ = some (.int .i64 x.1) := (hb6.cell (p := ⟨g, 0, none⟩) H5.out.2.2.2.2.1).trans H5.out.2.2.2.2.2.1
         have d1' : w6.cell? ⟨g, 1, none⟩ = some (.slice a' m' c') := (hb6.cell (p := ⟨g, 1, none⟩) H5.out.2.2.2.2.1).trans H5.out.2.2.2.2.2.2
         clear hw6 hb6)
      | (go_at_call 25
         have lo6 : Below w.heap.size w w6 := (CE.out (H5.out.1.trans (H6.out.1.mono H5.out.1.size))).2.2
         refine (sortedFunc_any 73 _ (gotL fs n kind k v) w6 HE.out (read_seq a n c (w5.heap.size + 1) w5.heap.size kind k v fs [34, 47] w6 _ ((Below.refl _ _).alloc (Nat.le_refl _) _) (HB.out.1.on lo6) H6.out.2 HB.out.2.2.1 (by decide) (by decide)) HT.out.2.1 HT.out.2.2).mono ?_
         rintro e w7 ⟨q, capq, rfl, hq, hE, hb7⟩
         have H7 : Hid (Below w6.heap.size w6 w7 ∧ EntAt w7 (some ⟨q, 0, none⟩) (gotL fs n kind k v).length (flatE (sortL (gotL fs n kind k v))) ∧ w6.heap.size ≤ q) := ⟨hb7, hE, hq⟩
         have g6 : g < w6.heap.size := Nat.lt_of_lt_of_le H5.out.2.2.2.2.1 H6.out.1.size
         have e0 : w7.cell? ⟨g, 0, none⟩ = some (.int .i64 x.1) := (hb7.cell (p := ⟨g, 0, none⟩) g6).trans ((H6.out.1.cell (p := ⟨g, 0, none⟩) H5.out.2.2.2.2.1).trans H5.out.2.2.2.2.2.1)
         have e1 : w7.cell? ⟨g, 1, none⟩ = some (.slice a' m' c') := (hb7.cell (p := ⟨g, 1, none⟩) g6).trans ((H6.out.1.cell (p := ⟨g, 1, none⟩) H5.out.2.2.2.2.1).trans H5.out.2.2.2.2.2.2)
         have B7 : Below W1.heap.size W1 w7 := (H5.out.1.trans (H6.out.1.mono H5.out.1.size)).trans (hb7.mono (Nat.le_trans H5.out.1.size H6.out.1.size))
         have x4 := (CE.out B7).2.1
         have LO7 : Hid (Below w.heap.size w w7) := (CE.out B7).2.2
         have p0 : w7.cell? ⟨w.heap.size + 1, 0, none⟩ = some (.bool false) := by simp [World.cell?, x4]
         have p1 : w7.cell? ⟨w.heap.size + 1, 1, none⟩ = some (.int .i64 0) := by simp [World.cell?, x4]
         have p2 : w7.cell? ⟨w.heap.size + 1, 2, none⟩ = some (.slice none 0 0) := by simp [World.cell?, x4]
         have p3 : w7.cell? ⟨w.heap.size + 1, 3, none⟩ = some (.slice none 0 0) := by simp [World.cell?, x4]
         have q0 : w7.frozen? ⟨w.heap.size + 1, 0, none⟩ = false := by simp [World.frozen?, x4]
         have q1 : w7.frozen? ⟨w.heap.size + 1, 1, none⟩ = false := by simp [World.frozen?, x4]
         have q2 : w7.frozen? ⟨w.heap.size + 1, 2, none⟩ = false := by simp [World.frozen?, x4]
         have q3 : w7.frozen? ⟨w.heap.size + 1, 3, none⟩ = false := by simp [World.frozen?, x4]
         clear hq hE hb7 lo6 g6 x4 B7))
    all_goals
      go_wp2
      (try simp only [Exit.inBlock, Exit.then])
      refine bodyPost_ret (by simp [results, Tryz.results7, go_sem, p0, p1, p2, p3]; try rfl) rfl ?_
      have far1 : ∀ z, a' = some z → z.block ≠ w.heap.size + 1 := fun z e => by have h1 := H5.out.2.2.1 z e; have h2 := Z1.out; omega
      have far2 : ∀ z, some (⟨q, 0, none⟩ : Addr) = some z → z.block ≠ w.heap.size + 1 := fun z e => by cases e; have h1 := H7.out.2.2; have h2 := Z1.out; have h3 := H5.out.1.size; have h4 := H6.out.1.size; simp only; omega
      have hI7 : IntAt w7 a' m' x.2 := (H5.out.2.1.below H6.out.1 (Nat.le_refl _)).below H7.out.1 (Nat.le_refl _)
      refine ⟨⟨a', m', c', some ⟨q, 0, none⟩, capq, by rw [sortL_len], int_far (int_far (int_far (int_far hI7 (p := ⟨w.heap.size + 1, 0, none⟩) far1 _) (p := ⟨w.heap.size + 1, 1, none⟩) far1 _) (p := ⟨w.heap.size + 1, 2, none⟩) far1 _) (p := ⟨w.heap.size + 1, 3, none⟩) far1 _, ?_⟩, ?_⟩
      · rw [sortL_len]
        exact ent_far (ent_far (ent_far (ent_far H7.out.2.1 (p := ⟨w.heap.size + 1, 0, none⟩) far2 _) (p := ⟨w.heap.size + 1, 1, none⟩) far2 _) (p := ⟨w.heap.size + 1, 2, none⟩) far2 _) (p := ⟨w.heap.size + 1, 3, none⟩) far2 _
      · exact (((LO7.out.setCell (p := ⟨w.heap.size + 1, 0, none⟩) (by simp) _).setCell (p := ⟨w.heap.size + 1, 1, none⟩) (by simp) _).setCell (p := ⟨w.heap.size + 1, 2, none⟩) (by simp) _).setCell (p := ⟨w.heap.size + 1, 3, none⟩) (by simp) _
end Go.Proofs.YtenlapppaimkkabGreatDoor

/- What must be known of an op, when the words are f: a list of places; what is next when a part of it was read; what is told when all of it was (no program). -/
namespace Go.Proofs.YtenlapppaimkkabGreatDoor
open Go.ChangeShapes Go.WideShapes Go.ChangeAt Go.RowKit

/-- The places that must be known, in their order. -/
def needL (f : Int → Int) (kind k v : Int) : List Int :=
  let r := f (placeN 1 k)
  if kind = 1 then placeN 1 k :: (if r ≠ 0 then [] else placeN 2 v :: (if f (placeN 2 v) ≠ 0 then [] else placeN 3 (classN v) :: 13 :: (if k + 1 < f 13 then [placeN 5 v] else [])))
  else if kind = 2 then placeN 1 k :: (if r = 0 ∨ r = v then [] else placeN 2 v :: (if f (placeN 2 v) ≠ 0 then [] else placeN 2 r :: ((if classN r = classN v then [] else [placeN 3 (classN r), placeN 3 (classN v)]) ++ 13 :: (if k + 1 < f 13 then [placeN 5 r, placeN 5 v] else []))))
  else if kind = 3 then placeN 1 k :: (if r = 0 then [] else placeN 2 r :: placeN 3 (classN r) :: 13 :: (if k + 1 < f 13 then [placeN 5 r] else []))
  else if kind = 4 then [placeN 1 k] else if kind = 5 then [placeN 2 v] else if kind = 6 then [placeN 3 k]
  else if kind = 7 then [placeN 1 0, placeN 1 1, placeN 1 2, placeN 1 3]
  else if kind = 8 then [13]
  else if kind = 9 then 13 :: (if 1 ≤ f 13 ∧ f 13 ≤ 4 then placeN 1 (f 13 - 1) :: (if f (placeN 1 (f 13 - 1)) = 0 then [] else [placeN 5 (f (placeN 1 (f 13 - 1)))]) else [])
  else 13 :: (if f 13 ≠ 5 then [] else [placeN 5 v])
/-- The first of them that is not so. -/
def firstN (g : Int → Bool) : List Int → Int
  | [] => -1
  | p :: t => if g p = true then firstN g t else p
/-- What was read is as the words are. -/
structure Agrees (f : Int → Int) (fs : List Int) (n : Nat) : Prop where
  same : ∀ p, 0 ≤ p → (readF fs p n).2 = true → (readF fs p n).1 = f p
/-- What is held is right. -/
structure FOk (f : Int → Int) : Prop where
  row : ∀ k, 0 ≤ k → k ≤ 3 → f (placeN 1 k) = 0 ∨ (1 ≤ f (placeN 1 k) ∧ f (placeN 1 k) ≤ 6)
  state : 0 ≤ f 13 ∧ f 13 ≤ 5
section
variable {f : Int → Int} {fs : List Int} {n : Nat}
theorem Agrees.rd (h : Agrees f fs n) {p : Int} (hp : 0 ≤ p) (hr : (readF fs p n).2 = true) : rd fs n p = f p := by
  unfold Go.Proofs.YtenlapppaimkkabGreatDoor.rd
  rw [if_neg (Int.not_lt.2 hp)]
  exact h.same p hp hr
/-- One word: it was read, and is passed by; or it is the first. -/
theorem tellN {p : Int} (hp : 0 ≤ p) (o v : Int) (t : List Stp) (T : List Int) (ht : (readF fs p n).2 = true → firstR fs n (wordsT false t) = firstN (fun p => (readF fs p n).2) T) :
    firstR fs n (wordsT false (.tell p o v :: t)) = firstN (fun p => (readF fs p n).2) (p :: T) := by
  rw [first_tell, if_pos hp]
  show _ = if (readF fs p n).2 = true then _ else _
  by_cases h : (readF fs p n).2 = true
  · rw [if_pos h, if_pos h]; exact ht h
  · rw [if_neg h, if_neg h]
theorem nilN : firstR fs n (wordsT false []) = firstN (fun p => (readF fs p n).2) [] := rfl
theorem askY {b : Bool} {t : List Stp} {T : List Int} (hb : b = true) (ht : firstR fs n (wordsT false t) = firstN (fun p => (readF fs p n).2) T) : firstR fs n (wordsT false (.ask b :: t)) = firstN (fun p => (readF fs p n).2) T := by
  rw [first_ask, if_pos hb]; exact ht
theorem askN {b : Bool} {t : List Stp} (hb : b = false) : firstR fs n (wordsT false (.ask b :: t)) = firstN (fun p => (readF fs p n).2) [] := by
  rw [first_ask, if_neg (by rw [hb]; simp)]; rfl
end
theorem p1_pos {k : Int} (h : 0 ≤ k ∧ k ≤ 3) : placeN 1 k = k := by unfold placeN; rw [if_pos ⟨rfl, h⟩]
theorem p2_pos {v : Int} (h : 1 ≤ v ∧ v ≤ 6) : placeN 2 v = v + 3 := by unfold placeN; rw [if_neg (by omega), if_pos ⟨rfl, h⟩]
theorem p3_pos {c : Int} (h : 0 ≤ c ∧ c ≤ 2) : placeN 3 c = c + 10 := by unfold placeN; rw [if_neg (by omega), if_neg (by omega), if_pos ⟨rfl, h⟩]
theorem p5_pos {v : Int} (h : 1 ≤ v ∧ v ≤ 6) : placeN 5 v = v + 13 := by unfold placeN; rw [if_neg (by omega), if_neg (by omega), if_neg (by omega), if_neg (by omega), if_pos ⟨rfl, h⟩]
theorem class_pos {v : Int} (h : 1 ≤ v ∧ v ≤ 6) : 0 ≤ classN v ∧ classN v ≤ 2 := by unfold classN; rw [if_pos h]; omega

theorem first_need {f : Int → Int} {fs : List Int} {n : Nat} (hA : Agrees f fs n) (hF : FOk f) {kind k v : Int} (hg : OpGood kind k v) :
    firstR fs n (wordsT false (stepsT false fs n kind k v)) = firstN (fun p => (readF fs p n).2) (needL f kind k v) := by
  have q13 : (0 : Int) ≤ 13 := by omega
  obtain ⟨hk, hkk, hvv⟩ := hg
  rcases kinds hk with rfl | rfl | rfl | rfl | rfl | rfl | rfl | rfl | rfl | rfl
  · have hk : 0 ≤ k ∧ k ≤ 3 := by unfold KeyGood at hkk; omega
    have hv : 1 ≤ v ∧ v ≤ 6 := by unfold ValGood at hvv; omega
    have e1 := p1_pos hk
    have e2 := p2_pos hv
    have e3 := p3_pos (class_pos hv)
    have c3 := class_pos hv
    have e5 := p5_pos hv
    show firstR fs n (wordsT false (putS false fs n k v)) = _
    unfold putS needL
    rw [if_pos rfl]
    refine tellN (by omega) _ _ _ _ (fun r1 => ?_)
    have d1 := hA.rd (by omega) r1
    by_cases h1 : f (placeN 1 k) = 0
    · rw [if_neg (by omega)]
      refine askY (decide_eq_true (by rw [d1]; exact h1)) (tellN (by omega) _ _ _ _ (fun r2 => ?_))
      have d2 := hA.rd (by omega) r2
      by_cases h2 : f (placeN 2 v) = 0
      · rw [if_neg (by omega)]
        refine askY (decide_eq_true (by rw [d2]; exact h2)) (tellN (by omega) _ _ _ _ (fun r3 => tellN q13 _ _ _ _ (fun r4 => ?_)))
        have d4 := hA.rd q13 r4
        by_cases h3 : k + 1 < f 13
        · rw [if_pos h3]
          exact askY (by rw [d4]; simpa using h3) (tellN (by omega) _ _ _ _ (fun _ => nilN))
        · rw [if_neg h3]
          exact askN (by rw [d4]; simpa using h3)
      · rw [if_pos h2]
        exact askN (decide_eq_false (by rw [d2]; exact h2))
    · rw [if_pos h1]
      exact askN (decide_eq_false (by rw [d1]; exact h1))
  · have hk : 0 ≤ k ∧ k ≤ 3 := by unfold KeyGood at hkk; omega
    have hv : 1 ≤ v ∧ v ≤ 6 := by unfold ValGood at hvv; omega
    have e1 := p1_pos hk
    have e2 := p2_pos hv
    have e5 := p5_pos hv
    have hrow := hF.row k hk.1 hk.2
    show firstR fs n (wordsT false (setS false fs n k v)) = _
    unfold setS needL
    rw [if_neg (by decide), if_pos rfl]
    refine tellN (by omega) _ _ _ _ (fun r1 => ?_)
    have d1 := hA.rd (by omega) r1
    rw [d1]
    generalize hr : f (placeN 1 k) = r at hrow d1 ⊢
    by_cases h0 : r = 0
    · rw [if_pos (.inl h0)]
      exact askN (by simpa using h0)
    refine askY (by simpa using h0) ?_
    by_cases hv0 : r = v
    · rw [if_pos (.inr hv0)]
      exact askN (by simpa using hv0)
    rw [if_neg (by omega)]
    have hr6 : 1 ≤ r ∧ r ≤ 6 := by omega
    have e2' := p2_pos hr6
    have c3 := class_pos hr6
    have c3' := class_pos hv
    have e3 := p3_pos c3
    have e3' := p3_pos c3'
    have e5' := p5_pos hr6
    refine askY (by simpa using hv0) (tellN (by omega) _ _ _ _ (fun r2 => ?_))
    have d2 := hA.rd (by omega) r2
    by_cases h2 : f (placeN 2 v) = 0
    · rw [if_neg (by omega)]
      refine askY (decide_eq_true (by rw [d2]; exact h2)) (tellN (by omega) _ _ _ _ (fun r3 => ?_))
      have tl : firstR fs n (wordsT false ([stayS fs n 13, .ask (false || decide (k + 1 < rd fs n 13)), becS fs n (placeN 5 r) 0, becS fs n (placeN 5 v) (k + 1)])) = firstN (fun p => (readF fs p n).2) (13 :: (if k + 1 < f 13 then [placeN 5 r, placeN 5 v] else [])) := by
        refine tellN q13 _ _ _ _ (fun r4 => ?_)
        have d4 := hA.rd q13 r4
        by_cases h3 : k + 1 < f 13
        · rw [if_pos h3]
          exact askY (by rw [d4]; simpa using h3) (tellN (by omega) _ _ _ _ (fun _ => tellN (by omega) _ _ _ _ (fun _ => nilN)))
        · rw [if_neg h3]
          exact askN (by rw [d4]; simpa using h3)
      unfold moveS
      by_cases hc : classN r = classN v
      · rw [if_pos hc, if_pos hc]
        exact tl
      · rw [if_neg hc, if_neg hc]
        exact tellN (by omega) _ _ _ _ (fun _ => tellN (by omega) _ _ _ _ (fun _ => tl))
    · rw [if_pos h2]
      exact askN (decide_eq_false (by rw [d2]; exact h2))
  · have hk : 0 ≤ k ∧ k ≤ 3 := by unfold KeyGood at hkk; omega
    have e1 := p1_pos hk
    have hrow := hF.row k hk.1 hk.2
    show firstR fs n (wordsT false (delS false fs n k)) = _
    unfold delS needL
    rw [if_neg (by decide), if_neg (by decide), if_pos rfl]
    refine tellN (by omega) _ _ _ _ (fun r1 => ?_)
    have d1 := hA.rd (by omega) r1
    rw [d1]
    generalize hr : f (placeN 1 k) = r at hrow d1 ⊢
    by_cases h0 : r = 0
    · rw [if_pos h0, h0]
      rw [show becS fs n (placeN 2 0) 0 = .tell (-1) (rd fs n (-1)) 0 from rfl, first_tell, if_neg (by omega)]; rfl
    rw [if_neg h0]
    have hr6 : 1 ≤ r ∧ r ≤ 6 := by omega
    have e2' := p2_pos hr6
    have c3 := class_pos hr6
    have e3 := p3_pos c3
    have e5' := p5_pos hr6
    refine tellN (by omega) _ _ _ _ (fun _ => tellN (by omega) _ _ _ _ (fun _ => tellN q13 _ _ _ _ (fun r4 => ?_)))
    have d4 := hA.rd q13 r4
    by_cases h3 : k + 1 < f 13
    · rw [if_pos h3]
      exact askY (by rw [d4]; simpa using h3) (tellN (by omega) _ _ _ _ (fun _ => nilN))
    · rw [if_neg h3]
      exact askN (by rw [d4]; simpa using h3)
  · have hk : 0 ≤ k ∧ k ≤ 3 := by unfold KeyGood at hkk; omega
    have e1 := p1_pos hk
    exact tellN (by omega) _ _ _ _ (fun _ => nilN)
  · have hv : 1 ≤ v ∧ v ≤ 6 := by unfold ValGood at hvv; omega
    have e2 := p2_pos hv
    exact tellN (by omega) _ _ _ _ (fun _ => nilN)
  · have hk : 0 ≤ k ∧ k ≤ 2 := by unfold KeyGood at hkk; omega
    have e3 := p3_pos hk
    exact tellN (by omega) _ _ _ _ (fun _ => nilN)
  · have z0 : placeN 1 0 = 0 := p1_pos (by omega)
    have z1 : placeN 1 1 = 1 := p1_pos (by omega)
    have z2 : placeN 1 2 = 2 := p1_pos (by omega)
    have z3 : placeN 1 3 = 3 := p1_pos (by omega)
    exact tellN (by omega) _ _ _ _ (fun _ => tellN (by omega) _ _ _ _ (fun _ => tellN (by omega) _ _ _ _ (fun _ => tellN (by omega) _ _ _ _ (fun _ => nilN))))
  · exact tellN q13 _ _ _ _ (fun _ => nilN)
  · show firstR fs n (wordsT false (makeS fs n)) = firstN _ (13 :: (if 1 ≤ f 13 ∧ f 13 ≤ 4 then placeN 1 (f 13 - 1) :: (if f (placeN 1 (f 13 - 1)) = 0 then [] else [placeN 5 (f (placeN 1 (f 13 - 1)))]) else []))
    unfold makeS
    refine tellN q13 _ _ _ _ (fun r1 => ?_)
    have d1 := hA.rd q13 r1
    have hs := hF.state
    have ew : wrap64 (rd fs n 13 - 1) = f 13 - 1 := by rw [d1]; unfold wrap64; omega
    rw [ew]
    by_cases h1 : 1 ≤ f 13 ∧ f 13 ≤ 4
    · rw [if_pos h1]
      have hk : 0 ≤ f 13 - 1 ∧ f 13 - 1 ≤ 3 := by omega
      have e1 := p1_pos hk
      have hrow := hF.row (f 13 - 1) hk.1 hk.2
      refine tellN (by omega) _ _ _ _ (fun r2 => ?_)
      have d2 := hA.rd (by omega) r2
      rw [d2]
      by_cases h0 : f (placeN 1 (f 13 - 1)) = 0
      · rw [if_pos h0, h0]
        rw [show becS fs n (placeN 5 0) (wrap64 (f 13 - 1 + 1)) = .tell (-1) (rd fs n (-1)) (wrap64 (f 13 - 1 + 1)) from rfl, first_tell, if_neg (by omega)]; rfl
      · rw [if_neg h0]
        have e5 := p5_pos (show 1 ≤ f (placeN 1 (f 13 - 1)) ∧ f (placeN 1 (f 13 - 1)) ≤ 6 by omega)
        exact tellN (by omega) _ _ _ _ (fun _ => nilN)
    · rw [if_neg h1]
      have e1 : placeN 1 (f 13 - 1) = -1 := by unfold placeN; rw [if_neg (by omega), if_neg (by omega), if_neg (by omega), if_neg (by omega), if_neg (by omega)]
      rw [stayS, e1, first_tell, if_neg (by omega)]; rfl
  · have hv : 1 ≤ v ∧ v ≤ 6 := by unfold ValGood at hvv; omega
    have e5 := p5_pos hv
    show firstR fs n (wordsT false (viaS fs n v)) = firstN _ (13 :: (if f 13 ≠ 5 then [] else [placeN 5 v]))
    unfold viaS
    refine tellN q13 _ _ _ _ (fun r1 => ?_)
    have d1 := hA.rd q13 r1
    by_cases h1 : f 13 = 5
    · rw [if_neg (by omega)]
      exact askY (decide_eq_true (by rw [d1]; exact h1)) (tellN (by omega) _ _ _ _ (fun _ => nilN))
    · rw [if_pos h1]
      exact askN (decide_eq_false (by rw [d1]; exact h1))
end Go.Proofs.YtenlapppaimkkabGreatDoor

/- Words that were read in the order in which they must be known: what is next, and what is told at the end (no program). -/
namespace Go.Proofs.YtenlapppaimkkabGreatDoor
open Go.ChangeShapes Go.WideShapes Go.ChangeAt Go.RowKit

/-- Pairs of these places and what stands there. -/
def flatP (f : Int → Int) (ps : List Int) : List Int := ps.flatMap fun p => [p, f p]
theorem flatP_len (f : Int → Int) (ps : List Int) : (flatP f ps).length = ps.length * 2 := by
  induction ps with
  | nil => rfl
  | cons x t ih => simp only [flatP, List.flatMap_cons, List.length_append, List.length_cons, List.length_nil] at ih ⊢; omega
theorem flatP_snoc (f : Int → Int) (ps : List Int) (p : Int) : flatP f (ps ++ [p]) = flatP f ps ++ [p, f p] := by simp [flatP]
theorem readF_app (gs hs : List Int) (p : Int) : ∀ n, n * 2 ≤ gs.length → readF (gs ++ hs) p n = readF gs p n
  | 0, _ => rfl
  | n + 1, h => by
    have e0 : (gs ++ hs).getD (n * 2) 0 = gs.getD (n * 2) 0 := by simp [List.getD, List.getElem?_append_left (show n * 2 < gs.length by omega)]
    have e1 : (gs ++ hs).getD (n * 2 + 1) 0 = gs.getD (n * 2 + 1) 0 := by simp [List.getD, List.getElem?_append_left (show n * 2 + 1 < gs.length by omega)]
    unfold readF
    rw [e0, e1, readF_app gs hs p n (by omega)]
theorem read_last (f : Int → Int) (ps : List Int) (x p : Int) : readF (flatP f (ps ++ [x])) p (ps.length + 1) = if x = p then (f x, true) else readF (flatP f ps) p ps.length := by
  rw [flatP_snoc]
  have hl := flatP_len f ps
  have e0 : (flatP f ps ++ [x, f x]).getD (ps.length * 2) 0 = x := by simp [List.getD, ← hl]
  have e1 : (flatP f ps ++ [x, f x]).getD (ps.length * 2 + 1) 0 = f x := by simp [List.getD, ← hl]
  show (if _ = p then _ else _) = _
  rw [e0, e1, readF_app _ _ _ _ (by omega)]
theorem read_flat (f : Int → Int) (p : Int) (ps : List Int) : readF (flatP f ps) p ps.length = if p ∈ ps then (f p, true) else (0, false) := by
  have key : ∀ (m : Nat) (ps : List Int), ps.length = m → readF (flatP f ps) p ps.length = if p ∈ ps then (f p, true) else (0, false) := by
    intro m
    induction m with
    | zero => intro ps h; cases ps with
      | nil => rfl
      | cons x t => simp at h
    | succ m ih =>
      intro ps h
      obtain ⟨qs, x, rfl⟩ : ∃ qs x, ps = qs ++ [x] := ⟨ps.dropLast, ps.getLast (by intro e; rw [e] at h; simp at h), (List.dropLast_concat_getLast _).symm⟩
      have hq : qs.length = m := by simpa using h
      rw [show (qs ++ [x]).length = qs.length + 1 by simp, read_last, ih qs hq]
      by_cases hx : x = p
      · rw [if_pos hx, if_pos (by simp [hx]), hx]
      · rw [if_neg hx]
        have hm : (p ∈ qs ++ [x]) ↔ p ∈ qs := by simp; intro e; exact absurd e.symm hx
        by_cases hp : p ∈ qs
        · rw [if_pos hp, if_pos (hm.2 hp)]
        · rw [if_neg hp, if_neg (fun h => hp (hm.1 h))]
  exact key _ ps rfl
theorem agrees_flat (f : Int → Int) (ps : List Int) : Agrees f (flatP f ps) ps.length := ⟨fun p _ h => by
  rw [read_flat] at h ⊢
  by_cases hp : p ∈ ps
  · rw [if_pos hp]
  · rw [if_neg hp] at h; cases h⟩
theorem goR_flat (f : Int → Int) (ps : List Int) (p : Int) : (readF (flatP f ps) p ps.length).2 = decide (p ∈ ps) := by
  rw [read_flat]
  by_cases hp : p ∈ ps
  · rw [if_pos hp, decide_eq_true hp]
  · rw [if_neg hp, decide_eq_false hp]
/-- The first that is not among the first i: the next one. -/
theorem firstN_take : ∀ (L : List Int) (i : Nat), L.Nodup → firstN (fun p => decide (p ∈ L.take i)) L = L.getD i (-1) := by
  have key : ∀ (L A : List Int) (i : Nat), (A ++ L).Nodup → firstN (fun p => decide (p ∈ A ++ L.take i)) L = L.getD i (-1) := by
    intro L
    induction L with
    | nil => intro A i _; rfl
    | cons x t ih =>
      intro A i h
      cases i with
      | zero =>
        have hx : x ∉ A := fun hx => by
          have := (List.nodup_append.1 h).2.2 x hx x (by simp)
          exact this rfl
        show (if decide (x ∈ A ++ []) = true then _ else _) = _
        rw [if_neg (by simpa using hx)]; rfl
      | succ i =>
        show (if decide (x ∈ A ++ x :: t.take i) = true then _ else _) = _
        rw [if_pos (by simp)]
        have := ih (A ++ [x]) i (by simpa using h)
        simpa using this
  intro L i h
  simpa using key L [] i h

theorem need_ok {f : Int → Int} (hF : FOk f) {kind k v : Int} (hg : OpGood kind k v) : (needL f kind k v).Nodup ∧ (needL f kind k v).length ≤ 8 ∧ (∀ p ∈ needL f kind k v, 0 ≤ p ∧ p ≤ 19) ∧ 0 < (needL f kind k v).length := by
  obtain ⟨hk, hkk, hvv⟩ := hg
  unfold needL
  have hs := hF.state
  rcases kinds hk with rfl | rfl | rfl | rfl | rfl | rfl | rfl | rfl | rfl | rfl
  · have hk : 0 ≤ k ∧ k ≤ 3 := by unfold KeyGood at hkk; omega
    have hv : 1 ≤ v ∧ v ≤ 6 := by unfold ValGood at hvv; omega
    have c3 := class_pos hv
    rw [if_pos rfl, p1_pos hk, p2_pos hv, p3_pos c3, p5_pos hv]
    repeat' split
    all_goals refine ⟨by simp <;> omega, by simp, ?_, by simp⟩
    all_goals (intro p hp; simp at hp; omega)
  · have hk : 0 ≤ k ∧ k ≤ 3 := by unfold KeyGood at hkk; omega
    have hv : 1 ≤ v ∧ v ≤ 6 := by unfold ValGood at hvv; omega
    have c3 := class_pos hv
    have hrow := hF.row k hk.1 hk.2
    rw [if_neg (by decide), if_pos rfl]
    generalize f (placeN 1 k) = r at hrow ⊢
    rw [p1_pos hk]
    by_cases h0 : r = 0 ∨ r = v
    · rw [if_pos h0]; exact ⟨by simp, by simp, by intro p hp; simp at hp; omega, by simp⟩
    rw [if_neg h0]
    have hr : 1 ≤ r ∧ r ≤ 6 := by omega
    have c3' := class_pos hr
    rw [p2_pos hv, p2_pos hr, p3_pos c3, p3_pos c3', p5_pos hv, p5_pos hr]
    repeat' split
    all_goals refine ⟨by simp <;> omega, by simp, ?_, by simp⟩
    all_goals (intro p hp; simp at hp; omega)
  · have hk : 0 ≤ k ∧ k ≤ 3 := by unfold KeyGood at hkk; omega
    have hrow := hF.row k hk.1 hk.2
    rw [if_neg (by decide), if_neg (by decide), if_pos rfl]
    generalize f (placeN 1 k) = r at hrow ⊢
    rw [p1_pos hk]
    by_cases h0 : r = 0
    · rw [if_pos h0]; exact ⟨by simp, by simp, by intro p hp; simp at hp; omega, by simp⟩
    rw [if_neg h0]
    have hr : 1 ≤ r ∧ r ≤ 6 := by omega
    have c3' := class_pos hr
    rw [p2_pos hr, p3_pos c3', p5_pos hr]
    repeat' split
    all_goals refine ⟨by simp <;> omega, by simp, ?_, by simp⟩
    all_goals (intro p hp; simp at hp; omega)
  · have hk : 0 ≤ k ∧ k ≤ 3 := by unfold KeyGood at hkk; omega
    rw [if_neg (by decide), if_neg (by decide), if_neg (by decide), if_pos rfl, p1_pos hk]
    exact ⟨by simp, by simp, by intro p hp; simp at hp; omega, by simp⟩
  · have hv : 1 ≤ v ∧ v ≤ 6 := by unfold ValGood at hvv; omega
    rw [if_neg (by decide), if_neg (by decide), if_neg (by decide), if_neg (by decide), if_pos rfl, p2_pos hv]
    exact ⟨by simp, by simp, by intro p hp; simp at hp; omega, by simp⟩
  · have hk : 0 ≤ k ∧ k ≤ 2 := by unfold KeyGood at hkk; omega
    rw [if_neg (by decide), if_neg (by decide), if_neg (by decide), if_neg (by decide), if_neg (by decide), if_pos rfl, p3_pos hk]
    exact ⟨by simp, by simp, by intro p hp; simp at hp; omega, by simp⟩
  · rw [if_neg (by decide), if_neg (by decide), if_neg (by decide), if_neg (by decide), if_neg (by decide), if_neg (by decide), if_pos rfl, p1_pos (by omega), p1_pos (by omega), p1_pos (by omega), p1_pos (by omega)]
    exact ⟨by decide, by decide, by intro p hp; simp at hp; omega, by decide⟩
  · rw [if_neg (by decide), if_neg (by decide), if_neg (by decide), if_neg (by decide), if_neg (by decide), if_neg (by decide), if_neg (by decide), if_pos rfl]
    exact ⟨by decide, by decide, by intro p hp; simp at hp; omega, by decide⟩
  · rw [if_neg (by decide), if_neg (by decide), if_neg (by decide), if_neg (by decide), if_neg (by decide), if_neg (by decide), if_neg (by decide), if_neg (by decide), if_pos rfl]
    by_cases h1 : 1 ≤ f 13 ∧ f 13 ≤ 4
    · rw [if_pos h1]
      have hk : 0 ≤ f 13 - 1 ∧ f 13 - 1 ≤ 3 := by omega
      have hrow := hF.row (f 13 - 1) hk.1 hk.2
      generalize f (placeN 1 (f 13 - 1)) = r at hrow ⊢
      rw [p1_pos hk]
      by_cases h0 : r = 0
      · rw [if_pos h0]; exact ⟨by simp; omega, by simp, by intro p hp; simp at hp; omega, by simp⟩
      · rw [if_neg h0, p5_pos (by omega)]; exact ⟨by simp; omega, by simp, by intro p hp; simp at hp; omega, by simp⟩
    · rw [if_neg h1]; exact ⟨by simp, by simp, by intro p hp; simp at hp; omega, by simp⟩
  · have hv : 1 ≤ v ∧ v ≤ 6 := by unfold ValGood at hvv; omega
    rw [if_neg (by decide), if_neg (by decide), if_neg (by decide), if_neg (by decide), if_neg (by decide), if_neg (by decide), if_neg (by decide), if_neg (by decide), if_neg (by decide), p5_pos hv]
    repeat' split
    all_goals refine ⟨by simp; try omega, by simp, ?_, by simp⟩
    all_goals (intro p hp; simp at hp; omega)
/-- What is next when the first i of them were read. -/
theorem next_prefix {f : Int → Int} (hF : FOk f) {kind k v : Int} (hg : OpGood kind k v) (i : Nat) (hi : i ≤ (needL f kind k v).length) :
    nextM (flatP f ((needL f kind k v).take i)) i kind k v = (needL f kind k v).getD i (-1) := by
  have hl : ((needL f kind k v).take i).length = i := by rw [List.length_take]; omega
  have hA := agrees_flat f ((needL f kind k v).take i)
  have hs := hF.state
  have hw : (Lit.int .i64 (rd (flatP f ((needL f kind k v).take i)) i 13)).wf = true := by
    unfold rd
    rw [if_neg (by omega)]
    have e := read_flat f 13 ((needL f kind k v).take i)
    rw [hl] at e
    rw [e]
    split
    · exact WalkArith.wf_i64 (by show _ ≤ f 13 ∧ f 13 ≤ _; omega)
    · decide
  rw [next_words _ _ _ _ _ hw hg]
  rw [hl] at hA
  rw [first_need hA hF hg]
  have e : (fun p => (readF (flatP f ((needL f kind k v).take i)) p i).2) = fun p => decide (p ∈ (needL f kind k v).take i) := by
    funext p
    have h := goR_flat f ((needL f kind k v).take i) p
    rw [hl] at h
    exact h
  rw [e]
  exact firstN_take _ i (need_ok hF hg).1

/-- Place and what was read there, of what is told. -/
def keyE (x : Ent) : Int × Int := (x.1, x.2.1)
section
variable {f : Int → Int} {fs : List Int} {n : Nat}
/-- One word that was read is told, and is there. -/
theorem got_yes (hA : Agrees f fs n) {p : Int} (hp : 0 ≤ p) (hr : (readF fs p n).2 = true) {v : Int} {t : List Stp} {T : List (Int × Int)} (ht : ((wordsT true t).filter (goR fs n)).map keyE = T) :
    ((wordsT true (.tell p (rd fs n p) v :: t)).filter (goR fs n)).map keyE = (p, f p) :: T := by
  rw [show wordsT true (.tell p (rd fs n p) v :: t) = (p, rd fs n p, v) :: wordsT true t by rw [wordsT, if_pos hp], List.filter_cons_of_pos (by exact hr), List.map_cons, ht, hA.rd hp hr]; rfl
theorem got_no {p o v : Int} (hr : p < 0 ∨ (readF fs p n).2 = false) {t : List Stp} : ((wordsT true (.tell p o v :: t)).filter (goR fs n)).map keyE = ((wordsT true t).filter (goR fs n)).map keyE := by
  by_cases hp : 0 ≤ p
  · rw [show wordsT true (.tell p o v :: t) = (p, o, v) :: wordsT true t by rw [wordsT, if_pos hp], List.filter_cons_of_neg (by
      rcases hr with h | h
      · omega
      · show ¬ (readF fs p n).2 = true; rw [h]; simp)]
  · rw [show wordsT true (.tell p o v :: t) = wordsT true t by rw [wordsT, if_neg hp, if_pos rfl]]
theorem got_ask {b : Bool} (hb : b = true) {t : List Stp} {T : List (Int × Int)} (ht : ((wordsT true t).filter (goR fs n)).map keyE = T) : ((wordsT true (.ask b :: t)).filter (goR fs n)).map keyE = T := by
  rw [show wordsT true (.ask b :: t) = wordsT true t by rw [wordsT, if_pos hb]]; exact ht
theorem got_nil : ((wordsT true []).filter (goR fs n)).map keyE = [] := rfl
end
theorem ifL_nil {b : Bool} {x : Int × List Int} (h : ifL b x = []) : b = false := by
  cases b with
  | true => cases h
  | false => rfl
/-- What is told when all was read, and nothing comes at once: all that was read, as it was. -/
theorem got_all {f : Int → Int} (hF : FOk f) {kind k v : Int} (hg : OpGood kind k v) (hn : nowL (flatP f (needL f kind k v)) (needL f kind k v).length kind k v = []) :
    (gotL (flatP f (needL f kind k v)) (needL f kind k v).length kind k v).map keyE = (needL f kind k v).map fun p => (p, f p) := by
  have hA := agrees_flat f (needL f kind k v)
  have hm : ∀ p, (readF (flatP f (needL f kind k v)) p (needL f kind k v).length).2 = decide (p ∈ needL f kind k v) := goR_flat f (needL f kind k v)
  have hok := need_ok hF hg
  have hs := hF.state
  have q13 : (0 : Int) ≤ 13 := by omega
  unfold gotL
  generalize hL : needL f kind k v = L at hA hm hok hn ⊢
  generalize hfs : flatP f L = fs at hA hm hn ⊢
  generalize hnn : L.length = n at hA hm hok hn ⊢
  have yes : ∀ p, p ∈ L → (readF fs p n).2 = true := fun p hp => by rw [hm, decide_eq_true hp]
  have no : ∀ p, p ∉ L → (readF fs p n).2 = false := fun p hp => by rw [hm, decide_eq_false hp]
  obtain ⟨hk, hkk, hvv⟩ := hg
  clear hfs hnn
  rcases kinds hk with rfl | rfl | rfl | rfl | rfl | rfl | rfl | rfl | rfl | rfl
  · have hk : 0 ≤ k ∧ k ≤ 3 := by unfold KeyGood at hkk; omega
    have hv : 1 ≤ v ∧ v ≤ 6 := by unfold ValGood at hvv; omega
    have c3 := class_pos hv
    have e1 := p1_pos hk
    have e2 := p2_pos hv
    have e3 := p3_pos c3
    have e5 := p5_pos hv
    rw [nowL_1] at hn
    have n1 := ifL_nil (List.append_eq_nil_iff.1 hn).1
    have n2 := ifL_nil (List.append_eq_nil_iff.1 hn).2
    have i1 : placeN 1 k ∈ L := by rw [← hL]; unfold needL; rw [if_pos rfl]; simp
    have d1 := hA.rd (p := placeN 1 k) (by omega) (yes _ i1)
    have z1 : f (placeN 1 k) = 0 := by rw [d1] at n1; simpa using n1
    have hL1 : L = placeN 1 k :: placeN 2 v :: (if f (placeN 2 v) ≠ 0 then [] else placeN 3 (classN v) :: 13 :: (if k + 1 < f 13 then [placeN 5 v] else [])) := by rw [← hL]; unfold needL; rw [if_pos rfl, if_neg (by omega)]
    have i2 : placeN 2 v ∈ L := by rw [hL1]; simp
    have d2 := hA.rd (p := placeN 2 v) (by omega) (yes _ i2)
    have z2 : f (placeN 2 v) = 0 := by rw [d2] at n2; simpa using n2
    rw [if_neg (by omega)] at hL1
    have i3 : placeN 3 (classN v) ∈ L := by rw [hL1]; simp
    have i4 : (13 : Int) ∈ L := by rw [hL1]; simp
    show ((wordsT true (putS true fs n k v)).filter (goR fs n)).map keyE = _
    unfold putS
    by_cases h5 : k + 1 < f 13
    · rw [if_pos h5] at hL1
      have i5 : placeN 5 v ∈ L := by rw [hL1]; simp
      rw [hL1]
      exact got_yes hA (by omega) (yes _ i1) (got_ask (decide_eq_true (by rw [d1]; exact z1)) (got_yes hA (by omega) (yes _ i2) (got_ask (decide_eq_true (by rw [d2]; exact z2)) (got_yes hA (by omega) (yes _ i3) (got_yes hA q13 (yes _ i4) (got_ask rfl (got_yes hA (by omega) (yes _ i5) got_nil)))))))
    · rw [if_neg h5] at hL1
      have i5 : placeN 5 v ∉ L := by rw [hL1, e1, e2, e3, e5]; simp; omega
      rw [hL1]
      exact got_yes hA (by omega) (yes _ i1) (got_ask (decide_eq_true (by rw [d1]; exact z1)) (got_yes hA (by omega) (yes _ i2) (got_ask (decide_eq_true (by rw [d2]; exact z2)) (got_yes hA (by omega) (yes _ i3) (got_yes hA q13 (yes _ i4) (got_ask rfl (got_no (.inr (no _ i5)))))))))
  · have hk : 0 ≤ k ∧ k ≤ 3 := by unfold KeyGood at hkk; omega
    have hv : 1 ≤ v ∧ v ≤ 6 := by unfold ValGood at hvv; omega
    have c3 := class_pos hv
    have e1 := p1_pos hk
    have e2 := p2_pos hv
    have e3 := p3_pos c3
    have e5 := p5_pos hv
    rw [nowL_2] at hn
    have n0 := ifL_nil (List.append_eq_nil_iff.1 (List.append_eq_nil_iff.1 hn).1).1
    have n1 := ifL_nil (List.append_eq_nil_iff.1 (List.append_eq_nil_iff.1 hn).1).2
    have n2 := ifL_nil (List.append_eq_nil_iff.1 hn).2
    have i1 : placeN 1 k ∈ L := by rw [← hL]; unfold needL; rw [if_neg (by decide), if_pos rfl]; simp
    have d1 := hA.rd (p := placeN 1 k) (by omega) (yes _ i1)
    have hrow := hF.row k hk.1 hk.2
    rw [d1] at n0 n1
    have hL1 : L = placeN 1 k :: (if f (placeN 1 k) = 0 ∨ f (placeN 1 k) = v then [] else placeN 2 v :: (if f (placeN 2 v) ≠ 0 then [] else placeN 2 (f (placeN 1 k)) :: ((if classN (f (placeN 1 k)) = classN v then [] else [placeN 3 (classN (f (placeN 1 k))), placeN 3 (classN v)]) ++ 13 :: (if k + 1 < f 13 then [placeN 5 (f (placeN 1 k)), placeN 5 v] else [])))) := by rw [← hL]; unfold needL; rw [if_neg (by decide), if_pos rfl]
    show ((wordsT true (setS true fs n k v)).filter (goR fs n)).map keyE = _
    unfold setS
    rw [d1]
    have k1 : ∀ t T, ((wordsT true t).filter (goR fs n)).map keyE = T → ((wordsT true (becS fs n (placeN 1 k) v :: t)).filter (goR fs n)).map keyE = (placeN 1 k, f (placeN 1 k)) :: T := fun t T h => got_yes hA (by omega) (yes _ i1) h
    generalize hr : f (placeN 1 k) = r at n0 n1 hrow hL1 k1 ⊢
    have z0 : ¬ r = 0 := by simpa using n0
    have z1 : ¬ r = v := by simpa using n1
    rw [if_neg (by omega)] at hL1
    have i2 : placeN 2 v ∈ L := by rw [hL1]; simp
    have d2 := hA.rd (p := placeN 2 v) (by omega) (yes _ i2)
    have z2 : f (placeN 2 v) = 0 := by rw [d2] at n2; simpa using n2
    rw [if_neg (by omega)] at hL1
    have hr6 : 1 ≤ r ∧ r ≤ 6 := by omega
    have c3' := class_pos hr6
    have e2' := p2_pos hr6
    have e3' := p3_pos c3'
    have e5' := p5_pos hr6
    have i3 : placeN 2 r ∈ L := by rw [hL1]; simp
    have i4 : (13 : Int) ∈ L := by rw [hL1]; simp
    have tl : ((wordsT true [stayS fs n 13, .ask (true || decide (k + 1 < rd fs n 13)), becS fs n (placeN 5 r) 0, becS fs n (placeN 5 v) (k + 1)]).filter (goR fs n)).map keyE = (13 :: (if k + 1 < f 13 then [placeN 5 r, placeN 5 v] else [])).map fun p => (p, f p) := by
      by_cases h5 : k + 1 < f 13
      · rw [if_pos h5] at hL1 ⊢
        have j1 : placeN 5 r ∈ L := by rw [hL1]; simp
        have j2 : placeN 5 v ∈ L := by rw [hL1]; simp
        exact got_yes hA q13 (yes _ i4) (got_ask rfl (got_yes hA (by omega) (yes _ j1) (got_yes hA (by omega) (yes _ j2) got_nil)))
      · rw [if_neg h5] at hL1 ⊢
        have j1 : placeN 5 r ∉ L := by
          rw [hL1, e1, e2, e2', e3, e3', e5']
          split <;> simp <;> omega
        have j2 : placeN 5 v ∉ L := by
          rw [hL1, e1, e2, e2', e3, e3', e5]
          split <;> simp <;> omega
        exact got_yes hA q13 (yes _ i4) (got_ask rfl ((got_no (.inr (no _ j1))).trans (got_no (.inr (no _ j2)))))
    unfold moveS
    dsimp only
    by_cases hc : classN r = classN v
    · rw [if_pos hc]
      rw [if_pos hc] at hL1
      rw [hL1, List.map_cons, hr]
      exact k1 _ _ (got_ask (by simpa using z0) (got_ask (by simpa using z1) (got_yes hA (by omega) (yes _ i2) (got_ask (decide_eq_true (by rw [d2]; exact z2)) (got_yes hA (by omega) (yes _ i3) tl)))))
    · rw [if_neg hc]
      rw [if_neg hc] at hL1
      have j3 : placeN 3 (classN r) ∈ L := by rw [hL1]; simp
      have j4 : placeN 3 (classN v) ∈ L := by rw [hL1]; simp
      rw [hL1, List.map_cons, hr]
      exact k1 _ _ (got_ask (by simpa using z0) (got_ask (by simpa using z1) (got_yes hA (by omega) (yes _ i2) (got_ask (decide_eq_true (by rw [d2]; exact z2)) (got_yes hA (by omega) (yes _ i3) (got_yes hA (by omega) (yes _ j3) (got_yes hA (by omega) (yes _ j4) tl)))))))
  · have hk : 0 ≤ k ∧ k ≤ 3 := by unfold KeyGood at hkk; omega
    have e1 := p1_pos hk
    rw [nowL_3] at hn
    have n0 := ifL_nil hn
    have i1 : placeN 1 k ∈ L := by rw [← hL]; unfold needL; rw [if_neg (by decide), if_neg (by decide), if_pos rfl]; simp
    have d1 := hA.rd (p := placeN 1 k) (by omega) (yes _ i1)
    have hrow := hF.row k hk.1 hk.2
    rw [d1] at n0
    have hL1 : L = placeN 1 k :: (if f (placeN 1 k) = 0 then [] else placeN 2 (f (placeN 1 k)) :: placeN 3 (classN (f (placeN 1 k))) :: 13 :: (if k + 1 < f 13 then [placeN 5 (f (placeN 1 k))] else [])) := by rw [← hL]; unfold needL; rw [if_neg (by decide), if_neg (by decide), if_pos rfl]
    show ((wordsT true (delS true fs n k)).filter (goR fs n)).map keyE = _
    unfold delS
    rw [d1]
    have k1 : ∀ t T, ((wordsT true t).filter (goR fs n)).map keyE = T → ((wordsT true (becS fs n (placeN 1 k) 0 :: t)).filter (goR fs n)).map keyE = (placeN 1 k, f (placeN 1 k)) :: T := fun t T h => got_yes hA (by omega) (yes _ i1) h
    generalize hr : f (placeN 1 k) = r at n0 hrow hL1 k1 ⊢
    have z0 : ¬ r = 0 := by simpa using n0
    rw [if_neg z0] at hL1
    have hr6 : 1 ≤ r ∧ r ≤ 6 := by omega
    have c3' := class_pos hr6
    have e2' := p2_pos hr6
    have e3' := p3_pos c3'
    have e5' := p5_pos hr6
    have i2 : placeN 2 r ∈ L := by rw [hL1]; simp
    have i3 : placeN 3 (classN r) ∈ L := by rw [hL1]; simp
    have i4 : (13 : Int) ∈ L := by rw [hL1]; simp
    by_cases h5 : k + 1 < f 13
    · rw [if_pos h5] at hL1
      have j1 : placeN 5 r ∈ L := by rw [hL1]; simp
      rw [hL1, List.map_cons, hr]
      exact k1 _ _ (got_yes hA (by omega) (yes _ i2) (got_yes hA (by omega) (yes _ i3) (got_yes hA q13 (yes _ i4) (got_ask rfl (got_yes hA (by omega) (yes _ j1) got_nil)))))
    · rw [if_neg h5] at hL1
      have j1 : placeN 5 r ∉ L := by rw [hL1, e1, e2', e3', e5']; simp; omega
      rw [hL1, List.map_cons, hr]
      exact k1 _ _ (got_yes hA (by omega) (yes _ i2) (got_yes hA (by omega) (yes _ i3) (got_yes hA q13 (yes _ i4) (got_ask rfl (got_no (.inr (no _ j1)))))))
  · exact absurd hn (now_some fs n 4 k v (by omega))
  · exact absurd hn (now_some fs n 5 k v (by omega))
  · exact absurd hn (now_some fs n 6 k v (by omega))
  · have z0 : placeN 1 0 = 0 := p1_pos (by omega)
    have z1 : placeN 1 1 = 1 := p1_pos (by omega)
    have z2 : placeN 1 2 = 2 := p1_pos (by omega)
    have z3 : placeN 1 3 = 3 := p1_pos (by omega)
    have hL1 : L = [placeN 1 0, placeN 1 1, placeN 1 2, placeN 1 3] := by rw [← hL]; unfold needL; rw [if_neg (by decide), if_neg (by decide), if_neg (by decide), if_neg (by decide), if_neg (by decide), if_neg (by decide), if_pos rfl]
    have i0 : placeN 1 0 ∈ L := by rw [hL1]; simp
    have i1 : placeN 1 1 ∈ L := by rw [hL1]; simp
    have i2 : placeN 1 2 ∈ L := by rw [hL1]; simp
    have i3 : placeN 1 3 ∈ L := by rw [hL1]; simp
    rw [hL1]
    exact got_yes hA (by omega) (yes _ i0) (got_yes hA (by omega) (yes _ i1) (got_yes hA (by omega) (yes _ i2) (got_yes hA (by omega) (yes _ i3) got_nil)))
  · have hL1 : L = [13] := by rw [← hL]; unfold needL; rw [if_neg (by decide), if_neg (by decide), if_neg (by decide), if_neg (by decide), if_neg (by decide), if_neg (by decide), if_neg (by decide), if_pos rfl]
    have i0 : (13 : Int) ∈ L := by rw [hL1]; simp
    rw [hL1]
    exact got_yes hA q13 (yes _ i0) got_nil
  · have hL1 : L = 13 :: (if 1 ≤ f 13 ∧ f 13 ≤ 4 then placeN 1 (f 13 - 1) :: (if f (placeN 1 (f 13 - 1)) = 0 then [] else [placeN 5 (f (placeN 1 (f 13 - 1)))]) else []) := by rw [← hL]; unfold needL; rw [if_neg (by decide), if_neg (by decide), if_neg (by decide), if_neg (by decide), if_neg (by decide), if_neg (by decide), if_neg (by decide), if_neg (by decide), if_pos rfl]
    have i0 : (13 : Int) ∈ L := by rw [hL1]; simp
    have d0 := hA.rd (p := 13) q13 (yes _ i0)
    rw [nowL_9] at hn
    have n0 := ifL_nil hn
    rw [d0] at n0
    simp only [Bool.or_eq_false_iff, beq_eq_false_iff_ne, ne_eq, decide_eq_false_iff_not] at n0
    have hst : 1 ≤ f 13 ∧ f 13 ≤ 4 := by omega
    rw [if_pos hst] at hL1
    have hk : 0 ≤ f 13 - 1 ∧ f 13 - 1 ≤ 3 := by omega
    have e1 := p1_pos hk
    have hrow := hF.row (f 13 - 1) hk.1 hk.2
    have i1 : placeN 1 (f 13 - 1) ∈ L := by rw [hL1]; simp
    have d1 := hA.rd (p := placeN 1 (f 13 - 1)) (by omega) (yes _ i1)
    show ((wordsT true (makeS fs n)).filter (goR fs n)).map keyE = _
    unfold makeS
    rw [show wrap64 (rd fs n 13 - 1) = f 13 - 1 by rw [d0]; unfold wrap64; omega]
    dsimp only
    rw [d1]
    by_cases h0 : f (placeN 1 (f 13 - 1)) = 0
    · rw [if_pos h0] at hL1
      rw [hL1, h0]
      exact got_yes hA q13 (yes _ i0) (got_yes hA (by omega) (yes _ i1) (got_no (.inl (by decide))))
    · rw [if_neg h0] at hL1
      have i2 : placeN 5 (f (placeN 1 (f 13 - 1))) ∈ L := by rw [hL1]; simp
      have e5 := p5_pos (show 1 ≤ f (placeN 1 (f 13 - 1)) ∧ f (placeN 1 (f 13 - 1)) ≤ 6 by omega)
      rw [hL1]
      exact got_yes hA q13 (yes _ i0) (got_yes hA (by omega) (yes _ i1) (got_yes hA (by omega) (yes _ i2) got_nil))
  · have hv : 1 ≤ v ∧ v ≤ 6 := by unfold ValGood at hvv; omega
    have e5 := p5_pos hv
    have hL1 : L = 13 :: (if f 13 ≠ 5 then [] else [placeN 5 v]) := by rw [← hL]; unfold needL; rw [if_neg (by decide), if_neg (by decide), if_neg (by decide), if_neg (by decide), if_neg (by decide), if_neg (by decide), if_neg (by decide), if_neg (by decide), if_neg (by decide)]
    have i0 : (13 : Int) ∈ L := by rw [hL1]; simp
    have d0 := hA.rd (p := 13) q13 (yes _ i0)
    rw [nowL_10] at hn
    have n0 := ifL_nil hn
    rw [d0] at n0
    have z0 : f 13 = 5 := by simpa using n0
    rw [if_neg (by omega)] at hL1
    have i1 : placeN 5 v ∈ L := by rw [hL1]; simp
    rw [hL1]
    show ((wordsT true (viaS fs n v)).filter (goR fs n)).map keyE = _
    unfold viaS
    exact got_yes hA q13 (yes _ i0) (got_ask (decide_eq_true (by rw [d0]; exact z0)) (got_yes hA (by omega) (yes _ i1) got_nil))
end Go.Proofs.YtenlapppaimkkabGreatDoor
