/- Texts joined: ImplPlan. -/
import Derived.Test.YtenlapppaimkkabGreatDoorPL05
import Derived.Test.YtenlapppaimkkabGreatDoorPL11
import Derived.Test.YtenlapppaimkkabGreatDoorPL17
import Derived.Deep.RegionWith
set_option maxHeartbeats 4000000
set_option maxRecDepth 100000
namespace Go.Proofs.YtenlapppaimkkabGreatDoor
section
open Go.ChangeShapes Go.WideShapes Go.ChangeAt Go.RowKit
def gotL (fs : List Int) (n : Nat) (kind k v : Int) : List Ent := (wordsT true (stepsT true fs n kind k v)).filter (goR fs n)
theorem implNow_any (a : Option Addr) (n c : Nat) (kind k v : Int) (fs : List Int) (w : World) (hB : Base w a n fs) (hg : OpGood kind k v) :
    Calls Tryz.prog 23 #[.iface (deedT kind) (OpV kind k v), .slice a n c] w fun e w' => ComNew e w w' (nowL fs n kind k v) ∧ Below w.heap.size w w' := by
  rcases kinds hg.1 with rfl | rfl | rfl | rfl | rfl | rfl | rfl | rfl | rfl | rfl
  · exact implNow_1 a n c k v fs w hB
  · exact implNow_2 a n c k v fs w hB
  · exact implNow_3 a n c k v fs w hB
  · exact implNow_4 a n c k v fs w hB
  · exact implNow_5 a n c k v fs w hB
  · exact implNow_6 a n c k v fs w hB
  · exact implNow_7 a n c k v fs w hB
  · exact implNow_8 a n c k v fs w hB
  · by_cases h : rd fs n 13 = 0
    · exact implNow_9a a n c k v fs w hB h
    · exact implNow_9b a n c k v fs w hB h
  · exact implNow_10 a n c k v fs w hB
theorem now_some (fs : List Int) (n : Nat) (kind k v : Int) (h : kind = 4 ∨ kind = 5 ∨ kind = 6) : nowL fs n kind k v ≠ [] := by
  rcases h with rfl | rfl | rfl
  · rw [nowL_4]; simp
  · rw [nowL_5]; simp
  · rw [nowL_6]; simp
theorem implThen_any (a : Option Addr) (n c : Nat) (kind k v : Int) (fs : List Int) (w : World) (hB : Base w a n fs) (hg : OpGood kind k v) (hn : nowL fs n kind k v = []) :
    Calls Tryz.prog 24 #[.iface (deedT kind) (OpV kind k v), .slice a n c] w fun e w' => ComNew e w w' (thenL fs n kind v) ∧ Below w.heap.size w w' := by
  rcases kinds hg.1 with rfl | rfl | rfl | rfl | rfl | rfl | rfl | rfl | rfl | rfl
  · exact implThen_1 a n c k v fs w hB
  · exact implThen_2 a n c k v fs w hB
  · exact implThen_3 a n c k v fs w hB
  · exact absurd hn (now_some fs n 4 k v (by omega))
  · exact absurd hn (now_some fs n 5 k v (by omega))
  · exact absurd hn (now_some fs n 6 k v (by omega))
  · exact implThen_7 a n c k v fs w hB
  · exact implThen_8 a n c k v fs w hB
  · exact implThen_9 a n c k v fs w hB
  · exact implThen_10 a n c k v fs w hB
theorem com_first {e : Ending} {w w' : World} {x : Int × List Int} {LL : List (Int × List Int)} (h : ComNew e w w' (x :: LL)) :
    ∃ g l cap a m c, e = .returned (.slice (some ⟨g, 0, none⟩) (l + 1) cap) ∧ w.heap.size ≤ g ∧ w'.cell? ⟨g, 0, none⟩ = some (.int .i64 x.1) ∧ w'.cell? ⟨g, 1, none⟩ = some (.slice a m c) ∧ IntAt w' a m x.2 ∧ ∀ q, a = some q → w.heap.size ≤ q.block := by
  obtain ⟨v, L, rfl, hc, ht, hnw⟩ := h
  match L, ht with
  | r :: L', ht =>
    obtain ⟨⟨h1, a, m, c, h2, h3⟩, _⟩ := ht
    rcases hc.2 with ⟨_, h⟩ | ⟨g, cap, cur, rfl, hb, _⟩
    · simp at h
    · have e0 := hc.cellAt 0 (by simp)
      have e1 := hc.cellAt 1 (by simp only [List.length_cons]; omega)
      refine ⟨g, L'.length, cap, a, m, c, rfl, hb, ?_, ?_, h3, fun q e => hnw r (List.mem_cons_self ..) q m c (by rw [h2, e])⟩
      · rw [e0]; simp [cellsC, h1]
      · rw [e1]; simp [cellsC, h2]
theorem com_none {e : Ending} {w w' : World} (h : ComNew e w w' []) : ∃ v, e = .returned v ∧ (v = .slice none 0 0 ∨ ∃ g cap, v = .slice (some ⟨g, 0, none⟩) 0 cap) := by
  obtain ⟨v, L, rfl, hc, ht, _⟩ := h
  match L, ht with
  | [], _ =>
    rcases hc.2 with ⟨rfl, _⟩ | ⟨g, cap, cur, rfl, _⟩
    · exact ⟨_, rfl, .inl rfl⟩
    · exact ⟨_, rfl, .inr ⟨g, cap, rfl⟩⟩
def PlanSays (e : Ending) (w' : World) (nw : Bool) (x : Int × List Int) (E : List Ent) : Prop :=
  ∃ a m c b d, e = .returned (.tuple #[.agg #[.bool nw, .int .i64 x.1, .slice a m c, .slice b E.length d], .bool true]) ∧ IntAt w' a m x.2 ∧ EntAt w' b E.length (flatE E)

theorem implPlan_now (a : Option Addr) (n c : Nat) (kind k v : Int) (fs : List Int) (w : World) (hB : Base w a n fs) (hx : ∀ x ∈ fs, (Lit.int .i64 x).wf = true) (hg : OpGood kind k v) (hn : nextM fs n kind k v = -1) (x : Int × List Int) (LL : List (Int × List Int)) (hN : nowL fs n kind k v = x :: LL) :
    Calls Tryz.prog 7 #[OpV kind k v, .slice a n c] w fun e w' => PlanSays e w' true x [] ∧ Below w.heap.size w w' := by
  have HB : Hid (Base w a n fs ∧ (∀ x ∈ fs, (Lit.int .i64 x).wf = true) ∧ OpGood kind k v ∧ nextM fs n kind k v = -1 ∧ nowL fs n kind k v = x :: LL) := ⟨hB, hx, hg, hn, hN⟩
  clear hB hx hg hn hN
  obtain ⟨W1, hW1⟩ : ∃ W1, (w.alloc (.cells #[.int .i64 kind, .int .i64 k, .int .i64 v] 28)).alloc (.cells #[.bool false, .int .i64 0, .slice none 0 0, .slice none 0 0] 36) = W1 := ⟨_, rfl⟩
  have b1 : Below w.heap.size w W1 := by rw [← hW1]; exact ((Below.refl _ _).alloc (Nat.le_refl _) _).alloc (by simp) _
  have x0 : W1.heap[w.heap.size]? = some (.cells #[.int .i64 kind, .int .i64 k, .int .i64 v] 28 (0, 0)) := by rw [← hW1]; exact (Below.heap_alloc _ _ _ (by simp)).trans (World.alloc_heap_new w _)
  have x1 : W1.heap[w.heap.size + 1]? = some (.cells #[.bool false, .int .i64 0, .slice none 0 0, .slice none 0 0] 36 (0, 0)) := by rw [← hW1]; show ((w.heap.push _).push _)[w.heap.size + 1]? = _; rw [Array.getElem?_push]; simp
  have z1 : w.heap.size + 1 < W1.heap.size := (Array.getElem?_eq_some_iff.1 x1).1
  have CE : Hid (∀ {w' : World}, Below W1.heap.size W1 w' → (w'.cell? ⟨w.heap.size, 0, none⟩ = some (.int .i64 kind) ∧ w'.cell? ⟨w.heap.size, 1, none⟩ = some (.int .i64 k) ∧ w'.cell? ⟨w.heap.size, 2, none⟩ = some (.int .i64 v)) ∧ w'.heap[w.heap.size + 1]? = some (.cells #[.bool false, .int .i64 0, .slice none 0 0, .slice none 0 0] 36 (0, 0)) ∧ Below w.heap.size w w') := fun hb => by
    have h0 := (hb.block _ (Nat.lt_of_succ_lt z1)).trans x0
    exact ⟨⟨by simp [World.cell?, h0], by simp [World.cell?, h0], by simp [World.cell?, h0]⟩, (hb.block _ z1).trans x1, b1.trans (hb.mono (Nat.le_of_lt (Nat.lt_of_succ_lt z1)))⟩
  have Z1 : Hid (w.heap.size + 1 < W1.heap.size) := z1
  clear b1 x0 x1 z1
  obtain ⟨⟨c0, c1, c2⟩, _⟩ := CE.out (Below.refl _ W1)
  go_enter Tryz.func7, Tryz.ntmps7
  go_wp2_with fail
  refine (implOpOk_any kind k v _).mono ?_
  rintro e w1 ⟨rfl, hb⟩
  rw [decide_eq_true HB.out.2.2.1]
  have B1 : Hid (Below W1.heap.size W1 w1) := (by first | exact hb | exact hW1 ▸ hb)
  clear hb c0 c1 c2
  obtain ⟨⟨c0, c1, c2⟩, _, lo⟩ := CE.out B1.out
  have LO1 : Hid (Below w.heap.size w w1) := lo
  clear lo
  go_wp2_with fail
  refine (implNext_cap a n c kind k v fs _ (HB.out.1.on LO1.out).names (HB.out.1.on LO1.out).pairs HB.out.2.1).mono ?_
  rintro e w2 ⟨rfl, hb⟩
  rw [HB.out.2.2.2.1]
  have B2 : Hid (Below W1.heap.size W1 w2) := B1.out.trans (hb.mono B1.out.size)
  clear hb c0 c1 c2
  obtain ⟨⟨c0, c1, c2⟩, _⟩ := CE.out B2.out
  go_wp2_with fail
  refine (implDeedOf_any kind k v _).mono ?_
  rintro e w3 ⟨rfl, hb⟩
  have B3 : Hid (Below W1.heap.size W1 w3) := B2.out.trans (hb.mono B2.out.size)
  clear hb c0 c1 c2
  have LO3 : Hid (Below w.heap.size w w3) := (CE.out B3.out).2.2
  go_wp2_with fail
  refine (implNow_any a n c kind k v fs _ (HB.out.1.on LO3.out) HB.out.2.2.1).mono ?_
  rintro e w4 ⟨hc, hb⟩
  rw [HB.out.2.2.2.2] at hc
  obtain ⟨g, l, cap, a', m', c', rfl, hg, d0, d1, hI, hfr⟩ := com_first hc
  have B4 : Hid (Below W1.heap.size W1 w4) := B3.out.trans (hb.mono B3.out.size)
  have HI : Hid (IntAt w4 a' m' x.2 ∧ (∀ q, a' = some q → q.block ≠ w.heap.size + 1)) := ⟨hI, fun q e => by have h1 := Z1.out; have h2 := B3.out.size; have h3 := hfr q e; omega⟩
  have hl : (0 : Int) < ((l + 1 : Nat) : Int) := by omega
  have hgne : g ≠ w.heap.size + 1 := by have h1 := Z1.out; have h2 := B3.out.size; omega
  obtain ⟨_, x4, lo⟩ := CE.out B4.out
  have LO4 : Hid (Below w.heap.size w w4) := lo
  have p0 : w4.cell? ⟨w.heap.size + 1, 0, none⟩ = some (.bool false) := by simp [World.cell?, x4]
  have p1 : w4.cell? ⟨w.heap.size + 1, 1, none⟩ = some (.int .i64 0) := by simp [World.cell?, x4]
  have p2 : w4.cell? ⟨w.heap.size + 1, 2, none⟩ = some (.slice none 0 0) := by simp [World.cell?, x4]
  have p3 : w4.cell? ⟨w.heap.size + 1, 3, none⟩ = some (.slice none 0 0) := by simp [World.cell?, x4]
  have q0 : w4.frozen? ⟨w.heap.size + 1, 0, none⟩ = false := by simp [World.frozen?, x4]
  have q1 : w4.frozen? ⟨w.heap.size + 1, 1, none⟩ = false := by simp [World.frozen?, x4]
  have q2 : w4.frozen? ⟨w.heap.size + 1, 2, none⟩ = false := by simp [World.frozen?, x4]
  have q3 : w4.frozen? ⟨w.heap.size + 1, 3, none⟩ = false := by simp [World.frozen?, x4]
  clear hb hc x4 lo hI hg hfr
  go_wp2
  (try simp only [Exit.inBlock, Exit.then])
  refine bodyPost_ret (by simp [results, Tryz.results7, go_sem, p0, p1, p2, p3]; try rfl) rfl ?_
  refine ⟨⟨a', m', c', none, 0, rfl, int_far (int_far (int_far (int_far HI.out.1 (p := ⟨w.heap.size + 1, 0, none⟩) HI.out.2 _) (p := ⟨w.heap.size + 1, 1, none⟩) HI.out.2 _) (p := ⟨w.heap.size + 1, 2, none⟩) HI.out.2 _) (p := ⟨w.heap.size + 1, 3, none⟩) HI.out.2 _, ⟨rfl, by simp, .inl ⟨rfl, rfl⟩⟩⟩, ?_⟩
  exact (((LO4.out.setCell (p := ⟨w.heap.size + 1, 0, none⟩) (by simp) _).setCell (p := ⟨w.heap.size + 1, 1, none⟩) (by simp) _).setCell (p := ⟨w.heap.size + 1, 2, none⟩) (by simp) _).setCell (p := ⟨w.heap.size + 1, 3, none⟩) (by simp) _

theorem implPlan_then (a : Option Addr) (n c : Nat) (kind k v : Int) (fs : List Int) (w : World) (hB : Base w a n fs) (hx : ∀ x ∈ fs, (Lit.int .i64 x).wf = true) (hg : OpGood kind k v) (hn : nextM fs n kind k v = -1) (hN : nowL fs n kind k v = []) (x : Int × List Int) (LL : List (Int × List Int)) (hT : thenL fs n kind v = x :: LL) (h0 : 0 < (gotL fs n kind k v).length) (h12 : (gotL fs n kind k v).length ≤ 12) :
    Calls Tryz.prog 7 #[OpV kind k v, .slice a n c] w fun e w' => PlanSays e w' false x (sortL (gotL fs n kind k v)) ∧ Below w.heap.size w w' := by
  have HB : Hid (Base w a n fs ∧ (∀ x ∈ fs, (Lit.int .i64 x).wf = true) ∧ OpGood kind k v ∧ nextM fs n kind k v = -1 ∧ nowL fs n kind k v = []) := ⟨hB, hx, hg, hn, hN⟩
  have HT : Hid (thenL fs n kind v = x :: LL ∧ 0 < (gotL fs n kind k v).length ∧ (gotL fs n kind k v).length ≤ 12) := ⟨hT, h0, h12⟩
  have HN : Hid (nowL fs n kind k v = []) := hN
  clear hB hx hg hn hN hT h0 h12
  obtain ⟨W1, hW1⟩ : ∃ W1, (w.alloc (.cells #[.int .i64 kind, .int .i64 k, .int .i64 v] 28)).alloc (.cells #[.bool false, .int .i64 0, .slice none 0 0, .slice none 0 0] 36) = W1 := ⟨_, rfl⟩
  have b1 : Below w.heap.size w W1 := by rw [← hW1]; exact ((Below.refl _ _).alloc (Nat.le_refl _) _).alloc (by simp) _
  have x0 : W1.heap[w.heap.size]? = some (.cells #[.int .i64 kind, .int .i64 k, .int .i64 v] 28 (0, 0)) := by rw [← hW1]; exact (Below.heap_alloc _ _ _ (by simp)).trans (World.alloc_heap_new w _)
  have x1 : W1.heap[w.heap.size + 1]? = some (.cells #[.bool false, .int .i64 0, .slice none 0 0, .slice none 0 0] 36 (0, 0)) := by rw [← hW1]; show ((w.heap.push _).push _)[w.heap.size + 1]? = _; rw [Array.getElem?_push]; simp
  have z1 : w.heap.size + 1 < W1.heap.size := (Array.getElem?_eq_some_iff.1 x1).1
  have CE : Hid (∀ {w' : World}, Below W1.heap.size W1 w' → (w'.cell? ⟨w.heap.size, 0, none⟩ = some (.int .i64 kind) ∧ w'.cell? ⟨w.heap.size, 1, none⟩ = some (.int .i64 k) ∧ w'.cell? ⟨w.heap.size, 2, none⟩ = some (.int .i64 v)) ∧ w'.heap[w.heap.size + 1]? = some (.cells #[.bool false, .int .i64 0, .slice none 0 0, .slice none 0 0] 36 (0, 0)) ∧ Below w.heap.size w w') := fun hb => by
    have h0 := (hb.block _ (Nat.lt_of_succ_lt z1)).trans x0
    exact ⟨⟨by simp [World.cell?, h0], by simp [World.cell?, h0], by simp [World.cell?, h0]⟩, (hb.block _ z1).trans x1, b1.trans (hb.mono (Nat.le_of_lt (Nat.lt_of_succ_lt z1)))⟩
  have Z1 : Hid (w.heap.size + 1 < W1.heap.size) := z1
  clear b1 x0 x1 z1
  obtain ⟨⟨c0, c1, c2⟩, _⟩ := CE.out (Below.refl _ W1)
  go_enter Tryz.func7, Tryz.ntmps7
  go_wp2_with fail
  refine (implOpOk_any kind k v _).mono ?_
  rintro e w1 ⟨rfl, hb⟩
  rw [decide_eq_true HB.out.2.2.1]
  have B1 : Hid (Below W1.heap.size W1 w1) := (by first | exact hb | exact hW1 ▸ hb)
  clear hb c0 c1 c2
  obtain ⟨⟨c0, c1, c2⟩, _, lo⟩ := CE.out B1.out
  have LO1 : Hid (Below w.heap.size w w1) := lo
  clear lo
  go_wp2_with fail
  refine (implNext_cap a n c kind k v fs _ (HB.out.1.on LO1.out).names (HB.out.1.on LO1.out).pairs HB.out.2.1).mono ?_
  rintro e w2 ⟨rfl, hb⟩
  rw [HB.out.2.2.2.1]
  have B2 : Hid (Below W1.heap.size W1 w2) := B1.out.trans (hb.mono B1.out.size)
  clear hb c0 c1 c2
  obtain ⟨⟨c0, c1, c2⟩, _⟩ := CE.out B2.out
  go_wp2_with fail
  refine (implDeedOf_any kind k v _).mono ?_
  rintro e w3 ⟨rfl, hb⟩
  have B3 : Hid (Below W1.heap.size W1 w3) := B2.out.trans (hb.mono B2.out.size)
  clear hb c0 c1 c2
  have LO3 : Hid (Below w.heap.size w w3) := (CE.out B3.out).2.2
  go_wp2_with fail
  refine (implNow_any a n c kind k v fs _ (HB.out.1.on LO3.out) HB.out.2.2.1).mono ?_
  rintro e w4 ⟨hc, hb⟩
  rw [HB.out.2.2.2.2] at hc
  obtain ⟨vz, rfl, hz⟩ := com_none hc
  have B4 : Hid (Below W1.heap.size W1 w4) := B3.out.trans (hb.mono B3.out.size)
  have LO4 : Hid (Below w.heap.size w w4) := (CE.out B4.out).2.2
  clear hb hc
  have HE : Hid (∀ args w, (callFunc 73 args).run Tryz.prog w = .ok (.enter 73 args) w) := enters_of Tryz.func73 (by kernel_rfl) rfl
  rcases hz with rfl | ⟨gz, cz, rfl⟩
  all_goals
    go_wp2_with fail
    go_region_with (first
      | (go_at_call 24
         refine (implThen_any a n c kind k v fs _ (HB.out.1.on (by first | exact LO4.out | exact LO4.out.drew)) HB.out.2.2.1 HN.out).mono ?_
         rintro e w5 ⟨hc, hb⟩
         rw [HT.out.1] at hc
         obtain ⟨g, l, cap, a', m', c', rfl, hg, d0, d1, hI, hfr⟩ := com_first hc
         have hb5 : Below w4.heap.size w4 w5 := ⟨hb.os, hb.tape, hb.output, hb.size, hb.block⟩
         have H5 : Hid (Below W1.heap.size W1 w5 ∧ IntAt w5 a' m' x.2 ∧ (∀ q, a' = some q → W1.heap.size ≤ q.block) ∧ W1.heap.size ≤ g ∧ g < w5.heap.size ∧ w5.cell? ⟨g, 0, none⟩ = some (.int .i64 x.1) ∧ w5.cell? ⟨g, 1, none⟩ = some (.slice a' m' c')) := ⟨B4.out.trans (hb5.mono B4.out.size), hI, fun q e => Nat.le_trans B4.out.size (hfr q e), Nat.le_trans B4.out.size hg, World.block_lt_of_cell? w5 _ d0, d0, d1⟩
         have hl : (0 : Int) < ((l + 1 : Nat) : Int) := by omega
         clear hb hb5 hc hg hI hfr)
      | (go_at_call 26
         refine (readOf_any a n c (DeedV kind k v) (deedT kind) _ rfl _).mono ?_
         rintro e w6 ⟨rfl, hw6⟩
         have hb6 : Below w5.heap.size w5 w6 := by rw [hw6]; exact ((Below.refl _ _).alloc (Nat.le_refl _) _).alloc (by simp) _
         have H6 : Hid (Below w5.heap.size w5 w6 ∧ Caught a n c (deedT kind) kind k v (w5.heap.size + 1) w5.heap.size w6) := ⟨hb6, by
           rw [hw6]
           have q1 := Boxed.new (w5.alloc (.cells #[DeedV kind k v] 56)) 29 (.slice a n c)
           rw [World.size_alloc] at q1
           exact ⟨q1.cell, ((Boxed.new w5 56 (DeedV kind k v)).alloc _).cell⟩⟩
         have d0' : w6.cell? ⟨g, 0, none⟩ = some (.int .i64 x.1) := (hb6.cell (p := ⟨g, 0, none⟩) H5.out.2.2.2.2.1).trans H5.out.2.2.2.2.2.1
         have d1' : w6.cell? ⟨g, 1, none⟩ = some (.slice a' m' c') := (hb6.cell (p := ⟨g, 1, none⟩) H5.out.2.2.2.2.1).trans H5.out.2.2.2.2.2.2
         clear hw6 hb6)
      | (go_at_call 25
         have lo6 : Below w.heap.size w w6 := (CE.out (H5.out.1.trans (H6.out.1.mono H5.out.1.size))).2.2
         refine (sortedFunc_any 73 _ (gotL fs n kind k v) w6 HE.out (read_seq a n c (w5.heap.size + 1) w5.heap.size kind k v fs [34, 47] w6 _ ((Below.refl _ _).alloc (Nat.le_refl _) _) (HB.out.1.on lo6) H6.out.2 HB.out.2.2.1 (by decide) (by decide)) HT.out.2.1 HT.out.2.2).mono ?_
         rintro e w7 ⟨q, capq, rfl, hq, hE, hb7⟩
         have H7 : Hid (Below w6.heap.size w6 w7 ∧ EntAt w7 (some ⟨q, 0, none⟩) (gotL fs n kind k v).length (flatE (sortL (gotL fs n kind k v))) ∧ w6.heap.size ≤ q) := ⟨hb7, hE, hq⟩
         have g6 : g < w6.heap.size := Nat.lt_of_lt_of_le H5.out.2.2.2.2.1 H6.out.1.size
         have e0 : w7.cell? ⟨g, 0, none⟩ = some (.int .i64 x.1) := (hb7.cell (p := ⟨g, 0, none⟩) g6).trans ((H6.out.1.cell (p := ⟨g, 0, none⟩) H5.out.2.2.2.2.1).trans H5.out.2.2.2.2.2.1)
         have e1 : w7.cell? ⟨g, 1, none⟩ = some (.slice a' m' c') := (hb7.cell (p := ⟨g, 1, none⟩) g6).trans ((H6.out.1.cell (p := ⟨g, 1, none⟩) H5.out.2.2.2.2.1).trans H5.out.2.2.2.2.2.2)
         have B7 : Below W1.heap.size W1 w7 := (H5.out.1.trans (H6.out.1.mono H5.out.1.size)).trans (hb7.mono (Nat.le_trans H5.out.1.size H6.out.1.size))
         have x4 := (CE.out B7).2.1
         have LO7 : Hid (Below w.heap.size w w7) := (CE.out B7).2.2
         have p0 : w7.cell? ⟨w.heap.size + 1, 0, none⟩ = some (.bool false) := by simp [World.cell?, x4]
         have p1 : w7.cell? ⟨w.heap.size + 1, 1, none⟩ = some (.int .i64 0) := by simp [World.cell?, x4]
         have p2 : w7.cell? ⟨w.heap.size + 1, 2, none⟩ = some (.slice none 0 0) := by simp [World.cell?, x4]
         have p3 : w7.cell? ⟨w.heap.size + 1, 3, none⟩ = some (.slice none 0 0) := by simp [World.cell?, x4]
         have q0 : w7.frozen? ⟨w.heap.size + 1, 0, none⟩ = false := by simp [World.frozen?, x4]
         have q1 : w7.frozen? ⟨w.heap.size + 1, 1, none⟩ = false := by simp [World.frozen?, x4]
         have q2 : w7.frozen? ⟨w.heap.size + 1, 2, none⟩ = false := by simp [World.frozen?, x4]
         have q3 : w7.frozen? ⟨w.heap.size + 1, 3, none⟩ = false := by simp [World.frozen?, x4]
         clear hq hE hb7 lo6 g6 x4 B7))
    all_goals
      go_wp2
      (try simp only [Exit.inBlock, Exit.then])
      refine bodyPost_ret (by simp [results, Tryz.results7, go_sem, p0, p1, p2, p3]; try rfl) rfl ?_
      have far1 : ∀ z, a' = some z → z.block ≠ w.heap.size + 1 := fun z e => by have h1 := H5.out.2.2.1 z e; have h2 := Z1.out; omega
      have far2 : ∀ z, some (⟨q, 0, none⟩ : Addr) = some z → z.block ≠ w.heap.size + 1 := fun z e => by cases e; have h1 := H7.out.2.2; have h2 := Z1.out; have h3 := H5.out.1.size; have h4 := H6.out.1.size; simp only; omega
      have hI7 : IntAt w7 a' m' x.2 := (H5.out.2.1.below H6.out.1 (Nat.le_refl _)).below H7.out.1 (Nat.le_refl _)
      refine ⟨⟨a', m', c', some ⟨q, 0, none⟩, capq, by rw [sortL_len], int_far (int_far (int_far (int_far hI7 (p := ⟨w.heap.size + 1, 0, none⟩) far1 _) (p := ⟨w.heap.size + 1, 1, none⟩) far1 _) (p := ⟨w.heap.size + 1, 2, none⟩) far1 _) (p := ⟨w.heap.size + 1, 3, none⟩) far1 _, ?_⟩, ?_⟩
      · rw [sortL_len]
        exact ent_far (ent_far (ent_far (ent_far H7.out.2.1 (p := ⟨w.heap.size + 1, 0, none⟩) far2 _) (p := ⟨w.heap.size + 1, 1, none⟩) far2 _) (p := ⟨w.heap.size + 1, 2, none⟩) far2 _) (p := ⟨w.heap.size + 1, 3, none⟩) far2 _
      · exact (((LO7.out.setCell (p := ⟨w.heap.size + 1, 0, none⟩) (by simp) _).setCell (p := ⟨w.heap.size + 1, 1, none⟩) (by simp) _).setCell (p := ⟨w.heap.size + 1, 2, none⟩) (by simp) _).setCell (p := ⟨w.heap.size + 1, 3, none⟩) (by simp) _
end
end Go.Proofs.YtenlapppaimkkabGreatDoor
