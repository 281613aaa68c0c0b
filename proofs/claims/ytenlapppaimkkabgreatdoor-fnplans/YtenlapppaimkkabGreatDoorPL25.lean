/- Texts joined: PlanKn, SpecPlan2. -/
import Derived.Test.YtenlapppaimkkabGreatDoorPL18
import Derived.Test.YtenlapppaimkkabGreatDoorPL19
import Derived.Test.YtenlapppaimkkabGreatDoorPL24
import Derived.OpenShut
import Derived.Test.YtenlapppaimkkabGreatDoorPL17
import Derived.Test.YtenlapppaimkkabGreatDoorPL04
import Derived.Deep.RegionWith
set_option maxHeartbeats 8000000
set_option maxRecDepth 100000
namespace Go.Proofs.YtenlapppaimkkabGreatDoor
section
open Go.ChangeShapes Go.WideShapes Go.ChangeAt Go.RowKit
theorem ownW_small (y0 y1 y2 y3 v : Int) : 0 ≤ ownW y0 y1 y2 y3 v ∧ ownW y0 y1 y2 y3 v ≤ 4 := by unfold ownW; repeat (first | split | omega)
theorem viaW_small (y0 y1 y2 y3 st v : Int) : 0 ≤ viaW y0 y1 y2 y3 st v ∧ viaW y0 y1 y2 y3 st v ≤ 4 := by
  have := ownW_small y0 y1 y2 y3 v
  unfold viaW; split <;> omega
theorem bitW_small (y c : Int) : 0 ≤ bitW y c ∧ bitW y c ≤ 1 := by unfold bitW; split <;> omega
theorem clsW_small (y0 y1 y2 y3 c : Int) : 0 ≤ clsW y0 y1 y2 y3 c ∧ clsW y0 y1 y2 y3 c ≤ 4 := by
  have h0 := bitW_small y0 c
  have h1 := bitW_small y1 c
  have h2 := bitW_small y2 c
  have h3 := bitW_small y3 c
  unfold clsW; omega
theorem wordsL_small {y0 y1 y2 y3 st : Int} (h : OkFour y0 y1 y2 y3) (hs : 0 ≤ st ∧ st ≤ 5) : ∀ x ∈ wordsL y0 y1 y2 y3 st, 0 ≤ x ∧ x ≤ 6 := by
  intro x hx
  unfold OkFour at h
  unfold wordsL wordsG at hx
  simp only [List.mem_cons, List.not_mem_nil, or_false] at hx
  rcases hx with rfl | rfl | rfl | rfl | rfl | rfl | rfl | rfl | rfl | rfl | rfl | rfl | rfl | rfl | rfl | rfl | rfl | rfl | rfl | rfl
  · omega
  · omega
  · omega
  · omega
  · have := ownW_small y0 y1 y2 y3 1; omega
  · have := ownW_small y0 y1 y2 y3 2; omega
  · have := ownW_small y0 y1 y2 y3 3; omega
  · have := ownW_small y0 y1 y2 y3 4; omega
  · have := ownW_small y0 y1 y2 y3 5; omega
  · have := ownW_small y0 y1 y2 y3 6; omega
  · have := clsW_small y0 y1 y2 y3 0; omega
  · have := clsW_small y0 y1 y2 y3 1; omega
  · have := clsW_small y0 y1 y2 y3 2; omega
  · omega
  · have := viaW_small y0 y1 y2 y3 st 1; omega
  · have := viaW_small y0 y1 y2 y3 st 2; omega
  · have := viaW_small y0 y1 y2 y3 st 3; omega
  · have := viaW_small y0 y1 y2 y3 st 4; omega
  · have := viaW_small y0 y1 y2 y3 st 5; omega
  · have := viaW_small y0 y1 y2 y3 st 6; omega
theorem wordF_small {xs : List Int} {st : Int} (h : OkRows xs st) (p : Int) : 0 ≤ wordF xs st p ∧ wordF xs st p ≤ 6 := by
  obtain ⟨y0, y1, y2, y3, rfl⟩ := four_of h.1
  have h4 := (okFour_iff y0 y1 y2 y3 st).1 h
  unfold wordF
  rw [List.getD_eq_getElem?_getD]
  rcases hq : (specL [y0, y1, y2, y3] st)[p.toNat]? with _ | u
  · simp
  · have hm : u ∈ wordsL y0 y1 y2 y3 st := List.mem_of_getElem? hq
    simpa using wordsL_small h4.2 h4.1 u hm
theorem small_wf {x : Int} (h : -1000 ≤ x ∧ x ≤ 1000) : (Lit.int .i64 x).wf = true := by
  refine WalkArith.wf_i64 ?_
  omega
theorem known_wf {xs : List Int} {st kind k v : Int} (hok : OkRows xs st) (hg : OpGood kind k v) : ∀ x ∈ flatP (wordF xs st) (needL (wordF xs st) kind k v), (Lit.int .i64 x).wf = true := by
  intro x hx
  unfold flatP at hx
  obtain ⟨p, hp, hx⟩ := List.mem_flatMap.1 hx
  have h1 := (need_ok (wordF_ok hok) hg).2.2.1 p hp
  have h2 := wordF_small hok p
  simp only [List.mem_cons, List.not_mem_nil, or_false] at hx
  rcases hx with rfl | rfl
  · exact small_wf (by omega)
  · exact small_wf (by omega)
theorem known_next {xs : List Int} {st kind k v : Int} (hok : OkRows xs st) (hg : OpGood kind k v) : nextM (flatP (wordF xs st) (needL (wordF xs st) kind k v)) (needL (wordF xs st) kind k v).length kind k v = -1 := by
  have h := next_prefix (wordF_ok hok) hg (needL (wordF xs st) kind k v).length (Nat.le_refl _)
  rw [List.take_length] at h
  rw [h]
  simp [List.getD]
theorem then_some (fs : List Int) (n : Nat) (kind v : Int) : ∃ x LL, thenL fs n kind v = x :: LL := by
  unfold thenL
  split
  · exact ⟨_, _, rfl⟩
  split
  · unfold ifL
    split
    · exact ⟨_, _, rfl⟩
    · exact ⟨_, _, rfl⟩
  · exact ⟨_, _, rfl⟩
def PlanIs (xs : List Int) (st kind k v : Int) (nw : Bool) (x : Int × List Int) (E : List Ent) : Prop :=
  (nw = true ∧ E = [] ∧ ∃ LL, nowL (flatP (wordF xs st) (needL (wordF xs st) kind k v)) (needL (wordF xs st) kind k v).length kind k v = x :: LL) ∨
  (nw = false ∧ nowL (flatP (wordF xs st) (needL (wordF xs st) kind k v)) (needL (wordF xs st) kind k v).length kind k v = [] ∧ (∃ LL, thenL (flatP (wordF xs st) (needL (wordF xs st) kind k v)) (needL (wordF xs st) kind k v).length kind v = x :: LL) ∧
    E = sortL (gotL (flatP (wordF xs st) (needL (wordF xs st) kind k v)) (needL (wordF xs st) kind k v).length kind k v))
theorem implPlan_known (a : Option Addr) (c : Nat) (xs : List Int) (st kind k v : Int) (w : World) (hok : OkRows xs st) (hg : OpGood kind k v) (hN : Names w) (hP : PairAt w a (needL (wordF xs st) kind k v).length (flatP (wordF xs st) (needL (wordF xs st) kind k v))) :
    Calls Tryz.prog 7 #[OpV kind k v, .slice a (needL (wordF xs st) kind k v).length c] w fun e w' => ∃ nw x E, PlanSays e w' nw x E ∧ PlanIs xs st kind k v nw x E ∧ Below w.heap.size w w' := by
  rcases hq : nowL (flatP (wordF xs st) (needL (wordF xs st) kind k v)) (needL (wordF xs st) kind k v).length kind k v with _ | ⟨x, LL⟩
  · obtain ⟨x, LL, hT⟩ := then_some (flatP (wordF xs st) (needL (wordF xs st) kind k v)) (needL (wordF xs st) kind k v).length kind v
    have hgot := congrArg List.length (got_all (wordF_ok hok) hg hq)
    simp only [List.length_map] at hgot
    have hneed := need_ok (wordF_ok hok) hg
    refine (implPlan_then a _ c kind k v _ w ⟨hN, hP⟩ (known_wf hok hg) hg (known_next hok hg) hq x LL hT (by omega) (by omega)).mono ?_
    rintro e w' ⟨h1, h2⟩
    exact ⟨false, x, _, h1, .inr ⟨rfl, hq, ⟨LL, hT⟩, rfl⟩, h2⟩
  · refine (implPlan_now a _ c kind k v _ w ⟨hN, hP⟩ (known_wf hok hg) hg (known_next hok hg) x LL hq).mono ?_
    rintro e w' ⟨h1, h2⟩
    exact ⟨true, x, [], h1, .inl ⟨rfl, rfl, LL, hq⟩, h2⟩
theorem PlanIs.allowed {xs : List Int} {st kind k v : Int} {nw : Bool} {x : Int × List Int} {E : List Ent} (h : PlanIs xs st kind k v nw x E) (hok : OkRows xs st) (hg : OpGood kind k v) : AllowM xs st kind k v x.1 x.2 := by
  rcases h with ⟨_, _, LL, h1⟩ | ⟨_, h0, ⟨LL, h1⟩, _⟩
  · exact now_allowed hok hg h1
  · exact then_allowed hok hg h0 h1
theorem PlanIs.hit {xs : List Int} {st kind k v : Int} {x : Int × List Int} {E : List Ent} (h : PlanIs xs st kind k v false x E) (hok : OkRows xs st) (hg : OpGood kind k v) :
    E.length = (needL (wordF xs st) kind k v).length ∧ ∀ p ∈ needL (wordF xs st) kind k v, ∃ y ∈ E, keyE y = (p, wordF xs st p) := by
  rcases h with ⟨h0, _⟩ | ⟨_, h0, _, rfl⟩
  · cases h0
  have hall := got_all (wordF_ok hok) hg h0
  have hlen := congrArg List.length hall
  simp only [List.length_map] at hlen
  refine ⟨by rw [sortL_len, hlen], fun p hp => ?_⟩
  have hm : (p, wordF xs st p) ∈ (gotL (flatP (wordF xs st) (needL (wordF xs st) kind k v)) (needL (wordF xs st) kind k v).length kind k v).map keyE := by
    rw [hall]
    exact List.mem_map.2 ⟨p, hp, rfl⟩
  obtain ⟨y, hy, e⟩ := List.mem_map.1 hm
  exact ⟨y, (sortL_perm _).mem_iff.2 hy, e⟩
structure PlanSt (w3 W1 W : World) (cs : Array Value) : Prop where
  low : Below W1.heap.size W1 W
  box : W.heap[w3.heap.size + 1]? = some (.cells cs 36 (0, 0))
theorem PlanSt.on {w3 W1 W W' : World} {cs : Array Value} (h : PlanSt w3 W1 W cs) (hb : Below W.heap.size W W') : PlanSt w3 W1 W' cs := ⟨h.low.trans (hb.mono h.low.size), (hb.block _ (Array.getElem?_eq_some_iff.1 h.box).1).trans h.box⟩
theorem PlanSt.set {w3 W1 W : World} {cs : Array Value} (h : PlanSt w3 W1 W cs) (hl : W1.heap.size ≤ w3.heap.size + 1) (k : Nat) (u : Value) : PlanSt w3 W1 (W.setCell ⟨w3.heap.size + 1, k, none⟩ u) (cs.setIfInBounds k u) :=
  ⟨h.low.setCell (p := ⟨w3.heap.size + 1, k, none⟩) hl _, heap_setCell_same W (w3.heap.size + 1) k cs _ u h.box⟩
theorem PlanSt.lt {w3 W1 W : World} {cs : Array Value} (h : PlanSt w3 W1 W cs) : w3.heap.size + 1 + 1 ≤ W.heap.size := (Array.getElem?_eq_some_iff.1 h.box).1
theorem ListE.set {B b : Nat} {W : World} {v : Value} {L : List Int × Nat} (h : ListE B W v L) (hb : b < B) (k : Nat) (u : Value) : ListE B (W.setCell ⟨b, k, none⟩ u) v L := by
  obtain ⟨a, c, h1, h2, h3, h4, h5⟩ := h
  exact ⟨a, c, h1, ent_far h2 (p := ⟨b, k, none⟩) (fun q e => by have := h5 q e; simp only; omega) _, h3, h4, h5⟩
theorem ListE.form {B : Nat} {W : World} {v : Value} {L : List Int × Nat} (h : ListE B W v L) : ∃ a c, v = .slice a L.2 c := by
  obtain ⟨a, c, h1, _⟩ := h
  exact ⟨a, c, h1⟩

theorem plan_8 (pa : Option Addr) (m pc : Nat) (fs : List Int) (kind k v : Int) (w : World) (hP : PairAt w pa m fs) (hg : OpGood kind k v) (hn : nextM fs m kind k v = -1) (hz : (nowR fs m kind k v).1 = -1 ∧ kind = 8) :
    Calls Tryz.prog 8 #[OpV kind k v, .slice pa m pc] w fun e w' => (∃ v', e = .returned (.tuple #[.agg #[.bool false, .int .i64 0, .slice none 0 0, v'], .bool true]) ∧ ∃ B, ListE B w' v' (addL ([], 0) fs m 13 1)) ∧ Below w.heap.size w w' := by
  have HP : Hid (PairAt w pa m fs) := hP
  have HG : Hid (OpGood kind k v) := hg
  have HN : Hid (nextM fs m kind k v = -1) := hn
  have HZ : Hid ((nowR fs m kind k v).1 = -1 ∧ kind = 8) := hz
  clear hz
  clear hP hg hn
  obtain ⟨W1, hW1⟩ : ∃ W1, (w.alloc (.cells #[.int .i64 kind, .int .i64 k, .int .i64 v] 28)).alloc (.cells #[.bool false, .int .i64 0, .slice none 0 0, .slice none 0 0] 36) = W1 := ⟨_, rfl⟩
  have b1 : Below w.heap.size w W1 := by rw [← hW1]; exact ((Below.refl _ _).alloc (Nat.le_refl _) _).alloc (by simp) _
  have x0 : W1.heap[w.heap.size]? = some (.cells #[.int .i64 kind, .int .i64 k, .int .i64 v] 28 (0, 0)) := by rw [← hW1]; exact (Below.heap_alloc _ _ _ (by simp)).trans (by show (w.heap.push _)[w.heap.size]? = _; simp)
  have x1 : W1.heap[w.heap.size + 1]? = some (.cells #[.bool false, .int .i64 0, .slice none 0 0, .slice none 0 0] 36 (0, 0)) := by rw [← hW1]; show ((w.heap.push _).push _)[w.heap.size + 1]? = _; rw [Array.getElem?_push]; simp
  have HX : Hid (Below w.heap.size w W1 ∧ W1.heap[w.heap.size]? = some (.cells #[.int .i64 kind, .int .i64 k, .int .i64 v] 28 (0, 0)) ∧ W1.heap[w.heap.size + 1]? = some (.cells #[.bool false, .int .i64 0, .slice none 0 0, .slice none 0 0] 36 (0, 0)) ∧ w.heap.size + 1 < W1.heap.size) := ⟨b1, x0, x1, (Array.getElem?_eq_some_iff.1 x1).1⟩
  have CE : Hid (∀ {w' : World}, Below W1.heap.size W1 w' → (w'.cell? ⟨w.heap.size, 0, none⟩ = some (.int .i64 kind) ∧ w'.cell? ⟨w.heap.size, 1, none⟩ = some (.int .i64 k) ∧ w'.cell? ⟨w.heap.size, 2, none⟩ = some (.int .i64 v)) ∧ w'.heap[w.heap.size + 1]? = some (.cells #[.bool false, .int .i64 0, .slice none 0 0, .slice none 0 0] 36 (0, 0))) := fun hb => by
    have h0 := (hb.block _ (Nat.lt_of_succ_lt HX.out.2.2.2)).trans HX.out.2.1
    exact ⟨⟨by simp [World.cell?, h0], by simp [World.cell?, h0], by simp [World.cell?, h0]⟩, (hb.block _ HX.out.2.2.2).trans HX.out.2.2.1⟩
  clear b1 x0 x1
  obtain ⟨c0, c1, c2⟩ := (CE.out (Below.refl _ W1)).1
  go_enter Tryz.func8, Tryz.ntmps8
  go_wp2_with fail
  refine (specOpOk_any kind k v _).mono ?_
  rintro e w1 ⟨rfl, hb⟩
  rw [decide_eq_true HG.out]
  have B1 : Hid (Below W1.heap.size W1 w1) := (by first | exact hb | exact hW1 ▸ hb)
  clear hb c0 c1 c2
  obtain ⟨⟨c0, c1, c2⟩, _⟩ := CE.out B1.out
  have LO : Hid (∀ {w' : World}, Below W1.heap.size W1 w' → Below w.heap.size w w') := fun hb => HX.out.1.trans (hb.mono (Nat.le_of_lt (Nat.lt_of_succ_lt HX.out.2.2.2)))
  go_wp2_with fail
  refine (specNext_any pa m pc kind k v fs _ (HP.out.below (LO.out B1.out) (Nat.le_refl _))).mono ?_
  rintro e w2 ⟨rfl, hb⟩
  rw [HN.out]
  have B2 : Hid (Below W1.heap.size W1 w2) := B1.out.trans (hb.mono B1.out.size)
  clear hb c0 c1 c2
  obtain ⟨⟨c0, c1, c2⟩, _⟩ := CE.out B2.out
  go_wp2_with fail
  refine (l5Now_any pa m pc fs kind k v _ (HP.out.below (LO.out B2.out) (Nat.le_refl _)) HG.out.1).mono ?_
  rintro e w3 ⟨⟨a, c, rfl, hI, hfr⟩, hb⟩
  rw [show decide (0 ≤ (nowR fs m kind k v).1) = false by rw [HZ.out.1]; rfl]
  have B3 : Hid (Below W1.heap.size W1 w3) := B2.out.trans (hb.mono B2.out.size)
  obtain ⟨⟨code, lst⟩, hR⟩ : ∃ R, nowR fs m kind k v = R := ⟨_, rfl⟩
  have HR : Hid (nowR fs m kind k v = (code, lst)) := hR
  rw [hR] at hI
  rw [hR]
  dsimp only at hI ⊢
  have HI : Hid (IntAt w3 a lst.length lst ∧ ∀ q, a = some q → w.heap.size + 1 < q.block) := ⟨hI, fun q e => by have h1 := hfr q e; have h2 := HX.out.2.2.2; have h3 := B2.out.size; omega⟩
  clear hb c0 c1 c2 hI hR hfr
  obtain ⟨W4, hW4⟩ : ∃ W4, w3.alloc (.cells #[.bool true, .int .i64 code, .slice a lst.length c, .slice none 0 0] 36) = W4 := ⟨_, rfl⟩
  have hb4 : Below w3.heap.size w3 W4 := by rw [← hW4]; exact (Below.refl _ _).alloc (Nat.le_refl _) _
  have y4 : W4.heap[w3.heap.size]? = some (.cells #[.bool true, .int .i64 code, .slice a lst.length c, .slice none 0 0] 36 (0, 0)) := by rw [← hW4]; show (w3.heap.push _)[w3.heap.size]? = _; simp
  have B4 : Hid (Below W1.heap.size W1 W4) := B3.out.trans (hb4.mono B3.out.size)
  have HI4 : Hid (IntAt W4 a lst.length lst) := HI.out.1.below hb4 (Nat.le_refl _)
  clear hb4
  obtain ⟨⟨c0, c1, c2⟩, x3⟩ := CE.out B4.out
  have s0 : W4.cell? ⟨w3.heap.size, 0, none⟩ = some (.bool true) := by simp [World.cell?, y4]
  have s1 : W4.cell? ⟨w3.heap.size, 1, none⟩ = some (.int .i64 code) := by simp [World.cell?, y4]
  have s2 : W4.cell? ⟨w3.heap.size, 2, none⟩ = some (.slice a lst.length c) := by simp [World.cell?, y4]
  have s3 : W4.cell? ⟨w3.heap.size, 3, none⟩ = some (.slice none 0 0) := by simp [World.cell?, y4]
  have p0 : W4.cell? ⟨w.heap.size + 1, 0, none⟩ = some (.bool false) := by simp [World.cell?, x3]
  have p1 : W4.cell? ⟨w.heap.size + 1, 1, none⟩ = some (.int .i64 0) := by simp [World.cell?, x3]
  have p2 : W4.cell? ⟨w.heap.size + 1, 2, none⟩ = some (.slice none 0 0) := by simp [World.cell?, x3]
  have p3 : W4.cell? ⟨w.heap.size + 1, 3, none⟩ = some (.slice none 0 0) := by simp [World.cell?, x3]
  have q0 : W4.frozen? ⟨w.heap.size + 1, 0, none⟩ = false := by simp [World.frozen?, x3]
  have q1 : W4.frozen? ⟨w.heap.size + 1, 1, none⟩ = false := by simp [World.frozen?, x3]
  have q2 : W4.frozen? ⟨w.heap.size + 1, 2, none⟩ = false := by simp [World.frozen?, x3]
  have q3 : W4.frozen? ⟨w.heap.size + 1, 3, none⟩ = false := by simp [World.frozen?, x3]
  clear x3 y4
  have hlo := LO.out B4.out
  have HLO : Hid (Below w.heap.size w W4) := hlo
  clear hlo
  subst hW4
  obtain ⟨W5, hW5⟩ : ∃ W5, (w3.alloc (.cells #[.bool true, .int .i64 code, .slice a lst.length c, .slice none 0 0] 36)).alloc (.cells #[.bool false, .int .i64 0, .slice none 0 0, .slice none 0 0] 36) = W5 := ⟨_, rfl⟩
  have hb5 : Below (w3.alloc (.cells #[.bool true, .int .i64 code, .slice a lst.length c, .slice none 0 0] 36)).heap.size (w3.alloc (.cells #[.bool true, .int .i64 code, .slice a lst.length c, .slice none 0 0] 36)) W5 := by rw [← hW5]; exact (Below.refl _ _).alloc (Nat.le_refl _) _
  have y5 : W5.heap[w3.heap.size + 1]? = some (.cells #[.bool false, .int .i64 0, .slice none 0 0, .slice none 0 0] 36 (0, 0)) := by rw [← hW5]; show ((w3.heap.push _).push _)[w3.heap.size + 1]? = _; rw [Array.getElem?_push]; simp
  have B5 : Hid (Below W1.heap.size W1 W5) := B4.out.trans (hb5.mono B4.out.size)
  have Y5 : Hid (W5.heap[w3.heap.size + 1]? = some (.cells #[.bool false, .int .i64 0, .slice none 0 0, .slice none 0 0] 36 (0, 0)) ∧ w.heap.size + 1 < w3.heap.size + 1) := ⟨y5, by have h1 := HX.out.2.2.2; have h2 := B3.out.size; omega⟩
  clear hb5 y5 s0 s1 s2 s3 p0 p1 p2 p3 q0 q1 q2 q3 c0 c1 c2
  obtain ⟨⟨c0, c1, c2⟩, _⟩ := CE.out B5.out
  subst hW5
  go_wp2_with fail
  refine (specStateAt_any _).mono ?_
  rintro e wp ⟨rfl, hwp⟩
  rw [hwp]
  clear hwp
  go_wp2_with fail
  refine (specRead_any pa m pc 13 fs _ (HP.out.below (LO.out B5.out) (Nat.le_refl _))).mono ?_
  rintro e w6 ⟨rfl, hb⟩
  have hb' := hb
  have B6 : Hid (Below W1.heap.size W1 w6) := B5.out.trans (hb'.mono B5.out.size)
  have Y6 : Hid (w6.heap[w3.heap.size + 1]? = some (.cells #[.bool false, .int .i64 0, .slice none 0 0, .slice none 0 0] 36 (0, 0))) := (hb'.block _ (Array.getElem?_eq_some_iff.1 Y5.out.1).1).trans Y5.out.1
  clear hb hb' c0 c1 c2
  obtain ⟨⟨st, sb⟩, hst⟩ : ∃ x, readF fs 13 m = x := ⟨_, rfl⟩
  rw [hst]
  have HST : Hid (readF fs 13 m = (st, sb)) := hst
  clear hst
  obtain ⟨⟨c0, c1, c2⟩, _⟩ := CE.out B6.out
  have k7 : (kind == 7) = false := by have := HZ.out.2; simp; omega
  have k8 : (kind == 8) = true := by have := HZ.out.2; simp; omega
  have k9 : (kind == 9) = false := by have := HZ.out.2; simp; omega
  have k10 : (kind == 10) = false := by have := HZ.out.2; simp; omega
  have hne : w.heap.size + 1 ≠ w3.heap.size + 1 := by have := Y5.out.2; omega
  have hne' : w3.heap.size + 1 ≠ w.heap.size := by have := Y5.out.2; omega
  have hne2 : w3.heap.size ≠ w.heap.size := by have := Y5.out.2; omega
  have HW : Hid (W1.heap.size ≤ w3.heap.size + 1) := Nat.le_succ_of_le B3.out.size
  have HS6 : Hid (PlanSt w3 W1 w6 #[.bool false, .int .i64 0, .slice none 0 0, .slice none 0 0]) := ⟨B6.out, Y6.out⟩
  have HL6 : Hid (ListE (w3.heap.size + 1 + 1) w6 (.slice none 0 0) ([], 0)) := listE_nil _ _
  clear c0 c1 c2
  have HLN6 : Hid ((([], 0) : List Int × Nat).2 < 1048576) := (by decide : (0 : Nat) < 1048576)
  have HLM6 : Hid ((([], 0) : List Int × Nat).2 < 1) := Nat.lt_succ_self 0
  have y := HS6.out.box
  obtain ⟨⟨c0, c1, c2⟩, _⟩ := CE.out HS6.out.low
  have t0 : w6.cell? ⟨w3.heap.size + 1, 0, none⟩ = some (.bool false) := by simp [World.cell?, y]
  have u0 : w6.frozen? ⟨w3.heap.size + 1, 0, none⟩ = false := by simp [World.frozen?, y]
  have t1 : w6.cell? ⟨w3.heap.size + 1, 1, none⟩ = some (.int .i64 0) := by simp [World.cell?, y]
  have u1 : w6.frozen? ⟨w3.heap.size + 1, 1, none⟩ = false := by simp [World.frozen?, y]
  have t2 : w6.cell? ⟨w3.heap.size + 1, 2, none⟩ = some (.slice none 0 0) := by simp [World.cell?, y]
  have u2 : w6.frozen? ⟨w3.heap.size + 1, 2, none⟩ = false := by simp [World.frozen?, y]
  have t3 : w6.cell? ⟨w3.heap.size + 1, 3, none⟩ = some (.slice none 0 0) := by simp [World.cell?, y]
  have u3 : w6.frozen? ⟨w3.heap.size + 1, 3, none⟩ = false := by simp [World.frozen?, y]
  clear y
  go_wp2_with fail
  go_region_with (first
    | (go_at_call 31
       (try simp only [wrapEq])
       refine (specStateAt_any _).mono ?_
       rintro e wp ⟨rfl, rfl⟩)
    | (go_at_call 34
       (try simp only [wrapEq])
       refine (l5Add_L (.slice none 0 0) (([], 0) : List Int × Nat) pa m pc fs (13) (1) w6.drew (w3.heap.size + 1 + 1) (HL6.out.below (Below.refl _ _).drew (Nat.le_refl _)) ((HP.out.below (LO.out HS6.out.low) (Nat.le_refl _)).below (Below.refl _ _).drew (Nat.le_refl _)) (HLN6.out) HS6.out.lt).mono ?_
       rintro e w7 ⟨v', rfl, hL, hb⟩
       have hb' : Below w6.heap.size w6 w7 := ⟨hb.os, hb.tape, hb.output, hb.size, hb.block⟩
       obtain ⟨a7, d7, rfl⟩ := hL.form
       have HL7 : Hid (ListE (w3.heap.size + 1 + 1) w7 (.slice a7 (addL (([], 0) : List Int × Nat) fs m (13) (1)).2 d7) (addL (([], 0) : List Int × Nat) fs m (13) (1))) := hL
       have HS7 : Hid (PlanSt w3 W1 w7 #[.bool false, .int .i64 0, .slice none 0 0, .slice none 0 0]) := HS6.out.on hb'
       have z7 := HS7.out.box
       have s7 : w7.cell? ⟨w3.heap.size + 1, 3, none⟩ = some (.slice none 0 0) := by simp [World.cell?, z7]
       have f7 : w7.frozen? ⟨w3.heap.size + 1, 3, none⟩ = false := by simp [World.frozen?, z7]
       clear hb hb' hL z7))
  all_goals
    have HS8 : Hid (PlanSt w3 W1 (w7.setCell ⟨w3.heap.size + 1, 3, none⟩ (.slice a7 (addL (([], 0) : List Int × Nat) fs m (13) (1)).2 d7)) #[.bool false, .int .i64 0, .slice none 0 0, .slice a7 (addL (([], 0) : List Int × Nat) fs m (13) (1)).2 d7]) := HS7.out.set HW.out 3 (.slice a7 (addL (([], 0) : List Int × Nat) fs m (13) (1)).2 d7)
    have HL8 : Hid (ListE (w3.heap.size + 1 + 1) (w7.setCell ⟨w3.heap.size + 1, 3, none⟩ (.slice a7 (addL (([], 0) : List Int × Nat) fs m (13) (1)).2 d7)) (.slice a7 (addL (([], 0) : List Int × Nat) fs m (13) (1)).2 d7) (addL (([], 0) : List Int × Nat) fs m (13) (1))) := HL7.out.set (by omega) 3 _
    have HLN8 : Hid ((addL (([], 0) : List Int × Nat) fs m (13) (1)).2 < 1048576) := Nat.lt_of_le_of_lt (Nat.le_trans (addL_le _ _ _ _ _) (Nat.succ_le_of_lt HLM6.out)) (by decide)
    have HLM8 : Hid ((addL (([], 0) : List Int × Nat) fs m (13) (1)).2 < 2) := Nat.lt_of_le_of_lt (addL_le _ _ _ _ _) (Nat.succ_lt_succ HLM6.out)
    clear c0 c1 c2 t0 t1 t2 t3 u0 u1 u2 u3
    clear s7 f7
    generalize hwz : w7.setCell ⟨w3.heap.size + 1, 3, none⟩ (.slice a7 (addL (([], 0) : List Int × Nat) fs m (13) (1)).2 d7) = w8 at HS8 HL8 ⊢
    clear hwz
    have y := HS8.out.box
    obtain ⟨⟨c0, c1, c2⟩, _⟩ := CE.out HS8.out.low
    have t0 : w8.cell? ⟨w3.heap.size + 1, 0, none⟩ = some (.bool false) := by simp [World.cell?, y]
    have u0 : w8.frozen? ⟨w3.heap.size + 1, 0, none⟩ = false := by simp [World.frozen?, y]
    have t1 : w8.cell? ⟨w3.heap.size + 1, 1, none⟩ = some (.int .i64 0) := by simp [World.cell?, y]
    have u1 : w8.frozen? ⟨w3.heap.size + 1, 1, none⟩ = false := by simp [World.frozen?, y]
    have t2 : w8.cell? ⟨w3.heap.size + 1, 2, none⟩ = some (.slice none 0 0) := by simp [World.cell?, y]
    have u2 : w8.frozen? ⟨w3.heap.size + 1, 2, none⟩ = false := by simp [World.frozen?, y]
    have t3 : w8.cell? ⟨w3.heap.size + 1, 3, none⟩ = some (.slice a7 (addL (([], 0) : List Int × Nat) fs m (13) (1)).2 d7) := by simp [World.cell?, y]
    have u3 : w8.frozen? ⟨w3.heap.size + 1, 3, none⟩ = false := by simp [World.frozen?, y]
    clear y
    have x7 := (CE.out HS8.out.low).2
    have p0 : w8.cell? ⟨w.heap.size + 1, 0, none⟩ = some (.bool false) := by simp [World.cell?, x7]
    have q0 : w8.frozen? ⟨w.heap.size + 1, 0, none⟩ = false := by simp [World.frozen?, x7]
    have p1 : w8.cell? ⟨w.heap.size + 1, 1, none⟩ = some (.int .i64 0) := by simp [World.cell?, x7]
    have q1 : w8.frozen? ⟨w.heap.size + 1, 1, none⟩ = false := by simp [World.frozen?, x7]
    have p2 : w8.cell? ⟨w.heap.size + 1, 2, none⟩ = some (.slice none 0 0) := by simp [World.cell?, x7]
    have q2 : w8.frozen? ⟨w.heap.size + 1, 2, none⟩ = false := by simp [World.frozen?, x7]
    have p3 : w8.cell? ⟨w.heap.size + 1, 3, none⟩ = some (.slice none 0 0) := by simp [World.cell?, x7]
    have q3 : w8.frozen? ⟨w.heap.size + 1, 3, none⟩ = false := by simp [World.frozen?, x7]
    clear x7
    have hlo := LO.out HS8.out.low
    have HLO : Hid (Below w.heap.size w w8) := hlo
    clear hlo
    go_wp2
    (try simp only [Exit.inBlock, Exit.then])
    refine bodyPost_ret (by simp [results, Tryz.results8, go_sem, p0, p1, p2, p3]; try rfl) rfl ?_
    have hy := Y5.out.2
    exact ⟨⟨_, rfl, _, ((((HL8.out.set (b := w.heap.size + 1) (by omega) 0 _).set (b := w.heap.size + 1) (by omega) 1 _).set (b := w.heap.size + 1) (by omega) 2 _).set (b := w.heap.size + 1) (by omega) 3 _)⟩, (((HLO.out.setCell (p := ⟨w.heap.size + 1, 0, none⟩) (by simp) _).setCell (p := ⟨w.heap.size + 1, 1, none⟩) (by simp) _).setCell (p := ⟨w.heap.size + 1, 2, none⟩) (by simp) _).setCell (p := ⟨w.heap.size + 1, 3, none⟩) (by simp) _⟩
end
end Go.Proofs.YtenlapppaimkkabGreatDoor
