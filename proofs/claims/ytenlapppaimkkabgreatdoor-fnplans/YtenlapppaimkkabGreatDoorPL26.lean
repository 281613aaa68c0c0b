/- Texts joined: SpecPlan7, PlanEq, PlanEq2. -/
import Derived.Test.YtenlapppaimkkabGreatDoorPL25
import Derived.Test.YtenlapppaimkkabGreatDoorPL10
import Derived.Maps.AppendAt
import Derived.OwnWalk
import Derived.LoopN
import Derived.Test.YtenlapppaimkkabGreatDoorPL04
import Derived.Deep.RegionWith
import Derived.Test.YtenlapppaimkkabGreatDoorPL16
import Derived.Test.YtenlapppaimkkabGreatDoorPL17
set_option maxHeartbeats 8000000
set_option maxRecDepth 100000
namespace Go.Proofs.YtenlapppaimkkabGreatDoor
section
open Go.ChangeShapes Go.WideShapes Go.ChangeAt Go.RowKit
theorem cell_one (w : World) (x : Value) (t : TypeId) : ∀ (j : Nat) (u : Value), [x][j]? = some u → (w.alloc (.cells #[x] t)).cell? ((⟨w.heap.size, 0, none⟩ : Addr).add j) = some u := by
  intro j u hj
  rcases j with _ | j
  · simp only [List.getElem?_cons_zero, Option.some.injEq] at hj; subst hj; simp [Addr.add]
  · simp at hj
theorem l5Same_at (a : Option Addr) (d : Nat) (L : List Int × Nat) (pa : Option Addr) (m pc : Nat) (fs : List Int) (at_ : Int) (w : World) (hE : EntAt w a L.2 L.1) (hc : a = none → d = 0) (hcap : L.2 ≤ d) (hP : PairAt w pa m fs) (hn : L.2 < 1048576) :
    Calls Tryz.prog 32 #[.slice a L.2 d, .slice pa m pc, .int .i64 at_] w fun e w' => ∃ a' d', e = .returned (.slice a' (addL L fs m at_ (readF fs at_ m).1).2 d') ∧ EntAt w' a' (addL L fs m at_ (readF fs at_ m).1).2 (addL L fs m at_ (readF fs at_ m).1).1 ∧ (a' = none → d' = 0) ∧ (addL L fs m at_ (readF fs at_ m).1).2 ≤ d' ∧ (a' = a ∨ ∀ q, a' = some q → w.heap.size ≤ q.block) ∧ Below w.heap.size w w' := by
  have HL : Hid (EntAt w a L.2 L.1 ∧ (a = none → d = 0) ∧ L.2 ≤ d) := ⟨hE, hc, hcap⟩
  have HP : Hid (PairAt w pa m fs) := hP
  have HN : Hid (L.2 < 1048576) := hn
  clear hE hc hcap hP hn
  obtain ⟨⟨r1, r2⟩, hr⟩ : ∃ r, readF fs at_ m = r := ⟨_, rfl⟩
  have HR : Hid (readF fs at_ m = (r1, r2)) := hr
  clear hr
  rw [HR.out]
  go_enter Tryz.func32, Tryz.ntmps32
  go_wp2_with fail
  refine (specRead_any pa m pc at_ fs _ HP.out).mono ?_
  rintro e w1 ⟨rfl, hb1⟩
  rw [HR.out]
  have HB1 : Hid (Below w.heap.size w w1) := hb1
  clear hb1
  go_wp2_with fail
  refine (l5Add_any a L.2 d L.1 pa m pc fs at_ r1 _ (HL.out.1.below HB1.out (Nat.le_refl _)) (HP.out.below HB1.out (Nat.le_refl _)) HN.out HL.out.2.1 HL.out.2.2).mono ?_
  rintro e w2 ⟨a', d', rfl, g1, g2, g3, g5, g4⟩
  have H2 : Hid (EntAt w2 a' (addL L fs m at_ r1).2 (addL L fs m at_ r1).1 ∧ (a' = none → d' = 0) ∧ (addL L fs m at_ r1).2 ≤ d' ∧ (a' = a ∨ ∀ q, a' = some q → w.heap.size ≤ q.block) ∧ Below w.heap.size w w2) := ⟨g1, g2, g3, g5.imp id (fun h q e => Nat.le_trans HB1.out.size (h q e)), HB1.out.trans (g4.mono HB1.out.size)⟩
  clear g1 g2 g3 g4 g5
  go_wp2
  go_ret
  exact ⟨a', d', rfl, H2.out⟩
def scanL (fs : List Int) (m : Nat) : Nat → List Int × Nat
  | 0 => ([], 0)
  | j + 1 => addL (scanL fs m j) fs m (placeN 1 (j : Int)) (readF fs (placeN 1 (j : Int)) m).1
def rowsR (fs : List Int) (m : Nat) : Nat → List Int
  | 0 => []
  | j + 1 => rowsR fs m j ++ [(readF fs (placeN 1 (j : Int)) m).1]
theorem scan_read {fs : List Int} {m : Nat} {k v : Int} (hg : OpGood 7 k v) (hn : nextM fs m 7 k v = -1) : ∀ j : Nat, j < 4 → (readF fs (placeN 1 (j : Int)) m).2 = true := by
  have h : firstR fs m (wordsT false (scanS fs m)) = -1 := by
    rw [← next_scan]
    unfold nextM allM at hn
    rw [if_pos hg] at hn
    exact hn
  have z0 : placeN 1 0 = 0 := by decide
  have z1 : placeN 1 1 = 1 := by decide
  have z2 : placeN 1 2 = 2 := by decide
  have z3 : placeN 1 3 = 3 := by decide
  unfold scanS stayS at h
  rw [z0, z1, z2, z3] at h
  rw [first_tell, if_pos (by omega)] at h
  by_cases h0 : (readF fs 0 m).2 = true
  · rw [if_pos h0, first_tell, if_pos (by omega)] at h
    by_cases h1 : (readF fs 1 m).2 = true
    · rw [if_pos h1, first_tell, if_pos (by omega)] at h
      by_cases h2 : (readF fs 2 m).2 = true
      · rw [if_pos h2, first_tell, if_pos (by omega)] at h
        by_cases h3 : (readF fs 3 m).2 = true
        · intro j hj
          rcases j with _ | _ | _ | _ | j
          · exact h0
          · exact h1
          · exact h2
          · exact h3
          · omega
        · rw [if_neg h3] at h; omega
      · rw [if_neg h2] at h; omega
    · rw [if_neg h1] at h; omega
  · rw [if_neg h0] at h; omega
theorem scanL_is {fs : List Int} {m : Nat} (h : ∀ j : Nat, j < 4 → (readF fs (placeN 1 (j : Int)) m).2 = true) : ∀ j, j ≤ 4 → (scanL fs m j).2 = j
  | 0, _ => rfl
  | j + 1, hj => by
    have e := scanL_is h j (by omega)
    have hp : 0 ≤ placeN 1 (j : Int) := by unfold placeN; rw [if_pos ⟨rfl, by omega, by omega⟩]; omega
    show (addL (scanL fs m j) fs m _ _).2 = _
    unfold addL addE
    rw [if_pos ⟨h j (by omega), hp⟩]
    show (scanL fs m j).2 + 1 = j + 1
    rw [e]
structure ScanSt (fs : List Int) (m : Nat) (w3 W1 : World) (j : Nat) (rl : Value) (a : Option Addr) (d : Nat) (wr : World) : Prop where
  st : PlanSt w3 W1 wr #[.bool false, .int .i64 0, rl, .slice a (scanL fs m j).2 d]
  en : EntAt wr a (scanL fs m j).2 (scanL fs m j).1
  nc : a = none → d = 0
  cp : (scanL fs m j).2 ≤ d
  hi : ∀ q, a = some q → w3.heap.size + 1 + 1 ≤ q.block ∧ rl.ownBlock ≠ some q.block
  no : j = 0 → a = none
  ro : wr.ownsRow (w3.heap.size + 1 + 1) 3 1 rl j ((rowsR fs m j).map I)
theorem ent_lt {w : World} {q : Addr} {n : Nat} {gs : List Int} (h : EntAt w (some q) n gs) (hn : 0 < n) : q.block < w.heap.size := by
  obtain ⟨_, _, ⟨h, _⟩ | ⟨b, o, e, hc⟩⟩ := h
  · cases h
  · cases e
    exact World.block_lt_of_cell? w _ (hc 0 (by omega))
theorem ent_same {w w' : World} {a : Option Addr} {n : Nat} {gs : List Int} (h : EntAt w a n gs) (hb : ∀ q, a = some q → w'.heap[q.block]? = w.heap[q.block]?) : EntAt w' a n gs := by
  obtain ⟨h1, h2, h3 | ⟨b, o, e, hc⟩⟩ := h
  · exact ⟨h1, h2, .inl h3⟩
  · refine ⟨h1, h2, .inr ⟨b, o, e, fun i hi => ?_⟩⟩
    rw [World.cell?_of_block (a := ⟨b, o + i, none⟩) (hb ⟨b, o, none⟩ e)]
    exact hc i hi

theorem plan_7 (pa : Option Addr) (m pc : Nat) (fs : List Int) (kind k v : Int) (w : World) (hP : PairAt w pa m fs) (hg : OpGood kind k v) (hn : nextM fs m kind k v = -1) (hz : (nowR fs m kind k v).1 = -1 ∧ kind = 7) :
    Calls Tryz.prog 8 #[OpV kind k v, .slice pa m pc] w fun e w' => (∃ v' a c, e = .returned (.tuple #[.agg #[.bool false, .int .i64 0, .slice a 4 c, v'], .bool true]) ∧ IntAt w' a 4 (rowsR fs m 4) ∧ ∃ B, ListE B w' v' (scanL fs m 4)) ∧ Below w.heap.size w w' := by
  have HP : Hid (PairAt w pa m fs) := hP
  have HG : Hid (OpGood kind k v) := hg
  have HN : Hid (nextM fs m kind k v = -1) := hn
  have HZ : Hid ((nowR fs m kind k v).1 = -1 ∧ kind = 7) := hz
  clear hz
  clear hP hg hn
  obtain ⟨W1, hW1⟩ : ∃ W1, (w.alloc (.cells #[.int .i64 kind, .int .i64 k, .int .i64 v] 28)).alloc (.cells #[.bool false, .int .i64 0, .slice none 0 0, .slice none 0 0] 36) = W1 := ⟨_, rfl⟩
  have b1 : Below w.heap.size w W1 := by rw [← hW1]; exact ((Below.refl _ _).alloc (Nat.le_refl _) _).alloc (by simp) _
  have x0 : W1.heap[w.heap.size]? = some (.cells #[.int .i64 kind, .int .i64 k, .int .i64 v] 28 (0, 0)) := by rw [← hW1]; exact (Below.heap_alloc _ _ _ (by simp)).trans (by show (w.heap.push _)[w.heap.size]? = _; simp)
  have x1 : W1.heap[w.heap.size + 1]? = some (.cells #[.bool false, .int .i64 0, .slice none 0 0, .slice none 0 0] 36 (0, 0)) := by rw [← hW1]; show ((w.heap.push _).push _)[w.heap.size + 1]? = _; rw [Array.getElem?_push]; simp
  have HX : Hid (Below w.heap.size w W1 ∧ W1.heap[w.heap.size]? = some (.cells #[.int .i64 kind, .int .i64 k, .int .i64 v] 28 (0, 0)) ∧ W1.heap[w.heap.size + 1]? = some (.cells #[.bool false, .int .i64 0, .slice none 0 0, .slice none 0 0] 36 (0, 0)) ∧ w.heap.size + 1 < W1.heap.size) := ⟨b1, x0, x1, (Array.getElem?_eq_some_iff.1 x1).1⟩
  have CE : Hid (∀ {w' : World}, Below W1.heap.size W1 w' → (w'.cell? ⟨w.heap.size, 0, none⟩ = some (.int .i64 kind) ∧ w'.cell? ⟨w.heap.size, 1, none⟩ = some (.int .i64 k) ∧ w'.cell? ⟨w.heap.size, 2, none⟩ = some (.int .i64 v)) ∧ w'.heap[w.heap.size + 1]? = some (.cells #[.bool false, .int .i64 0, .slice none 0 0, .slice none 0 0] 36 (0, 0))) := fun hb => by
    have h0 := (hb.block _ (Nat.lt_of_succ_lt HX.out.2.2.2)).trans HX.out.2.1
    exact ⟨⟨by simp [World.cell?, h0], by simp [World.cell?, h0], by simp [World.cell?, h0]⟩, (hb.block _ HX.out.2.2.2).trans HX.out.2.2.1⟩
  clear b1 x0 x1
  obtain ⟨c0, c1, c2⟩ := (CE.out (Below.refl _ W1)).1
  go_enter Tryz.func8, Tryz.ntmps8
  go_wp2_with fail
  refine (specOpOk_any kind k v _).mono ?_
  rintro e w1 ⟨rfl, hb⟩
  rw [decide_eq_true HG.out]
  have B1 : Hid (Below W1.heap.size W1 w1) := (by first | exact hb | exact hW1 ▸ hb)
  clear hb c0 c1 c2
  obtain ⟨⟨c0, c1, c2⟩, _⟩ := CE.out B1.out
  have LO : Hid (∀ {w' : World}, Below W1.heap.size W1 w' → Below w.heap.size w w') := fun hb => HX.out.1.trans (hb.mono (Nat.le_of_lt (Nat.lt_of_succ_lt HX.out.2.2.2)))
  go_wp2_with fail
  refine (specNext_any pa m pc kind k v fs _ (HP.out.below (LO.out B1.out) (Nat.le_refl _))).mono ?_
  rintro e w2 ⟨rfl, hb⟩
  rw [HN.out]
  have B2 : Hid (Below W1.heap.size W1 w2) := B1.out.trans (hb.mono B1.out.size)
  clear hb c0 c1 c2
  obtain ⟨⟨c0, c1, c2⟩, _⟩ := CE.out B2.out
  go_wp2_with fail
  refine (l5Now_any pa m pc fs kind k v _ (HP.out.below (LO.out B2.out) (Nat.le_refl _)) HG.out.1).mono ?_
  rintro e w3 ⟨⟨a, c, rfl, hI, hfr⟩, hb⟩
  rw [show decide (0 ≤ (nowR fs m kind k v).1) = false by rw [HZ.out.1]; rfl]
  have B3 : Hid (Below W1.heap.size W1 w3) := B2.out.trans (hb.mono B2.out.size)
  obtain ⟨⟨code, lst⟩, hR⟩ : ∃ R, nowR fs m kind k v = R := ⟨_, rfl⟩
  have HR : Hid (nowR fs m kind k v = (code, lst)) := hR
  rw [hR] at hI
  rw [hR]
  dsimp only at hI ⊢
  have HI : Hid (IntAt w3 a lst.length lst ∧ ∀ q, a = some q → w.heap.size + 1 < q.block) := ⟨hI, fun q e => by have h1 := hfr q e; have h2 := HX.out.2.2.2; have h3 := B2.out.size; omega⟩
  clear hb c0 c1 c2 hI hR hfr
  obtain ⟨W4, hW4⟩ : ∃ W4, w3.alloc (.cells #[.bool true, .int .i64 code, .slice a lst.length c, .slice none 0 0] 36) = W4 := ⟨_, rfl⟩
  have hb4 : Below w3.heap.size w3 W4 := by rw [← hW4]; exact (Below.refl _ _).alloc (Nat.le_refl _) _
  have y4 : W4.heap[w3.heap.size]? = some (.cells #[.bool true, .int .i64 code, .slice a lst.length c, .slice none 0 0] 36 (0, 0)) := by rw [← hW4]; show (w3.heap.push _)[w3.heap.size]? = _; simp
  have B4 : Hid (Below W1.heap.size W1 W4) := B3.out.trans (hb4.mono B3.out.size)
  have HI4 : Hid (IntAt W4 a lst.length lst) := HI.out.1.below hb4 (Nat.le_refl _)
  clear hb4
  obtain ⟨⟨c0, c1, c2⟩, x3⟩ := CE.out B4.out
  have s0 : W4.cell? ⟨w3.heap.size, 0, none⟩ = some (.bool true) := by simp [World.cell?, y4]
  have s1 : W4.cell? ⟨w3.heap.size, 1, none⟩ = some (.int .i64 code) := by simp [World.cell?, y4]
  have s2 : W4.cell? ⟨w3.heap.size, 2, none⟩ = some (.slice a lst.length c) := by simp [World.cell?, y4]
  have s3 : W4.cell? ⟨w3.heap.size, 3, none⟩ = some (.slice none 0 0) := by simp [World.cell?, y4]
  have p0 : W4.cell? ⟨w.heap.size + 1, 0, none⟩ = some (.bool false) := by simp [World.cell?, x3]
  have p1 : W4.cell? ⟨w.heap.size + 1, 1, none⟩ = some (.int .i64 0) := by simp [World.cell?, x3]
  have p2 : W4.cell? ⟨w.heap.size + 1, 2, none⟩ = some (.slice none 0 0) := by simp [World.cell?, x3]
  have p3 : W4.cell? ⟨w.heap.size + 1, 3, none⟩ = some (.slice none 0 0) := by simp [World.cell?, x3]
  have q0 : W4.frozen? ⟨w.heap.size + 1, 0, none⟩ = false := by simp [World.frozen?, x3]
  have q1 : W4.frozen? ⟨w.heap.size + 1, 1, none⟩ = false := by simp [World.frozen?, x3]
  have q2 : W4.frozen? ⟨w.heap.size + 1, 2, none⟩ = false := by simp [World.frozen?, x3]
  have q3 : W4.frozen? ⟨w.heap.size + 1, 3, none⟩ = false := by simp [World.frozen?, x3]
  clear x3 y4
  have hlo := LO.out B4.out
  have HLO : Hid (Below w.heap.size w W4) := hlo
  clear hlo
  subst hW4
  obtain ⟨W5, hW5⟩ : ∃ W5, (w3.alloc (.cells #[.bool true, .int .i64 code, .slice a lst.length c, .slice none 0 0] 36)).alloc (.cells #[.bool false, .int .i64 0, .slice none 0 0, .slice none 0 0] 36) = W5 := ⟨_, rfl⟩
  have hb5 : Below (w3.alloc (.cells #[.bool true, .int .i64 code, .slice a lst.length c, .slice none 0 0] 36)).heap.size (w3.alloc (.cells #[.bool true, .int .i64 code, .slice a lst.length c, .slice none 0 0] 36)) W5 := by rw [← hW5]; exact (Below.refl _ _).alloc (Nat.le_refl _) _
  have y5 : W5.heap[w3.heap.size + 1]? = some (.cells #[.bool false, .int .i64 0, .slice none 0 0, .slice none 0 0] 36 (0, 0)) := by rw [← hW5]; show ((w3.heap.push _).push _)[w3.heap.size + 1]? = _; rw [Array.getElem?_push]; simp
  have B5 : Hid (Below W1.heap.size W1 W5) := B4.out.trans (hb5.mono B4.out.size)
  have Y5 : Hid (W5.heap[w3.heap.size + 1]? = some (.cells #[.bool false, .int .i64 0, .slice none 0 0, .slice none 0 0] 36 (0, 0)) ∧ w.heap.size + 1 < w3.heap.size + 1) := ⟨y5, by have h1 := HX.out.2.2.2; have h2 := B3.out.size; omega⟩
  clear hb5 y5 s0 s1 s2 s3 p0 p1 p2 p3 q0 q1 q2 q3 c0 c1 c2
  obtain ⟨⟨c0, c1, c2⟩, _⟩ := CE.out B5.out
  subst hW5
  go_wp2_with fail
  refine (specStateAt_any _).mono ?_
  rintro e wp ⟨rfl, hwp⟩
  rw [hwp]
  clear hwp
  go_wp2_with fail
  refine (specRead_any pa m pc 13 fs _ (HP.out.below (LO.out B5.out) (Nat.le_refl _))).mono ?_
  rintro e w6 ⟨rfl, hb⟩
  have hb' := hb
  have B6 : Hid (Below W1.heap.size W1 w6) := B5.out.trans (hb'.mono B5.out.size)
  have Y6 : Hid (w6.heap[w3.heap.size + 1]? = some (.cells #[.bool false, .int .i64 0, .slice none 0 0, .slice none 0 0] 36 (0, 0))) := (hb'.block _ (Array.getElem?_eq_some_iff.1 Y5.out.1).1).trans Y5.out.1
  clear hb hb' c0 c1 c2
  obtain ⟨⟨st, sb⟩, hst⟩ : ∃ x, readF fs 13 m = x := ⟨_, rfl⟩
  rw [hst]
  have HST : Hid (readF fs 13 m = (st, sb)) := hst
  clear hst
  obtain ⟨⟨c0, c1, c2⟩, _⟩ := CE.out B6.out
  have k7 : (kind == 7) = true := by have := HZ.out.2; simp; omega
  have k8 : (kind == 8) = false := by have := HZ.out.2; simp; omega
  have k9 : (kind == 9) = false := by have := HZ.out.2; simp; omega
  have k10 : (kind == 10) = false := by have := HZ.out.2; simp; omega
  have hne : w.heap.size + 1 ≠ w3.heap.size + 1 := by have := Y5.out.2; omega
  have hne' : w3.heap.size + 1 ≠ w.heap.size := by have := Y5.out.2; omega
  have hne2 : w3.heap.size ≠ w.heap.size := by have := Y5.out.2; omega
  have HW : Hid (W1.heap.size ≤ w3.heap.size + 1) := Nat.le_succ_of_le B3.out.size
  have HS6 : Hid (PlanSt w3 W1 w6 #[.bool false, .int .i64 0, .slice none 0 0, .slice none 0 0]) := ⟨B6.out, Y6.out⟩
  have HL6 : Hid (ListE (w3.heap.size + 1 + 1) w6 (.slice none 0 0) ([], 0)) := listE_nil _ _
  clear c0 c1 c2
  have HLN6 : Hid ((([], 0) : List Int × Nat).2 < 1048576) := (by decide : (0 : Nat) < 1048576)
  have HLM6 : Hid ((([], 0) : List Int × Nat).2 < 1) := Nat.lt_succ_self 0
  have HRD : Hid (∀ j : Nat, j < 4 → (readF fs (placeN 1 (j : Int)) m).2 = true) := scan_read (k := k) (v := v) (by have h := HG.out; rw [HZ.out.2] at h; exact h) (by have h := HN.out; rw [HZ.out.2] at h; exact h)
  have I0 : Hid (ScanSt fs m w3 W1 0 (.slice none 0 0) none 0 w6) := ⟨HS6.out, ⟨rfl, by show 0 ≤ _; omega, .inl ⟨rfl, rfl⟩⟩, fun _ => rfl, Nat.le_refl _, (fun q e => by cases e), fun _ => rfl, ⟨rfl, .inl ⟨rfl, rfl⟩⟩⟩
  obtain ⟨i0, hin⟩ : ∃ i, Tryz.prog.info? 3 = some i := ⟨_, rfl⟩
  have hz0 : i0.zero = some (.int .i64 0) := by cases hin; kernel_rfl
  have hz1 : i0.size = 1 := by cases hin; kernel_rfl
  have hz2 : i0.bytes = 8 := by cases hin; kernel_rfl
  obtain ⟨⟨c0, c1, c2⟩, _⟩ := CE.out HS6.out.low
  go_wp2_with fail
  clear c0 c1 c2
  go_loopw [11] (fun i wr => ∃ (j : Nat) (rl : Value) (a : Option Addr) (d : Nat), j ≤ 4 ∧ i = .int .i64 (j : Int) ∧ ScanSt fs m w3 W1 j rl a d wr) (fun i _ => 4 - (intOf i).toNat)
  case atStart => exact ⟨0, _, _, _, by omega, rfl, I0.out⟩
  case round =>
    obtain ⟨j, rl, a9, d9, hj, rfl, hs⟩ := hrel
    have HS : Hid (ScanSt fs m w3 W1 j rl a9 d9 wr) := hs
    have y := hs.st.box
    obtain ⟨⟨c0, c1, c2⟩, _⟩ := CE.out hs.st.low
    have t2 : wr.cell? ⟨w3.heap.size + 1, 2, none⟩ = some rl := by simp [World.cell?, y]
    have t3 : wr.cell? ⟨w3.heap.size + 1, 3, none⟩ = some (.slice a9 (scanL fs m j).2 d9) := by simp [World.cell?, y]
    have u3 : wr.frozen? ⟨w3.heap.size + 1, 3, none⟩ = false := by simp [World.frozen?, y]
    clear hs y
    by_cases hlt : j < 4
    · have hj1 : (j : Int) < 4 := by omega
      have HLT : Hid (j < 4 ∧ (scanL fs m j).2 = j ∧ ((addL (scanL fs m j) fs m (placeN 1 (j : Int)) (readF fs (placeN 1 (j : Int)) m).1)).2 = j + 1) := ⟨hlt, scanL_is HRD.out j (by omega), scanL_is HRD.out (j + 1) (by omega)⟩
      clear hlt
      go_wp2_with fail
      go_region_with (first
        | (go_at_call 33
           refine (specRowAt_any (j : Int) _).mono ?_
           rintro e wp ⟨rfl, rfl⟩)
        | (go_at_call 32
           refine (l5Same_at a9 d9 (scanL fs m j) pa m pc fs (placeN 1 (j : Int)) wr.drew (HS.out.en.below (Below.refl _ _).drew (Nat.le_refl _)) HS.out.nc HS.out.cp ((HP.out.below (LO.out HS.out.st.low) (Nat.le_refl _)).below (Below.refl _ _).drew (Nat.le_refl _)) (by have h1 := HLT.out; omega)).mono ?_
           rintro e w7 ⟨a7, d7, rfl, g1, g2, g3, g5, hb⟩
           have hb' : Below wr.heap.size wr w7 := ⟨hb.os, hb.tape, hb.output, hb.size, hb.block⟩
           have g5' : a7 = a9 ∨ ∀ q, a7 = some q → wr.heap.size ≤ q.block := g5
           have H7 : Hid (EntAt w7 a7 ((addL (scanL fs m j) fs m (placeN 1 (j : Int)) (readF fs (placeN 1 (j : Int)) m).1)).2 ((addL (scanL fs m j) fs m (placeN 1 (j : Int)) (readF fs (placeN 1 (j : Int)) m).1)).1 ∧ (a7 = none → d7 = 0) ∧ ((addL (scanL fs m j) fs m (placeN 1 (j : Int)) (readF fs (placeN 1 (j : Int)) m).1)).2 ≤ d7 ∧ (∀ q, a7 = some q → w3.heap.size + 1 + 1 ≤ q.block ∧ rl.ownBlock ≠ some q.block ∧ q.block < w7.heap.size) ∧ PlanSt w3 W1 w7 #[.bool false, .int .i64 0, rl, .slice a9 (scanL fs m j).2 d9] ∧ w7.ownsRow (w3.heap.size + 1 + 1) 3 1 rl j ((rowsR fs m j).map I)) :=
             ⟨g1, g2, g3, fun q e => by
               have hlt7 : q.block < w7.heap.size := ent_lt (e ▸ g1) (by have h := HLT.out.2.2; omega)
               rcases g5' with h | h
               · exact ⟨(HS.out.hi q (h ▸ e)).1, (HS.out.hi q (h ▸ e)).2, hlt7⟩
               · exact ⟨Nat.le_trans HS.out.st.lt (h q e), fun hx => by have h1 := (HS.out.ro.lt _ hx).2; have h2 := h q e; omega, hlt7⟩, HS.out.st.on hb', HS.out.ro.kept (row := none) (far_below hb' none) (by cases hv : rl.ownBlock with
               | none => exact .inl rfl
               | some x => exact .inr (by simp))⟩
           have z7 := H7.out.2.2.2.2.1.box
           have s7 : w7.cell? ⟨w3.heap.size + 1, 3, none⟩ = some (.slice a9 (scanL fs m j).2 d9) := by simp [World.cell?, z7]
           have f7 : w7.frozen? ⟨w3.heap.size + 1, 3, none⟩ = false := by simp [World.frozen?, z7]
           clear hb hb' g1 g2 g3 g5 g5' z7))
      all_goals
        have H8 : Hid (PlanSt w3 W1 (w7.setCell ⟨w3.heap.size + 1, 3, none⟩ (.slice a7 (addL (scanL fs m j) fs m (placeN 1 (j : Int)) (readF fs (placeN 1 (j : Int)) m).1).2 d7)) #[.bool false, .int .i64 0, rl, .slice a7 (addL (scanL fs m j) fs m (placeN 1 (j : Int)) (readF fs (placeN 1 (j : Int)) m).1).2 d7] ∧ EntAt (w7.setCell ⟨w3.heap.size + 1, 3, none⟩ (.slice a7 (addL (scanL fs m j) fs m (placeN 1 (j : Int)) (readF fs (placeN 1 (j : Int)) m).1).2 d7)) a7 (addL (scanL fs m j) fs m (placeN 1 (j : Int)) (readF fs (placeN 1 (j : Int)) m).1).2 (addL (scanL fs m j) fs m (placeN 1 (j : Int)) (readF fs (placeN 1 (j : Int)) m).1).1 ∧ (w7.setCell ⟨w3.heap.size + 1, 3, none⟩ (.slice a7 (addL (scanL fs m j) fs m (placeN 1 (j : Int)) (readF fs (placeN 1 (j : Int)) m).1).2 d7)).ownsRow (w3.heap.size + 1 + 1) 3 1 rl j ((rowsR fs m j).map I) ∧ w7.heap.size ≤ (w7.setCell ⟨w3.heap.size + 1, 3, none⟩ (.slice a7 (addL (scanL fs m j) fs m (placeN 1 (j : Int)) (readF fs (placeN 1 (j : Int)) m).1).2 d7)).heap.size) :=
          ⟨H7.out.2.2.2.2.1.set HW.out 3 (.slice a7 (addL (scanL fs m j) fs m (placeN 1 (j : Int)) (readF fs (placeN 1 (j : Int)) m).1).2 d7), ent_far H7.out.1 (p := ⟨w3.heap.size + 1, 3, none⟩) (fun q e => by have h := (H7.out.2.2.2.1 q e).1; simp only; omega) _, own_setCell_far H7.out.2.2.2.2.2 (fun e => by have h := (H7.out.2.2.2.2.2.lt _ e).1; simp only at h; omega) _, by simp⟩
        clear c0 c1 c2 t2 t3 u3 s7 f7
        generalize hwz : w7.setCell ⟨w3.heap.size + 1, 3, none⟩ (.slice a7 (addL (scanL fs m j) fs m (placeN 1 (j : Int)) (readF fs (placeN 1 (j : Int)) m).1).2 d7) = w8 at H8 ⊢
        clear hwz
        go_wp2_with fail
        refine (specRowAt_any (j : Int) _).mono ?_
        rintro e wp ⟨rfl, hwp⟩
        rw [hwp]
        clear hwp
        go_wp2_with fail
        refine (specRead_any pa m pc (placeN 1 (j : Int)) fs _ (HP.out.below (LO.out H8.out.1.low) (Nat.le_refl _))).mono ?_
        rintro e w9 ⟨rfl, hb⟩
        have H9 : Hid (PlanSt w3 W1 w9 #[.bool false, .int .i64 0, rl, .slice a7 (addL (scanL fs m j) fs m (placeN 1 (j : Int)) (readF fs (placeN 1 (j : Int)) m).1).2 d7] ∧ EntAt w9 a7 (addL (scanL fs m j) fs m (placeN 1 (j : Int)) (readF fs (placeN 1 (j : Int)) m).1).2 (addL (scanL fs m j) fs m (placeN 1 (j : Int)) (readF fs (placeN 1 (j : Int)) m).1).1 ∧ w9.ownsRow (w3.heap.size + 1 + 1) 3 1 rl j ((rowsR fs m j).map I) ∧ w7.heap.size ≤ w9.heap.size) := ⟨H8.out.1.on hb, H8.out.2.1.below hb (Nat.le_refl _), H8.out.2.2.1.kept (row := none) (far_below hb none) (by cases hv : rl.ownBlock with
             | none => exact .inl rfl
             | some x => exact .inr (by simp)), Nat.le_trans H8.out.2.2.2 hb.size⟩
        have z9 := H9.out.1.box
        have t2 : w9.cell? ⟨w3.heap.size + 1, 2, none⟩ = some rl := by simp [World.cell?, z9]
        have hsz9 := H9.out.1.lt
        have hj8 : j < 4 := HLT.out.1
        clear hb z9
        go_wp2_with (first
          | (at_builtin; refine wpList_append_own_at _ rfl _ _ 24 rfl (w3.heap.size + 1 + 1) 3 i0 (.int .i64 0) 1 8 Tryz.underlying24 hin hz0 hz1 hz2 rfl (by decide) _ _ _ rfl (H9.out.2.2.1.alloc _) ⟨w9.heap.size, 0, none⟩ 1 1 [I (readF fs (placeN 1 (j : Int)) m).1] rfl rfl (cell_one _ _ _) (by intro u hu; rw [List.mem_singleton] at hu; rw [hu]; first | done | rfl) (by unfold maxLen; omega) (by omega) (by rw [World.size_alloc]; omega) ?_; intro v' w10 hown' hgrow _ hat; obtain ⟨g', cap', rfl⟩ := ownsRow_succ hown'; have H10 : Hid (w10.ownsRow (w3.heap.size + 1 + 1) 3 1 (.slice (some ⟨g', 0, none⟩) (j + 1) cap') (j + 1) ((rowsR fs m j).map I ++ [I (readF fs (placeN 1 (j : Int)) m).1]) ∧ (w9.alloc (.cells #[.int .i64 (readF fs (placeN 1 (j : Int)) m).1] 3)).grownBy w10 rl.ownBlock ∧ (some g' = rl.ownBlock ∨ g' = (w9.alloc (.cells #[.int .i64 (readF fs (placeN 1 (j : Int)) m).1] 3)).heap.size)) := ⟨hown', hgrow, hat.imp (fun h => (show some g' = rl.ownBlock from h)) (fun h => Option.some.inj (show some g' = some (w9.alloc (.cells #[.int .i64 (readF fs (placeN 1 (j : Int)) m).1] 3)).heap.size from h))⟩; have z10 : w10.heap[w3.heap.size + 1]? = some (.cells #[.bool false, .int .i64 0, rl, .slice a7 (addL (scanL fs m j) fs m (placeN 1 (j : Int)) (readF fs (placeN 1 (j : Int)) m).1).2 d7] 36 (0, 0)) := (hgrow.block _ (by rw [World.size_alloc]; omega) (fun e => by have h := (H9.out.2.2.1.lt _ e.symm).1; omega)).trans ((Below.heap_alloc _ _ _ (by omega)).trans H9.out.1.box); have t2' : w10.cell? ⟨w3.heap.size + 1, 2, none⟩ = some rl := (by simp [World.cell?, z10]); have u2' : w10.frozen? ⟨w3.heap.size + 1, 2, none⟩ = false := (by simp [World.frozen?, z10]); clear hown' hgrow hat z10)
          | go_in)
        have hx := H10.out
        have blk : ∀ x, x < w9.heap.size → some x ≠ rl.ownBlock → w10.heap[x]? = w9.heap[x]? := fun x hx' hne => (hx.2.1.block x (by simp; omega) hne).trans (Below.heap_alloc _ _ _ hx')
        have low : ∀ x, x < w3.heap.size + 1 + 1 → some x ≠ rl.ownBlock := fun x hx' e => by have h := (H9.out.2.2.1.lt _ e.symm).1; omega
        have P10 : PlanSt w3 W1 w10 #[.bool false, .int .i64 0, rl, .slice a7 (addL (scanL fs m j) fs m (placeN 1 (j : Int)) (readF fs (placeN 1 (j : Int)) m).1).2 d7] := ⟨H9.out.1.low.trans ⟨hx.2.1.os, hx.2.1.tape, hx.2.1.output, Nat.le_trans (by simp) hx.2.1.size, fun x hx' => blk x (by have := HW.out; omega) (low x (by have := HW.out; omega))⟩, (blk _ (by omega) (low _ (by omega))).trans H9.out.1.box⟩
        refine ⟨⟨j + 1, _, a7, d7, by omega, by go_num, ⟨P10.set HW.out 2 (.slice (some ⟨g', 0, none⟩) (j + 1) cap'), ?_, H7.out.2.1, H7.out.2.2.1, fun q e => ⟨(H7.out.2.2.2.1 q e).1, ?_⟩, fun h => by omega, ?_⟩⟩, by simp [intOf]; omega⟩
        · exact ent_far (ent_same H9.out.2.1 (fun q e => blk _ (by have h := (H7.out.2.2.2.1 q e).2.2; have h2 := H9.out.2.2.2; omega) (fun e' => (H7.out.2.2.2.1 q e).2.1 e'.symm))) (p := ⟨w3.heap.size + 1, 2, none⟩) (fun q e => by have h := (H7.out.2.2.2.1 q e).1; simp only; omega) _
        · intro e'
          simp only [Value.ownBlock, Option.some.injEq] at e'
          rcases hx.2.2 with h | h
          · exact (H7.out.2.2.2.1 q e).2.1 (by rw [← h, e'])
          · have h1 := (H7.out.2.2.2.1 q e).2.2
            have h2 := H9.out.2.2.2
            rw [h] at e'
            simp at e'
            omega
        · exact own_setCell_far (by show w10.ownsRow _ _ _ _ _ ((rowsR fs m j ++ [_]).map I); rw [List.map_append]; exact hx.1) (fun e => by have h := (hx.1.lt _ e).1; simp only at h; omega) _
    · obtain rfl : j = 4 := by omega
      clear hlt t2 t3 u3
      obtain ⟨gr, cr, rfl⟩ := ownsRow_succ HS.out.ro
      have y := HS.out.st.box
      have x7 := (CE.out HS.out.st.low).2
      have t0 : wr.cell? ⟨w3.heap.size + 1, 0, none⟩ = some (.bool false) := by simp [World.cell?, y]
      have t1 : wr.cell? ⟨w3.heap.size + 1, 1, none⟩ = some (.int .i64 0) := by simp [World.cell?, y]
      have t2 : wr.cell? ⟨w3.heap.size + 1, 2, none⟩ = some (.slice (some ⟨gr, 0, none⟩) 4 cr) := by simp [World.cell?, y]
      have t3 : wr.cell? ⟨w3.heap.size + 1, 3, none⟩ = some (.slice a9 (scanL fs m 4).2 d9) := by simp [World.cell?, y]
      have p0 : wr.cell? ⟨w.heap.size + 1, 0, none⟩ = some (.bool false) := by simp [World.cell?, x7]
      have q0 : wr.frozen? ⟨w.heap.size + 1, 0, none⟩ = false := by simp [World.frozen?, x7]
      have p1 : wr.cell? ⟨w.heap.size + 1, 1, none⟩ = some (.int .i64 0) := by simp [World.cell?, x7]
      have q1 : wr.frozen? ⟨w.heap.size + 1, 1, none⟩ = false := by simp [World.frozen?, x7]
      have p2 : wr.cell? ⟨w.heap.size + 1, 2, none⟩ = some (.slice none 0 0) := by simp [World.cell?, x7]
      have q2 : wr.frozen? ⟨w.heap.size + 1, 2, none⟩ = false := by simp [World.frozen?, x7]
      have p3 : wr.cell? ⟨w.heap.size + 1, 3, none⟩ = some (.slice none 0 0) := by simp [World.cell?, x7]
      have q3 : wr.frozen? ⟨w.heap.size + 1, 3, none⟩ = false := by simp [World.frozen?, x7]
      clear y x7
      have HLO : Hid (Below w.heap.size w wr) := LO.out HS.out.st.low
      have HY : Hid (w.heap.size + 1 < w3.heap.size + 1) := Y5.out.2
      go_wp2
      (try simp only [Exit.inBlock, Exit.then])
      refine bodyPost_ret (by simp [results, Tryz.results8, go_sem, p0, p1, p2, p3]; try rfl) rfl ?_
      have hy := HY.out
      have hr := (HS.out.ro.lt gr rfl).1
      have li : ListE (w3.heap.size + 1 + 1) wr (.slice a9 (scanL fs m 4).2 d9) (scanL fs m 4) := ⟨a9, d9, rfl, HS.out.en, HS.out.nc, HS.out.cp, fun q e => (HS.out.hi q e).1⟩
      have fr : ∀ q, some (⟨gr, 0, none⟩ : Addr) = some q → q.block ≠ w.heap.size + 1 := fun q e => by cases e; simp only; omega
      refine ⟨⟨_, some ⟨gr, 0, none⟩, cr, rfl, ?_, _, ((((li.set (b := w.heap.size + 1) (by omega) 0 _).set (b := w.heap.size + 1) (by omega) 1 _).set (b := w.heap.size + 1) (by omega) 2 _).set (b := w.heap.size + 1) (by omega) 3 _)⟩, (((HLO.out.setCell (p := ⟨w.heap.size + 1, 0, none⟩) (by simp) _).setCell (p := ⟨w.heap.size + 1, 1, none⟩) (by simp) _).setCell (p := ⟨w.heap.size + 1, 2, none⟩) (by simp) _).setCell (p := ⟨w.heap.size + 1, 3, none⟩) (by simp) _⟩
      exact int_far (int_far (int_far (int_far (own_intAt HS.out.ro (by omega)) (p := ⟨w.heap.size + 1, 0, none⟩) fr _) (p := ⟨w.heap.size + 1, 1, none⟩) fr _) (p := ⟨w.heap.size + 1, 2, none⟩) fr _) (p := ⟨w.heap.size + 1, 3, none⟩) fr _
end
def insE : List Ent → Ent → List Ent
  | [], e => [e]
  | y :: L, e => if y.1 < e.1 then y :: insE L e else e :: y :: L
theorem insE_perm : ∀ (L : List Ent) (e : Ent), (insE L e).Perm (e :: L)
  | [], e => List.Perm.refl _
  | y :: L, e => by
    unfold insE
    split
    · exact ((insE_perm L e).cons y).trans (List.Perm.swap e y L)
    · exact List.Perm.refl _
theorem insE_len (L : List Ent) (e : Ent) : (insE L e).length = L.length + 1 := (insE_perm L e).length_eq
def Asc (L : List Ent) : Prop := L.Pairwise fun x y => x.1 ≤ y.1
theorem insE_asc : ∀ (L : List Ent) (e : Ent), Asc L → Asc (insE L e)
  | [], e, _ => by simp [Asc, insE]
  | y :: L, e, h => by
    unfold Asc at h ⊢
    rw [List.pairwise_cons] at h
    unfold insE
    split
    · rename_i hlt
      rw [List.pairwise_cons]
      refine ⟨fun z hz => ?_, insE_asc L e h.2⟩
      rcases List.mem_cons.1 ((insE_perm L e).mem_iff.1 hz) with rfl | hz
      · omega
      · exact h.1 z hz
    · rename_i hlt
      rw [List.pairwise_cons]
      refine ⟨fun z hz => ?_, List.pairwise_cons.2 h⟩
      rcases List.mem_cons.1 hz with rfl | hz
      · omega
      · have := h.1 z hz; omega
theorem flatE_cons (y : Ent) (L : List Ent) : flatE (y :: L) = y.1 :: y.2.1 :: y.2.2 :: flatE L := by simp [flatE]
theorem posE_shift (y : Ent) (L : List Ent) (at_ : Int) : ∀ f k, posE (flatE (y :: L)) at_ f (k + 1) = posE (flatE L) at_ f k + 1
  | 0, k => rfl
  | f + 1, k => by
    have e : (flatE (y :: L)).getD ((k + 1) * 3) 0 = (flatE L).getD (k * 3) 0 := by
      rw [flatE_cons, show (k + 1) * 3 = k * 3 + 1 + 1 + 1 by omega]
      simp
    unfold posE
    rw [e]
    split
    · exact posE_shift y L at_ f (k + 1)
    · rfl
theorem ins_flat : ∀ (L : List Ent) (at_ o v : Int), (flatE L).take (posE (flatE L) at_ L.length 0 * 3) ++ [at_, o, v] ++ (flatE L).drop (posE (flatE L) at_ L.length 0 * 3) = flatE (insE L (at_, o, v))
  | [], at_, o, v => by simp [posE, flatE, insE]
  | y :: L, at_, o, v => by
    have ih := ins_flat L at_ o v
    have e0 : (flatE (y :: L)).getD (0 * 3) 0 = y.1 := by rw [flatE_cons]; simp
    rw [List.length_cons]
    unfold posE insE
    rw [e0]
    by_cases h : y.1 < at_
    · rw [if_pos h, if_pos (show y.1 < (at_, o, v).1 from h), posE_shift, flatE_cons y (insE L (at_, o, v)), ← ih, flatE_cons y L, show (posE (flatE L) at_ L.length 0 + 1) * 3 = posE (flatE L) at_ L.length 0 * 3 + 1 + 1 + 1 by omega]
      simp
    · rw [if_neg h, if_neg (show ¬ y.1 < (at_, o, v).1 from h)]
      simp [flatE_cons]
def addN (L : List Ent) (fs : List Int) (m : Nat) (at_ v : Int) : List Ent := if (readF fs at_ m).2 = true ∧ 0 ≤ at_ then insE L (at_, (readF fs at_ m).1, v) else L
theorem addL_flat (L : List Ent) (fs : List Int) (m : Nat) (at_ v : Int) : addL (flatE L, L.length) fs m at_ v = (flatE (addN L fs m at_ v), (addN L fs m at_ v).length) := by
  unfold addL addE addN
  by_cases h : (readF fs at_ m).2 = true ∧ 0 ≤ at_
  · rw [if_pos h, if_pos h, insE_len]
    simp only [Prod.mk.injEq, and_true]
    exact ins_flat L at_ _ v
  · rw [if_neg h, if_neg h]
theorem addN_asc {L : List Ent} (h : Asc L) (fs : List Int) (m : Nat) (at_ v : Int) : Asc (addN L fs m at_ v) := by
  unfold addN
  split
  · exact insE_asc L _ h
  · exact h
def oneR (fs : List Int) (m : Nat) (at_ v : Int) : List Ent := if (readF fs at_ m).2 = true ∧ 0 ≤ at_ then [(at_, (readF fs at_ m).1, v)] else []
theorem count_addN (L : List Ent) (fs : List Int) (m : Nat) (at_ v : Int) (a : Ent) : (addN L fs m at_ v).count a = (oneR fs m at_ v).count a + L.count a := by
  unfold addN oneR
  split
  · rw [(insE_perm L _).count_eq a, List.count_cons, List.count_cons]; simp; omega
  · simp
theorem oneR_neg (fs : List Int) (m : Nat) {at_ : Int} (v : Int) (h : at_ < 0) : oneR fs m at_ v = [] := by
  unfold oneR; rw [if_neg (by omega)]
theorem rd_neg (fs : List Int) (m : Nat) {p : Int} (h : p < 0) : rd fs m p = 0 := by unfold rd; rw [if_pos h]
theorem rd_pos (fs : List Int) (m : Nat) {p : Int} (h : ¬ p < 0) : rd fs m p = (readF fs p m).1 := by unfold rd; rw [if_neg h]
theorem count_tell (fs : List Int) (m : Nat) (p v : Int) (t : List Stp) (a : Ent) : ((wordsT true (.tell p (rd fs m p) v :: t)).filter (goR fs m)).count a = (oneR fs m p v).count a + ((wordsT true t).filter (goR fs m)).count a := by
  unfold oneR
  by_cases hp : 0 ≤ p
  · have e : wordsT true (.tell p (rd fs m p) v :: t) = (p, (readF fs p m).1, v) :: wordsT true t := by
      show (if 0 ≤ p then _ else _) = _
      rw [if_pos hp, rd_pos fs m (by omega)]
    rw [e]
    by_cases hr : (readF fs p m).2 = true
    · rw [if_pos ⟨hr, hp⟩, List.filter_cons_of_pos (show goR fs m (p, (readF fs p m).1, v) = true from hr), List.count_cons, List.count_cons]; simp; omega
    · rw [if_neg (fun h => hr h.1), List.filter_cons_of_neg (show ¬ goR fs m (p, (readF fs p m).1, v) = true from hr)]; simp
  · have e : wordsT true (.tell p (rd fs m p) v :: t) = wordsT true t := by
      show (if 0 ≤ p then _ else if true = true then _ else _) = _
      rw [if_neg hp, if_pos rfl]
    rw [e, if_neg (fun h => hp h.2)]; simp
theorem words_ask {b : Bool} (hb : b = true) (wh : Bool) (t : List Stp) : wordsT wh (.ask b :: t) = wordsT wh t := by subst hb; rfl

theorem strict_eq : ∀ {L M : List Ent}, L.Pairwise (fun x y => x.1 < y.1) → M.Pairwise (fun x y => x.1 < y.1) → L.Perm M → L = M
  | [], M, _, _, h => (List.nil_perm.1 h).symm ▸ rfl
  | a :: L, [], _, _, h => absurd h.length_eq (by simp)
  | a :: L, b :: M, hL, hM, h => by
    rw [List.pairwise_cons] at hL hM
    have hab : a = b := by
      have h1 : a ∈ b :: M := h.mem_iff.1 (List.mem_cons_self ..)
      have h2 : b ∈ a :: L := h.mem_iff.2 (List.mem_cons_self ..)
      rcases List.mem_cons.1 h1 with e | h1
      · exact e
      rcases List.mem_cons.1 h2 with e | h2
      · exact e.symm
      have := hM.1 a h1
      have := hL.1 b h2
      omega
    subst hab
    rw [strict_eq hL.2 hM.2 (List.Perm.cons_inv h)]
theorem strict_of {L : List Ent} (h : Asc L) (hn : (L.map fun x => x.1).Nodup) : L.Pairwise (fun x y => x.1 < y.1) := by
  have h2 : L.Pairwise (fun x y => x.1 ≠ y.1) := by
    have := List.pairwise_map.1 hn
    exact this
  exact (List.Pairwise.and h h2).imp fun {x y} ⟨a, b⟩ => by omega
theorem sortL_asc (L : List Ent) : Asc (sortL L) := by
  have h := (sortL_holds L).2
  have hlen := (sortL_holds L).1.1
  unfold Asc
  rw [List.pairwise_iff_getElem]
  intro i j hi hj hij
  unfold sortL at hi hj ⊢
  simp only [Array.length_toList] at hi hj
  have := h i j (Nat.zero_le _) hij (by rw [← hlen]; exact hj)
  rw [ltE] at this
  simp only [decide_eq_false_iff_not] at this
  simp only [Array.getElem_toList]
  rw [getElem!_pos _ i hi, getElem!_pos _ j hj] at this
  omega
theorem is_sorted {C G : List Ent} (hC : Asc C) (hcount : ∀ a, C.count a = G.count a) (hn : (G.map fun x => x.1).Nodup) : C = sortL G := by
  have hp : C.Perm G := List.perm_iff_count.2 hcount
  have hs := sortL_perm G
  refine strict_eq (strict_of hC ?_) (strict_of (sortL_asc G) ?_) (hp.trans hs.symm)
  · exact (hp.map _).nodup_iff.2 hn
  · exact (hs.map _).nodup_iff.2 hn
section
open Go.ChangeShapes Go.WideShapes Go.ChangeAt Go.RowKit
abbrev KF (xs : List Int) (st kind k v : Int) : List Int := flatP (wordF xs st) (needL (wordF xs st) kind k v)
abbrev KM (xs : List Int) (st kind k v : Int) : Nat := (needL (wordF xs st) kind k v).length
theorem oneR_rd (fs : List Int) (m : Nat) (p : Int) : oneR fs m p (rd fs m p) = oneR fs m p (readF fs p m).1 := by
  by_cases h : p < 0
  · rw [oneR_neg _ _ _ h, oneR_neg _ _ _ h]
  · rw [rd_pos fs m h]
section
variable {xs : List Int} {st kind k v : Int}
theorem kn_small (hok : OkRows xs st) (p : Int) : 0 ≤ (readF (KF xs st kind k v) p (KM xs st kind k v)).1 ∧ (readF (KF xs st kind k v) p (KM xs st kind k v)).1 ≤ 6 := by
  rw [read_flat]
  split
  · exact wordF_small hok p
  · exact ⟨by simp, by simp⟩
theorem kn_rd (hok : OkRows xs st) (hg : OpGood kind k v) (p : Int) : rd (KF xs st kind k v) (KM xs st kind k v) p = (readF (KF xs st kind k v) p (KM xs st kind k v)).1 := by
  by_cases h : p < 0
  · rw [rd_neg _ _ h, read_flat, if_neg]
    intro hp
    have := (need_ok (wordF_ok hok) hg).2.2.1 p hp
    omega
  · exact rd_pos _ _ h
theorem got_keys (hok : OkRows xs st) (hg : OpGood kind k v) (hn : nowL (KF xs st kind k v) (KM xs st kind k v) kind k v = []) : (gotL (KF xs st kind k v) (KM xs st kind k v) kind k v).map (fun x => x.1) = needL (wordF xs st) kind k v := by
  have h := congrArg (List.map Prod.fst) (got_all (wordF_ok hok) hg hn)
  simp only [List.map_map] at h
  rw [show (Prod.fst ∘ keyE) = fun x : Ent => x.1 from rfl] at h
  rw [h]
  simp [Function.comp_def]
theorem got_nodup (hok : OkRows xs st) (hg : OpGood kind k v) (hn : nowL (KF xs st kind k v) (KM xs st kind k v) kind k v = []) : ((gotL (KF xs st kind k v) (KM xs st kind k v) kind k v).map fun x => x.1).Nodup := by
  rw [got_keys hok hg hn]; exact (need_ok (wordF_ok hok) hg).1
end
theorem pair_of_sorted {C G : List Ent} (hC : Asc C) (hcount : ∀ a, C.count a = G.count a) (hn : (G.map fun x => x.1).Nodup) : (flatE C, C.length) = (flatE (sortL G), (sortL G).length) := by rw [is_sorted hC hcount hn]
theorem nil_pair : (([], 0) : List Int × Nat) = (flatE [], ([] : List Ent).length) := rfl
theorem asc_nil : Asc [] := List.Pairwise.nil
theorem grow_eq {c : Int} (h : 0 ≤ c ∧ c ≤ 6) : max (wrap64 (c + 1)) 0 = wrap64 (c + 1) := by
  have e : wrap64 (c + 1) = c + 1 := by unfold wrap64; omega
  rw [e]; omega
theorem shrink_eq {c : Int} (h : 0 ≤ c ∧ c ≤ 6) : max (wrap64 (c + (-1))) 0 = wrap64 ((if c < 1 then 1 else c) - 1) := by
  split
  · obtain rfl : c = 0 := by omega
    have e : wrap64 (0 + (-1)) = -1 := by unfold wrap64; omega
    have e2 : wrap64 (1 - 1) = 0 := by unfold wrap64; omega
    rw [e, e2]; rfl
  · have e : wrap64 (c + (-1)) = c - 1 := by unfold wrap64; omega
    have e2 : wrap64 (c - 1) = c - 1 := by unfold wrap64; omega
    rw [e, e2]; omega
theorem place_neg2 {h : Int} (hh : ¬ (1 ≤ h ∧ h ≤ 6)) : placeN 2 h < 0 ∧ placeN 5 h < 0 ∧ placeN 3 (classN h) < 0 := by
  refine ⟨?_, ?_, ?_⟩
  · unfold placeN; rw [if_neg (by omega), if_neg (by omega), if_neg (by omega), if_neg (by omega), if_neg (by omega)]; omega
  · unfold placeN; rw [if_neg (by omega), if_neg (by omega), if_neg (by omega), if_neg (by omega), if_neg (by omega)]; omega
  · unfold classN; rw [if_neg hh]; decide
theorem class_ne {h v : Int} (hh : ¬ (1 ≤ h ∧ h ≤ 6)) (hv : 1 ≤ v ∧ v ≤ 6) : ¬ classN h = classN v := by
  unfold classN; rw [if_neg hh, if_pos hv]; omega
section
variable {xs : List Int} {st k v : Int}
theorem eq_put (hok : OkRows xs st) (hg : OpGood 1 k v) (hn : nowL (KF xs st 1 k v) (KM xs st 1 k v) 1 k v = []) :
    changeL (KF xs st 1 k v) (KM xs st 1 k v) 1 k v = (flatE (sortL (gotL (KF xs st 1 k v) (KM xs st 1 k v) 1 k v)), (sortL (gotL (KF xs st 1 k v) (KM xs st 1 k v) 1 k v)).length) := by
  have hnd := got_nodup hok hg hn
  have hrd := kn_rd hok hg
  have hsm := kn_small (kind := 1) (k := k) (v := v) hok
  obtain ⟨hkk, hkey, hval⟩ := hg
  have hk : 0 ≤ k ∧ k ≤ 3 := by unfold KeyGood at hkey; omega
  have hv : 1 ≤ v ∧ v ≤ 6 := by unfold ValGood at hval; omega
  rw [nowL_1] at hn
  obtain ⟨h1, h2⟩ := ifL_nilApp hn
  have h2 := ifL_nil h2
  simp only [bne_eq_false_iff_eq] at h1 h2
  generalize KF xs st 1 k v = fs at *
  generalize KM xs st 1 k v = m at *
  have hr : (readF fs (placeN 1 k) m).1 = 0 := by rw [← hrd]; exact h1
  have n0 : ¬ (1 ≤ (0 : Int) ∧ (0 : Int) ≤ 6) := by omega
  obtain ⟨q1, q2, q3⟩ := place_neg2 n0
  unfold changeL changeB changeA
  rw [hr, if_neg (show ¬ (1 : Int) = 3 by omega), if_neg (class_ne n0 hv), nil_pair]
  simp only [addL_flat]
  refine pair_of_sorted ?_ ?_ hnd
  · exact addN_asc (addN_asc (addN_asc (addN_asc (addN_asc (addN_asc (addN_asc (addN_asc asc_nil _ _ _ _) _ _ _ _) _ _ _ _) _ _ _ _) _ _ _ _) _ _ _ _) _ _ _ _) _ _ _ _
  · intro a
    simp only [count_addN]
    rw [oneR_neg _ _ _ q1, oneR_neg _ _ _ q2, oneR_neg _ _ _ q3, grow_eq (hsm _)]
    unfold gotL stepsT putS
    rw [if_pos rfl]
    unfold becS growS stayS
    rw [count_tell, words_ask (by simpa using h1), count_tell, words_ask (by simpa using h2), count_tell, count_tell, words_ask (by rfl), count_tell, oneR_rd fs m 13, hrd (placeN 3 (classN v))]
    simp only [wordsT, List.filter_nil, List.count_nil]
    omega
theorem got_2 (fs : List Int) (m : Nat) (k v : Int) : gotL fs m 2 k v = (wordsT true (setS true fs m k v)).filter (goR fs m) := rfl
theorem got_3 (fs : List Int) (m : Nat) (k v : Int) : gotL fs m 3 k v = (wordsT true (delS true fs m k)).filter (goR fs m) := rfl
theorem got_7 (fs : List Int) (m : Nat) (k v : Int) : gotL fs m 7 k v = (wordsT true (scanS fs m)).filter (goR fs m) := rfl
theorem got_8 (fs : List Int) (m : Nat) (k v : Int) : gotL fs m 8 k v = (wordsT true [growS fs m 13]).filter (goR fs m) := rfl
theorem got_9 (fs : List Int) (m : Nat) (k v : Int) : gotL fs m 9 k v = (wordsT true (makeS fs m)).filter (goR fs m) := rfl
theorem got_10 (fs : List Int) (m : Nat) (k v : Int) : gotL fs m 10 k v = (wordsT true (viaS fs m v)).filter (goR fs m) := rfl
theorem eq_del (hok : OkRows xs st) (hg : OpGood 3 k v) (hn : nowL (KF xs st 3 k v) (KM xs st 3 k v) 3 k v = []) :
    changeL (KF xs st 3 k v) (KM xs st 3 k v) 3 k v = (flatE (sortL (gotL (KF xs st 3 k v) (KM xs st 3 k v) 3 k v)), (sortL (gotL (KF xs st 3 k v) (KM xs st 3 k v) 3 k v)).length) := by
  have hnd := got_nodup hok hg hn
  have hrd := kn_rd hok hg
  have hsm := kn_small (kind := 3) (k := k) (v := v) hok
  rw [nowL_3] at hn
  have h1 := ifL_nil hn
  simp only [beq_eq_false_iff_ne, ne_eq] at h1
  generalize KF xs st 3 k v = fs at *
  generalize KM xs st 3 k v = m at *
  obtain ⟨h, hh⟩ : ∃ h, rd fs m (placeN 1 k) = h := ⟨_, rfl⟩
  have hh' : (readF fs (placeN 1 k) m).1 = h := by rw [← hrd]; exact hh
  have hh6 := hsm (placeN 1 k)
  rw [hh'] at hh6
  rw [hh] at h1
  have hv : 1 ≤ h ∧ h ≤ 6 := by omega
  have n0 : ¬ (1 ≤ (0 : Int) ∧ (0 : Int) ≤ 6) := by omega
  obtain ⟨q1, q2, q3⟩ := place_neg2 n0
  unfold changeL changeB changeA
  rw [hh', if_pos rfl, if_neg (fun e => class_ne n0 hv e.symm), nil_pair]
  simp only [addL_flat]
  refine pair_of_sorted ?_ ?_ hnd
  · exact addN_asc (addN_asc (addN_asc (addN_asc (addN_asc (addN_asc (addN_asc (addN_asc asc_nil _ _ _ _) _ _ _ _) _ _ _ _) _ _ _ _) _ _ _ _) _ _ _ _) _ _ _ _) _ _ _ _
  · intro a
    simp only [count_addN]
    rw [oneR_neg _ _ _ q1, oneR_neg _ _ _ q2, oneR_neg _ _ _ q3, shrink_eq (hsm _), got_3]
    unfold delS becS shrinkS stayS
    dsimp only
    rw [count_tell, hh, count_tell, count_tell, count_tell, words_ask (by rfl), count_tell, oneR_rd fs m 13, hrd (placeN 3 (classN h))]
    simp only [wordsT, List.filter_nil, List.count_nil]
    omega
theorem eq_set (hok : OkRows xs st) (hg : OpGood 2 k v) (hn : nowL (KF xs st 2 k v) (KM xs st 2 k v) 2 k v = []) :
    changeL (KF xs st 2 k v) (KM xs st 2 k v) 2 k v = (flatE (sortL (gotL (KF xs st 2 k v) (KM xs st 2 k v) 2 k v)), (sortL (gotL (KF xs st 2 k v) (KM xs st 2 k v) 2 k v)).length) := by
  have hnd := got_nodup hok hg hn
  have hrd := kn_rd hok hg
  have hsm := kn_small (kind := 2) (k := k) (v := v) hok
  rw [nowL_2] at hn
  have hn2 := List.append_eq_nil_iff.1 hn
  have hn3 := List.append_eq_nil_iff.1 hn2.1
  have h1 := ifL_nil hn3.1
  have h2 := ifL_nil hn3.2
  have h3 := ifL_nil hn2.2
  simp only [beq_eq_false_iff_ne, ne_eq, bne_eq_false_iff_eq] at h1 h2 h3
  generalize KF xs st 2 k v = fs at *
  generalize KM xs st 2 k v = m at *
  obtain ⟨h, hh⟩ : ∃ h, rd fs m (placeN 1 k) = h := ⟨_, rfl⟩
  have hh' : (readF fs (placeN 1 k) m).1 = h := by rw [← hrd]; exact hh
  rw [hh] at h1 h2
  have a1 : decide (rd fs m (placeN 1 k) ≠ 0) = true := by rw [hh]; exact decide_eq_true h1
  have a2 : decide (rd fs m (placeN 1 k) ≠ v) = true := by rw [hh]; exact decide_eq_true h2
  have a3 : decide (rd fs m (placeN 2 v) = 0) = true := decide_eq_true h3
  unfold changeL changeB changeA
  rw [hh', if_neg (show ¬ (2 : Int) = 3 by omega), nil_pair]
  by_cases hc : classN h = classN v
  · rw [if_pos hc]
    simp only [addL_flat]
    refine pair_of_sorted ?_ ?_ hnd
    · exact addN_asc (addN_asc (addN_asc (addN_asc (addN_asc (addN_asc asc_nil _ _ _ _) _ _ _ _) _ _ _ _) _ _ _ _) _ _ _ _) _ _ _ _
    · intro a
      simp only [count_addN]
      rw [got_2]
      unfold setS moveS becS shrinkS growS stayS
      dsimp only
      rw [hh, if_pos hc]
      simp only [List.cons_append, List.nil_append, List.append_nil]
      rw [← hh, count_tell, words_ask a1, words_ask a2, hh, count_tell, words_ask a3, count_tell, count_tell, words_ask (by rfl), count_tell, count_tell, oneR_rd fs m 13]
      simp only [wordsT, List.filter_nil, List.count_nil]
      omega
  · rw [if_neg hc]
    simp only [addL_flat]
    refine pair_of_sorted ?_ ?_ hnd
    · exact addN_asc (addN_asc (addN_asc (addN_asc (addN_asc (addN_asc (addN_asc (addN_asc asc_nil _ _ _ _) _ _ _ _) _ _ _ _) _ _ _ _) _ _ _ _) _ _ _ _) _ _ _ _) _ _ _ _
    · intro a
      simp only [count_addN]
      rw [shrink_eq (hsm _), grow_eq (hsm _), got_2]
      unfold setS moveS becS shrinkS growS stayS
      dsimp only
      rw [hh, if_neg hc]
      simp only [List.cons_append, List.nil_append]
      rw [← hh, count_tell, words_ask a1, words_ask a2, hh, count_tell, words_ask a3, count_tell, count_tell, count_tell, count_tell, words_ask (by rfl), count_tell, count_tell, oneR_rd fs m 13, hrd (placeN 3 (classN h)), hrd (placeN 3 (classN v))]
      simp only [wordsT, List.filter_nil, List.count_nil]
      omega
theorem eq_scan (hok : OkRows xs st) (hg : OpGood 7 k v) (hn : nowL (KF xs st 7 k v) (KM xs st 7 k v) 7 k v = []) :
    scanL (KF xs st 7 k v) (KM xs st 7 k v) 4 = (flatE (sortL (gotL (KF xs st 7 k v) (KM xs st 7 k v) 7 k v)), (sortL (gotL (KF xs st 7 k v) (KM xs st 7 k v) 7 k v)).length) := by
  have hnd := got_nodup hok hg hn
  generalize KF xs st 7 k v = fs at *
  generalize KM xs st 7 k v = m at *
  simp only [scanL]
  rw [nil_pair]
  simp only [addL_flat]
  refine pair_of_sorted ?_ ?_ hnd
  · exact addN_asc (addN_asc (addN_asc (addN_asc asc_nil _ _ _ _) _ _ _ _) _ _ _ _) _ _ _ _
  · intro a
    simp only [count_addN]
    rw [got_7]
    unfold scanS stayS
    rw [count_tell, count_tell, count_tell, count_tell, oneR_rd, oneR_rd, oneR_rd, oneR_rd]
    simp only [wordsT, List.filter_nil, List.count_nil]
    have e0 : ((0 : Nat) : Int) = 0 := rfl
    have e1 : ((1 : Nat) : Int) = 1 := rfl
    have e2 : ((2 : Nat) : Int) = 2 := rfl
    have e3 : ((3 : Nat) : Int) = 3 := rfl
    simp only [e0, e1, e2, e3]
    omega
theorem eq_open (hok : OkRows xs st) (hg : OpGood 8 k v) (hn : nowL (KF xs st 8 k v) (KM xs st 8 k v) 8 k v = []) :
    addL ([], 0) (KF xs st 8 k v) (KM xs st 8 k v) 13 1 = (flatE (sortL (gotL (KF xs st 8 k v) (KM xs st 8 k v) 8 k v)), (sortL (gotL (KF xs st 8 k v) (KM xs st 8 k v) 8 k v)).length) := by
  have hnd := got_nodup hok hg hn
  rw [nowL_8] at hn
  have h1 := ifL_nil hn
  simp only [bne_eq_false_iff_eq] at h1
  generalize KF xs st 8 k v = fs at *
  generalize KM xs st 8 k v = m at *
  rw [nil_pair]
  simp only [addL_flat]
  refine pair_of_sorted (addN_asc asc_nil _ _ _ _) ?_ hnd
  intro a
  have e : wrap64 (0 + 1) = 1 := by unfold wrap64; omega
  rw [count_addN, got_8]
  unfold growS
  rw [count_tell, h1, e]
  simp only [wordsT, List.filter_nil, List.count_nil]
theorem eq_via (hok : OkRows xs st) (hg : OpGood 10 k v) (hn : nowL (KF xs st 10 k v) (KM xs st 10 k v) 10 k v = []) :
    addL (addL (([], 0) : List Int × Nat) (KF xs st 10 k v) (KM xs st 10 k v) 13 (readF (KF xs st 10 k v) 13 (KM xs st 10 k v)).1) (KF xs st 10 k v) (KM xs st 10 k v) (placeN 5 v) (readF (KF xs st 10 k v) (placeN 5 v) (KM xs st 10 k v)).1 = (flatE (sortL (gotL (KF xs st 10 k v) (KM xs st 10 k v) 10 k v)), (sortL (gotL (KF xs st 10 k v) (KM xs st 10 k v) 10 k v)).length) := by
  have hnd := got_nodup hok hg hn
  rw [nowL_10] at hn
  have h1 := ifL_nil hn
  simp only [bne_eq_false_iff_eq] at h1
  generalize KF xs st 10 k v = fs at *
  generalize KM xs st 10 k v = m at *
  rw [nil_pair]
  simp only [addL_flat]
  refine pair_of_sorted (addN_asc (addN_asc asc_nil _ _ _ _) _ _ _ _) ?_ hnd
  intro a
  rw [count_addN, count_addN, got_10]
  unfold viaS stayS
  rw [count_tell, words_ask (by rw [h1]; rfl), count_tell, oneR_rd, oneR_rd]
  simp only [wordsT, List.filter_nil, List.count_nil]
  omega
theorem eq_make (hok : OkRows xs st) (hg : OpGood 9 k v) (hn : nowL (KF xs st 9 k v) (KM xs st 9 k v) 9 k v = []) :
    addL (addL (addL ([], 0) (KF xs st 9 k v) (KM xs st 9 k v) 13 (wrap64 ((readF (KF xs st 9 k v) 13 (KM xs st 9 k v)).1 + 1))) (KF xs st 9 k v) (KM xs st 9 k v) (placeN 1 (wrap64 ((readF (KF xs st 9 k v) 13 (KM xs st 9 k v)).1 - 1))) (readF (KF xs st 9 k v) (placeN 1 (wrap64 ((readF (KF xs st 9 k v) 13 (KM xs st 9 k v)).1 - 1))) (KM xs st 9 k v)).1) (KF xs st 9 k v) (KM xs st 9 k v) (placeN 5 (readF (KF xs st 9 k v) (placeN 1 (wrap64 ((readF (KF xs st 9 k v) 13 (KM xs st 9 k v)).1 - 1))) (KM xs st 9 k v)).1) (readF (KF xs st 9 k v) 13 (KM xs st 9 k v)).1 = (flatE (sortL (gotL (KF xs st 9 k v) (KM xs st 9 k v) 9 k v)), (sortL (gotL (KF xs st 9 k v) (KM xs st 9 k v) 9 k v)).length) := by
  have hnd := got_nodup hok hg hn
  have hrd := kn_rd hok hg
  have hsm := kn_small (kind := 9) (k := k) (v := v) hok
  generalize KF xs st 9 k v = fs at *
  generalize KM xs st 9 k v = m at *
  rw [nil_pair]
  simp only [addL_flat]
  refine pair_of_sorted (addN_asc (addN_asc (addN_asc asc_nil _ _ _ _) _ _ _ _) _ _ _ _) ?_ hnd
  intro a
  simp only [count_addN]
  rw [got_9]
  unfold makeS growS stayS becS
  dsimp only
  have hs := hsm 13
  have e : wrap64 (wrap64 ((readF fs 13 m).1 - 1) + 1) = (readF fs 13 m).1 := by
    have e1 : wrap64 ((readF fs 13 m).1 - 1) = (readF fs 13 m).1 - 1 := by unfold wrap64; omega
    rw [e1]; unfold wrap64; omega
  rw [count_tell, count_tell, count_tell, oneR_rd]
  simp only [hrd, e]
  simp only [wordsT, List.filter_nil, List.count_nil]
  omega
end
end
end Go.Proofs.YtenlapppaimkkabGreatDoor
