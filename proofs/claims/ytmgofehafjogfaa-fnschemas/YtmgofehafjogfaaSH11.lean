/- Texts joined: ImplCs, SortI, ImplIo. -/
import Derived.Test.YtmgofehafjogfaaSH09
import Derived.Test.YtmgofehafjogfaaSH10
import Derived.Test.YtmgofehafjogfaaSH01
import Derived.Below
import Derived.RegionTactic
import Derived.Deep.RegionHeld3
import Derived.Deep.Cut
import Derived.Test.YtmgofehafjogfaaSH08
import Derived.Maps.AppendAt
set_option maxHeartbeats 8000000
set_option maxRecDepth 100000
namespace Go.Proofs.Ytmgofehafjogfaa
section
open Go.ChangeShapes Go.WideShapes Go.ChangeAt Go.RowKit Go.Maps
theorem csBad_any (s : ByteArray) (k1 : Int) (fl : Bool) (w : World) :
    Calls Try.prog 83 #[.agg #[.string s, .int .i64 k1, .bool fl]] w fun e w' => e = .returned (.bool !(decide (1 ≤ k1 ∧ k1 ≤ 3))) ∧ Below w.heap.size w w' := by
  obtain ⟨W, hW⟩ : ∃ W, w.alloc (.cells #[.string s, .int .i64 k1, .bool fl] 75) = W := ⟨_, rfl⟩
  have HB0 : Hid (Below w.heap.size w W) := by rw [← hW]; exact (Below.refl _ w).alloc (Nat.le_refl _) _
  have X0 : Hid (Box W w.heap.size #[.string s, .int .i64 k1, .bool fl] 75) := by rw [← hW]; exact box_of w _ _
  have HW : Hid (w.alloc (.cells #[.string s, .int .i64 k1, .bool fl] 75) = W) := hW
  obtain ⟨B, hB⟩ : ∃ B, decide (1 ≤ k1 ∧ k1 ≤ 3) = B := ⟨_, rfl⟩
  rw [hB]
  have HI : Hid (inB k1 1 3 = B) := hB
  clear hB
  have c1 : W.cell? ⟨w.heap.size, 1, none⟩ = some (.int .i64 k1) := X0.out.cell 1
  clear hW
  go_enter Try.func83, Try.ntmps83
  go_upto_region 1 with (fail)
  rw [HW.out]
  go_wp2_with fail
  refine (within_g _ _ _ _).mono ?_
  rintro e w1 ⟨rfl, rfl⟩
  rw [HI.out]
  clear c1
  go_wp2
  go_ret
  exact ⟨rfl, HB0.out⟩
theorem ixCol_any (a : Option Addr) (n c : Nat) (L : List Col3) (w : World) (h : ColsAt w a n L) :
    Calls Try.prog 101 #[.slice a n c, .func (.func 83) #[] #[]] w fun e w' => ∃ q : Int, (e = .returned (.int .i64 q) ∧ (0 ≤ q ↔ ¬ ∀ x ∈ L, 1 ≤ x.2.1 ∧ x.2.1 ≤ 3)) ∧ Below w.heap.size w w' := by
  have HL : Hid (ColsAt w a n L) := h
  have hl := h.1
  have hn := h.2.1
  clear h
  go_enter Try.func101, Try.ntmps101
  go_wp2
  go_loopw [8] (fun i wr => ∃ j : Nat, j ≤ n ∧ i = .int .i64 (j : Int) ∧ (∀ x ∈ L.take j, 1 ≤ x.2.1 ∧ x.2.1 ≤ 3) ∧ Below w.heap.size w wr) (fun i _ => n - (RowKit.intOf i).toNat)
  case atStart => exact ⟨0, Nat.zero_le _, rfl, fun x hx => by simp at hx, Below.refl _ _⟩
  case round =>
    obtain ⟨j, hj, rfl, hg, hb⟩ := hrel
    have HG : Hid (∀ x ∈ L.take j, 1 ≤ x.2.1 ∧ x.2.1 ≤ 3) := hg
    have HBW : Hid (Below w.heap.size w wr) := hb
    clear hg hb
    by_cases hlt : j < n
    · rcases (HL.out.below HBW.out (Nat.le_refl _)).2.2 with h0 | ⟨p1, o1, rfl, g1⟩
      · omega
      obtain ⟨x, hx⟩ : ∃ x, L[j]? = some x := ⟨_, List.getElem?_eq_getElem (by omega)⟩
      obtain ⟨e0, e1, e2⟩ := g1 j x hx
      have HX : Hid (L[j]? = some x) := hx
      obtain ⟨s, k1, fl⟩ := x
      dsimp only at e0 e1 e2
      have hk0 : (0 : Int) ≤ (j : Int) := by omega
      have hk1 : (j : Int) < (n : Int) := by omega
      clear g1 hx
      go_wp2_with fail
      refine (csBad_any s k1 fl _).mono ?_
      rintro e w2 ⟨rfl, hb2⟩
      have HB2 : Hid (Below w.heap.size w w2) := HBW.out.trans (hb2.mono HBW.out.size)
      clear hb2 e0 e1 e2
      by_cases hv : 1 ≤ ((s, k1, fl) : Col3).2.1 ∧ ((s, k1, fl) : Col3).2.1 ≤ 3
      · rw [decide_eq_true hv]
        have hall : ∀ x ∈ L.take (j + 1), 1 ≤ x.2.1 ∧ x.2.1 ≤ 3 := take_all HG.out HX.out hv
        have HALL : Hid (∀ x ∈ L.take (j + 1), 1 ≤ x.2.1 ∧ x.2.1 ≤ 3) := hall
        clear hall hv
        go_wp2
        go_roundw
        case rel => exact ⟨j + 1, by omega, by go_num, HALL.out, HB2.out⟩
        case measure => simp [RowKit.intOf]; omega
      · rw [decide_eq_false hv]
        have HV : Hid (¬ ∀ x ∈ L, 1 ≤ x.2.1 ∧ x.2.1 ≤ 3) := fun h => hv (h _ (List.mem_of_getElem? HX.out))
        clear hv
        go_wp2
        go_ret
        exact ⟨(j : Int), ⟨rfl, ⟨fun _ => HV.out, fun _ => by omega⟩⟩, HB2.out⟩
    · obtain rfl : j = n := by omega
      have HALL : Hid (∀ x ∈ L, 1 ≤ x.2.1 ∧ x.2.1 ≤ 3) := by
        have h1 := HG.out
        rwa [List.take_of_length_le (by omega)] at h1
      go_wp2
      go_ret
      exact ⟨-1, ⟨rfl, ⟨fun h => by omega, fun h => absurd HALL.out h⟩⟩, HBW.out⟩
theorem cfCol_any (a : Option Addr) (n c : Nat) (L : List Col3) (w : World) (h : ColsAt w a n L) :
    Calls Try.prog 85 #[.slice a n c, .func (.func 83) #[] #[]] w fun e w' => e = .returned (.bool !(decide (∀ x ∈ L, 1 ≤ x.2.1 ∧ x.2.1 ≤ 3))) ∧ Below w.heap.size w w' := by
  have HL : Hid (ColsAt w a n L) := h
  clear h
  go_enter Try.func85, Try.ntmps85
  go_wp2_with fail
  refine (ixCol_any a n c L _ HL.out ).mono ?_
  rintro e w1 ⟨q, ⟨rfl, hr⟩, hb1⟩
  have HB1 : Hid (Below w.heap.size w w1) := hb1
  have HV : Hid (decide (0 ≤ q) = !(decide (∀ x ∈ L, 1 ≤ x.2.1 ∧ x.2.1 ≤ 3))) := by
    show _ = _
    by_cases hall : ∀ x ∈ L, 1 ≤ x.2.1 ∧ x.2.1 ≤ 3
    · rw [decide_eq_true hall, decide_eq_false (fun h => hr.1 h hall)]; rfl
    · rw [decide_eq_false hall, decide_eq_true (hr.2 hall)]; rfl
  clear hr hb1
  go_wp2
  go_ret
  exact ⟨by rw [HV.out]; rfl, HB1.out⟩
def CoGood (L : List Col3) : Prop := (1 ≤ L.length ∧ L.length ≤ 5) ∧ NmGood (L.map (·.1)) ∧ ∀ x ∈ L, 1 ≤ x.2.1 ∧ x.2.1 ≤ 3
instance (L : List Col3) : Decidable (CoGood L) := by unfold CoGood; infer_instance
theorem colsOk_any (a : Option Addr) (n c : Nat) (L : List Col3) (w : World) (h : ColsAt w a n L) (hsz : ∀ x ∈ L, x.1.size ≤ 1048576) :
    Calls Try.prog 50 #[.slice a n c] w fun e w' => e = .returned (.bool (decide (CoGood L))) ∧ Below w.heap.size w w' := by
  have HA : Hid (ColsAt w a n L) := h
  have HSZ : Hid (∀ x ∈ L, x.1.size ≤ 1048576) := hsz
  have hl := h.1
  obtain ⟨B, hB⟩ : ∃ B, decide (CoGood L) = B := ⟨_, rfl⟩
  rw [hB]
  have HB : Hid (decide (CoGood L) = B) := hB
  clear h hsz hB
  go_enter Try.func50, Try.ntmps50
  go_wp2_with fail
  refine (within_g _ _ _ _).mono ?_
  rintro e w1 ⟨rfl, rfl⟩
  by_cases hin : 1 ≤ (n : Int) ∧ (n : Int) ≤ 5
  · rw [inB_yes hin]
    have HIN : Hid (1 ≤ L.length ∧ L.length ≤ 5) := by show _ ∧ _; omega
    clear hin
    go_wp2_with fail
    refine (byNameCol_any a n c L _ HA.out HSZ.out).mono ?_
    rintro e w2 ⟨⟨rfl, D, hown, hd⟩, hb2⟩
    have HM : Hid (MapN w2 w1.heap.size n (w1.heap.size + 1) (posN (L.map (·.1)) n)) := mapN_groups hown hd
    have HB2 : Hid (Below w1.heap.size w1 w2) := hb2
    clear hown hd hb2
    go_wp2_with fail
    refine (namesOk_any _ _ n _ n (L.map (·.1)) HM.out (by rw [List.length_map]; exact hl) (fun x hx => by obtain ⟨y, hy, rfl⟩ := List.mem_map.1 hx; exact HSZ.out y hy)).mono ?_
    rintro e w3 ⟨rfl, hb3⟩
    have HB3 : Hid (Below w1.heap.size w1 w3) := HB2.out.trans (hb3.mono HB2.out.size)
    clear hb3
    by_cases hnm : NmGood (L.map (·.1))
    · rw [decide_eq_true hnm]
      have HNM : Hid (NmGood (L.map (·.1))) := hnm
      clear hnm
      go_wp2_with fail
      refine (cfCol_any a n c L _ (HA.out.below HB3.out (Nat.le_refl _))).mono ?_
      rintro e w4 ⟨rfl, hb4⟩
      have HB4 : Hid (Below w1.heap.size w1 w4) := HB3.out.trans (hb4.mono HB3.out.size)
      have HV : Hid (decide (∀ x ∈ L, 1 ≤ x.2.1 ∧ x.2.1 ≤ 3) = B) := by
        show _ = _
        rw [← HB.out]
        exact decide_eq_decide.2 ⟨fun h => ⟨HIN.out, HNM.out, h⟩, fun h => h.2.2⟩
      rw [HV.out]
      clear hb4
      go_wp2
      go_ret
      cases B <;> exact ⟨rfl, HB4.out⟩
    · rw [decide_eq_false hnm]
      have HV : Hid (false = B) := by
        show _ = _
        rw [← HB.out]
        exact (decide_eq_false fun h => hnm h.2.1).symm
      clear hnm
      go_wp2
      go_ret
      exact ⟨by rw [HV.out]; rfl, HB3.out⟩
  · rw [inB_no hin]
    have HV : Hid (false = B) := by
      show _ = _
      rw [← HB.out]
      exact (decide_eq_false fun h => hin (by have := h.1; omega)).symm
    clear hin
    go_wp2
    go_ret
    exact ⟨by rw [HV.out]; rfl, Below.refl _ _⟩
end
section
open Go.ChangeShapes Go.WideShapes Go.ChangeAt Go.RowKit
def SW (w : World) (g o n : Nat) (f : Nat → Int) : Prop := ∃ cs T, Box w g cs T ∧ ∀ i, i < n → cs[o + i]? = some (I (f i))
theorem SW.cell {w : World} {g o n : Nat} {f : Nat → Int} (h : SW w g o n f) (i : Nat) (hi : i < n) : w.cell? ⟨g, o + i, none⟩ = some (.int .i64 (f i)) := by
  obtain ⟨cs, T, hb, hc⟩ := h
  rw [hb.cell, hc i hi]
theorem SW.frozen {w : World} {g o n : Nat} {f : Nat → Int} (h : SW w g o n f) (i : Nat) : w.frozen? ⟨g, i, none⟩ = false := by
  obtain ⟨cs, T, hb, hc⟩ := h
  exact hb.frozen _
theorem SW.put {w : World} {g o n : Nat} {f : Nat → Int} (h : SW w g o n f) (k : Nat) (hk : k < n) (v : Int) : SW (w.setCell ⟨g, o + k, none⟩ (.int .i64 v)) g o n (fun i => if i = k then v else f i) := by
  obtain ⟨cs, T, hb, hc⟩ := h
  refine ⟨_, T, hb.put (o + k) _, fun i hi => ?_⟩
  have hlt : o + k < cs.size := (Array.getElem?_eq_some_iff.1 (hc k hk)).1
  rw [Array.getElem?_setIfInBounds]
  show _ = some (I (if i = k then v else f i))
  by_cases e : i = k
  · subst e
    rw [if_pos rfl, if_pos hlt, if_pos rfl]
  · rw [if_neg (by omega), hc i hi, if_neg e]
theorem SW.drew {w : World} {g o n : Nat} {f : Nat → Int} (h : SW w g o n f) : SW w.drew g o n f := h
def swp (k : Nat) (f : Nat → Int) (i : Nat) : Int := if i = k then f (k + 1) else if i = k + 1 then f k else f i
theorem swp_mem {k n : Nat} {f : Nat → Int} (hk : k + 1 < n) (x : Int) : (∃ i, i < n ∧ swp k f i = x) ↔ ∃ i, i < n ∧ f i = x := by
  constructor
  · rintro ⟨i, hi, rfl⟩
    unfold swp
    split
    · exact ⟨k + 1, hk, rfl⟩
    · split
      · exact ⟨k, by omega, rfl⟩
      · exact ⟨i, hi, rfl⟩
  · rintro ⟨i, hi, rfl⟩
    by_cases e : i = k
    · exact ⟨k + 1, hk, by unfold swp; rw [if_neg (by omega), if_pos rfl, e]⟩
    · by_cases e1 : i = k + 1
      · exact ⟨k, by omega, by unfold swp; rw [if_pos rfl, e1]⟩
      · exact ⟨i, hi, by unfold swp; rw [if_neg e, if_neg e1]⟩
theorem SW.congr {w : World} {g o n : Nat} {f f' : Nat → Int} (h : SW w g o n f) (e : ∀ i, f i = f' i) : SW w g o n f' := by
  rw [show f' = f from funext fun i => (e i).symm]; exact h
theorem SW.swap1 {w : World} {g o n k : Nat} {f : Nat → Int} (h : SW w g o n f) (hk : k + 1 < n) : SW ((w.setCell ⟨g, o + (k + 1), none⟩ (.int .i64 (f k))).setCell ⟨g, o + k, none⟩ (.int .i64 (f (k + 1)))) g o n (swp k f) :=
  ((h.put (k + 1) hk (f k)).put k (by omega) (f (k + 1))).congr fun i => rfl
theorem SW.swap2 {w : World} {g o n k : Nat} {f : Nat → Int} (h : SW w g o n f) (hk : k + 1 < n) : SW ((w.setCell ⟨g, o + k, none⟩ (.int .i64 (f (k + 1)))).setCell ⟨g, o + (k + 1), none⟩ (.int .i64 (f k))) g o n (swp k f) :=
  ((h.put k (by omega) (f (k + 1))).put (k + 1) hk (f k)).congr fun i => by
    show (if i = k + 1 then f k else if i = k then f (k + 1) else f i) = swp k f i
    unfold swp
    by_cases e : i = k
    · rw [if_neg (by omega), if_pos e, if_pos e]
    · by_cases e1 : i = k + 1
      · rw [if_pos e1, if_neg e, if_pos e1]
      · rw [if_neg e1, if_neg e, if_neg e, if_neg e1]
def InvJ (f : Nat → Int) (i j : Nat) : Prop := ∀ p q, p < q → q ≤ i → q ≠ j → f p ≤ f q
theorem swp_a (k : Nat) (f : Nat → Int) : swp k f k = f (k + 1) := if_pos rfl
theorem swp_b (k : Nat) (f : Nat → Int) : swp k f (k + 1) = f k := by unfold swp; rw [if_neg (by omega), if_pos rfl]
theorem swp_c {k i : Nat} (f : Nat → Int) (h : i ≠ k) (h1 : i ≠ k + 1) : swp k f i = f i := by unfold swp; rw [if_neg h, if_neg h1]
theorem inv_swp {f : Nat → Int} {i k : Nat} (h : InvJ f i (k + 1)) (hk : k + 1 ≤ i) (hl : f (k + 1) < f k) : InvJ (swp k f) i k := by
  intro p q hpq hq hne
  by_cases q1 : q = k + 1
  · subst q1
    rw [swp_b]
    by_cases p0 : p = k
    · subst p0; rw [swp_a]; omega
    · rw [swp_c f p0 (by omega)]
      exact h p k (by omega) (by omega) (by omega)
  · rw [swp_c f hne q1]
    by_cases p0 : p = k
    · subst p0; rw [swp_a]; exact h (p + 1) q (by omega) hq q1
    · by_cases p1 : p = k + 1
      · subst p1; rw [swp_b]; exact h k q (by omega) hq q1
      · rw [swp_c f p0 p1]; exact h p q hpq hq q1
theorem inv_end0 {f : Nat → Int} {i : Nat} (h : InvJ f i 0) : ∀ p q, p < q → q < i + 1 → f p ≤ f q := fun p q hpq hq => h p q hpq (by omega) (by omega)
theorem inv_end {f : Nat → Int} {i k : Nat} (h : InvJ f i (k + 1)) (hl : ¬ f (k + 1) < f k) : ∀ p q, p < q → q < i + 1 → f p ≤ f q := fun p q hpq hq => by
  by_cases e : q = k + 1
  · subst e
    by_cases e1 : p = k
    · subst e1; omega
    · have := h p k (by omega) (by omega) (by omega); omega
  · exact h p q hpq (by omega) e
theorem nanC_any (x : Int) (w : World) : Calls Try.prog 108 #[.int .i64 x] w fun e w' => e = .returned (.bool false) ∧ w' = w := by
  have hx : (x != x) = false := by simp
  go_enter Try.func108, Try.ntmps108
  go_wp2
  go_ret
  exact ⟨rfl, rfl⟩
theorem lessC_any (x y : Int) (w : World) : Calls Try.prog 102 #[.int .i64 x, .int .i64 y] w fun e w' => e = .returned (.bool (decide (x < y))) ∧ w' = w := by
  go_enter Try.func102, Try.ntmps102
  go_wp2_with fail
  refine (nanC_any x _).mono ?_
  rintro e w1 ⟨rfl, rfl⟩
  go_wp2
  go_ret
  exact ⟨rfl, rfl⟩
theorem insertion_any (g o n c : Nat) (f0 : Nat → Int) (hn : n ≤ 12) (w : World) (_ : g < w.heap.size) (h : SW w g o n f0) :
    Calls Try.prog 111 #[.slice (some ⟨g, o, none⟩) n c, .int .i64 0, .int .i64 n] w fun e w' => (e = .returned (.tuple #[]) ∧ ∃ f, SW w' g o n f ∧ (∀ x, (∃ i, i < n ∧ f i = x) ↔ ∃ i, i < n ∧ f0 i = x) ∧ ∀ p q, p < q → q < n → f p ≤ f q) ∧ Below g w w' := by
  have H : Hid (SW w g o n f0) := h
  clear h
  go_enter Try.func111, Try.ntmps111
  go_wp2
  go_loopw [6] (fun i wr => ∃ (k : Nat) (f : Nat → Int), 1 ≤ k ∧ (k ≤ n ∨ k = 1) ∧ i = .int .i64 k ∧ SW wr g o n f ∧ (∀ x, (∃ i, i < n ∧ f i = x) ↔ ∃ i, i < n ∧ f0 i = x) ∧ (∀ p q, p < q → q < k → f p ≤ f q) ∧ Below g w wr) (fun i _ => 13 - (intOf i).toNat)
  case atStart => exact ⟨1, f0, Nat.le_refl _, .inr rfl, rfl, H.out, fun _ => Iff.rfl, fun p q h1 h2 => by omega, Below.refl _ _⟩
  case round =>
    obtain ⟨i, f, hi1, hi2, rfl, hsw, hmem, hso, hb⟩ := hrel
    have HSW : Hid (SW wr g o n f) := hsw
    have HME : Hid (∀ x, (∃ i, i < n ∧ f i = x) ↔ ∃ i, i < n ∧ f0 i = x) := hmem
    have HSO : Hid (∀ p q, p < q → q < i → f p ≤ f q) := hso
    have HB : Hid (Below g w wr) := hb
    clear hsw hmem hso hb
    by_cases hlt : i < n
    · go_wp2
      go_loopw [7] (fun j wq => ∃ (k : Nat) (f : Nat → Int), k ≤ i ∧ j = .int .i64 k ∧ SW wq g o n f ∧ (∀ x, (∃ i, i < n ∧ f i = x) ↔ ∃ i, i < n ∧ f0 i = x) ∧ InvJ f i k ∧ Below g w wq) (fun j _ => (intOf j).toNat)
      case atStart => exact ⟨i, f, Nat.le_refl _, rfl, HSW.out, HME.out, fun p q h1 h2 h3 => HSO.out p q h1 (by omega), HB.out⟩
      case round =>
        clear HSW HME HSO HB f
        obtain ⟨j, f, hj, rfl, hsw, hmem, hinv, hb⟩ := hrel
        have HSW : Hid (SW _ g o n f) := hsw
        have HME : Hid (∀ x, (∃ i, i < n ∧ f i = x) ↔ ∃ i, i < n ∧ f0 i = x) := hmem
        have HIN : Hid (InvJ f i j) := hinv
        have HB : Hid (Below g w _) := hb
        clear hsw hmem hinv hb
        rcases j with _ | k
        · go_upto_region 4 with (fail)
          refine wp_region_held_drew (S := fun _ => True) (by kernel_rfl) trivial (fun hHeld => ?_)
          refine wpAnyH_take (i := 0) (oi := _) (v := ?v1_0) (by rw [List.getElem?_toArray]; exact rfl) (by kernel_rfl) (by kernel_rfl) (by kernel_rfl) (by intro _ _ _ h; exact h) (Or.inl ⟨by kernel_rfl, ?y1_0⟩) hHeld ?_
          case y1_0 =>
            intro w hSw
            clear hSw
            go_simp
            (try with_reducible rfl)
          (try simp only [Act.put, List.setIfInBounds_toArray, List.set_cons_zero, List.set_cons_succ])
          refine wpAnyH_take (i := 1) (oi := _) (v := ?v1_1) (by rw [List.getElem?_toArray]; exact rfl) (by kernel_rfl) (by kernel_rfl) (by kernel_rfl) (by intro _ _ _ h; exact h) (Or.inl ⟨by kernel_rfl, ?y1_1⟩) hHeld ?_
          case y1_1 =>
            intro w hSw
            clear hSw
            go_simp
            (try with_reducible rfl)
          (try simp only [Act.put, List.setIfInBounds_toArray, List.set_cons_zero, List.set_cons_succ])
          refine wpAnyH_take (i := 2) (oi := _) (v := .bool false) (by rw [List.getElem?_toArray]; exact rfl) (by kernel_rfl) (by kernel_rfl) (by kernel_rfl) (by intro _ _ _ h; exact h) (Or.inl ⟨by kernel_rfl, ?y1_2⟩) hHeld ?_
          case y1_2 =>
            intro w hSw
            clear hSw
            go_simp
            (try with_reducible rfl)
          (try simp only [Act.put, List.setIfInBounds_toArray, List.set_cons_zero, List.set_cons_succ])
          refine wpAnyH_take (i := 3) (oi := _) (v := .bool false) (by rw [List.getElem?_toArray]; exact rfl) (by kernel_rfl) (by kernel_rfl) (by kernel_rfl) (by intro _ _ _ h; exact h) (Or.inl ⟨by kernel_rfl, ?y1_3⟩) hHeld ?_
          case y1_3 =>
            intro w hSw
            clear hSw
            go_simp
            (try with_reducible rfl)
          (try simp only [Act.put, List.setIfInBounds_toArray, List.set_cons_zero, List.set_cons_succ])
          refine wpAnyH_take (i := 4) (oi := _) (v := undef) (by rw [List.getElem?_toArray]; exact rfl) (by kernel_rfl) (by kernel_rfl) (by kernel_rfl) (by intro _ _ _ h; exact h) (Or.inr ⟨by kernel_rfl, rfl⟩) hHeld ?_
          (try simp only [Act.put, List.setIfInBounds_toArray, List.set_cons_zero, List.set_cons_succ])
          refine wpAnyH_take (i := 5) (oi := _) (v := undef) (by rw [List.getElem?_toArray]; exact rfl) (by kernel_rfl) (by kernel_rfl) (by kernel_rfl) (by intro _ _ _ h; exact h) (Or.inr ⟨by kernel_rfl, rfl⟩) hHeld ?_
          (try simp only [Act.put, List.setIfInBounds_toArray, List.set_cons_zero, List.set_cons_succ])
          refine wpAnyH_take (i := 6) (oi := _) (v := undef) (by rw [List.getElem?_toArray]; exact rfl) (by kernel_rfl) (by kernel_rfl) (by kernel_rfl) (by intro _ _ _ h; exact h) (Or.inr ⟨by kernel_rfl, rfl⟩) hHeld ?_
          (try simp only [Act.put, List.setIfInBounds_toArray, List.set_cons_zero, List.set_cons_succ])
          refine wpAnyH_take (i := 7) (oi := _) (v := undef) (by rw [List.getElem?_toArray]; exact rfl) (by kernel_rfl) (by kernel_rfl) (by kernel_rfl) (by intro _ _ _ h; exact h) (Or.inr ⟨by kernel_rfl, rfl⟩) hHeld ?_
          (try simp only [Act.put, List.setIfInBounds_toArray, List.set_cons_zero, List.set_cons_succ])
          refine wpAnyH_take (i := 8) (oi := _) (v := undef) (by rw [List.getElem?_toArray]; exact rfl) (by kernel_rfl) (by kernel_rfl) (by kernel_rfl) (by intro _ _ _ h; exact h) (Or.inr ⟨by kernel_rfl, rfl⟩) hHeld ?_
          (try simp only [Act.put, List.setIfInBounds_toArray, List.set_cons_zero, List.set_cons_succ])
          refine wpAnyH_take (i := 9) (oi := _) (v := undef) (by rw [List.getElem?_toArray]; exact rfl) (by kernel_rfl) (by kernel_rfl) (by kernel_rfl) (by intro _ _ _ h; exact h) (Or.inr ⟨by kernel_rfl, rfl⟩) hHeld ?_
          (try simp only [Act.put, List.setIfInBounds_toArray, List.set_cons_zero, List.set_cons_succ])
          refine wpAnyH_take (i := 10) (oi := _) (v := undef) (by rw [List.getElem?_toArray]; exact rfl) (by kernel_rfl) (by kernel_rfl) (by kernel_rfl) (by intro _ _ _ h; exact h) (Or.inr ⟨by kernel_rfl, rfl⟩) hHeld ?_
          (try simp only [Act.put, List.setIfInBounds_toArray, List.set_cons_zero, List.set_cons_succ])
          refine wpAnyH_take (i := 11) (oi := _) (v := undef) (by rw [List.getElem?_toArray]; exact rfl) (by kernel_rfl) (by kernel_rfl) (by kernel_rfl) (by intro _ _ _ h; exact h) (Or.inr ⟨by kernel_rfl, rfl⟩) hHeld ?_
          (try simp only [Act.put, List.setIfInBounds_toArray, List.set_cons_zero, List.set_cons_succ])
          refine wpAnyH_take (i := 12) (oi := _) (v := undef) (by rw [List.getElem?_toArray]; exact rfl) (by kernel_rfl) (by kernel_rfl) (by kernel_rfl) (by intro _ _ _ h; exact h) (Or.inr ⟨by kernel_rfl, rfl⟩) hHeld ?_
          (try simp only [Act.put, List.setIfInBounds_toArray, List.set_cons_zero, List.set_cons_succ])
          refine wpAnyH_ready (rs := [13]) (by kernel_rfl) (by simp) ?_
          refine AllReadyH.cons (o := _) (by rw [List.getElem?_toArray]; exact rfl) (fun K hK => ?_) AllReadyH.nil
          rw [if_neg (by rw [show Region.wanted _ _ = false by kernel_rfl]; decide)]
          refine hK.out _ _ hHeld (fun hHeld => ?_)
          clear hK K
          (try simp only [Act.put, List.setIfInBounds_toArray, List.set_cons_zero, List.set_cons_succ])
          refine wpAnyH_take (i := 14) (oi := _) (v := .bool false) (by rw [List.getElem?_toArray]; exact rfl) (by kernel_rfl) (by kernel_rfl) (by kernel_rfl) (by intro _ _ _ h; exact h) (Or.inl ⟨by kernel_rfl, ?y1_14⟩) hHeld ?_
          case y1_14 =>
            intro w hSw
            clear hSw
            go_simp
            (try with_reducible rfl)
          (try simp only [Act.put, List.setIfInBounds_toArray, List.set_cons_zero, List.set_cons_succ])
          refine wpAnyH_done (by kernel_rfl) ?_ _
          (try simp only [Exit.then])
          go_wp2
          have hso := inv_end0 HIN.out
          have hsw := HSW.out.drew
          have hb := HB.out.drew
          exact ⟨⟨i + 1, f, by omega, by omega, by go_num, hsw, HME.out, hso, hb⟩, by simp [intOf]; omega⟩
        · obtain ⟨x, hx⟩ : ∃ x, f (k + 1) = x := ⟨_, rfl⟩
          obtain ⟨y, hy⟩ : ∃ y, f k = y := ⟨_, rfl⟩
          have c1 := HSW.out.cell (k + 1) (by omega)
          have c0 := HSW.out.cell k (by omega)
          have n1 := HSW.out.frozen (o + (k + 1))
          have n0 := HSW.out.frozen (o + k)
          rw [hx] at c1
          rw [hy] at c0
          have hk0 : (0 : Int) ≤ (k : Int) + 1 := by omega
          have hk1 : (k : Int) + 1 < (n : Int) := by omega
          have hk2 : (0 : Int) ≤ (k : Int) := by omega
          have hk3 : (k : Int) < (n : Int) := by omega
          have hwk : IntKind.i64.wrap (k : Int) = (k : Int) := by rw [IntKind.wrap_i64]; omega
          have HX : Hid (f (k + 1) = x) := hx
          have HY : Hid (f k = y) := hy
          clear hx hy
          by_cases hxy : x < y
          · go_upto_region 4 with (fail)
            refine wp_region_held_drew (S := fun z => z.cell? ⟨g, o + (k + 1), none⟩ = some (.int .i64 x) ∧ z.cell? ⟨g, o + k, none⟩ = some (.int .i64 y)) (by kernel_rfl) ⟨c1, c0⟩ (fun hHeld => ?_)
            refine wpAnyH_take (i := 0) (oi := _) (v := ?v2_0) (by rw [List.getElem?_toArray]; exact rfl) (by kernel_rfl) (by kernel_rfl) (by kernel_rfl) (by intro _ _ _ h; exact h) (Or.inl ⟨by kernel_rfl, ?y2_0⟩) hHeld ?_
            case y2_0 =>
              intro w hSw
              obtain ⟨s0, s1⟩ := hSw
              go_simp
              (try with_reducible rfl)
            (try simp only [Act.put, List.setIfInBounds_toArray, List.set_cons_zero, List.set_cons_succ])
            refine wpAnyH_take (i := 1) (oi := _) (v := ?v2_1) (by rw [List.getElem?_toArray]; exact rfl) (by kernel_rfl) (by kernel_rfl) (by kernel_rfl) (by intro _ _ _ h; exact h) (Or.inl ⟨by kernel_rfl, ?y2_1⟩) hHeld ?_
            case y2_1 =>
              intro w hSw
              obtain ⟨s0, s1⟩ := hSw
              go_simp
              (try with_reducible rfl)
            (try simp only [Act.put, List.setIfInBounds_toArray, List.set_cons_zero, List.set_cons_succ])
            refine wpAnyH_take (i := 2) (oi := _) (v := .bool true) (by rw [List.getElem?_toArray]; exact rfl) (by kernel_rfl) (by kernel_rfl) (by kernel_rfl) (by intro _ _ _ h; exact h) (Or.inl ⟨by kernel_rfl, ?y2_2⟩) hHeld ?_
            case y2_2 =>
              intro w hSw
              obtain ⟨s0, s1⟩ := hSw
              go_simp
              (try with_reducible rfl)
            (try simp only [Act.put, List.setIfInBounds_toArray, List.set_cons_zero, List.set_cons_succ])
            refine wpAnyH_take (i := 3) (oi := _) (v := .bool true) (by rw [List.getElem?_toArray]; exact rfl) (by kernel_rfl) (by kernel_rfl) (by kernel_rfl) (by intro _ _ _ h; exact h) (Or.inl ⟨by kernel_rfl, ?y2_3⟩) hHeld ?_
            case y2_3 =>
              intro w hSw
              obtain ⟨s0, s1⟩ := hSw
              go_simp
              (try with_reducible rfl)
            (try simp only [Act.put, List.setIfInBounds_toArray, List.set_cons_zero, List.set_cons_succ])
            refine wpAnyH_take (i := 4) (oi := _) (v := ?v2_4) (by rw [List.getElem?_toArray]; exact rfl) (by kernel_rfl) (by kernel_rfl) (by kernel_rfl) (by intro _ _ _ h; exact h) (Or.inl ⟨by kernel_rfl, ?y2_4⟩) hHeld ?_
            case y2_4 =>
              intro w hSw
              obtain ⟨s0, s1⟩ := hSw
              go_simp
              (try with_reducible rfl)
            (try simp only [Act.put, List.setIfInBounds_toArray, List.set_cons_zero, List.set_cons_succ])
            refine wpAnyH_take (i := 5) (oi := _) (v := ?v2_5) (by rw [List.getElem?_toArray]; exact rfl) (by kernel_rfl) (by kernel_rfl) (by kernel_rfl) (by intro _ _ _ h; exact h) (Or.inl ⟨by kernel_rfl, ?y2_5⟩) hHeld ?_
            case y2_5 =>
              intro w hSw
              obtain ⟨s0, s1⟩ := hSw
              go_simp
              (try with_reducible rfl)
            (try simp only [Act.put, List.setIfInBounds_toArray, List.set_cons_zero, List.set_cons_succ])
            refine wpAnyH_take (i := 6) (oi := _) (v := ?v2_6) (by rw [List.getElem?_toArray]; exact rfl) (by kernel_rfl) (by kernel_rfl) (by kernel_rfl) (by intro _ _ _ h; exact h) (Or.inl ⟨by kernel_rfl, ?y2_6⟩) hHeld ?_
            case y2_6 =>
              intro w hSw
              obtain ⟨s0, s1⟩ := hSw
              go_simp
              (try with_reducible rfl)
            (try simp only [Act.put, List.setIfInBounds_toArray, List.set_cons_zero, List.set_cons_succ])
            refine wpAnyH_take (i := 7) (oi := _) (v := ?v2_7) (by rw [List.getElem?_toArray]; exact rfl) (by kernel_rfl) (by kernel_rfl) (by kernel_rfl) (by intro _ _ _ h; exact h) (Or.inl ⟨by kernel_rfl, ?y2_7⟩) hHeld ?_
            case y2_7 =>
              intro w hSw
              obtain ⟨s0, s1⟩ := hSw
              go_simp
              (try with_reducible rfl)
            (try simp only [Act.put, List.setIfInBounds_toArray, List.set_cons_zero, List.set_cons_succ])
            refine wpAnyH_take (i := 8) (oi := _) (v := ?v2_8) (by rw [List.getElem?_toArray]; exact rfl) (by kernel_rfl) (by kernel_rfl) (by kernel_rfl) (by intro _ _ _ h; exact h) (Or.inl ⟨by kernel_rfl, ?y2_8⟩) hHeld ?_
            case y2_8 =>
              intro w hSw
              obtain ⟨s0, s1⟩ := hSw
              go_simp
              (try with_reducible rfl)
            (try simp only [Act.put, List.setIfInBounds_toArray, List.set_cons_zero, List.set_cons_succ])
            refine wpAnyH_take (i := 9) (oi := _) (v := ?v2_9) (by rw [List.getElem?_toArray]; exact rfl) (by kernel_rfl) (by kernel_rfl) (by kernel_rfl) (by intro _ _ _ h; exact h) (Or.inl ⟨by kernel_rfl, ?y2_9⟩) hHeld ?_
            case y2_9 =>
              intro w hSw
              obtain ⟨s0, s1⟩ := hSw
              go_simp
              (try with_reducible rfl)
            (try simp only [Act.put, List.setIfInBounds_toArray, List.set_cons_zero, List.set_cons_succ])
            refine wpAnyH_take (i := 10) (oi := _) (v := .int .i64 (k : Int)) (by rw [List.getElem?_toArray]; exact rfl) (by kernel_rfl) (by kernel_rfl) (by kernel_rfl) (by intro _ _ _ h; exact h) (Or.inl ⟨by kernel_rfl, ?y2_10⟩) hHeld ?_
            case y2_10 =>
              intro w hSw
              obtain ⟨s0, s1⟩ := hSw
              go_simp
              (try with_reducible rfl)
            (try simp only [Act.put, List.setIfInBounds_toArray, List.set_cons_zero, List.set_cons_succ])
            refine wpAnyH_take (i := 11) (oi := _) (v := ?v2_11) (by rw [List.getElem?_toArray]; exact rfl) (by kernel_rfl) (by kernel_rfl) (by kernel_rfl) (by intro _ _ _ h; exact h) (Or.inl ⟨by kernel_rfl, ?y2_11⟩) hHeld ?_
            case y2_11 =>
              intro w hSw
              obtain ⟨s0, s1⟩ := hSw
              go_simp
              (try with_reducible rfl)
            (try simp only [Act.put, List.setIfInBounds_toArray, List.set_cons_zero, List.set_cons_succ])
            refine wpAnyH_take (i := 12) (oi := _) (v := ?v2_12) (by rw [List.getElem?_toArray]; exact rfl) (by kernel_rfl) (by kernel_rfl) (by kernel_rfl) (by intro _ _ _ h; exact h) (Or.inl ⟨by kernel_rfl, ?y2_12⟩) hHeld ?_
            case y2_12 =>
              intro w hSw
              obtain ⟨s0, s1⟩ := hSw
              go_simp
              (try with_reducible rfl)
            (try simp only [Act.put, List.setIfInBounds_toArray, List.set_cons_zero, List.set_cons_succ])
            refine wpAnyH_ready (rs := [13]) (by kernel_rfl) (by simp) ?_
            refine AllReadyH.cons (o := _) (by rw [List.getElem?_toArray]; exact rfl) (fun K hK => ?_) AllReadyH.nil
            rw [if_pos (by kernel_rfl)]
            go_simp
            refine (lessC_any x y _).mono ?_
            rintro e w1 ⟨rfl, rfl⟩
            rw [decide_eq_true hxy]
            refine hK.out _ _ hHeld (fun hHeld => ?_)
            clear hK K
            (try simp only [Act.put, List.setIfInBounds_toArray, List.set_cons_zero, List.set_cons_succ])
            refine wpAnyH_take (i := 14) (oi := _) (v := .bool true) (by rw [List.getElem?_toArray]; exact rfl) (by kernel_rfl) (by kernel_rfl) (by kernel_rfl) (by intro _ _ _ h; exact h) (Or.inl ⟨by kernel_rfl, ?y2_14⟩) hHeld ?_
            case y2_14 =>
              intro w hSw
              obtain ⟨s0, s1⟩ := hSw
              go_simp
              (try with_reducible rfl)
            (try simp only [Act.put, List.setIfInBounds_toArray, List.set_cons_zero, List.set_cons_succ])
            refine wpAnyH_done (by kernel_rfl) ?_ _
            (try simp only [Exit.then])
            obtain ⟨wd, hwd⟩ : ∃ wd, wr.drew = wd := ⟨_, rfl⟩
            have HSD : Hid (SW wd g o n f) := by rw [← hwd]; exact HSW.out.drew
            have HBD : Hid (Below g w wd) := by rw [← hwd]; exact HB.out.drew
            rw [hwd]
            clear hwd c0 c1 n0 n1 HSW HB
            have c1 := HSD.out.cell (k + 1) (by omega)
            have c0 := HSD.out.cell k (by omega)
            have n1 := HSD.out.frozen (o + (k + 1))
            have n0 := HSD.out.frozen (o + k)
            rw [HX.out] at c1
            rw [HY.out] at c0
            have hs1 := HSD.out.swap1 (show k + 1 < n by omega)
            have hs2 := HSD.out.swap2 (show k + 1 < n by omega)
            rw [HX.out, HY.out] at hs1 hs2
            have HS1 : Hid (SW ((wd.setCell ⟨g, o + (k + 1), none⟩ (.int .i64 y)).setCell ⟨g, o + k, none⟩ (.int .i64 x)) g o n (swp k f)) := hs1
            have HS2 : Hid (SW ((wd.setCell ⟨g, o + k, none⟩ (.int .i64 x)).setCell ⟨g, o + (k + 1), none⟩ (.int .i64 y)) g o n (swp k f)) := hs2
            have HI2 : Hid (InvJ (swp k f) i k) := inv_swp HIN.out hj (by rw [HX.out, HY.out]; exact hxy)
            have HM2 : Hid (∀ z, (∃ i, i < n ∧ swp k f i = z) ↔ ∃ i, i < n ∧ f0 i = z) := fun z => (swp_mem (show k + 1 < n by omega) z).trans (HME.out z)
            clear hs1 hs2
            go_upto_region 6 with (fail)
            go_region
            all_goals (go_wp2)
            all_goals (
              have hb := ((HBD.out.setCell (p := ⟨g, o + (k + 1), none⟩) (Nat.le_refl _) (.int .i64 y)).setCell (p := ⟨g, o + k, none⟩) (Nat.le_refl _) (.int .i64 x)).drew
              have hc := ((HBD.out.setCell (p := ⟨g, o + k, none⟩) (Nat.le_refl _) (.int .i64 x)).setCell (p := ⟨g, o + (k + 1), none⟩) (Nat.le_refl _) (.int .i64 y)).drew
              first
              | exact ⟨⟨k, swp k f, by omega, rfl, HS1.out.drew, HM2.out, HI2.out, hb⟩, by show (k : Int).toNat < ((k + 1 : Nat) : Int).toNat; omega⟩
              | exact ⟨⟨k, swp k f, by omega, rfl, HS2.out.drew, HM2.out, HI2.out, hc⟩, by show (k : Int).toNat < ((k + 1 : Nat) : Int).toNat; omega⟩)
          · go_upto_region 4 with (fail)
            refine wp_region_held_drew (S := fun z => z.cell? ⟨g, o + (k + 1), none⟩ = some (.int .i64 x) ∧ z.cell? ⟨g, o + k, none⟩ = some (.int .i64 y)) (by kernel_rfl) ⟨c1, c0⟩ (fun hHeld => ?_)
            refine wpAnyH_take (i := 0) (oi := _) (v := ?v3_0) (by rw [List.getElem?_toArray]; exact rfl) (by kernel_rfl) (by kernel_rfl) (by kernel_rfl) (by intro _ _ _ h; exact h) (Or.inl ⟨by kernel_rfl, ?y3_0⟩) hHeld ?_
            case y3_0 =>
              intro w hSw
              obtain ⟨s0, s1⟩ := hSw
              go_simp
              (try with_reducible rfl)
            (try simp only [Act.put, List.setIfInBounds_toArray, List.set_cons_zero, List.set_cons_succ])
            refine wpAnyH_take (i := 1) (oi := _) (v := ?v3_1) (by rw [List.getElem?_toArray]; exact rfl) (by kernel_rfl) (by kernel_rfl) (by kernel_rfl) (by intro _ _ _ h; exact h) (Or.inl ⟨by kernel_rfl, ?y3_1⟩) hHeld ?_
            case y3_1 =>
              intro w hSw
              obtain ⟨s0, s1⟩ := hSw
              go_simp
              (try with_reducible rfl)
            (try simp only [Act.put, List.setIfInBounds_toArray, List.set_cons_zero, List.set_cons_succ])
            refine wpAnyH_take (i := 2) (oi := _) (v := .bool true) (by rw [List.getElem?_toArray]; exact rfl) (by kernel_rfl) (by kernel_rfl) (by kernel_rfl) (by intro _ _ _ h; exact h) (Or.inl ⟨by kernel_rfl, ?y3_2⟩) hHeld ?_
            case y3_2 =>
              intro w hSw
              obtain ⟨s0, s1⟩ := hSw
              go_simp
              (try with_reducible rfl)
            (try simp only [Act.put, List.setIfInBounds_toArray, List.set_cons_zero, List.set_cons_succ])
            refine wpAnyH_take (i := 3) (oi := _) (v := .bool true) (by rw [List.getElem?_toArray]; exact rfl) (by kernel_rfl) (by kernel_rfl) (by kernel_rfl) (by intro _ _ _ h; exact h) (Or.inl ⟨by kernel_rfl, ?y3_3⟩) hHeld ?_
            case y3_3 =>
              intro w hSw
              obtain ⟨s0, s1⟩ := hSw
              go_simp
              (try with_reducible rfl)
            (try simp only [Act.put, List.setIfInBounds_toArray, List.set_cons_zero, List.set_cons_succ])
            refine wpAnyH_take (i := 4) (oi := _) (v := ?v3_4) (by rw [List.getElem?_toArray]; exact rfl) (by kernel_rfl) (by kernel_rfl) (by kernel_rfl) (by intro _ _ _ h; exact h) (Or.inl ⟨by kernel_rfl, ?y3_4⟩) hHeld ?_
            case y3_4 =>
              intro w hSw
              obtain ⟨s0, s1⟩ := hSw
              go_simp
              (try with_reducible rfl)
            (try simp only [Act.put, List.setIfInBounds_toArray, List.set_cons_zero, List.set_cons_succ])
            refine wpAnyH_take (i := 5) (oi := _) (v := ?v3_5) (by rw [List.getElem?_toArray]; exact rfl) (by kernel_rfl) (by kernel_rfl) (by kernel_rfl) (by intro _ _ _ h; exact h) (Or.inl ⟨by kernel_rfl, ?y3_5⟩) hHeld ?_
            case y3_5 =>
              intro w hSw
              obtain ⟨s0, s1⟩ := hSw
              go_simp
              (try with_reducible rfl)
            (try simp only [Act.put, List.setIfInBounds_toArray, List.set_cons_zero, List.set_cons_succ])
            refine wpAnyH_take (i := 6) (oi := _) (v := ?v3_6) (by rw [List.getElem?_toArray]; exact rfl) (by kernel_rfl) (by kernel_rfl) (by kernel_rfl) (by intro _ _ _ h; exact h) (Or.inl ⟨by kernel_rfl, ?y3_6⟩) hHeld ?_
            case y3_6 =>
              intro w hSw
              obtain ⟨s0, s1⟩ := hSw
              go_simp
              (try with_reducible rfl)
            (try simp only [Act.put, List.setIfInBounds_toArray, List.set_cons_zero, List.set_cons_succ])
            refine wpAnyH_take (i := 7) (oi := _) (v := ?v3_7) (by rw [List.getElem?_toArray]; exact rfl) (by kernel_rfl) (by kernel_rfl) (by kernel_rfl) (by intro _ _ _ h; exact h) (Or.inl ⟨by kernel_rfl, ?y3_7⟩) hHeld ?_
            case y3_7 =>
              intro w hSw
              obtain ⟨s0, s1⟩ := hSw
              go_simp
              (try with_reducible rfl)
            (try simp only [Act.put, List.setIfInBounds_toArray, List.set_cons_zero, List.set_cons_succ])
            refine wpAnyH_take (i := 8) (oi := _) (v := ?v3_8) (by rw [List.getElem?_toArray]; exact rfl) (by kernel_rfl) (by kernel_rfl) (by kernel_rfl) (by intro _ _ _ h; exact h) (Or.inl ⟨by kernel_rfl, ?y3_8⟩) hHeld ?_
            case y3_8 =>
              intro w hSw
              obtain ⟨s0, s1⟩ := hSw
              go_simp
              (try with_reducible rfl)
            (try simp only [Act.put, List.setIfInBounds_toArray, List.set_cons_zero, List.set_cons_succ])
            refine wpAnyH_take (i := 9) (oi := _) (v := ?v3_9) (by rw [List.getElem?_toArray]; exact rfl) (by kernel_rfl) (by kernel_rfl) (by kernel_rfl) (by intro _ _ _ h; exact h) (Or.inl ⟨by kernel_rfl, ?y3_9⟩) hHeld ?_
            case y3_9 =>
              intro w hSw
              obtain ⟨s0, s1⟩ := hSw
              go_simp
              (try with_reducible rfl)
            (try simp only [Act.put, List.setIfInBounds_toArray, List.set_cons_zero, List.set_cons_succ])
            refine wpAnyH_take (i := 10) (oi := _) (v := .int .i64 (k : Int)) (by rw [List.getElem?_toArray]; exact rfl) (by kernel_rfl) (by kernel_rfl) (by kernel_rfl) (by intro _ _ _ h; exact h) (Or.inl ⟨by kernel_rfl, ?y3_10⟩) hHeld ?_
            case y3_10 =>
              intro w hSw
              obtain ⟨s0, s1⟩ := hSw
              go_simp
              (try with_reducible rfl)
            (try simp only [Act.put, List.setIfInBounds_toArray, List.set_cons_zero, List.set_cons_succ])
            refine wpAnyH_take (i := 11) (oi := _) (v := ?v3_11) (by rw [List.getElem?_toArray]; exact rfl) (by kernel_rfl) (by kernel_rfl) (by kernel_rfl) (by intro _ _ _ h; exact h) (Or.inl ⟨by kernel_rfl, ?y3_11⟩) hHeld ?_
            case y3_11 =>
              intro w hSw
              obtain ⟨s0, s1⟩ := hSw
              go_simp
              (try with_reducible rfl)
            (try simp only [Act.put, List.setIfInBounds_toArray, List.set_cons_zero, List.set_cons_succ])
            refine wpAnyH_take (i := 12) (oi := _) (v := ?v3_12) (by rw [List.getElem?_toArray]; exact rfl) (by kernel_rfl) (by kernel_rfl) (by kernel_rfl) (by intro _ _ _ h; exact h) (Or.inl ⟨by kernel_rfl, ?y3_12⟩) hHeld ?_
            case y3_12 =>
              intro w hSw
              obtain ⟨s0, s1⟩ := hSw
              go_simp
              (try with_reducible rfl)
            (try simp only [Act.put, List.setIfInBounds_toArray, List.set_cons_zero, List.set_cons_succ])
            refine wpAnyH_ready (rs := [13]) (by kernel_rfl) (by simp) ?_
            refine AllReadyH.cons (o := _) (by rw [List.getElem?_toArray]; exact rfl) (fun K hK => ?_) AllReadyH.nil
            rw [if_pos (by kernel_rfl)]
            go_simp
            refine (lessC_any x y _).mono ?_
            rintro e w1 ⟨rfl, rfl⟩
            rw [decide_eq_false hxy]
            refine hK.out _ _ hHeld (fun hHeld => ?_)
            clear hK K
            (try simp only [Act.put, List.setIfInBounds_toArray, List.set_cons_zero, List.set_cons_succ])
            refine wpAnyH_take (i := 14) (oi := _) (v := .bool false) (by rw [List.getElem?_toArray]; exact rfl) (by kernel_rfl) (by kernel_rfl) (by kernel_rfl) (by intro _ _ _ h; exact h) (Or.inl ⟨by kernel_rfl, ?y3_14⟩) hHeld ?_
            case y3_14 =>
              intro w hSw
              obtain ⟨s0, s1⟩ := hSw
              go_simp
              (try with_reducible rfl)
            (try simp only [Act.put, List.setIfInBounds_toArray, List.set_cons_zero, List.set_cons_succ])
            refine wpAnyH_done (by kernel_rfl) ?_ _
            (try simp only [Exit.then])
            go_wp2
            have hso := inv_end HIN.out (by rw [HX.out, HY.out]; exact hxy)
            have hsw := HSW.out.drew
            have hb := HB.out.drew
            exact ⟨⟨i + 1, f, by omega, by omega, by go_num, hsw, HME.out, hso, hb⟩, by simp [intOf]; omega⟩
    · have HSN : Hid (∀ p q, p < q → q < n → f p ≤ f q) := fun p q h1 h2 => HSO.out p q h1 (by omega)
      go_wp2
      go_end0
      exact ⟨⟨rfl, f, HSW.out, HME.out, HSN.out⟩, HB.out⟩
theorem pdq_any (g o n c : Nat) (l : Int) (f0 : Nat → Int) (hn : n ≤ 12) (w : World) (hg : g < w.heap.size) (h : SW w g o n f0) :
    Calls Try.prog 109 #[.slice (some ⟨g, o, none⟩) n c, .int .i64 0, .int .i64 n, .int .i64 l] w fun e w' => (e = .returned (.tuple #[]) ∧ ∃ f, SW w' g o n f ∧ (∀ x, (∃ i, i < n ∧ f i = x) ↔ ∃ i, i < n ∧ f0 i = x) ∧ ∀ p q, p < q → q < n → f p ≤ f q) ∧ Below g w w' := by
  have H : Hid (SW w g o n f0) := h
  clear h
  have hle : (n : Int) ≤ 12 := by omega
  have hwk : IntKind.i64.wrap (n : Int) = (n : Int) := by rw [IntKind.wrap_i64]; omega
  go_enter Try.func109, Try.ntmps109
  go_wp2
  refine wp_loop_rounds 1 ?_
  rw [rounds_succ]
  go_wp2_with fail
  refine (insertion_any g o n c f0 hn _ hg H.out).mono ?_
  rintro e w1 ⟨⟨rfl, f, h1, h2, h3⟩, hb⟩
  have H1 : Hid (SW w1 g o n f) := h1
  have H2 : Hid (∀ x, (∃ i, i < n ∧ f i = x) ↔ ∃ i, i < n ∧ f0 i = x) := h2
  have H3 : Hid (∀ p q, p < q → q < n → f p ≤ f q) := h3
  have HB : Hid (Below g w w1) := hb
  clear h1 h2 h3 hb
  go_wp2
  refine bodyPost_ret (results_none rfl _ _ _) rfl ?_
  exact ⟨⟨rfl, f, H1.out, H2.out, H3.out⟩, HB.out⟩
theorem len64_any (n : Nat) (hn : n ≤ 12) (w : World) : Calls Try.prog 120 #[.int .u64 n] w fun e w' => (∃ l : Int, e = .returned (.int .i64 l)) ∧ w' = w := by
  have h : n = 0 ∨ n = 1 ∨ n = 2 ∨ n = 3 ∨ n = 4 ∨ n = 5 ∨ n = 6 ∨ n = 7 ∨ n = 8 ∨ n = 9 ∨ n = 10 ∨ n = 11 ∨ n = 12 := by omega
  clear hn
  rcases h with rfl | rfl | rfl | rfl | rfl | rfl | rfl | rfl | rfl | rfl | rfl | rfl | rfl <;> (go_enter Try.func120, Try.ntmps120; go_wp2; go_ret; exact ⟨⟨_, rfl⟩, rfl⟩)
theorem lenB_any (n : Nat) (hn : n ≤ 12) (w : World) : Calls Try.prog 110 #[.int .u64 n] w fun e w' => (∃ l : Int, e = .returned (.int .i64 l)) ∧ w' = w := by
  go_enter Try.func110, Try.ntmps110
  go_wp2_with fail
  refine (len64_any n hn _).mono ?_
  rintro e w1 ⟨⟨l, rfl⟩, rfl⟩
  go_wp2
  go_ret
  exact ⟨⟨l, rfl⟩, rfl⟩
theorem sort_any (g o n c : Nat) (f0 : Nat → Int) (hn : n ≤ 12) (w : World) (hg : g < w.heap.size) (h : SW w g o n f0) :
    Calls Try.prog 105 #[.slice (some ⟨g, o, none⟩) n c] w fun e w' => (e = .returned (.tuple #[]) ∧ ∃ f, SW w' g o n f ∧ (∀ x, (∃ i, i < n ∧ f i = x) ↔ ∃ i, i < n ∧ f0 i = x) ∧ ∀ p q, p < q → q < n → f p ≤ f q) ∧ Below g w w' := by
  have H : Hid (SW w g o n f0) := h
  clear h
  have hwu : IntKind.u64.wrap (n : Int) = (n : Int) := by rw [IntKind.wrap_u64]; omega
  go_enter Try.func105, Try.ntmps105
  go_wp2_with fail
  refine (lenB_any n hn _).mono ?_
  rintro e w1 ⟨⟨l, rfl⟩, rfl⟩
  go_wp2_with fail
  refine (pdq_any g o n c l f0 hn _ hg H.out).mono ?_
  rintro e w2 ⟨⟨rfl, f, h1, h2, h3⟩, hb⟩
  have H1 : Hid (SW w2 g o n f) := h1
  have H2 : Hid (∀ x, (∃ i, i < n ∧ f i = x) ↔ ∃ i, i < n ∧ f0 i = x) := h2
  have H3 : Hid (∀ p q, p < q → q < n → f p ≤ f q) := h3
  have HB : Hid (Below g w1 w2) := hb
  clear h1 h2 h3 hb
  go_wp2
  go_end0
  exact ⟨⟨rfl, f, H1.out, H2.out, H3.out⟩, HB.out⟩
theorem insertion_none (w : World) : Calls Try.prog 111 #[.slice none 0 0, .int .i64 0, .int .i64 0] w fun e w' => e = .returned (.tuple #[]) ∧ w' = w := by
  go_enter Try.func111, Try.ntmps111
  go_wp2
  refine wp_loop_rounds 1 ?_
  rw [rounds_succ]
  go_wp2
  go_end0
  exact ⟨rfl, rfl⟩
theorem pdq_none (l : Int) (w : World) : Calls Try.prog 109 #[.slice none 0 0, .int .i64 0, .int .i64 0, .int .i64 l] w fun e w' => e = .returned (.tuple #[]) ∧ w' = w := by
  go_enter Try.func109, Try.ntmps109
  go_wp2
  refine wp_loop_rounds 1 ?_
  rw [rounds_succ]
  go_wp2_with fail
  refine (insertion_none _).mono ?_
  rintro e w1 ⟨rfl, rfl⟩
  go_wp2
  refine bodyPost_ret (results_none rfl _ _ _) rfl ?_
  exact ⟨rfl, rfl⟩
theorem sort_none (w : World) : Calls Try.prog 105 #[.slice none 0 0] w fun e w' => e = .returned (.tuple #[]) ∧ w' = w := by
  go_enter Try.func105, Try.ntmps105
  go_wp2_with fail
  refine (lenB_any 0 (by omega) _).mono ?_
  rintro e w1 ⟨⟨l, rfl⟩, rfl⟩
  go_wp2_with fail
  refine (pdq_none l _).mono ?_
  rintro e w2 ⟨rfl, rfl⟩
  go_wp2
  go_end0
  exact ⟨rfl, rfl⟩
end
section
open Go.ChangeShapes Go.WideShapes Go.ChangeAt Go.RowKit Go.Maps
theorem nodup_lt : ∀ (m : Nat) (zs : List Int), zs.Nodup → (∀ x ∈ zs, 0 ≤ x ∧ x < (m : Int)) → zs.length ≤ m
  | 0, zs, _, h => by
    cases zs with
    | nil => simp
    | cons x r => have := h x (by simp); omega
  | m + 1, zs, hn, h => by
    have h1 := nodup_lt m (zs.erase (m : Int)) (hn.erase _) fun x hx => by
      obtain ⟨h2, h3⟩ := hn.mem_erase_iff.1 hx
      have := h x h3
      omega
    rw [List.length_erase] at h1
    split at h1 <;> omega
def OrdAt (w : World) (v : Value) (zs : List Int) : Prop := ∃ a n c, v = .slice a n c ∧ n ≤ 12 ∧ n ≤ c ∧ IntAt w a n zs ∧ ∀ p q, p < q → q < n → zs.getD p 0 ≤ zs.getD q 0
theorem inOrder_any (w : World) (b n base m : Nat) (F : List UInt8 → List Int) (h : MapN w b n base F) (hm : m ≤ 12) (hF : ∀ t x, x ∈ F t → 0 ≤ x ∧ x < (m : Int)) (hd : ∀ t t' x, x ∈ F t → x ∈ F t' → t = t') (hnd : ∀ t, (F t).Nodup) :
    Calls Try.prog 88 #[.map (some b)] w fun e w' => (∃ v zs, e = .returned v ∧ OrdAt w' v zs ∧ ∀ x, x ∈ zs ↔ ∃ t, x ∈ F t) ∧ Below w.heap.size w w' := by
  obtain ⟨R, D, hown, hR, hbb, hD⟩ := h
  have HR : Hid (RowsN R w base) := hR
  have HD1 : Hid (ND D F) := hD
  have HF : Hid (∀ t x, x ∈ F t → 0 ≤ x ∧ x < (m : Int)) := hF
  have HD2 : Hid (∀ t t' x, x ∈ F t → x ∈ F t' → t = t') := hd
  have HND : Hid (∀ t, (F t).Nodup) := hnd
  have hblt := hown.lt
  obtain ⟨i0, hin, hz0, hz1, hz2⟩ := info_parts infoInt
  clear hR hD hbb hF hd hnd
  go_enter Try.func88, Try.ntmps88
  go_wp2_with (first | (at_range; refine wpList_range_own _ rfl _ 85 rfl 9 25 mapLawN Try.underlying85 R b n D rfl hown ?_; intro w2 hrg0 hg0 hs2) | fail)
  go_frame
  have hb2 : Below w.heap.size w w2 := (Below.refl _ _).grown hg0 (Nat.le_refl _) (fun k e => by cases e)
  clear hown hg0
  go_loopw [3] (fun v wr => ∃ left cnt, ∃ l : List Int, wr.ranges Try.prog 9 R b w.heap.size n D left cnt ∧ wr.ownsRow (w.heap.size + 1) 3 1 v l.length (l.map I) ∧ (∀ x, x ∈ l ↔ ∃ t, x ∈ F t ∧ left (.string t) = false) ∧ l.Nodup ∧ Below w.heap.size w wr ∧ w.heap.size + 1 ≤ wr.heap.size) (fun _ wr => wr.rangeLeft b w.heap.size)
  case atStart =>
    refine ⟨_, _, [], hrg0, World.ownsRow_nil _ _ _ _, fun x => ⟨fun h => by simp at h, fun ⟨t, h1, h2⟩ => ?_⟩, by simp, hb2, by omega⟩
    rw [(HD1.out.2 _).1, decide_eq_true (List.ne_nil_of_mem h1)] at h2
    cases h2
  case round =>
    obtain ⟨left, cnt, l, hrg, hown, hmem, hnl, hbr, hsz⟩ := hrel
    have HOWN : Hid (wr.ownsRow (w.heap.size + 1) 3 1 _ l.length (l.map I)) := hown
    have HMEM : Hid (∀ x, x ∈ l ↔ ∃ t, x ∈ F t ∧ left (.string t) = false) := hmem
    have HNL : Hid l.Nodup := hnl
    clear hrg0 hb2 hown hmem hnl
    go_wp2_with (first | (at_next; refine wpList_next_names _ rfl _ rfl R HR.out b w.heap.size n D HD1.out left cnt rfl hrg ?_ ?_) | fail)
    · intro _ hl0
      have HALL : Hid (∀ x, x ∈ l ↔ ∃ t, x ∈ F t) := fun x => (HMEM.out x).trans ⟨fun ⟨t, h1, _⟩ => ⟨t, h1⟩, fun ⟨t, h1⟩ => ⟨t, h1, hl0 _⟩⟩
      have hlen : l.length ≤ 12 := Nat.le_trans (nodup_lt m l HNL.out fun x hx => by obtain ⟨t, ht⟩ := (HALL.out x).1 hx; exact HF.out t x ht) hm
      clear hl0
      rcases HOWN.out.2 with ⟨rfl, h0⟩ | ⟨g, cap, cur, rfl, hg, hcur, hcap, hmax, hcs, htake⟩
      · have hl : l = [] := List.length_eq_zero_iff.1 h0
        subst hl
        go_wp2_with fail
        refine (sort_none _).mono ?_
        rintro e w5 ⟨rfl, rfl⟩
        go_wp2
        go_ret
        exact ⟨⟨_, [], rfl, ⟨none, 0, 0, rfl, by omega, by omega, ⟨rfl, by omega, .inl rfl⟩, fun p q _ h => by omega⟩, HALL.out⟩, hbr⟩
      · have HSW : Hid (SW wr g 0 l.length (fun i => l.getD i 0)) := ⟨cur, 3, hcur, fun i hi => by
          have h1 : (cur.toList.take (l.length * 1))[i]? = some (I (l.getD i 0)) := by
            rw [htake, List.getElem?_map, List.getElem?_eq_getElem hi]
            simp [List.getD, hi]
          rw [List.getElem?_take_of_lt (by omega), Array.getElem?_toList] at h1
          rw [Nat.zero_add]
          exact h1⟩
        have hglt : g < wr.heap.size := (Array.getElem?_eq_some_iff.1 hcur).1
        have HG : Hid (w.heap.size + 1 ≤ g) := hg
        have HGL : Hid (g < wr.heap.size) := hglt
        have HBR : Hid (Below w.heap.size w wr) := hbr
        have HCAP : Hid (l.length ≤ cap) := hcap
        obtain ⟨q, hq⟩ : ∃ q, l.length = q := ⟨_, rfl⟩
        have HQ : Hid (l.length = q) := hq
        rw [hq] at hlen HSW HCAP ⊢
        clear hg hcur hcap hmax hcs htake hglt hrg hbr hq HOWN
        go_wp2_with fail
        refine (sort_any g 0 q cap (fun i => l.getD i 0) hlen _ HGL.out HSW.out).mono ?_
        rintro e w5 ⟨⟨rfl, f, hsw, hme, hso⟩, hb5⟩
        have HB5 : Hid (Below w.heap.size w w5) := HBR.out.trans (hb5.mono (by have := HG.out; omega))
        have HSW5 : Hid (SW w5 g 0 q f) := hsw
        have HME : Hid (∀ x, (∃ i, i < q ∧ f i = x) ↔ ∃ i, i < q ∧ l.getD i 0 = x) := hme
        have HSO : Hid (∀ p r, p < r → r < q → f p ≤ f r) := hso
        clear hb5 hsw hme hso
        go_wp2
        go_ret
        have hget : ∀ i, i < q → ((List.range q).map f).getD i 0 = f i := fun i hi => by simp [List.getD, hi]
        refine ⟨⟨_, (List.range q).map f, rfl, ⟨some ⟨g, 0, none⟩, q, cap, rfl, hlen, HCAP.out, ⟨by simp, by omega, .inr ⟨g, 0, rfl, fun i hi => ?_⟩⟩, fun p r h1 h2 => ?_⟩, fun x => ?_⟩, HB5.out⟩
        · rw [hget i hi]; exact HSW5.out.cell i hi
        · rw [hget p (by omega), hget r h2]; exact HSO.out p r h1 h2
        · rw [← HALL.out x, List.mem_map]
          constructor
          · rintro ⟨i, hi, rfl⟩
            obtain ⟨j, hj, e⟩ := (HME.out (f i)).1 ⟨i, List.mem_range.1 hi, rfl⟩
            have hj' : j < l.length := by rw [HQ.out]; exact hj
            rw [← e, List.getD, List.getElem?_eq_getElem hj']
            exact List.getElem_mem hj'
          · intro hx
            obtain ⟨j, hj, e⟩ := List.getElem_of_mem hx
            obtain ⟨i, hi, e2⟩ := (HME.out x).2 ⟨j, by rw [← HQ.out]; exact hj, by rw [List.getD, List.getElem?_eq_getElem hj]; exact e⟩
            exact ⟨i, List.mem_range.2 hi, e2⟩
    · intro s p l2 c' w3 cnt3 hs hls hFs hrow hrg3 hlt hg3 hs3 hen
      have hb3 : Below w.heap.size w w3 := hbr.grown hg3 hbr.size (fun k e => by cases e; exact Nat.le_refl _)
      obtain rfl := rowN_len hrow
      have hFl := nodup_lt m _ (HND.out s.data.toList) (HF.out s.data.toList)
      obtain ⟨g, rfl, hia, hglt, _⟩ := rowN_at hrow hFs (by omega)
      have hia3 := hia.below hb3 (Nat.le_refl _)
      have hsame : ∀ x, x ∈ l ++ F s.data.toList ↔ ∃ t, x ∈ F t ∧ (left (.string t) && !(Lit.string t).sameKey (.string s.data.toList)) = false := fun x => by
        rw [List.mem_append, HMEM.out x]
        constructor
        · rintro (⟨t, h1, h2⟩ | h1)
          · exact ⟨t, h1, by rw [h2]; rfl⟩
          · exact ⟨_, h1, by rw [sameKeyN, decide_eq_true rfl]; simp⟩
        · rintro ⟨t, h1, h2⟩
          rw [sameKeyN] at h2
          by_cases e : t = s.data.toList
          · rw [e] at h1; exact .inr h1
          · rw [decide_eq_false e] at h2
            exact .inl ⟨t, h1, by simpa using h2⟩
      have hnd2 : (l ++ F s.data.toList).Nodup := List.nodup_append.2 ⟨HNL.out, HND.out _, fun x hx y hy e => by
        subst e
        obtain ⟨t, h1, h2⟩ := (HMEM.out x).1 hx
        rw [HD2.out t _ x h1 hy, hls] at h2
        cases h2⟩
      have hll : (l ++ F s.data.toList).length ≤ m := nodup_lt m _ hnd2 fun x hx => by obtain ⟨t, ht, _⟩ := (hsame x).1 hx; exact HF.out t x ht
      have HSAME : Hid (∀ x, x ∈ l ++ F s.data.toList ↔ ∃ t, x ∈ F t ∧ (left (.string t) && !(Lit.string t).sameKey (.string s.data.toList)) = false) := hsame
      have HND2 : Hid (l ++ F s.data.toList).Nodup := hnd2
      have HRG : Hid (w3.ranges Try.prog 9 R b w.heap.size n D (fun z => left z && !z.sameKey (.string s.data.toList)) cnt3) := hrg3
      have HB3 : Hid (Below w.heap.size w w3) := hb3
      have HLT : Hid (cnt3 < wr.rangeLeft b w.heap.size) := by rw [hrg.left_eq]; exact hlt
      have HO3 : Hid (w3.ownsRow (w.heap.size + 1) 3 1 _ l.length (l.map I)) := HOWN.out.kept hg3 (by
        rcases HOWN.out.2 with ⟨rfl, _⟩ | ⟨g', cap, cur, rfl, hgg, _⟩
        · exact .inl rfl
        · exact .inr (fun e => by have e2 : g' = w.heap.size := Option.some.inj e; omega))
      have HNEWS : Hid (∀ j u, ((F s.data.toList).map I)[j]? = some u → w3.cell? ((⟨g, 0, none⟩ : Addr).add j) = some u) := fun j u hj => by
        rw [List.getElem?_map] at hj
        obtain ⟨x, hx, rfl⟩ := Option.map_eq_some_iff.1 hj
        have hj' := (List.getElem?_eq_some_iff.1 hx).1
        rcases hia3.2.2 with h0 | ⟨p, q, he, hcell⟩
        · omega
        · cases he
          rw [add_plain, hcell j hj']
          simp [List.getD, hx]
      rw [List.length_append] at hll
      have HS3 : Hid (w.heap.size + 1 ≤ w3.heap.size) := by rw [hs3]; exact hsz
      obtain ⟨fs, hfs⟩ : ∃ fs, F s.data.toList = fs := ⟨_, rfl⟩
      have HFS : Hid (F s.data.toList = fs) := hfs
      rw [hfs] at hFl hll hen HNEWS HSAME HND2
      clear hls hrg3 hb3 hrow hFs hg3 hlt hrg hbr hia hia3 hsame hnd2 hsz hfs hs3
      go_wp2_with (first
        | (at_builtin; refine wpList_append_own_at _ rfl _ _ 25 rfl (w.heap.size + 1) 3 i0 (.int .i64 0) 1 8 Try.underlying25 hin hz0 hz1 hz2 rfl (by decide) _ l.length (l.map I) rfl HO3.out ⟨g, 0, none⟩ fs.length c' (fs.map I) rfl (by simp) HNEWS.out (fun u hu => by obtain ⟨z, _, rfl⟩ := List.mem_map.1 hu; rfl) (by unfold maxLen; omega) (by omega) HS3.out ?_; intro v' w4 hown' hgrow hnil hloc)
        | go_in)
      go_roundw
      case rel =>
        have hne : ∀ j, j < w.heap.size + 1 → ¬ Value.ownBlock _ = some j := fun j hj e => by have := (HO3.out.lt j e).1; omega
        refine ⟨_, _, l ++ fs, HRG.out.kept hgrow (fun e => hne _ (by omega) e.symm) (fun e => hne _ (by omega) e.symm), ?_, HSAME.out, HND2.out, HB3.out.grown hgrow HB3.out.size (fun k e => Nat.le_trans (Nat.le_succ _) (HO3.out.lt k e).1), Nat.le_trans HS3.out hgrow.size⟩
        rw [List.length_append, List.map_append]
        exact hown'
      case measure =>
        have hne : ∀ j, j < w.heap.size + 1 → ¬ Value.ownBlock _ = some j := fun j hj e => by have := (HO3.out.lt j e).1; omega
        rw [(HRG.out.kept hgrow (fun e => hne _ (by omega) e.symm) (fun e => hne _ (by omega) e.symm)).left_eq]
        exact HLT.out
end
end Go.Proofs.Ytmgofehafjogfaa
