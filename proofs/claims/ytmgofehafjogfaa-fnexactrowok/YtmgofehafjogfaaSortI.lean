/- slices.Sort of at most twelve numbers (by insertion), slices.BinarySearch. -/
import Derived.Test.YtmgofehafjogfaaIntAt
import Derived.Test.YtmgofehafjogfaaBoxN
import Derived.Below
import Derived.RegionTactic
import Derived.Deep.RegionHeld3
import Derived.Deep.Cut
namespace Go.Proofs.Ytmgofehafjogfaa
open Go.ChangeShapes Go.WideShapes Go.ChangeAt Go.RowKit

/-- From place o on there stand n numbers, as f says. -/
def SW (w : World) (g o n : Nat) (f : Nat → Int) : Prop := ∃ cs T, Box w g cs T ∧ ∀ i, i < n → cs[o + i]? = some (I (f i))
theorem SW.cell {w : World} {g o n : Nat} {f : Nat → Int} (h : SW w g o n f) (i : Nat) (hi : i < n) : w.cell? ⟨g, o + i, none⟩ = some (.int .i64 (f i)) := by
  obtain ⟨cs, T, hb, hc⟩ := h
  rw [hb.cell, hc i hi]
theorem SW.frozen {w : World} {g o n : Nat} {f : Nat → Int} (h : SW w g o n f) (i : Nat) : w.frozen? ⟨g, i, none⟩ = false := by
  obtain ⟨cs, T, hb, hc⟩ := h
  exact hb.frozen _
theorem SW.put {w : World} {g o n : Nat} {f : Nat → Int} (h : SW w g o n f) (k : Nat) (hk : k < n) (v : Int) : SW (w.setCell ⟨g, o + k, none⟩ (.int .i64 v)) g o n (fun i => if i = k then v else f i) := by
  obtain ⟨cs, T, hb, hc⟩ := h
  refine ⟨_, T, hb.put (o + k) _, fun i hi => ?_⟩
  have hlt : o + k < cs.size := (Array.getElem?_eq_some_iff.1 (hc k hk)).1
  rw [Array.getElem?_setIfInBounds]
  show _ = some (I (if i = k then v else f i))
  by_cases e : i = k
  · subst e
    rw [if_pos rfl, if_pos hlt, if_pos rfl]
  · rw [if_neg (by omega), hc i hi, if_neg e]
theorem SW.drew {w : World} {g o n : Nat} {f : Nat → Int} (h : SW w g o n f) : SW w.drew g o n f := h
/-- Two neighbours exchanged. -/
def swp (k : Nat) (f : Nat → Int) (i : Nat) : Int := if i = k then f (k + 1) else if i = k + 1 then f k else f i
theorem swp_mem {k n : Nat} {f : Nat → Int} (hk : k + 1 < n) (x : Int) : (∃ i, i < n ∧ swp k f i = x) ↔ ∃ i, i < n ∧ f i = x := by
  constructor
  · rintro ⟨i, hi, rfl⟩
    unfold swp
    split
    · exact ⟨k + 1, hk, rfl⟩
    · split
      · exact ⟨k, by omega, rfl⟩
      · exact ⟨i, hi, rfl⟩
  · rintro ⟨i, hi, rfl⟩
    by_cases e : i = k
    · exact ⟨k + 1, hk, by unfold swp; rw [if_neg (by omega), if_pos rfl, e]⟩
    · by_cases e1 : i = k + 1
      · exact ⟨k, by omega, by unfold swp; rw [if_pos rfl, e1]⟩
      · exact ⟨i, hi, by unfold swp; rw [if_neg e, if_neg e1]⟩
theorem SW.congr {w : World} {g o n : Nat} {f f' : Nat → Int} (h : SW w g o n f) (e : ∀ i, f i = f' i) : SW w g o n f' := by
  rw [show f' = f from funext fun i => (e i).symm]; exact h
theorem SW.swap1 {w : World} {g o n k : Nat} {f : Nat → Int} (h : SW w g o n f) (hk : k + 1 < n) : SW ((w.setCell ⟨g, o + (k + 1), none⟩ (.int .i64 (f k))).setCell ⟨g, o + k, none⟩ (.int .i64 (f (k + 1)))) g o n (swp k f) :=
  ((h.put (k + 1) hk (f k)).put k (by omega) (f (k + 1))).congr fun i => rfl
theorem SW.swap2 {w : World} {g o n k : Nat} {f : Nat → Int} (h : SW w g o n f) (hk : k + 1 < n) : SW ((w.setCell ⟨g, o + k, none⟩ (.int .i64 (f (k + 1)))).setCell ⟨g, o + (k + 1), none⟩ (.int .i64 (f k))) g o n (swp k f) :=
  ((h.put k (by omega) (f (k + 1))).put (k + 1) hk (f k)).congr fun i => by
    show (if i = k + 1 then f k else if i = k then f (k + 1) else f i) = swp k f i
    unfold swp
    by_cases e : i = k
    · rw [if_neg (by omega), if_pos e, if_pos e]
    · by_cases e1 : i = k + 1
      · rw [if_pos e1, if_neg e, if_pos e1]
      · rw [if_neg e1, if_neg e, if_neg e, if_neg e1]
/-- In order up to i, but for what stands at j: it may belong further ahead. -/
def InvJ (f : Nat → Int) (i j : Nat) : Prop := ∀ p q, p < q → q ≤ i → q ≠ j → f p ≤ f q
theorem swp_a (k : Nat) (f : Nat → Int) : swp k f k = f (k + 1) := if_pos rfl
theorem swp_b (k : Nat) (f : Nat → Int) : swp k f (k + 1) = f k := by unfold swp; rw [if_neg (by omega), if_pos rfl]
theorem swp_c {k i : Nat} (f : Nat → Int) (h : i ≠ k) (h1 : i ≠ k + 1) : swp k f i = f i := by unfold swp; rw [if_neg h, if_neg h1]
theorem inv_swp {f : Nat → Int} {i k : Nat} (h : InvJ f i (k + 1)) (hk : k + 1 ≤ i) (hl : f (k + 1) < f k) : InvJ (swp k f) i k := by
  intro p q hpq hq hne
  by_cases q1 : q = k + 1
  · subst q1
    rw [swp_b]
    by_cases p0 : p = k
    · subst p0; rw [swp_a]; omega
    · rw [swp_c f p0 (by omega)]
      exact h p k (by omega) (by omega) (by omega)
  · rw [swp_c f hne q1]
    by_cases p0 : p = k
    · subst p0; rw [swp_a]; exact h (p + 1) q (by omega) hq q1
    · by_cases p1 : p = k + 1
      · subst p1; rw [swp_b]; exact h k q (by omega) hq q1
      · rw [swp_c f p0 p1]; exact h p q hpq hq q1
theorem inv_end0 {f : Nat → Int} {i : Nat} (h : InvJ f i 0) : ∀ p q, p < q → q < i + 1 → f p ≤ f q := fun p q hpq hq => h p q hpq (by omega) (by omega)
theorem inv_end {f : Nat → Int} {i k : Nat} (h : InvJ f i (k + 1)) (hl : ¬ f (k + 1) < f k) : ∀ p q, p < q → q < i + 1 → f p ≤ f q := fun p q hpq hq => by
  by_cases e : q = k + 1
  · subst e
    by_cases e1 : p = k
    · subst e1; omega
    · have := h p k (by omega) (by omega) (by omega); omega
  · exact h p q hpq (by omega) e
set_option maxHeartbeats 8000000 in
set_option maxRecDepth 100000 in
theorem nanC_any (x : Int) (w : World) : Calls Try.prog 108 #[.int .i64 x] w fun e w' => e = .returned (.bool false) ∧ w' = w := by
  have hx : (x != x) = false := by simp
  go_enter Try.func108, Try.ntmps108
  go_wp2
  go_ret
  exact ⟨rfl, rfl⟩
set_option maxHeartbeats 8000000 in
set_option maxRecDepth 100000 in
theorem lessC_any (x y : Int) (w : World) : Calls Try.prog 102 #[.int .i64 x, .int .i64 y] w fun e w' => e = .returned (.bool (decide (x < y))) ∧ w' = w := by
  go_enter Try.func102, Try.ntmps102
  go_wp2_with fail
  refine (nanC_any x _).mono ?_
  rintro e w1 ⟨rfl, rfl⟩
  go_wp2
  go_ret
  exact ⟨rfl, rfl⟩
set_option maxHeartbeats 8000000 in
set_option maxRecDepth 100000 in
theorem insertion_any (g o n c : Nat) (f0 : Nat → Int) (hn : n ≤ 12) (w : World) (_ : g < w.heap.size) (h : SW w g o n f0) :
    Calls Try.prog 111 #[.slice (some ⟨g, o, none⟩) n c, .int .i64 0, .int .i64 n] w fun e w' => (e = .returned (.tuple #[]) ∧ ∃ f, SW w' g o n f ∧ (∀ x, (∃ i, i < n ∧ f i = x) ↔ ∃ i, i < n ∧ f0 i = x) ∧ ∀ p q, p < q → q < n → f p ≤ f q) ∧ Below g w w' := by
  have H : Hid (SW w g o n f0) := h
  clear h
  go_enter Try.func111, Try.ntmps111
  go_wp2
  go_loopw [6] (fun i wr => ∃ (k : Nat) (f : Nat → Int), 1 ≤ k ∧ (k ≤ n ∨ k = 1) ∧ i = .int .i64 k ∧ SW wr g o n f ∧ (∀ x, (∃ i, i < n ∧ f i = x) ↔ ∃ i, i < n ∧ f0 i = x) ∧ (∀ p q, p < q → q < k → f p ≤ f q) ∧ Below g w wr) (fun i _ => 13 - (intOf i).toNat)
  case atStart => exact ⟨1, f0, Nat.le_refl _, .inr rfl, rfl, H.out, fun _ => Iff.rfl, fun p q h1 h2 => by omega, Below.refl _ _⟩
  case round =>
    obtain ⟨i, f, hi1, hi2, rfl, hsw, hmem, hso, hb⟩ := hrel
    have HSW : Hid (SW wr g o n f) := hsw
    have HME : Hid (∀ x, (∃ i, i < n ∧ f i = x) ↔ ∃ i, i < n ∧ f0 i = x) := hmem
    have HSO : Hid (∀ p q, p < q → q < i → f p ≤ f q) := hso
    have HB : Hid (Below g w wr) := hb
    clear hsw hmem hso hb
    by_cases hlt : i < n
    · go_wp2
      go_loopw [7] (fun j wq => ∃ (k : Nat) (f : Nat → Int), k ≤ i ∧ j = .int .i64 k ∧ SW wq g o n f ∧ (∀ x, (∃ i, i < n ∧ f i = x) ↔ ∃ i, i < n ∧ f0 i = x) ∧ InvJ f i k ∧ Below g w wq) (fun j _ => (intOf j).toNat)
      case atStart => exact ⟨i, f, Nat.le_refl _, rfl, HSW.out, HME.out, fun p q h1 h2 h3 => HSO.out p q h1 (by omega), HB.out⟩
      case round =>
        clear HSW HME HSO HB f
        obtain ⟨j, f, hj, rfl, hsw, hmem, hinv, hb⟩ := hrel
        have HSW : Hid (SW _ g o n f) := hsw
        have HME : Hid (∀ x, (∃ i, i < n ∧ f i = x) ↔ ∃ i, i < n ∧ f0 i = x) := hmem
        have HIN : Hid (InvJ f i j) := hinv
        have HB : Hid (Below g w _) := hb
        clear hsw hmem hinv hb
        rcases j with _ | k
        · go_upto_region 4 with (fail)
          refine wp_region_held_drew (S := fun _ => True) (by kernel_rfl) trivial (fun hHeld => ?_)
          refine wpAnyH_take (i := 0) (oi := _) (v := ?v1_0) (by rw [List.getElem?_toArray]; exact rfl) (by kernel_rfl) (by kernel_rfl) (by kernel_rfl) (by intro _ _ _ h; exact h) (Or.inl ⟨by kernel_rfl, ?y1_0⟩) hHeld ?_
          case y1_0 =>
            intro w hSw
            clear hSw
            go_simp
            (try with_reducible rfl)
          (try simp only [Act.put, List.setIfInBounds_toArray, List.set_cons_zero, List.set_cons_succ])
          refine wpAnyH_take (i := 1) (oi := _) (v := ?v1_1) (by rw [List.getElem?_toArray]; exact rfl) (by kernel_rfl) (by kernel_rfl) (by kernel_rfl) (by intro _ _ _ h; exact h) (Or.inl ⟨by kernel_rfl, ?y1_1⟩) hHeld ?_
          case y1_1 =>
            intro w hSw
            clear hSw
            go_simp
            (try with_reducible rfl)
          (try simp only [Act.put, List.setIfInBounds_toArray, List.set_cons_zero, List.set_cons_succ])
          refine wpAnyH_take (i := 2) (oi := _) (v := .bool false) (by rw [List.getElem?_toArray]; exact rfl) (by kernel_rfl) (by kernel_rfl) (by kernel_rfl) (by intro _ _ _ h; exact h) (Or.inl ⟨by kernel_rfl, ?y1_2⟩) hHeld ?_
          case y1_2 =>
            intro w hSw
            clear hSw
            go_simp
            (try with_reducible rfl)
          (try simp only [Act.put, List.setIfInBounds_toArray, List.set_cons_zero, List.set_cons_succ])
          refine wpAnyH_take (i := 3) (oi := _) (v := .bool false) (by rw [List.getElem?_toArray]; exact rfl) (by kernel_rfl) (by kernel_rfl) (by kernel_rfl) (by intro _ _ _ h; exact h) (Or.inl ⟨by kernel_rfl, ?y1_3⟩) hHeld ?_
          case y1_3 =>
            intro w hSw
            clear hSw
            go_simp
            (try with_reducible rfl)
          (try simp only [Act.put, List.setIfInBounds_toArray, List.set_cons_zero, List.set_cons_succ])
          refine wpAnyH_take (i := 4) (oi := _) (v := undef) (by rw [List.getElem?_toArray]; exact rfl) (by kernel_rfl) (by kernel_rfl) (by kernel_rfl) (by intro _ _ _ h; exact h) (Or.inr ⟨by kernel_rfl, rfl⟩) hHeld ?_
          (try simp only [Act.put, List.setIfInBounds_toArray, List.set_cons_zero, List.set_cons_succ])
          refine wpAnyH_take (i := 5) (oi := _) (v := undef) (by rw [List.getElem?_toArray]; exact rfl) (by kernel_rfl) (by kernel_rfl) (by kernel_rfl) (by intro _ _ _ h; exact h) (Or.inr ⟨by kernel_rfl, rfl⟩) hHeld ?_
          (try simp only [Act.put, List.setIfInBounds_toArray, List.set_cons_zero, List.set_cons_succ])
          refine wpAnyH_take (i := 6) (oi := _) (v := undef) (by rw [List.getElem?_toArray]; exact rfl) (by kernel_rfl) (by kernel_rfl) (by kernel_rfl) (by intro _ _ _ h; exact h) (Or.inr ⟨by kernel_rfl, rfl⟩) hHeld ?_
          (try simp only [Act.put, List.setIfInBounds_toArray, List.set_cons_zero, List.set_cons_succ])
          refine wpAnyH_take (i := 7) (oi := _) (v := undef) (by rw [List.getElem?_toArray]; exact rfl) (by kernel_rfl) (by kernel_rfl) (by kernel_rfl) (by intro _ _ _ h; exact h) (Or.inr ⟨by kernel_rfl, rfl⟩) hHeld ?_
          (try simp only [Act.put, List.setIfInBounds_toArray, List.set_cons_zero, List.set_cons_succ])
          refine wpAnyH_take (i := 8) (oi := _) (v := undef) (by rw [List.getElem?_toArray]; exact rfl) (by kernel_rfl) (by kernel_rfl) (by kernel_rfl) (by intro _ _ _ h; exact h) (Or.inr ⟨by kernel_rfl, rfl⟩) hHeld ?_
          (try simp only [Act.put, List.setIfInBounds_toArray, List.set_cons_zero, List.set_cons_succ])
          refine wpAnyH_take (i := 9) (oi := _) (v := undef) (by rw [List.getElem?_toArray]; exact rfl) (by kernel_rfl) (by kernel_rfl) (by kernel_rfl) (by intro _ _ _ h; exact h) (Or.inr ⟨by kernel_rfl, rfl⟩) hHeld ?_
          (try simp only [Act.put, List.setIfInBounds_toArray, List.set_cons_zero, List.set_cons_succ])
          refine wpAnyH_take (i := 10) (oi := _) (v := undef) (by rw [List.getElem?_toArray]; exact rfl) (by kernel_rfl) (by kernel_rfl) (by kernel_rfl) (by intro _ _ _ h; exact h) (Or.inr ⟨by kernel_rfl, rfl⟩) hHeld ?_
          (try simp only [Act.put, List.setIfInBounds_toArray, List.set_cons_zero, List.set_cons_succ])
          refine wpAnyH_take (i := 11) (oi := _) (v := undef) (by rw [List.getElem?_toArray]; exact rfl) (by kernel_rfl) (by kernel_rfl) (by kernel_rfl) (by intro _ _ _ h; exact h) (Or.inr ⟨by kernel_rfl, rfl⟩) hHeld ?_
          (try simp only [Act.put, List.setIfInBounds_toArray, List.set_cons_zero, List.set_cons_succ])
          refine wpAnyH_take (i := 12) (oi := _) (v := undef) (by rw [List.getElem?_toArray]; exact rfl) (by kernel_rfl) (by kernel_rfl) (by kernel_rfl) (by intro _ _ _ h; exact h) (Or.inr ⟨by kernel_rfl, rfl⟩) hHeld ?_
          (try simp only [Act.put, List.setIfInBounds_toArray, List.set_cons_zero, List.set_cons_succ])
          refine wpAnyH_ready (rs := [13]) (by kernel_rfl) (by simp) ?_
          refine AllReadyH.cons (o := _) (by rw [List.getElem?_toArray]; exact rfl) (fun K hK => ?_) AllReadyH.nil
          rw [if_neg (by rw [show Region.wanted _ _ = false by kernel_rfl]; decide)]
          refine hK.out _ _ hHeld (fun hHeld => ?_)
          clear hK K
          (try simp only [Act.put, List.setIfInBounds_toArray, List.set_cons_zero, List.set_cons_succ])
          refine wpAnyH_take (i := 14) (oi := _) (v := .bool false) (by rw [List.getElem?_toArray]; exact rfl) (by kernel_rfl) (by kernel_rfl) (by kernel_rfl) (by intro _ _ _ h; exact h) (Or.inl ⟨by kernel_rfl, ?y1_14⟩) hHeld ?_
          case y1_14 =>
            intro w hSw
            clear hSw
            go_simp
            (try with_reducible rfl)
          (try simp only [Act.put, List.setIfInBounds_toArray, List.set_cons_zero, List.set_cons_succ])
          refine wpAnyH_done (by kernel_rfl) ?_ _
          (try simp only [Exit.then])
          go_wp2
          have hso := inv_end0 HIN.out
          have hsw := HSW.out.drew
          have hb := HB.out.drew
          exact ⟨⟨i + 1, f, by omega, by omega, by go_num, hsw, HME.out, hso, hb⟩, by simp [intOf]; omega⟩
        · obtain ⟨x, hx⟩ : ∃ x, f (k + 1) = x := ⟨_, rfl⟩
          obtain ⟨y, hy⟩ : ∃ y, f k = y := ⟨_, rfl⟩
          have c1 := HSW.out.cell (k + 1) (by omega)
          have c0 := HSW.out.cell k (by omega)
          have n1 := HSW.out.frozen (o + (k + 1))
          have n0 := HSW.out.frozen (o + k)
          rw [hx] at c1
          rw [hy] at c0
          have hk0 : (0 : Int) ≤ (k : Int) + 1 := by omega
          have hk1 : (k : Int) + 1 < (n : Int) := by omega
          have hk2 : (0 : Int) ≤ (k : Int) := by omega
          have hk3 : (k : Int) < (n : Int) := by omega
          have hwk : IntKind.i64.wrap (k : Int) = (k : Int) := by rw [IntKind.wrap_i64]; omega
          have HX : Hid (f (k + 1) = x) := hx
          have HY : Hid (f k = y) := hy
          clear hx hy
          by_cases hxy : x < y
          · go_upto_region 4 with (fail)
            refine wp_region_held_drew (S := fun z => z.cell? ⟨g, o + (k + 1), none⟩ = some (.int .i64 x) ∧ z.cell? ⟨g, o + k, none⟩ = some (.int .i64 y)) (by kernel_rfl) ⟨c1, c0⟩ (fun hHeld => ?_)
            refine wpAnyH_take (i := 0) (oi := _) (v := ?v2_0) (by rw [List.getElem?_toArray]; exact rfl) (by kernel_rfl) (by kernel_rfl) (by kernel_rfl) (by intro _ _ _ h; exact h) (Or.inl ⟨by kernel_rfl, ?y2_0⟩) hHeld ?_
            case y2_0 =>
              intro w hSw
              obtain ⟨s0, s1⟩ := hSw
              go_simp
              (try with_reducible rfl)
            (try simp only [Act.put, List.setIfInBounds_toArray, List.set_cons_zero, List.set_cons_succ])
            refine wpAnyH_take (i := 1) (oi := _) (v := ?v2_1) (by rw [List.getElem?_toArray]; exact rfl) (by kernel_rfl) (by kernel_rfl) (by kernel_rfl) (by intro _ _ _ h; exact h) (Or.inl ⟨by kernel_rfl, ?y2_1⟩) hHeld ?_
            case y2_1 =>
              intro w hSw
              obtain ⟨s0, s1⟩ := hSw
              go_simp
              (try with_reducible rfl)
            (try simp only [Act.put, List.setIfInBounds_toArray, List.set_cons_zero, List.set_cons_succ])
            refine wpAnyH_take (i := 2) (oi := _) (v := .bool true) (by rw [List.getElem?_toArray]; exact rfl) (by kernel_rfl) (by kernel_rfl) (by kernel_rfl) (by intro _ _ _ h; exact h) (Or.inl ⟨by kernel_rfl, ?y2_2⟩) hHeld ?_
            case y2_2 =>
              intro w hSw
              obtain ⟨s0, s1⟩ := hSw
              go_simp
              (try with_reducible rfl)
            (try simp only [Act.put, List.setIfInBounds_toArray, List.set_cons_zero, List.set_cons_succ])
            refine wpAnyH_take (i := 3) (oi := _) (v := .bool true) (by rw [List.getElem?_toArray]; exact rfl) (by kernel_rfl) (by kernel_rfl) (by kernel_rfl) (by intro _ _ _ h; exact h) (Or.inl ⟨by kernel_rfl, ?y2_3⟩) hHeld ?_
            case y2_3 =>
              intro w hSw
              obtain ⟨s0, s1⟩ := hSw
              go_simp
              (try with_reducible rfl)
            (try simp only [Act.put, List.setIfInBounds_toArray, List.set_cons_zero, List.set_cons_succ])
            refine wpAnyH_take (i := 4) (oi := _) (v := ?v2_4) (by rw [List.getElem?_toArray]; exact rfl) (by kernel_rfl) (by kernel_rfl) (by kernel_rfl) (by intro _ _ _ h; exact h) (Or.inl ⟨by kernel_rfl, ?y2_4⟩) hHeld ?_
            case y2_4 =>
              intro w hSw
              obtain ⟨s0, s1⟩ := hSw
              go_simp
              (try with_reducible rfl)
            (try simp only [Act.put, List.setIfInBounds_toArray, List.set_cons_zero, List.set_cons_succ])
            refine wpAnyH_take (i := 5) (oi := _) (v := ?v2_5) (by rw [List.getElem?_toArray]; exact rfl) (by kernel_rfl) (by kernel_rfl) (by kernel_rfl) (by intro _ _ _ h; exact h) (Or.inl ⟨by kernel_rfl, ?y2_5⟩) hHeld ?_
            case y2_5 =>
              intro w hSw
              obtain ⟨s0, s1⟩ := hSw
              go_simp
              (try with_reducible rfl)
            (try simp only [Act.put, List.setIfInBounds_toArray, List.set_cons_zero, List.set_cons_succ])
            refine wpAnyH_take (i := 6) (oi := _) (v := ?v2_6) (by rw [List.getElem?_toArray]; exact rfl) (by kernel_rfl) (by kernel_rfl) (by kernel_rfl) (by intro _ _ _ h; exact h) (Or.inl ⟨by kernel_rfl, ?y2_6⟩) hHeld ?_
            case y2_6 =>
              intro w hSw
              obtain ⟨s0, s1⟩ := hSw
              go_simp
              (try with_reducible rfl)
            (try simp only [Act.put, List.setIfInBounds_toArray, List.set_cons_zero, List.set_cons_succ])
            refine wpAnyH_take (i := 7) (oi := _) (v := ?v2_7) (by rw [List.getElem?_toArray]; exact rfl) (by kernel_rfl) (by kernel_rfl) (by kernel_rfl) (by intro _ _ _ h; exact h) (Or.inl ⟨by kernel_rfl, ?y2_7⟩) hHeld ?_
            case y2_7 =>
              intro w hSw
              obtain ⟨s0, s1⟩ := hSw
              go_simp
              (try with_reducible rfl)
            (try simp only [Act.put, List.setIfInBounds_toArray, List.set_cons_zero, List.set_cons_succ])
            refine wpAnyH_take (i := 8) (oi := _) (v := ?v2_8) (by rw [List.getElem?_toArray]; exact rfl) (by kernel_rfl) (by kernel_rfl) (by kernel_rfl) (by intro _ _ _ h; exact h) (Or.inl ⟨by kernel_rfl, ?y2_8⟩) hHeld ?_
            case y2_8 =>
              intro w hSw
              obtain ⟨s0, s1⟩ := hSw
              go_simp
              (try with_reducible rfl)
            (try simp only [Act.put, List.setIfInBounds_toArray, List.set_cons_zero, List.set_cons_succ])
            refine wpAnyH_take (i := 9) (oi := _) (v := ?v2_9) (by rw [List.getElem?_toArray]; exact rfl) (by kernel_rfl) (by kernel_rfl) (by kernel_rfl) (by intro _ _ _ h; exact h) (Or.inl ⟨by kernel_rfl, ?y2_9⟩) hHeld ?_
            case y2_9 =>
              intro w hSw
              obtain ⟨s0, s1⟩ := hSw
              go_simp
              (try with_reducible rfl)
            (try simp only [Act.put, List.setIfInBounds_toArray, List.set_cons_zero, List.set_cons_succ])
            refine wpAnyH_take (i := 10) (oi := _) (v := .int .i64 (k : Int)) (by rw [List.getElem?_toArray]; exact rfl) (by kernel_rfl) (by kernel_rfl) (by kernel_rfl) (by intro _ _ _ h; exact h) (Or.inl ⟨by kernel_rfl, ?y2_10⟩) hHeld ?_
            case y2_10 =>
              intro w hSw
              obtain ⟨s0, s1⟩ := hSw
              go_simp
              (try with_reducible rfl)
            (try simp only [Act.put, List.setIfInBounds_toArray, List.set_cons_zero, List.set_cons_succ])
            refine wpAnyH_take (i := 11) (oi := _) (v := ?v2_11) (by rw [List.getElem?_toArray]; exact rfl) (by kernel_rfl) (by kernel_rfl) (by kernel_rfl) (by intro _ _ _ h; exact h) (Or.inl ⟨by kernel_rfl, ?y2_11⟩) hHeld ?_
            case y2_11 =>
              intro w hSw
              obtain ⟨s0, s1⟩ := hSw
              go_simp
              (try with_reducible rfl)
            (try simp only [Act.put, List.setIfInBounds_toArray, List.set_cons_zero, List.set_cons_succ])
            refine wpAnyH_take (i := 12) (oi := _) (v := ?v2_12) (by rw [List.getElem?_toArray]; exact rfl) (by kernel_rfl) (by kernel_rfl) (by kernel_rfl) (by intro _ _ _ h; exact h) (Or.inl ⟨by kernel_rfl, ?y2_12⟩) hHeld ?_
            case y2_12 =>
              intro w hSw
              obtain ⟨s0, s1⟩ := hSw
              go_simp
              (try with_reducible rfl)
            (try simp only [Act.put, List.setIfInBounds_toArray, List.set_cons_zero, List.set_cons_succ])
            refine wpAnyH_ready (rs := [13]) (by kernel_rfl) (by simp) ?_
            refine AllReadyH.cons (o := _) (by rw [List.getElem?_toArray]; exact rfl) (fun K hK => ?_) AllReadyH.nil
            rw [if_pos (by kernel_rfl)]
            go_simp
            refine (lessC_any x y _).mono ?_
            rintro e w1 ⟨rfl, rfl⟩
            rw [decide_eq_true hxy]
            refine hK.out _ _ hHeld (fun hHeld => ?_)
            clear hK K
            (try simp only [Act.put, List.setIfInBounds_toArray, List.set_cons_zero, List.set_cons_succ])
            refine wpAnyH_take (i := 14) (oi := _) (v := .bool true) (by rw [List.getElem?_toArray]; exact rfl) (by kernel_rfl) (by kernel_rfl) (by kernel_rfl) (by intro _ _ _ h; exact h) (Or.inl ⟨by kernel_rfl, ?y2_14⟩) hHeld ?_
            case y2_14 =>
              intro w hSw
              obtain ⟨s0, s1⟩ := hSw
              go_simp
              (try with_reducible rfl)
            (try simp only [Act.put, List.setIfInBounds_toArray, List.set_cons_zero, List.set_cons_succ])
            refine wpAnyH_done (by kernel_rfl) ?_ _
            (try simp only [Exit.then])
            obtain ⟨wd, hwd⟩ : ∃ wd, wr.drew = wd := ⟨_, rfl⟩
            have HSD : Hid (SW wd g o n f) := by rw [← hwd]; exact HSW.out.drew
            have HBD : Hid (Below g w wd) := by rw [← hwd]; exact HB.out.drew
            rw [hwd]
            clear hwd c0 c1 n0 n1 HSW HB
            have c1 := HSD.out.cell (k + 1) (by omega)
            have c0 := HSD.out.cell k (by omega)
            have n1 := HSD.out.frozen (o + (k + 1))
            have n0 := HSD.out.frozen (o + k)
            rw [HX.out] at c1
            rw [HY.out] at c0
            have hs1 := HSD.out.swap1 (show k + 1 < n by omega)
            have hs2 := HSD.out.swap2 (show k + 1 < n by omega)
            rw [HX.out, HY.out] at hs1 hs2
            have HS1 : Hid (SW ((wd.setCell ⟨g, o + (k + 1), none⟩ (.int .i64 y)).setCell ⟨g, o + k, none⟩ (.int .i64 x)) g o n (swp k f)) := hs1
            have HS2 : Hid (SW ((wd.setCell ⟨g, o + k, none⟩ (.int .i64 x)).setCell ⟨g, o + (k + 1), none⟩ (.int .i64 y)) g o n (swp k f)) := hs2
            have HI2 : Hid (InvJ (swp k f) i k) := inv_swp HIN.out hj (by rw [HX.out, HY.out]; exact hxy)
            have HM2 : Hid (∀ z, (∃ i, i < n ∧ swp k f i = z) ↔ ∃ i, i < n ∧ f0 i = z) := fun z => (swp_mem (show k + 1 < n by omega) z).trans (HME.out z)
            clear hs1 hs2
            go_upto_region 6 with (fail)
            go_region
            all_goals (go_wp2)
            all_goals (
              have hb := ((HBD.out.setCell (p := ⟨g, o + (k + 1), none⟩) (Nat.le_refl _) (.int .i64 y)).setCell (p := ⟨g, o + k, none⟩) (Nat.le_refl _) (.int .i64 x)).drew
              have hc := ((HBD.out.setCell (p := ⟨g, o + k, none⟩) (Nat.le_refl _) (.int .i64 x)).setCell (p := ⟨g, o + (k + 1), none⟩) (Nat.le_refl _) (.int .i64 y)).drew
              first
              | exact ⟨⟨k, swp k f, by omega, rfl, HS1.out.drew, HM2.out, HI2.out, hb⟩, by show (k : Int).toNat < ((k + 1 : Nat) : Int).toNat; omega⟩
              | exact ⟨⟨k, swp k f, by omega, rfl, HS2.out.drew, HM2.out, HI2.out, hc⟩, by show (k : Int).toNat < ((k + 1 : Nat) : Int).toNat; omega⟩)
          · go_upto_region 4 with (fail)
            refine wp_region_held_drew (S := fun z => z.cell? ⟨g, o + (k + 1), none⟩ = some (.int .i64 x) ∧ z.cell? ⟨g, o + k, none⟩ = some (.int .i64 y)) (by kernel_rfl) ⟨c1, c0⟩ (fun hHeld => ?_)
            refine wpAnyH_take (i := 0) (oi := _) (v := ?v3_0) (by rw [List.getElem?_toArray]; exact rfl) (by kernel_rfl) (by kernel_rfl) (by kernel_rfl) (by intro _ _ _ h; exact h) (Or.inl ⟨by kernel_rfl, ?y3_0⟩) hHeld ?_
            case y3_0 =>
              intro w hSw
              obtain ⟨s0, s1⟩ := hSw
              go_simp
              (try with_reducible rfl)
            (try simp only [Act.put, List.setIfInBounds_toArray, List.set_cons_zero, List.set_cons_succ])
            refine wpAnyH_take (i := 1) (oi := _) (v := ?v3_1) (by rw [List.getElem?_toArray]; exact rfl) (by kernel_rfl) (by kernel_rfl) (by kernel_rfl) (by intro _ _ _ h; exact h) (Or.inl ⟨by kernel_rfl, ?y3_1⟩) hHeld ?_
            case y3_1 =>
              intro w hSw
              obtain ⟨s0, s1⟩ := hSw
              go_simp
              (try with_reducible rfl)
            (try simp only [Act.put, List.setIfInBounds_toArray, List.set_cons_zero, List.set_cons_succ])
            refine wpAnyH_take (i := 2) (oi := _) (v := .bool true) (by rw [List.getElem?_toArray]; exact rfl) (by kernel_rfl) (by kernel_rfl) (by kernel_rfl) (by intro _ _ _ h; exact h) (Or.inl ⟨by kernel_rfl, ?y3_2⟩) hHeld ?_
            case y3_2 =>
              intro w hSw
              obtain ⟨s0, s1⟩ := hSw
              go_simp
              (try with_reducible rfl)
            (try simp only [Act.put, List.setIfInBounds_toArray, List.set_cons_zero, List.set_cons_succ])
            refine wpAnyH_take (i := 3) (oi := _) (v := .bool true) (by rw [List.getElem?_toArray]; exact rfl) (by kernel_rfl) (by kernel_rfl) (by kernel_rfl) (by intro _ _ _ h; exact h) (Or.inl ⟨by kernel_rfl, ?y3_3⟩) hHeld ?_
            case y3_3 =>
              intro w hSw
              obtain ⟨s0, s1⟩ := hSw
              go_simp
              (try with_reducible rfl)
            (try simp only [Act.put, List.setIfInBounds_toArray, List.set_cons_zero, List.set_cons_succ])
            refine wpAnyH_take (i := 4) (oi := _) (v := ?v3_4) (by rw [List.getElem?_toArray]; exact rfl) (by kernel_rfl) (by kernel_rfl) (by kernel_rfl) (by intro _ _ _ h; exact h) (Or.inl ⟨by kernel_rfl, ?y3_4⟩) hHeld ?_
            case y3_4 =>
              intro w hSw
              obtain ⟨s0, s1⟩ := hSw
              go_simp
              (try with_reducible rfl)
            (try simp only [Act.put, List.setIfInBounds_toArray, List.set_cons_zero, List.set_cons_succ])
            refine wpAnyH_take (i := 5) (oi := _) (v := ?v3_5) (by rw [List.getElem?_toArray]; exact rfl) (by kernel_rfl) (by kernel_rfl) (by kernel_rfl) (by intro _ _ _ h; exact h) (Or.inl ⟨by kernel_rfl, ?y3_5⟩) hHeld ?_
            case y3_5 =>
              intro w hSw
              obtain ⟨s0, s1⟩ := hSw
              go_simp
              (try with_reducible rfl)
            (try simp only [Act.put, List.setIfInBounds_toArray, List.set_cons_zero, List.set_cons_succ])
            refine wpAnyH_take (i := 6) (oi := _) (v := ?v3_6) (by rw [List.getElem?_toArray]; exact rfl) (by kernel_rfl) (by kernel_rfl) (by kernel_rfl) (by intro _ _ _ h; exact h) (Or.inl ⟨by kernel_rfl, ?y3_6⟩) hHeld ?_
            case y3_6 =>
              intro w hSw
              obtain ⟨s0, s1⟩ := hSw
              go_simp
              (try with_reducible rfl)
            (try simp only [Act.put, List.setIfInBounds_toArray, List.set_cons_zero, List.set_cons_succ])
            refine wpAnyH_take (i := 7) (oi := _) (v := ?v3_7) (by rw [List.getElem?_toArray]; exact rfl) (by kernel_rfl) (by kernel_rfl) (by kernel_rfl) (by intro _ _ _ h; exact h) (Or.inl ⟨by kernel_rfl, ?y3_7⟩) hHeld ?_
            case y3_7 =>
              intro w hSw
              obtain ⟨s0, s1⟩ := hSw
              go_simp
              (try with_reducible rfl)
            (try simp only [Act.put, List.setIfInBounds_toArray, List.set_cons_zero, List.set_cons_succ])
            refine wpAnyH_take (i := 8) (oi := _) (v := ?v3_8) (by rw [List.getElem?_toArray]; exact rfl) (by kernel_rfl) (by kernel_rfl) (by kernel_rfl) (by intro _ _ _ h; exact h) (Or.inl ⟨by kernel_rfl, ?y3_8⟩) hHeld ?_
            case y3_8 =>
              intro w hSw
              obtain ⟨s0, s1⟩ := hSw
              go_simp
              (try with_reducible rfl)
            (try simp only [Act.put, List.setIfInBounds_toArray, List.set_cons_zero, List.set_cons_succ])
            refine wpAnyH_take (i := 9) (oi := _) (v := ?v3_9) (by rw [List.getElem?_toArray]; exact rfl) (by kernel_rfl) (by kernel_rfl) (by kernel_rfl) (by intro _ _ _ h; exact h) (Or.inl ⟨by kernel_rfl, ?y3_9⟩) hHeld ?_
            case y3_9 =>
              intro w hSw
              obtain ⟨s0, s1⟩ := hSw
              go_simp
              (try with_reducible rfl)
            (try simp only [Act.put, List.setIfInBounds_toArray, List.set_cons_zero, List.set_cons_succ])
            refine wpAnyH_take (i := 10) (oi := _) (v := .int .i64 (k : Int)) (by rw [List.getElem?_toArray]; exact rfl) (by kernel_rfl) (by kernel_rfl) (by kernel_rfl) (by intro _ _ _ h; exact h) (Or.inl ⟨by kernel_rfl, ?y3_10⟩) hHeld ?_
            case y3_10 =>
              intro w hSw
              obtain ⟨s0, s1⟩ := hSw
              go_simp
              (try with_reducible rfl)
            (try simp only [Act.put, List.setIfInBounds_toArray, List.set_cons_zero, List.set_cons_succ])
            refine wpAnyH_take (i := 11) (oi := _) (v := ?v3_11) (by rw [List.getElem?_toArray]; exact rfl) (by kernel_rfl) (by kernel_rfl) (by kernel_rfl) (by intro _ _ _ h; exact h) (Or.inl ⟨by kernel_rfl, ?y3_11⟩) hHeld ?_
            case y3_11 =>
              intro w hSw
              obtain ⟨s0, s1⟩ := hSw
              go_simp
              (try with_reducible rfl)
            (try simp only [Act.put, List.setIfInBounds_toArray, List.set_cons_zero, List.set_cons_succ])
            refine wpAnyH_take (i := 12) (oi := _) (v := ?v3_12) (by rw [List.getElem?_toArray]; exact rfl) (by kernel_rfl) (by kernel_rfl) (by kernel_rfl) (by intro _ _ _ h; exact h) (Or.inl ⟨by kernel_rfl, ?y3_12⟩) hHeld ?_
            case y3_12 =>
              intro w hSw
              obtain ⟨s0, s1⟩ := hSw
              go_simp
              (try with_reducible rfl)
            (try simp only [Act.put, List.setIfInBounds_toArray, List.set_cons_zero, List.set_cons_succ])
            refine wpAnyH_ready (rs := [13]) (by kernel_rfl) (by simp) ?_
            refine AllReadyH.cons (o := _) (by rw [List.getElem?_toArray]; exact rfl) (fun K hK => ?_) AllReadyH.nil
            rw [if_pos (by kernel_rfl)]
            go_simp
            refine (lessC_any x y _).mono ?_
            rintro e w1 ⟨rfl, rfl⟩
            rw [decide_eq_false hxy]
            refine hK.out _ _ hHeld (fun hHeld => ?_)
            clear hK K
            (try simp only [Act.put, List.setIfInBounds_toArray, List.set_cons_zero, List.set_cons_succ])
            refine wpAnyH_take (i := 14) (oi := _) (v := .bool false) (by rw [List.getElem?_toArray]; exact rfl) (by kernel_rfl) (by kernel_rfl) (by kernel_rfl) (by intro _ _ _ h; exact h) (Or.inl ⟨by kernel_rfl, ?y3_14⟩) hHeld ?_
            case y3_14 =>
              intro w hSw
              obtain ⟨s0, s1⟩ := hSw
              go_simp
              (try with_reducible rfl)
            (try simp only [Act.put, List.setIfInBounds_toArray, List.set_cons_zero, List.set_cons_succ])
            refine wpAnyH_done (by kernel_rfl) ?_ _
            (try simp only [Exit.then])
            go_wp2
            have hso := inv_end HIN.out (by rw [HX.out, HY.out]; exact hxy)
            have hsw := HSW.out.drew
            have hb := HB.out.drew
            exact ⟨⟨i + 1, f, by omega, by omega, by go_num, hsw, HME.out, hso, hb⟩, by simp [intOf]; omega⟩
    · have HSN : Hid (∀ p q, p < q → q < n → f p ≤ f q) := fun p q h1 h2 => HSO.out p q h1 (by omega)
      go_wp2
      go_end0
      exact ⟨⟨rfl, f, HSW.out, HME.out, HSN.out⟩, HB.out⟩
set_option maxHeartbeats 8000000 in
set_option maxRecDepth 100000 in
theorem pdq_any (g o n c : Nat) (l : Int) (f0 : Nat → Int) (hn : n ≤ 12) (w : World) (hg : g < w.heap.size) (h : SW w g o n f0) :
    Calls Try.prog 109 #[.slice (some ⟨g, o, none⟩) n c, .int .i64 0, .int .i64 n, .int .i64 l] w fun e w' => (e = .returned (.tuple #[]) ∧ ∃ f, SW w' g o n f ∧ (∀ x, (∃ i, i < n ∧ f i = x) ↔ ∃ i, i < n ∧ f0 i = x) ∧ ∀ p q, p < q → q < n → f p ≤ f q) ∧ Below g w w' := by
  have H : Hid (SW w g o n f0) := h
  clear h
  have hle : (n : Int) ≤ 12 := by omega
  have hwk : IntKind.i64.wrap (n : Int) = (n : Int) := by rw [IntKind.wrap_i64]; omega
  go_enter Try.func109, Try.ntmps109
  go_wp2
  refine wp_loop_rounds 1 ?_
  rw [rounds_succ]
  go_wp2_with fail
  refine (insertion_any g o n c f0 hn _ hg H.out).mono ?_
  rintro e w1 ⟨⟨rfl, f, h1, h2, h3⟩, hb⟩
  have H1 : Hid (SW w1 g o n f) := h1
  have H2 : Hid (∀ x, (∃ i, i < n ∧ f i = x) ↔ ∃ i, i < n ∧ f0 i = x) := h2
  have H3 : Hid (∀ p q, p < q → q < n → f p ≤ f q) := h3
  have HB : Hid (Below g w w1) := hb
  clear h1 h2 h3 hb
  go_wp2
  refine bodyPost_ret (results_none rfl _ _ _) rfl ?_
  exact ⟨⟨rfl, f, H1.out, H2.out, H3.out⟩, HB.out⟩
set_option maxHeartbeats 8000000 in
set_option maxRecDepth 100000 in
theorem len64_any (n : Nat) (hn : n ≤ 12) (w : World) : Calls Try.prog 120 #[.int .u64 n] w fun e w' => (∃ l : Int, e = .returned (.int .i64 l)) ∧ w' = w := by
  have h : n = 0 ∨ n = 1 ∨ n = 2 ∨ n = 3 ∨ n = 4 ∨ n = 5 ∨ n = 6 ∨ n = 7 ∨ n = 8 ∨ n = 9 ∨ n = 10 ∨ n = 11 ∨ n = 12 := by omega
  clear hn
  rcases h with rfl | rfl | rfl | rfl | rfl | rfl | rfl | rfl | rfl | rfl | rfl | rfl | rfl <;> (go_enter Try.func120, Try.ntmps120; go_wp2; go_ret; exact ⟨⟨_, rfl⟩, rfl⟩)
set_option maxHeartbeats 8000000 in
set_option maxRecDepth 100000 in
theorem lenB_any (n : Nat) (hn : n ≤ 12) (w : World) : Calls Try.prog 110 #[.int .u64 n] w fun e w' => (∃ l : Int, e = .returned (.int .i64 l)) ∧ w' = w := by
  go_enter Try.func110, Try.ntmps110
  go_wp2_with fail
  refine (len64_any n hn _).mono ?_
  rintro e w1 ⟨⟨l, rfl⟩, rfl⟩
  go_wp2
  go_ret
  exact ⟨⟨l, rfl⟩, rfl⟩
set_option maxHeartbeats 8000000 in
set_option maxRecDepth 100000 in
theorem sort_any (g o n c : Nat) (f0 : Nat → Int) (hn : n ≤ 12) (w : World) (hg : g < w.heap.size) (h : SW w g o n f0) :
    Calls Try.prog 105 #[.slice (some ⟨g, o, none⟩) n c] w fun e w' => (e = .returned (.tuple #[]) ∧ ∃ f, SW w' g o n f ∧ (∀ x, (∃ i, i < n ∧ f i = x) ↔ ∃ i, i < n ∧ f0 i = x) ∧ ∀ p q, p < q → q < n → f p ≤ f q) ∧ Below g w w' := by
  have H : Hid (SW w g o n f0) := h
  clear h
  have hwu : IntKind.u64.wrap (n : Int) = (n : Int) := by rw [IntKind.wrap_u64]; omega
  go_enter Try.func105, Try.ntmps105
  go_wp2_with fail
  refine (lenB_any n hn _).mono ?_
  rintro e w1 ⟨⟨l, rfl⟩, rfl⟩
  go_wp2_with fail
  refine (pdq_any g o n c l f0 hn _ hg H.out).mono ?_
  rintro e w2 ⟨⟨rfl, f, h1, h2, h3⟩, hb⟩
  have H1 : Hid (SW w2 g o n f) := h1
  have H2 : Hid (∀ x, (∃ i, i < n ∧ f i = x) ↔ ∃ i, i < n ∧ f0 i = x) := h2
  have H3 : Hid (∀ p q, p < q → q < n → f p ≤ f q) := h3
  have HB : Hid (Below g w1 w2) := hb
  clear h1 h2 h3 hb
  go_wp2
  go_end0
  exact ⟨⟨rfl, f, H1.out, H2.out, H3.out⟩, HB.out⟩
set_option maxHeartbeats 8000000 in
set_option maxRecDepth 100000 in
theorem insertion_none (w : World) : Calls Try.prog 111 #[.slice none 0 0, .int .i64 0, .int .i64 0] w fun e w' => e = .returned (.tuple #[]) ∧ w' = w := by
  go_enter Try.func111, Try.ntmps111
  go_wp2
  refine wp_loop_rounds 1 ?_
  rw [rounds_succ]
  go_wp2
  go_end0
  exact ⟨rfl, rfl⟩
set_option maxHeartbeats 8000000 in
set_option maxRecDepth 100000 in
theorem pdq_none (l : Int) (w : World) : Calls Try.prog 109 #[.slice none 0 0, .int .i64 0, .int .i64 0, .int .i64 l] w fun e w' => e = .returned (.tuple #[]) ∧ w' = w := by
  go_enter Try.func109, Try.ntmps109
  go_wp2
  refine wp_loop_rounds 1 ?_
  rw [rounds_succ]
  go_wp2_with fail
  refine (insertion_none _).mono ?_
  rintro e w1 ⟨rfl, rfl⟩
  go_wp2
  refine bodyPost_ret (results_none rfl _ _ _) rfl ?_
  exact ⟨rfl, rfl⟩
set_option maxHeartbeats 8000000 in
set_option maxRecDepth 100000 in
theorem sort_none (w : World) : Calls Try.prog 105 #[.slice none 0 0] w fun e w' => e = .returned (.tuple #[]) ∧ w' = w := by
  go_enter Try.func105, Try.ntmps105
  go_wp2_with fail
  refine (lenB_any 0 (by omega) _).mono ?_
  rintro e w1 ⟨⟨l, rfl⟩, rfl⟩
  go_wp2_with fail
  refine (pdq_none l _).mono ?_
  rintro e w2 ⟨rfl, rfl⟩
  go_wp2
  go_end0
  exact ⟨rfl, rfl⟩
end Go.Proofs.Ytmgofehafjogfaa
