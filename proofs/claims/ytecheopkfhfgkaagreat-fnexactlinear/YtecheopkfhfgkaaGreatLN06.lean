/- Texts joined: SpecLi, SpecFails. -/
import Derived.Test.YtecheopkfhfgkaaGreatLN04
import Derived.Test.YtecheopkfhfgkaaGreatLN05
import Derived.Deep.Cut
import Derived.Deep.RegionHeld3
set_option maxHeartbeats 16000000
set_option maxRecDepth 100000
namespace Go.Proofs.YtecheopkfhfgkaaGreat
section
open Go.ChangeShapes Go.WideShapes Go.ChangeAt Go.RowKit
theorem spec_ahead (a b : CaD) (va vb : Value) (w : World) : Calls Tryz.prog 60 #[CaV a va, CaV b vb] w fun e w' => e = .returned (.bool (AheadM a b)) ∧ Below w.heap.size w w' := by
  obtain ⟨x0, x1, x2, x3, x4, x5, x6, x7⟩ := a
  obtain ⟨y0, y1, y2, y3, y4, y5, y6, y7⟩ := b
  have hb : Below w.heap.size w ((w.alloc (.cells #[.int .i64 x0, .int .i64 x1, .int .i64 x2, .int .i64 x3, .int .i64 x4, .int .i64 x5, .int .i64 x6, .int .i64 x7, va] 52)).alloc (.cells #[.int .i64 y0, .int .i64 y1, .int .i64 y2, .int .i64 y3, .int .i64 y4, .int .i64 y5, .int .i64 y6, .int .i64 y7, vb] 52)) := ((Below.refl _ w).alloc (Nat.le_refl _) _).alloc (by simp) _
  have HB : Hid (Below w.heap.size w ((w.alloc (.cells #[.int .i64 x0, .int .i64 x1, .int .i64 x2, .int .i64 x3, .int .i64 x4, .int .i64 x5, .int .i64 x6, .int .i64 x7, va] 52)).alloc (.cells #[.int .i64 y0, .int .i64 y1, .int .i64 y2, .int .i64 y3, .int .i64 y4, .int .i64 y5, .int .i64 y6, .int .i64 y7, vb] 52))) := hb
  show Calls Tryz.prog 60 #[.agg #[.int .i64 x0, .int .i64 x1, .int .i64 x2, .int .i64 x3, .int .i64 x4, .int .i64 x5, .int .i64 x6, .int .i64 x7, va], .agg #[.int .i64 y0, .int .i64 y1, .int .i64 y2, .int .i64 y3, .int .i64 y4, .int .i64 y5, .int .i64 y6, .int .i64 y7, vb]] w fun e w' => e = .returned (.bool (decide (0 ≤ x6) && decide (x6 < y4))) ∧ Below w.heap.size w w'
  clear hb
  by_cases h : 0 ≤ x6
  · rw [decide_eq_true h]
    go_enter Tryz.func60, Tryz.ntmps60
    go_wp2
    go_ret
    exact ⟨by simp, HB.out⟩
  · rw [decide_eq_false h]
    go_enter Tryz.func60, Tryz.ntmps60
    go_wp2
    go_ret
    exact ⟨by simp, HB.out⟩

theorem spec_free (ca : Option Addr) (m cc : Nat) (f : Nat → CaD) (g gc : Nat) (u : Nat → Bool) (k : Nat) (hk : k < m) (w : World) (h1 : CasAt w ca m f) (h2 : UsedAt w g m u) :
    Calls Tryz.prog 35 #[.slice ca m cc, .slice (some ⟨g, 0, none⟩) m gc, .int .i64 (k : Int)] w fun e w' => ∃ ok, (e = .returned (.bool ok) ∧ (ok = true ↔ FreeM f m u k)) ∧ Below w.heap.size w w' := by
  obtain ⟨G, hG⟩ : ∃ G : Prop, FreeM f m u k = G := ⟨_, rfl⟩
  have HG : Hid (G ↔ FreeM f m u k) := by show _ ↔ _; rw [hG]
  rw [hG]
  have H1 : Hid (CasAt w ca m f) := h1
  have H2 : Hid (UsedAt w g m u) := h2
  have hm := h1.1
  have hk0 : (0 : Int) ≤ (k : Int) := by omega
  have hk1 : (k : Int) < (m : Int) := by omega
  clear h1 h2 hG
  go_enter Tryz.func35, Tryz.ntmps35
  go_wp2
  go_loopw [7] (fun q wr => ∃ i : Nat, i ≤ m ∧ q = .int .i64 (i : Int) ∧ (∀ j, j < i → j ≠ k → u j = false → AheadM (f j) (f k) = false) ∧ Below w.heap.size w wr) (fun q _ => m - (intOf q).toNat)
  case atStart => exact ⟨0, Nat.zero_le _, rfl, (fun j h => by omega), Below.refl _ _⟩
  case round =>
    obtain ⟨i, hi, rfl, hall, hb⟩ := hrel
    have HALL : Hid (∀ j, j < i → j ≠ k → u j = false → AheadM (f j) (f k) = false) := hall
    have HB : Hid (Below w.heap.size w wr) := hb
    clear hall hb
    by_cases hlt : i < m
    case neg =>
      obtain rfl : m = i := by omega
      have HYES : Hid G := HG.out.2 HALL.out
      go_wp2
      go_ret
      first | exact ⟨true, ⟨rfl, by simp [HYES.out]⟩, HB.out⟩ | exact ⟨.inr ⟨rfl, HYES.out⟩, HB.out⟩
    have hi0 : (0 : Int) ≤ (i : Int) := by omega
    have hi1 : (i : Int) < (m : Int) := by omega
    rcases (H1.out.below HB.out (Nat.le_refl _)).2 with h0 | ⟨p1, o1, rfl, g1⟩
    · omega
    obtain ⟨ra, rn, rc, e0, e1, e2, e3, e4, e5, e6, e7, e8⟩ := g1 i hlt
    obtain ⟨sa, sn, sc, d0, d1, d2, d3, d4, d5, d6, d7, d8⟩ := g1 k hk
    have z0 := (H2.out.below HB.out (Nat.le_refl _)).at_ hlt
    obtain ⟨C, hC⟩ : ∃ C, f i = C := ⟨_, rfl⟩
    obtain ⟨E, hE⟩ : ∃ E, f k = E := ⟨_, rfl⟩
    have HCC : Hid (f i = C ∧ f k = E) := ⟨hC, hE⟩
    rw [hC] at e0 e1 e2 e3 e4 e5 e6 e7
    rw [hE] at d0 d1 d2 d3 d4 d5 d6 d7
    obtain ⟨x0, x1, x2, x3, x4, x5, x6, x7⟩ := C
    obtain ⟨y0, y1, y2, y3, y4, y5, y6, y7⟩ := E
    dsimp only at e0 e1 e2 e3 e4 e5 e6 e7 d0 d1 d2 d3 d4 d5 d6 d7
    obtain ⟨b, hbu⟩ : ∃ b, u i = b := ⟨_, rfl⟩
    have HU : Hid (u i = b) := hbu
    rw [hbu] at z0
    have HB' : Hid (Below w.heap.size w wr.drew) := HB.out.drew
    have NXT : Hid ((i ≠ k → b = false → AheadM ⟨x0, x1, x2, x3, x4, x5, x6, x7⟩ ⟨y0, y1, y2, y3, y4, y5, y6, y7⟩ = false) → ∀ l, l < i + 1 → l ≠ k → u l = false → AheadM (f l) (f k) = false) := fun h l hl hlk hul => by
      by_cases e : l = i
      · subst e
        rw [HCC.out.1, HCC.out.2]
        exact h hlk (by rw [← HU.out]; exact hul)
      · exact HALL.out l (by omega) hlk hul
    clear g1 hC hE hbu
    by_cases hik : i = k
    · have hne : (((i : Nat) : Int) != ((k : Nat) : Int)) = false := by simp; omega
      go_wp2_with fail
      refine wp_region_held_drew (S := fun w' => w'.cell? ⟨g, i, none⟩ = some (.bool b) ∧ (w'.cell? ⟨p1, o1 + i * 9, none⟩ = some (I x0) ∧ w'.cell? ⟨p1, o1 + i * 9 + 1, none⟩ = some (I x1) ∧ w'.cell? ⟨p1, o1 + i * 9 + 2, none⟩ = some (I x2) ∧ w'.cell? ⟨p1, o1 + i * 9 + 3, none⟩ = some (I x3) ∧ w'.cell? ⟨p1, o1 + i * 9 + 4, none⟩ = some (I x4) ∧ w'.cell? ⟨p1, o1 + i * 9 + 5, none⟩ = some (I x5) ∧ w'.cell? ⟨p1, o1 + i * 9 + 6, none⟩ = some (I x6) ∧ w'.cell? ⟨p1, o1 + i * 9 + 7, none⟩ = some (I x7) ∧ w'.cell? ⟨p1, o1 + i * 9 + 8, none⟩ = some (.slice ra rn rc)) ∧ w'.cell? ⟨p1, o1 + k * 9, none⟩ = some (I y0) ∧ w'.cell? ⟨p1, o1 + k * 9 + 1, none⟩ = some (I y1) ∧ w'.cell? ⟨p1, o1 + k * 9 + 2, none⟩ = some (I y2) ∧ w'.cell? ⟨p1, o1 + k * 9 + 3, none⟩ = some (I y3) ∧ w'.cell? ⟨p1, o1 + k * 9 + 4, none⟩ = some (I y4) ∧ w'.cell? ⟨p1, o1 + k * 9 + 5, none⟩ = some (I y5) ∧ w'.cell? ⟨p1, o1 + k * 9 + 6, none⟩ = some (I y6) ∧ w'.cell? ⟨p1, o1 + k * 9 + 7, none⟩ = some (I y7) ∧ w'.cell? ⟨p1, o1 + k * 9 + 8, none⟩ = some (.slice sa sn sc)) (by kernel_rfl) ⟨z0, ⟨e0, e1, e2, e3, e4, e5, e6, e7, e8⟩, d0, d1, d2, d3, d4, d5, d6, d7, d8⟩ (fun hHeld => ?_)
      refine wpAnyH_take (i := 0) (oi := _) (v := .int .i64 (i : Int)) (by rw [List.getElem?_toArray]; exact rfl) (by kernel_rfl) (by kernel_rfl) (by kernel_rfl) (by intro _ _ _ h; exact h) (Or.inl ⟨by kernel_rfl, ?_⟩) hHeld ?_
      · intro w' hSw; obtain ⟨s0, ⟨s1, s2, s3, s4, s5, s6, s7, s8, s9⟩, t0, t1, t2, t3, t4, t5, t6, t7, t8⟩ := hSw; go_simp
      simp only [Act.put, List.setIfInBounds_toArray, List.set_cons_zero, List.set_cons_succ]
      refine wpAnyH_take (i := 1) (oi := _) (v := .int .i64 (k : Int)) (by rw [List.getElem?_toArray]; exact rfl) (by kernel_rfl) (by kernel_rfl) (by kernel_rfl) (by intro _ _ _ h; exact h) (Or.inl ⟨by kernel_rfl, ?_⟩) hHeld ?_
      · intro w' hSw; obtain ⟨s0, ⟨s1, s2, s3, s4, s5, s6, s7, s8, s9⟩, t0, t1, t2, t3, t4, t5, t6, t7, t8⟩ := hSw; go_simp
      simp only [Act.put, List.setIfInBounds_toArray, List.set_cons_zero, List.set_cons_succ]
      refine wpAnyH_take (i := 2) (oi := _) (v := .bool false) (by rw [List.getElem?_toArray]; exact rfl) (by kernel_rfl) (by kernel_rfl) (by kernel_rfl) (by intro _ _ _ h; exact h) (Or.inl ⟨by kernel_rfl, ?_⟩) hHeld ?_
      · intro w' hSw; obtain ⟨s0, ⟨s1, s2, s3, s4, s5, s6, s7, s8, s9⟩, t0, t1, t2, t3, t4, t5, t6, t7, t8⟩ := hSw; go_simp
      simp only [Act.put, List.setIfInBounds_toArray, List.set_cons_zero, List.set_cons_succ]
      refine wpAnyH_take (i := 3) (oi := _) (v := .bool false) (by rw [List.getElem?_toArray]; exact rfl) (by kernel_rfl) (by kernel_rfl) (by kernel_rfl) (by intro _ _ _ h; exact h) (Or.inl ⟨by kernel_rfl, ?_⟩) hHeld ?_
      · intro w' hSw; obtain ⟨s0, ⟨s1, s2, s3, s4, s5, s6, s7, s8, s9⟩, t0, t1, t2, t3, t4, t5, t6, t7, t8⟩ := hSw; go_simp
      simp only [Act.put, List.setIfInBounds_toArray, List.set_cons_zero, List.set_cons_succ]
      refine wpAnyH_take (i := 4) (oi := _) (v := undef) (by rw [List.getElem?_toArray]; exact rfl) (by kernel_rfl) (by kernel_rfl) (by kernel_rfl) (by intro _ _ _ h; exact h) (Or.inr ⟨by kernel_rfl, rfl⟩) hHeld ?_
      simp only [Act.put, List.setIfInBounds_toArray, List.set_cons_zero, List.set_cons_succ]
      refine wpAnyH_take (i := 5) (oi := _) (v := undef) (by rw [List.getElem?_toArray]; exact rfl) (by kernel_rfl) (by kernel_rfl) (by kernel_rfl) (by intro _ _ _ h; exact h) (Or.inr ⟨by kernel_rfl, rfl⟩) hHeld ?_
      simp only [Act.put, List.setIfInBounds_toArray, List.set_cons_zero, List.set_cons_succ]
      refine wpAnyH_take (i := 6) (oi := _) (v := undef) (by rw [List.getElem?_toArray]; exact rfl) (by kernel_rfl) (by kernel_rfl) (by kernel_rfl) (by intro _ _ _ h; exact h) (Or.inr ⟨by kernel_rfl, rfl⟩) hHeld ?_
      simp only [Act.put, List.setIfInBounds_toArray, List.set_cons_zero, List.set_cons_succ]
      refine wpAnyH_take (i := 7) (oi := _) (v := undef) (by rw [List.getElem?_toArray]; exact rfl) (by kernel_rfl) (by kernel_rfl) (by kernel_rfl) (by intro _ _ _ h; exact h) (Or.inr ⟨by kernel_rfl, rfl⟩) hHeld ?_
      simp only [Act.put, List.setIfInBounds_toArray, List.set_cons_zero, List.set_cons_succ]
      refine wpAnyH_take (i := 8) (oi := _) (v := undef) (by rw [List.getElem?_toArray]; exact rfl) (by kernel_rfl) (by kernel_rfl) (by kernel_rfl) (by intro _ _ _ h; exact h) (Or.inr ⟨by kernel_rfl, rfl⟩) hHeld ?_
      simp only [Act.put, List.setIfInBounds_toArray, List.set_cons_zero, List.set_cons_succ]
      refine wpAnyH_take (i := 9) (oi := _) (v := .bool false) (by rw [List.getElem?_toArray]; exact rfl) (by kernel_rfl) (by kernel_rfl) (by kernel_rfl) (by intro _ _ _ h; exact h) (Or.inl ⟨by kernel_rfl, ?_⟩) hHeld ?_
      · intro w' hSw; obtain ⟨s0, ⟨s1, s2, s3, s4, s5, s6, s7, s8, s9⟩, t0, t1, t2, t3, t4, t5, t6, t7, t8⟩ := hSw; go_simp
      simp only [Act.put, List.setIfInBounds_toArray, List.set_cons_zero, List.set_cons_succ]
      refine wpAnyH_take (i := 10) (oi := _) (v := .bool false) (by rw [List.getElem?_toArray]; exact rfl) (by kernel_rfl) (by kernel_rfl) (by kernel_rfl) (by intro _ _ _ h; exact h) (Or.inl ⟨by kernel_rfl, ?_⟩) hHeld ?_
      · intro w' hSw; obtain ⟨s0, ⟨s1, s2, s3, s4, s5, s6, s7, s8, s9⟩, t0, t1, t2, t3, t4, t5, t6, t7, t8⟩ := hSw; go_simp
      simp only [Act.put, List.setIfInBounds_toArray, List.set_cons_zero, List.set_cons_succ]
      refine wpAnyH_take (i := 11) (oi := _) (v := undef) (by rw [List.getElem?_toArray]; exact rfl) (by kernel_rfl) (by kernel_rfl) (by kernel_rfl) (by intro _ _ _ h; exact h) (Or.inr ⟨by kernel_rfl, rfl⟩) hHeld ?_
      simp only [Act.put, List.setIfInBounds_toArray, List.set_cons_zero, List.set_cons_succ]
      refine wpAnyH_take (i := 12) (oi := _) (v := undef) (by rw [List.getElem?_toArray]; exact rfl) (by kernel_rfl) (by kernel_rfl) (by kernel_rfl) (by intro _ _ _ h; exact h) (Or.inr ⟨by kernel_rfl, rfl⟩) hHeld ?_
      simp only [Act.put, List.setIfInBounds_toArray, List.set_cons_zero, List.set_cons_succ]
      refine wpAnyH_take (i := 13) (oi := _) (v := undef) (by rw [List.getElem?_toArray]; exact rfl) (by kernel_rfl) (by kernel_rfl) (by kernel_rfl) (by intro _ _ _ h; exact h) (Or.inr ⟨by kernel_rfl, rfl⟩) hHeld ?_
      simp only [Act.put, List.setIfInBounds_toArray, List.set_cons_zero, List.set_cons_succ]
      refine wpAnyH_take (i := 14) (oi := _) (v := undef) (by rw [List.getElem?_toArray]; exact rfl) (by kernel_rfl) (by kernel_rfl) (by kernel_rfl) (by intro _ _ _ h; exact h) (Or.inr ⟨by kernel_rfl, rfl⟩) hHeld ?_
      simp only [Act.put, List.setIfInBounds_toArray, List.set_cons_zero, List.set_cons_succ]
      refine wpAnyH_take (i := 15) (oi := _) (v := undef) (by rw [List.getElem?_toArray]; exact rfl) (by kernel_rfl) (by kernel_rfl) (by kernel_rfl) (by intro _ _ _ h; exact h) (Or.inr ⟨by kernel_rfl, rfl⟩) hHeld ?_
      simp only [Act.put, List.setIfInBounds_toArray, List.set_cons_zero, List.set_cons_succ]
      refine wpAnyH_take (i := 16) (oi := _) (v := undef) (by rw [List.getElem?_toArray]; exact rfl) (by kernel_rfl) (by kernel_rfl) (by kernel_rfl) (by intro _ _ _ h; exact h) (Or.inr ⟨by kernel_rfl, rfl⟩) hHeld ?_
      simp only [Act.put, List.setIfInBounds_toArray, List.set_cons_zero, List.set_cons_succ]
      refine wpAnyH_take (i := 17) (oi := _) (v := undef) (by rw [List.getElem?_toArray]; exact rfl) (by kernel_rfl) (by kernel_rfl) (by kernel_rfl) (by intro _ _ _ h; exact h) (Or.inr ⟨by kernel_rfl, rfl⟩) hHeld ?_
      simp only [Act.put, List.setIfInBounds_toArray, List.set_cons_zero, List.set_cons_succ]
      refine wpAnyH_take (i := 18) (oi := _) (v := undef) (by rw [List.getElem?_toArray]; exact rfl) (by kernel_rfl) (by kernel_rfl) (by kernel_rfl) (by intro _ _ _ h; exact h) (Or.inr ⟨by kernel_rfl, rfl⟩) hHeld ?_
      simp only [Act.put, List.setIfInBounds_toArray, List.set_cons_zero, List.set_cons_succ]
      refine wpAnyH_take (i := 19) (oi := _) (v := undef) (by rw [List.getElem?_toArray]; exact rfl) (by kernel_rfl) (by kernel_rfl) (by kernel_rfl) (by intro _ _ _ h; exact h) (Or.inr ⟨by kernel_rfl, rfl⟩) hHeld ?_
      simp only [Act.put, List.setIfInBounds_toArray, List.set_cons_zero, List.set_cons_succ]
      refine wpAnyH_take (i := 20) (oi := _) (v := .bool false) (by rw [List.getElem?_toArray]; exact rfl) (by kernel_rfl) (by kernel_rfl) (by kernel_rfl) (by intro _ _ _ h; exact h) (Or.inl ⟨by kernel_rfl, ?_⟩) hHeld ?_
      · intro w' hSw; obtain ⟨s0, ⟨s1, s2, s3, s4, s5, s6, s7, s8, s9⟩, t0, t1, t2, t3, t4, t5, t6, t7, t8⟩ := hSw; go_simp
      simp only [Act.put, List.setIfInBounds_toArray, List.set_cons_zero, List.set_cons_succ]
      refine wpAnyH_done (by kernel_rfl) ?_ _
      go_wp2
      exact ⟨⟨i + 1, by omega, by go_num, NXT.out (fun h => absurd hik h), HB'.out⟩, by simp [intOf]; omega⟩
    have hne : (((i : Nat) : Int) != ((k : Nat) : Int)) = true := by simp; omega
    rcases b with _ | _
    · go_wp2_with fail
      refine wp_region_held_drew (S := fun w' => w'.cell? ⟨g, i, none⟩ = some (.bool false) ∧ (w'.cell? ⟨p1, o1 + i * 9, none⟩ = some (I x0) ∧ w'.cell? ⟨p1, o1 + i * 9 + 1, none⟩ = some (I x1) ∧ w'.cell? ⟨p1, o1 + i * 9 + 2, none⟩ = some (I x2) ∧ w'.cell? ⟨p1, o1 + i * 9 + 3, none⟩ = some (I x3) ∧ w'.cell? ⟨p1, o1 + i * 9 + 4, none⟩ = some (I x4) ∧ w'.cell? ⟨p1, o1 + i * 9 + 5, none⟩ = some (I x5) ∧ w'.cell? ⟨p1, o1 + i * 9 + 6, none⟩ = some (I x6) ∧ w'.cell? ⟨p1, o1 + i * 9 + 7, none⟩ = some (I x7) ∧ w'.cell? ⟨p1, o1 + i * 9 + 8, none⟩ = some (.slice ra rn rc)) ∧ w'.cell? ⟨p1, o1 + k * 9, none⟩ = some (I y0) ∧ w'.cell? ⟨p1, o1 + k * 9 + 1, none⟩ = some (I y1) ∧ w'.cell? ⟨p1, o1 + k * 9 + 2, none⟩ = some (I y2) ∧ w'.cell? ⟨p1, o1 + k * 9 + 3, none⟩ = some (I y3) ∧ w'.cell? ⟨p1, o1 + k * 9 + 4, none⟩ = some (I y4) ∧ w'.cell? ⟨p1, o1 + k * 9 + 5, none⟩ = some (I y5) ∧ w'.cell? ⟨p1, o1 + k * 9 + 6, none⟩ = some (I y6) ∧ w'.cell? ⟨p1, o1 + k * 9 + 7, none⟩ = some (I y7) ∧ w'.cell? ⟨p1, o1 + k * 9 + 8, none⟩ = some (.slice sa sn sc)) (by kernel_rfl) ⟨z0, ⟨e0, e1, e2, e3, e4, e5, e6, e7, e8⟩, d0, d1, d2, d3, d4, d5, d6, d7, d8⟩ (fun hHeld => ?_)
      refine wpAnyH_take (i := 0) (oi := _) (v := .int .i64 (i : Int)) (by rw [List.getElem?_toArray]; exact rfl) (by kernel_rfl) (by kernel_rfl) (by kernel_rfl) (by intro _ _ _ h; exact h) (Or.inl ⟨by kernel_rfl, ?_⟩) hHeld ?_
      · intro w' hSw; obtain ⟨s0, ⟨s1, s2, s3, s4, s5, s6, s7, s8, s9⟩, t0, t1, t2, t3, t4, t5, t6, t7, t8⟩ := hSw; go_simp
      simp only [Act.put, List.setIfInBounds_toArray, List.set_cons_zero, List.set_cons_succ]
      refine wpAnyH_take (i := 1) (oi := _) (v := .int .i64 (k : Int)) (by rw [List.getElem?_toArray]; exact rfl) (by kernel_rfl) (by kernel_rfl) (by kernel_rfl) (by intro _ _ _ h; exact h) (Or.inl ⟨by kernel_rfl, ?_⟩) hHeld ?_
      · intro w' hSw; obtain ⟨s0, ⟨s1, s2, s3, s4, s5, s6, s7, s8, s9⟩, t0, t1, t2, t3, t4, t5, t6, t7, t8⟩ := hSw; go_simp
      simp only [Act.put, List.setIfInBounds_toArray, List.set_cons_zero, List.set_cons_succ]
      refine wpAnyH_take (i := 2) (oi := _) (v := .bool true) (by rw [List.getElem?_toArray]; exact rfl) (by kernel_rfl) (by kernel_rfl) (by kernel_rfl) (by intro _ _ _ h; exact h) (Or.inl ⟨by kernel_rfl, ?_⟩) hHeld ?_
      · intro w' hSw; obtain ⟨s0, ⟨s1, s2, s3, s4, s5, s6, s7, s8, s9⟩, t0, t1, t2, t3, t4, t5, t6, t7, t8⟩ := hSw; go_simp
      simp only [Act.put, List.setIfInBounds_toArray, List.set_cons_zero, List.set_cons_succ]
      refine wpAnyH_take (i := 3) (oi := _) (v := .bool true) (by rw [List.getElem?_toArray]; exact rfl) (by kernel_rfl) (by kernel_rfl) (by kernel_rfl) (by intro _ _ _ h; exact h) (Or.inl ⟨by kernel_rfl, ?_⟩) hHeld ?_
      · intro w' hSw; obtain ⟨s0, ⟨s1, s2, s3, s4, s5, s6, s7, s8, s9⟩, t0, t1, t2, t3, t4, t5, t6, t7, t8⟩ := hSw; go_simp
      simp only [Act.put, List.setIfInBounds_toArray, List.set_cons_zero, List.set_cons_succ]
      refine wpAnyH_take (i := 4) (oi := _) (v := .slice (some ⟨g, 0, none⟩) m gc) (by rw [List.getElem?_toArray]; exact rfl) (by kernel_rfl) (by kernel_rfl) (by kernel_rfl) (by intro _ _ _ h; exact h) (Or.inl ⟨by kernel_rfl, ?_⟩) hHeld ?_
      · intro w' hSw; obtain ⟨s0, ⟨s1, s2, s3, s4, s5, s6, s7, s8, s9⟩, t0, t1, t2, t3, t4, t5, t6, t7, t8⟩ := hSw; go_simp
      simp only [Act.put, List.setIfInBounds_toArray, List.set_cons_zero, List.set_cons_succ]
      refine wpAnyH_take (i := 5) (oi := _) (v := .int .i64 (i : Int)) (by rw [List.getElem?_toArray]; exact rfl) (by kernel_rfl) (by kernel_rfl) (by kernel_rfl) (by intro _ _ _ h; exact h) (Or.inl ⟨by kernel_rfl, ?_⟩) hHeld ?_
      · intro w' hSw; obtain ⟨s0, ⟨s1, s2, s3, s4, s5, s6, s7, s8, s9⟩, t0, t1, t2, t3, t4, t5, t6, t7, t8⟩ := hSw; go_simp
      simp only [Act.put, List.setIfInBounds_toArray, List.set_cons_zero, List.set_cons_succ]
      refine wpAnyH_take (i := 6) (oi := _) (v := .pointer (some ⟨g, i, none⟩)) (by rw [List.getElem?_toArray]; exact rfl) (by kernel_rfl) (by kernel_rfl) (by kernel_rfl) (by intro _ _ _ h; exact h) (Or.inl ⟨by kernel_rfl, ?_⟩) hHeld ?_
      · intro w' hSw; obtain ⟨s0, ⟨s1, s2, s3, s4, s5, s6, s7, s8, s9⟩, t0, t1, t2, t3, t4, t5, t6, t7, t8⟩ := hSw; go_simp
      simp only [Act.put, List.setIfInBounds_toArray, List.set_cons_zero, List.set_cons_succ]
      refine wpAnyH_take (i := 7) (oi := _) (v := .bool false) (by rw [List.getElem?_toArray]; exact rfl) (by kernel_rfl) (by kernel_rfl) (by kernel_rfl) (by intro _ _ _ h; exact h) (Or.inl ⟨by kernel_rfl, ?_⟩) hHeld ?_
      · intro w' hSw; obtain ⟨s0, ⟨s1, s2, s3, s4, s5, s6, s7, s8, s9⟩, t0, t1, t2, t3, t4, t5, t6, t7, t8⟩ := hSw; go_simp
      simp only [Act.put, List.setIfInBounds_toArray, List.set_cons_zero, List.set_cons_succ]
      refine wpAnyH_take (i := 8) (oi := _) (v := .bool true) (by rw [List.getElem?_toArray]; exact rfl) (by kernel_rfl) (by kernel_rfl) (by kernel_rfl) (by intro _ _ _ h; exact h) (Or.inl ⟨by kernel_rfl, ?_⟩) hHeld ?_
      · intro w' hSw; obtain ⟨s0, ⟨s1, s2, s3, s4, s5, s6, s7, s8, s9⟩, t0, t1, t2, t3, t4, t5, t6, t7, t8⟩ := hSw; go_simp
      simp only [Act.put, List.setIfInBounds_toArray, List.set_cons_zero, List.set_cons_succ]
      refine wpAnyH_take (i := 9) (oi := _) (v := .bool true) (by rw [List.getElem?_toArray]; exact rfl) (by kernel_rfl) (by kernel_rfl) (by kernel_rfl) (by intro _ _ _ h; exact h) (Or.inl ⟨by kernel_rfl, ?_⟩) hHeld ?_
      · intro w' hSw; obtain ⟨s0, ⟨s1, s2, s3, s4, s5, s6, s7, s8, s9⟩, t0, t1, t2, t3, t4, t5, t6, t7, t8⟩ := hSw; go_simp
      simp only [Act.put, List.setIfInBounds_toArray, List.set_cons_zero, List.set_cons_succ]
      refine wpAnyH_take (i := 10) (oi := _) (v := .bool true) (by rw [List.getElem?_toArray]; exact rfl) (by kernel_rfl) (by kernel_rfl) (by kernel_rfl) (by intro _ _ _ h; exact h) (Or.inl ⟨by kernel_rfl, ?_⟩) hHeld ?_
      · intro w' hSw; obtain ⟨s0, ⟨s1, s2, s3, s4, s5, s6, s7, s8, s9⟩, t0, t1, t2, t3, t4, t5, t6, t7, t8⟩ := hSw; go_simp
      simp only [Act.put, List.setIfInBounds_toArray, List.set_cons_zero, List.set_cons_succ]
      refine wpAnyH_take (i := 11) (oi := _) (v := .slice (some ⟨p1, o1, none⟩) m cc) (by rw [List.getElem?_toArray]; exact rfl) (by kernel_rfl) (by kernel_rfl) (by kernel_rfl) (by intro _ _ _ h; exact h) (Or.inl ⟨by kernel_rfl, ?_⟩) hHeld ?_
      · intro w' hSw; obtain ⟨s0, ⟨s1, s2, s3, s4, s5, s6, s7, s8, s9⟩, t0, t1, t2, t3, t4, t5, t6, t7, t8⟩ := hSw; go_simp
      simp only [Act.put, List.setIfInBounds_toArray, List.set_cons_zero, List.set_cons_succ]
      refine wpAnyH_take (i := 12) (oi := _) (v := .int .i64 (i : Int)) (by rw [List.getElem?_toArray]; exact rfl) (by kernel_rfl) (by kernel_rfl) (by kernel_rfl) (by intro _ _ _ h; exact h) (Or.inl ⟨by kernel_rfl, ?_⟩) hHeld ?_
      · intro w' hSw; obtain ⟨s0, ⟨s1, s2, s3, s4, s5, s6, s7, s8, s9⟩, t0, t1, t2, t3, t4, t5, t6, t7, t8⟩ := hSw; go_simp
      simp only [Act.put, List.setIfInBounds_toArray, List.set_cons_zero, List.set_cons_succ]
      refine wpAnyH_take (i := 13) (oi := _) (v := .pointer (some ⟨p1, o1 + i * 9, none⟩)) (by rw [List.getElem?_toArray]; exact rfl) (by kernel_rfl) (by kernel_rfl) (by kernel_rfl) (by intro _ _ _ h; exact h) (Or.inl ⟨by kernel_rfl, ?_⟩) hHeld ?_
      · intro w' hSw; obtain ⟨s0, ⟨s1, s2, s3, s4, s5, s6, s7, s8, s9⟩, t0, t1, t2, t3, t4, t5, t6, t7, t8⟩ := hSw; go_simp
      simp only [Act.put, List.setIfInBounds_toArray, List.set_cons_zero, List.set_cons_succ]
      refine wpAnyH_take (i := 14) (oi := _) (v := .agg #[.int .i64 x0, .int .i64 x1, .int .i64 x2, .int .i64 x3, .int .i64 x4, .int .i64 x5, .int .i64 x6, .int .i64 x7, .slice ra rn rc]) (by rw [List.getElem?_toArray]; exact rfl) (by kernel_rfl) (by kernel_rfl) (by kernel_rfl) (by intro _ _ _ h; exact h) (Or.inl ⟨by kernel_rfl, ?_⟩) hHeld ?_
      · intro w' hSw; obtain ⟨s0, ⟨s1, s2, s3, s4, s5, s6, s7, s8, s9⟩, t0, t1, t2, t3, t4, t5, t6, t7, t8⟩ := hSw; go_simp
      simp only [Act.put, List.setIfInBounds_toArray, List.set_cons_zero, List.set_cons_succ]
      refine wpAnyH_take (i := 15) (oi := _) (v := .slice (some ⟨p1, o1, none⟩) m cc) (by rw [List.getElem?_toArray]; exact rfl) (by kernel_rfl) (by kernel_rfl) (by kernel_rfl) (by intro _ _ _ h; exact h) (Or.inl ⟨by kernel_rfl, ?_⟩) hHeld ?_
      · intro w' hSw; obtain ⟨s0, ⟨s1, s2, s3, s4, s5, s6, s7, s8, s9⟩, t0, t1, t2, t3, t4, t5, t6, t7, t8⟩ := hSw; go_simp
      simp only [Act.put, List.setIfInBounds_toArray, List.set_cons_zero, List.set_cons_succ]
      refine wpAnyH_take (i := 16) (oi := _) (v := .int .i64 (k : Int)) (by rw [List.getElem?_toArray]; exact rfl) (by kernel_rfl) (by kernel_rfl) (by kernel_rfl) (by intro _ _ _ h; exact h) (Or.inl ⟨by kernel_rfl, ?_⟩) hHeld ?_
      · intro w' hSw; obtain ⟨s0, ⟨s1, s2, s3, s4, s5, s6, s7, s8, s9⟩, t0, t1, t2, t3, t4, t5, t6, t7, t8⟩ := hSw; go_simp
      simp only [Act.put, List.setIfInBounds_toArray, List.set_cons_zero, List.set_cons_succ]
      refine wpAnyH_take (i := 17) (oi := _) (v := .pointer (some ⟨p1, o1 + k * 9, none⟩)) (by rw [List.getElem?_toArray]; exact rfl) (by kernel_rfl) (by kernel_rfl) (by kernel_rfl) (by intro _ _ _ h; exact h) (Or.inl ⟨by kernel_rfl, ?_⟩) hHeld ?_
      · intro w' hSw; obtain ⟨s0, ⟨s1, s2, s3, s4, s5, s6, s7, s8, s9⟩, t0, t1, t2, t3, t4, t5, t6, t7, t8⟩ := hSw; go_simp
      simp only [Act.put, List.setIfInBounds_toArray, List.set_cons_zero, List.set_cons_succ]
      refine wpAnyH_take (i := 18) (oi := _) (v := .agg #[.int .i64 y0, .int .i64 y1, .int .i64 y2, .int .i64 y3, .int .i64 y4, .int .i64 y5, .int .i64 y6, .int .i64 y7, .slice sa sn sc]) (by rw [List.getElem?_toArray]; exact rfl) (by kernel_rfl) (by kernel_rfl) (by kernel_rfl) (by intro _ _ _ h; exact h) (Or.inl ⟨by kernel_rfl, ?_⟩) hHeld ?_
      · intro w' hSw; obtain ⟨s0, ⟨s1, s2, s3, s4, s5, s6, s7, s8, s9⟩, t0, t1, t2, t3, t4, t5, t6, t7, t8⟩ := hSw; go_simp
      simp only [Act.put, List.setIfInBounds_toArray, List.set_cons_zero, List.set_cons_succ]
      refine wpAnyH_ready (rs := [19]) (by kernel_rfl) (by simp) ?_
      refine AllReadyH.cons (o := _) (by rw [List.getElem?_toArray]; exact rfl) (fun K hK => ?_) AllReadyH.nil
      rw [if_pos (by kernel_rfl)]
      go_simp
      refine (spec_ahead ⟨x0, x1, x2, x3, x4, x5, x6, x7⟩ ⟨y0, y1, y2, y3, y4, y5, y6, y7⟩ (.slice ra rn rc) (.slice sa sn sc) _).mono ?_
      rintro e w5 ⟨rfl, hb5⟩
      have HB5 : Hid (Below w.heap.size w w5) := HB'.out.trans (hb5.mono HB'.out.size)
      obtain ⟨B, hB⟩ : ∃ B, AheadM ⟨x0, x1, x2, x3, x4, x5, x6, x7⟩ ⟨y0, y1, y2, y3, y4, y5, y6, y7⟩ = B := ⟨_, rfl⟩
      have HBA : Hid (AheadM ⟨x0, x1, x2, x3, x4, x5, x6, x7⟩ ⟨y0, y1, y2, y3, y4, y5, y6, y7⟩ = B) := hB
      rw [hB]
      refine hK.out _ _ ?_ (fun hHeld => ?_)
      · have lp : p1 < wr.drew.heap.size := World.block_lt_of_cell? wr.drew _ e0
        have lg : g < wr.drew.heap.size := World.block_lt_of_cell? wr.drew _ z0
        exact ⟨(hb5.cell lg).trans z0, ⟨(hb5.cell lp).trans e0, (hb5.cell lp).trans e1, (hb5.cell lp).trans e2, (hb5.cell lp).trans e3, (hb5.cell lp).trans e4, (hb5.cell lp).trans e5, (hb5.cell lp).trans e6, (hb5.cell lp).trans e7, (hb5.cell lp).trans e8⟩, (hb5.cell lp).trans d0, (hb5.cell lp).trans d1, (hb5.cell lp).trans d2, (hb5.cell lp).trans d3, (hb5.cell lp).trans d4, (hb5.cell lp).trans d5, (hb5.cell lp).trans d6, (hb5.cell lp).trans d7, (hb5.cell lp).trans d8⟩
      clear hK K hb5 hB
      rcases B with _ | _
      · refine wpAnyH_take (i := 20) (oi := _) (v := .bool false) (by rw [List.getElem?_toArray]; exact rfl) (by kernel_rfl) (by kernel_rfl) (by kernel_rfl) (by intro _ _ _ h; exact h) (Or.inl ⟨by kernel_rfl, ?_⟩) hHeld ?_
        · intro w' hSw; obtain ⟨s0, ⟨s1, s2, s3, s4, s5, s6, s7, s8, s9⟩, t0, t1, t2, t3, t4, t5, t6, t7, t8⟩ := hSw; go_simp
        simp only [Act.put, List.setIfInBounds_toArray, List.set_cons_zero, List.set_cons_succ]
        refine wpAnyH_done (by kernel_rfl) ?_ _
        go_wp2
        exact ⟨⟨i + 1, by omega, by go_num, NXT.out (fun _ _ => HBA.out), HB5.out⟩, by simp [intOf]; omega⟩
      · have HNO : Hid (¬ G) := fun hg => by
          have h := HG.out.1 hg i hlt hik HU.out
          rw [HCC.out.1, HCC.out.2, HBA.out] at h
          cases h
        refine wpAnyH_take (i := 20) (oi := _) (v := .bool true) (by rw [List.getElem?_toArray]; exact rfl) (by kernel_rfl) (by kernel_rfl) (by kernel_rfl) (by intro _ _ _ h; exact h) (Or.inl ⟨by kernel_rfl, ?_⟩) hHeld ?_
        · intro w' hSw; obtain ⟨s0, ⟨s1, s2, s3, s4, s5, s6, s7, s8, s9⟩, t0, t1, t2, t3, t4, t5, t6, t7, t8⟩ := hSw; go_simp
        simp only [Act.put, List.setIfInBounds_toArray, List.set_cons_zero, List.set_cons_succ]
        refine wpAnyH_done (by kernel_rfl) ?_ _
        go_wp2
        go_ret
        first | exact ⟨false, ⟨rfl, by simp [HNO.out]⟩, HB5.out⟩ | exact ⟨HNO.out, HB5.out⟩ | exact ⟨.inl ⟨rfl, HNO.out⟩, HB5.out⟩
    · go_wp2_with fail
      refine wp_region_held_drew (S := fun w' => w'.cell? ⟨g, i, none⟩ = some (.bool true) ∧ (w'.cell? ⟨p1, o1 + i * 9, none⟩ = some (I x0) ∧ w'.cell? ⟨p1, o1 + i * 9 + 1, none⟩ = some (I x1) ∧ w'.cell? ⟨p1, o1 + i * 9 + 2, none⟩ = some (I x2) ∧ w'.cell? ⟨p1, o1 + i * 9 + 3, none⟩ = some (I x3) ∧ w'.cell? ⟨p1, o1 + i * 9 + 4, none⟩ = some (I x4) ∧ w'.cell? ⟨p1, o1 + i * 9 + 5, none⟩ = some (I x5) ∧ w'.cell? ⟨p1, o1 + i * 9 + 6, none⟩ = some (I x6) ∧ w'.cell? ⟨p1, o1 + i * 9 + 7, none⟩ = some (I x7) ∧ w'.cell? ⟨p1, o1 + i * 9 + 8, none⟩ = some (.slice ra rn rc)) ∧ w'.cell? ⟨p1, o1 + k * 9, none⟩ = some (I y0) ∧ w'.cell? ⟨p1, o1 + k * 9 + 1, none⟩ = some (I y1) ∧ w'.cell? ⟨p1, o1 + k * 9 + 2, none⟩ = some (I y2) ∧ w'.cell? ⟨p1, o1 + k * 9 + 3, none⟩ = some (I y3) ∧ w'.cell? ⟨p1, o1 + k * 9 + 4, none⟩ = some (I y4) ∧ w'.cell? ⟨p1, o1 + k * 9 + 5, none⟩ = some (I y5) ∧ w'.cell? ⟨p1, o1 + k * 9 + 6, none⟩ = some (I y6) ∧ w'.cell? ⟨p1, o1 + k * 9 + 7, none⟩ = some (I y7) ∧ w'.cell? ⟨p1, o1 + k * 9 + 8, none⟩ = some (.slice sa sn sc)) (by kernel_rfl) ⟨z0, ⟨e0, e1, e2, e3, e4, e5, e6, e7, e8⟩, d0, d1, d2, d3, d4, d5, d6, d7, d8⟩ (fun hHeld => ?_)
      refine wpAnyH_take (i := 0) (oi := _) (v := .int .i64 (i : Int)) (by rw [List.getElem?_toArray]; exact rfl) (by kernel_rfl) (by kernel_rfl) (by kernel_rfl) (by intro _ _ _ h; exact h) (Or.inl ⟨by kernel_rfl, ?_⟩) hHeld ?_
      · intro w' hSw; obtain ⟨s0, ⟨s1, s2, s3, s4, s5, s6, s7, s8, s9⟩, t0, t1, t2, t3, t4, t5, t6, t7, t8⟩ := hSw; go_simp
      simp only [Act.put, List.setIfInBounds_toArray, List.set_cons_zero, List.set_cons_succ]
      refine wpAnyH_take (i := 1) (oi := _) (v := .int .i64 (k : Int)) (by rw [List.getElem?_toArray]; exact rfl) (by kernel_rfl) (by kernel_rfl) (by kernel_rfl) (by intro _ _ _ h; exact h) (Or.inl ⟨by kernel_rfl, ?_⟩) hHeld ?_
      · intro w' hSw; obtain ⟨s0, ⟨s1, s2, s3, s4, s5, s6, s7, s8, s9⟩, t0, t1, t2, t3, t4, t5, t6, t7, t8⟩ := hSw; go_simp
      simp only [Act.put, List.setIfInBounds_toArray, List.set_cons_zero, List.set_cons_succ]
      refine wpAnyH_take (i := 2) (oi := _) (v := .bool true) (by rw [List.getElem?_toArray]; exact rfl) (by kernel_rfl) (by kernel_rfl) (by kernel_rfl) (by intro _ _ _ h; exact h) (Or.inl ⟨by kernel_rfl, ?_⟩) hHeld ?_
      · intro w' hSw; obtain ⟨s0, ⟨s1, s2, s3, s4, s5, s6, s7, s8, s9⟩, t0, t1, t2, t3, t4, t5, t6, t7, t8⟩ := hSw; go_simp
      simp only [Act.put, List.setIfInBounds_toArray, List.set_cons_zero, List.set_cons_succ]
      refine wpAnyH_take (i := 3) (oi := _) (v := .bool true) (by rw [List.getElem?_toArray]; exact rfl) (by kernel_rfl) (by kernel_rfl) (by kernel_rfl) (by intro _ _ _ h; exact h) (Or.inl ⟨by kernel_rfl, ?_⟩) hHeld ?_
      · intro w' hSw; obtain ⟨s0, ⟨s1, s2, s3, s4, s5, s6, s7, s8, s9⟩, t0, t1, t2, t3, t4, t5, t6, t7, t8⟩ := hSw; go_simp
      simp only [Act.put, List.setIfInBounds_toArray, List.set_cons_zero, List.set_cons_succ]
      refine wpAnyH_take (i := 4) (oi := _) (v := .slice (some ⟨g, 0, none⟩) m gc) (by rw [List.getElem?_toArray]; exact rfl) (by kernel_rfl) (by kernel_rfl) (by kernel_rfl) (by intro _ _ _ h; exact h) (Or.inl ⟨by kernel_rfl, ?_⟩) hHeld ?_
      · intro w' hSw; obtain ⟨s0, ⟨s1, s2, s3, s4, s5, s6, s7, s8, s9⟩, t0, t1, t2, t3, t4, t5, t6, t7, t8⟩ := hSw; go_simp
      simp only [Act.put, List.setIfInBounds_toArray, List.set_cons_zero, List.set_cons_succ]
      refine wpAnyH_take (i := 5) (oi := _) (v := .int .i64 (i : Int)) (by rw [List.getElem?_toArray]; exact rfl) (by kernel_rfl) (by kernel_rfl) (by kernel_rfl) (by intro _ _ _ h; exact h) (Or.inl ⟨by kernel_rfl, ?_⟩) hHeld ?_
      · intro w' hSw; obtain ⟨s0, ⟨s1, s2, s3, s4, s5, s6, s7, s8, s9⟩, t0, t1, t2, t3, t4, t5, t6, t7, t8⟩ := hSw; go_simp
      simp only [Act.put, List.setIfInBounds_toArray, List.set_cons_zero, List.set_cons_succ]
      refine wpAnyH_take (i := 6) (oi := _) (v := .pointer (some ⟨g, i, none⟩)) (by rw [List.getElem?_toArray]; exact rfl) (by kernel_rfl) (by kernel_rfl) (by kernel_rfl) (by intro _ _ _ h; exact h) (Or.inl ⟨by kernel_rfl, ?_⟩) hHeld ?_
      · intro w' hSw; obtain ⟨s0, ⟨s1, s2, s3, s4, s5, s6, s7, s8, s9⟩, t0, t1, t2, t3, t4, t5, t6, t7, t8⟩ := hSw; go_simp
      simp only [Act.put, List.setIfInBounds_toArray, List.set_cons_zero, List.set_cons_succ]
      refine wpAnyH_take (i := 7) (oi := _) (v := .bool true) (by rw [List.getElem?_toArray]; exact rfl) (by kernel_rfl) (by kernel_rfl) (by kernel_rfl) (by intro _ _ _ h; exact h) (Or.inl ⟨by kernel_rfl, ?_⟩) hHeld ?_
      · intro w' hSw; obtain ⟨s0, ⟨s1, s2, s3, s4, s5, s6, s7, s8, s9⟩, t0, t1, t2, t3, t4, t5, t6, t7, t8⟩ := hSw; go_simp
      simp only [Act.put, List.setIfInBounds_toArray, List.set_cons_zero, List.set_cons_succ]
      refine wpAnyH_take (i := 8) (oi := _) (v := .bool false) (by rw [List.getElem?_toArray]; exact rfl) (by kernel_rfl) (by kernel_rfl) (by kernel_rfl) (by intro _ _ _ h; exact h) (Or.inl ⟨by kernel_rfl, ?_⟩) hHeld ?_
      · intro w' hSw; obtain ⟨s0, ⟨s1, s2, s3, s4, s5, s6, s7, s8, s9⟩, t0, t1, t2, t3, t4, t5, t6, t7, t8⟩ := hSw; go_simp
      simp only [Act.put, List.setIfInBounds_toArray, List.set_cons_zero, List.set_cons_succ]
      refine wpAnyH_take (i := 9) (oi := _) (v := .bool false) (by rw [List.getElem?_toArray]; exact rfl) (by kernel_rfl) (by kernel_rfl) (by kernel_rfl) (by intro _ _ _ h; exact h) (Or.inl ⟨by kernel_rfl, ?_⟩) hHeld ?_
      · intro w' hSw; obtain ⟨s0, ⟨s1, s2, s3, s4, s5, s6, s7, s8, s9⟩, t0, t1, t2, t3, t4, t5, t6, t7, t8⟩ := hSw; go_simp
      simp only [Act.put, List.setIfInBounds_toArray, List.set_cons_zero, List.set_cons_succ]
      refine wpAnyH_take (i := 10) (oi := _) (v := .bool false) (by rw [List.getElem?_toArray]; exact rfl) (by kernel_rfl) (by kernel_rfl) (by kernel_rfl) (by intro _ _ _ h; exact h) (Or.inl ⟨by kernel_rfl, ?_⟩) hHeld ?_
      · intro w' hSw; obtain ⟨s0, ⟨s1, s2, s3, s4, s5, s6, s7, s8, s9⟩, t0, t1, t2, t3, t4, t5, t6, t7, t8⟩ := hSw; go_simp
      simp only [Act.put, List.setIfInBounds_toArray, List.set_cons_zero, List.set_cons_succ]
      refine wpAnyH_take (i := 11) (oi := _) (v := undef) (by rw [List.getElem?_toArray]; exact rfl) (by kernel_rfl) (by kernel_rfl) (by kernel_rfl) (by intro _ _ _ h; exact h) (Or.inr ⟨by kernel_rfl, rfl⟩) hHeld ?_
      simp only [Act.put, List.setIfInBounds_toArray, List.set_cons_zero, List.set_cons_succ]
      refine wpAnyH_take (i := 12) (oi := _) (v := undef) (by rw [List.getElem?_toArray]; exact rfl) (by kernel_rfl) (by kernel_rfl) (by kernel_rfl) (by intro _ _ _ h; exact h) (Or.inr ⟨by kernel_rfl, rfl⟩) hHeld ?_
      simp only [Act.put, List.setIfInBounds_toArray, List.set_cons_zero, List.set_cons_succ]
      refine wpAnyH_take (i := 13) (oi := _) (v := undef) (by rw [List.getElem?_toArray]; exact rfl) (by kernel_rfl) (by kernel_rfl) (by kernel_rfl) (by intro _ _ _ h; exact h) (Or.inr ⟨by kernel_rfl, rfl⟩) hHeld ?_
      simp only [Act.put, List.setIfInBounds_toArray, List.set_cons_zero, List.set_cons_succ]
      refine wpAnyH_take (i := 14) (oi := _) (v := undef) (by rw [List.getElem?_toArray]; exact rfl) (by kernel_rfl) (by kernel_rfl) (by kernel_rfl) (by intro _ _ _ h; exact h) (Or.inr ⟨by kernel_rfl, rfl⟩) hHeld ?_
      simp only [Act.put, List.setIfInBounds_toArray, List.set_cons_zero, List.set_cons_succ]
      refine wpAnyH_take (i := 15) (oi := _) (v := undef) (by rw [List.getElem?_toArray]; exact rfl) (by kernel_rfl) (by kernel_rfl) (by kernel_rfl) (by intro _ _ _ h; exact h) (Or.inr ⟨by kernel_rfl, rfl⟩) hHeld ?_
      simp only [Act.put, List.setIfInBounds_toArray, List.set_cons_zero, List.set_cons_succ]
      refine wpAnyH_take (i := 16) (oi := _) (v := undef) (by rw [List.getElem?_toArray]; exact rfl) (by kernel_rfl) (by kernel_rfl) (by kernel_rfl) (by intro _ _ _ h; exact h) (Or.inr ⟨by kernel_rfl, rfl⟩) hHeld ?_
      simp only [Act.put, List.setIfInBounds_toArray, List.set_cons_zero, List.set_cons_succ]
      refine wpAnyH_take (i := 17) (oi := _) (v := undef) (by rw [List.getElem?_toArray]; exact rfl) (by kernel_rfl) (by kernel_rfl) (by kernel_rfl) (by intro _ _ _ h; exact h) (Or.inr ⟨by kernel_rfl, rfl⟩) hHeld ?_
      simp only [Act.put, List.setIfInBounds_toArray, List.set_cons_zero, List.set_cons_succ]
      refine wpAnyH_take (i := 18) (oi := _) (v := undef) (by rw [List.getElem?_toArray]; exact rfl) (by kernel_rfl) (by kernel_rfl) (by kernel_rfl) (by intro _ _ _ h; exact h) (Or.inr ⟨by kernel_rfl, rfl⟩) hHeld ?_
      simp only [Act.put, List.setIfInBounds_toArray, List.set_cons_zero, List.set_cons_succ]
      refine wpAnyH_take (i := 19) (oi := _) (v := undef) (by rw [List.getElem?_toArray]; exact rfl) (by kernel_rfl) (by kernel_rfl) (by kernel_rfl) (by intro _ _ _ h; exact h) (Or.inr ⟨by kernel_rfl, rfl⟩) hHeld ?_
      simp only [Act.put, List.setIfInBounds_toArray, List.set_cons_zero, List.set_cons_succ]
      refine wpAnyH_take (i := 20) (oi := _) (v := .bool false) (by rw [List.getElem?_toArray]; exact rfl) (by kernel_rfl) (by kernel_rfl) (by kernel_rfl) (by intro _ _ _ h; exact h) (Or.inl ⟨by kernel_rfl, ?_⟩) hHeld ?_
      · intro w' hSw; obtain ⟨s0, ⟨s1, s2, s3, s4, s5, s6, s7, s8, s9⟩, t0, t1, t2, t3, t4, t5, t6, t7, t8⟩ := hSw; go_simp
      simp only [Act.put, List.setIfInBounds_toArray, List.set_cons_zero, List.set_cons_succ]
      refine wpAnyH_done (by kernel_rfl) ?_ _
      go_wp2
      exact ⟨⟨i + 1, by omega, by go_num, NXT.out (fun _ h => by cases h), HB'.out⟩, by simp [intOf]; omega⟩
theorem l4Fails_1 (a : Option Addr) (cp : Nat) (st v code : Int) (k : Nat) (xs : List Int) (w : World) (hA : IntAt w a 4 xs) (hk : k < 4) :
    Calls Tryz.prog 62 #[.agg #[.slice a 4 cp, .int .i64 st], OpV 1 (k : Int) v, .int .i64 code] w fun e w' => e = .returned (.bool (decide (FailsM xs st 1 (k : Int) v code))) ∧ Below w.heap.size w w' := by
  have HA : Hid (IntAt w a 4 xs) := hA
  clear hA
  obtain ⟨B, hB⟩ : ∃ B, decide (FailsM xs st 1 (k : Int) v code) = B := ⟨_, rfl⟩
  rw [hB]
  have HB : Hid (decide (FailsM xs st 1 (k : Int) v code) = B) := hB
  clear hB
  go_enter Tryz.func62, Tryz.ntmps62
  go_wp2_with fail
  have hb0 : Below w.heap.size w ((w.alloc (.cells #[.slice a 4 cp, .int .i64 st] 29)).alloc (.cells #[.int .i64 1, .int .i64 (k : Int), .int .i64 v] 49)) := ((Below.refl _ w).alloc (Nat.le_refl _) _).alloc (by simp) _
  refine (specKeyOf_any a 4 cp st v xs _ (HA.out.below hb0 (Nat.le_refl _))).mono ?_
  rintro e w1 ⟨⟨q, rfl, hq⟩, hb1⟩
  have HQ : Hid (q = keyN xs v) := hq.keyN
  simp only [World.size_alloc] at hb1
  have c0 : w1.cell? ⟨w.heap.size, 0, none⟩ = some (.slice a 4 cp) := by rw [hb1.cell (by simp; omega)]; simp
  have c1 : w1.cell? ⟨w.heap.size, 1, none⟩ = some (.int .i64 st) := by rw [hb1.cell (by simp; omega)]; simp
  have d0 : w1.cell? ⟨w.heap.size + 1, 0, none⟩ = some (.int .i64 1) := by rw [hb1.cell (by simp)]; simp
  have d1 : w1.cell? ⟨w.heap.size + 1, 1, none⟩ = some (.int .i64 (k : Int)) := by rw [hb1.cell (by simp)]; simp
  have hbw : Below w.heap.size w w1 := hb0.trans (hb1.mono (by omega))
  rcases (HA.out.below hbw (Nat.le_refl _)).2.2 with h0 | ⟨p1, o1, rfl, g1⟩
  · omega
  have e1 := g1 k hk
  obtain ⟨x, hx⟩ : ∃ x, xs.getD k 0 = x := ⟨_, rfl⟩
  rw [hx] at e1
  have HX : Hid (atK xs (k : Int) = x) := by simpa [Hid, atK] using hx
  clear g1 hx hq hb0 hb1
  rcases codes code with rfl | rfl | rfl | rfl | ⟨n1, n2, n3, n4⟩
  all_goals
    go_wp2
  all_goals
    go_ret
    refine ⟨?_, hbw⟩
    rw [← HB.out]
    refine says_iff ?_
    unfold FailsM
    rw [← HQ.out]; rw [HX.out]
    first
      | (simp; done)
      | (simp; omega)
      | (simp at *; simp [*]; done)
      | (simp at *; omega)

theorem l4Fails_2 (a : Option Addr) (cp : Nat) (st v code : Int) (k : Nat) (xs : List Int) (w : World) (hA : IntAt w a 4 xs) (hk : k < 4) :
    Calls Tryz.prog 62 #[.agg #[.slice a 4 cp, .int .i64 st], OpV 2 (k : Int) v, .int .i64 code] w fun e w' => e = .returned (.bool (decide (FailsM xs st 2 (k : Int) v code))) ∧ Below w.heap.size w w' := by
  have HA : Hid (IntAt w a 4 xs) := hA
  clear hA
  obtain ⟨B, hB⟩ : ∃ B, decide (FailsM xs st 2 (k : Int) v code) = B := ⟨_, rfl⟩
  rw [hB]
  have HB : Hid (decide (FailsM xs st 2 (k : Int) v code) = B) := hB
  clear hB
  go_enter Tryz.func62, Tryz.ntmps62
  go_wp2_with fail
  have hb0 : Below w.heap.size w ((w.alloc (.cells #[.slice a 4 cp, .int .i64 st] 29)).alloc (.cells #[.int .i64 2, .int .i64 (k : Int), .int .i64 v] 49)) := ((Below.refl _ w).alloc (Nat.le_refl _) _).alloc (by simp) _
  refine (specKeyOf_any a 4 cp st v xs _ (HA.out.below hb0 (Nat.le_refl _))).mono ?_
  rintro e w1 ⟨⟨q, rfl, hq⟩, hb1⟩
  have HQ : Hid (q = keyN xs v) := hq.keyN
  simp only [World.size_alloc] at hb1
  have c0 : w1.cell? ⟨w.heap.size, 0, none⟩ = some (.slice a 4 cp) := by rw [hb1.cell (by simp; omega)]; simp
  have c1 : w1.cell? ⟨w.heap.size, 1, none⟩ = some (.int .i64 st) := by rw [hb1.cell (by simp; omega)]; simp
  have d0 : w1.cell? ⟨w.heap.size + 1, 0, none⟩ = some (.int .i64 2) := by rw [hb1.cell (by simp)]; simp
  have d1 : w1.cell? ⟨w.heap.size + 1, 1, none⟩ = some (.int .i64 (k : Int)) := by rw [hb1.cell (by simp)]; simp
  have hbw : Below w.heap.size w w1 := hb0.trans (hb1.mono (by omega))
  rcases (HA.out.below hbw (Nat.le_refl _)).2.2 with h0 | ⟨p1, o1, rfl, g1⟩
  · omega
  have e1 := g1 k hk
  obtain ⟨x, hx⟩ : ∃ x, xs.getD k 0 = x := ⟨_, rfl⟩
  rw [hx] at e1
  have HX : Hid (atK xs (k : Int) = x) := by simpa [Hid, atK] using hx
  clear g1 hx hq hb0 hb1
  rcases codes code with rfl | rfl | rfl | rfl | ⟨n1, n2, n3, n4⟩
  all_goals
    go_wp2
  all_goals
    go_ret
    refine ⟨?_, hbw⟩
    rw [← HB.out]
    refine says_iff ?_
    unfold FailsM
    rw [← HQ.out]; rw [HX.out]
    first
      | (simp; done)
      | (simp; omega)
      | (simp at *; simp [*]; done)
      | (simp at *; omega)

theorem l4Fails_3 (a : Option Addr) (cp : Nat) (st v code : Int) (k : Nat) (xs : List Int) (w : World) (hA : IntAt w a 4 xs) (hk : k < 4) :
    Calls Tryz.prog 62 #[.agg #[.slice a 4 cp, .int .i64 st], OpV 3 (k : Int) v, .int .i64 code] w fun e w' => e = .returned (.bool (decide (FailsM xs st 3 (k : Int) v code))) ∧ Below w.heap.size w w' := by
  have HA : Hid (IntAt w a 4 xs) := hA
  clear hA
  obtain ⟨B, hB⟩ : ∃ B, decide (FailsM xs st 3 (k : Int) v code) = B := ⟨_, rfl⟩
  rw [hB]
  have HB : Hid (decide (FailsM xs st 3 (k : Int) v code) = B) := hB
  clear hB
  go_enter Tryz.func62, Tryz.ntmps62
  go_wp2_with fail
  have hb0 : Below w.heap.size w ((w.alloc (.cells #[.slice a 4 cp, .int .i64 st] 29)).alloc (.cells #[.int .i64 3, .int .i64 (k : Int), .int .i64 v] 49)) := ((Below.refl _ w).alloc (Nat.le_refl _) _).alloc (by simp) _
  refine (specKeyOf_any a 4 cp st v xs _ (HA.out.below hb0 (Nat.le_refl _))).mono ?_
  rintro e w1 ⟨⟨q, rfl, hq⟩, hb1⟩
  have HQ : Hid (q = keyN xs v) := hq.keyN
  simp only [World.size_alloc] at hb1
  have c0 : w1.cell? ⟨w.heap.size, 0, none⟩ = some (.slice a 4 cp) := by rw [hb1.cell (by simp; omega)]; simp
  have c1 : w1.cell? ⟨w.heap.size, 1, none⟩ = some (.int .i64 st) := by rw [hb1.cell (by simp; omega)]; simp
  have d0 : w1.cell? ⟨w.heap.size + 1, 0, none⟩ = some (.int .i64 3) := by rw [hb1.cell (by simp)]; simp
  have d1 : w1.cell? ⟨w.heap.size + 1, 1, none⟩ = some (.int .i64 (k : Int)) := by rw [hb1.cell (by simp)]; simp
  have hbw : Below w.heap.size w w1 := hb0.trans (hb1.mono (by omega))
  rcases (HA.out.below hbw (Nat.le_refl _)).2.2 with h0 | ⟨p1, o1, rfl, g1⟩
  · omega
  have e1 := g1 k hk
  obtain ⟨x, hx⟩ : ∃ x, xs.getD k 0 = x := ⟨_, rfl⟩
  rw [hx] at e1
  have HX : Hid (atK xs (k : Int) = x) := by simpa [Hid, atK] using hx
  clear g1 hx hq hb0 hb1
  rcases codes code with rfl | rfl | rfl | rfl | ⟨n1, n2, n3, n4⟩
  all_goals
    go_wp2
  all_goals
    go_ret
    refine ⟨?_, hbw⟩
    rw [← HB.out]
    refine says_iff ?_
    unfold FailsM
    rw [← HQ.out]; rw [HX.out]
    first
      | (simp; done)
      | (simp; omega)
      | (simp at *; simp [*]; done)
      | (simp at *; omega)

theorem l4Fails_4 (a : Option Addr) (cp : Nat) (st v code : Int) (k : Nat) (xs : List Int) (w : World) (hA : IntAt w a 4 xs) (hk : k < 4) :
    Calls Tryz.prog 62 #[.agg #[.slice a 4 cp, .int .i64 st], OpV 4 (k : Int) v, .int .i64 code] w fun e w' => e = .returned (.bool (decide (FailsM xs st 4 (k : Int) v code))) ∧ Below w.heap.size w w' := by
  have HA : Hid (IntAt w a 4 xs) := hA
  clear hA
  obtain ⟨B, hB⟩ : ∃ B, decide (FailsM xs st 4 (k : Int) v code) = B := ⟨_, rfl⟩
  rw [hB]
  have HB : Hid (decide (FailsM xs st 4 (k : Int) v code) = B) := hB
  clear hB
  go_enter Tryz.func62, Tryz.ntmps62
  go_wp2_with fail
  have hb0 : Below w.heap.size w ((w.alloc (.cells #[.slice a 4 cp, .int .i64 st] 29)).alloc (.cells #[.int .i64 4, .int .i64 (k : Int), .int .i64 v] 49)) := ((Below.refl _ w).alloc (Nat.le_refl _) _).alloc (by simp) _
  refine (specKeyOf_any a 4 cp st v xs _ (HA.out.below hb0 (Nat.le_refl _))).mono ?_
  rintro e w1 ⟨⟨q, rfl, hq⟩, hb1⟩
  have HQ : Hid (q = keyN xs v) := hq.keyN
  simp only [World.size_alloc] at hb1
  have c0 : w1.cell? ⟨w.heap.size, 0, none⟩ = some (.slice a 4 cp) := by rw [hb1.cell (by simp; omega)]; simp
  have c1 : w1.cell? ⟨w.heap.size, 1, none⟩ = some (.int .i64 st) := by rw [hb1.cell (by simp; omega)]; simp
  have d0 : w1.cell? ⟨w.heap.size + 1, 0, none⟩ = some (.int .i64 4) := by rw [hb1.cell (by simp)]; simp
  have d1 : w1.cell? ⟨w.heap.size + 1, 1, none⟩ = some (.int .i64 (k : Int)) := by rw [hb1.cell (by simp)]; simp
  have hbw : Below w.heap.size w w1 := hb0.trans (hb1.mono (by omega))
  rcases (HA.out.below hbw (Nat.le_refl _)).2.2 with h0 | ⟨p1, o1, rfl, g1⟩
  · omega
  have e1 := g1 k hk
  obtain ⟨x, hx⟩ : ∃ x, xs.getD k 0 = x := ⟨_, rfl⟩
  rw [hx] at e1
  have HX : Hid (atK xs (k : Int) = x) := by simpa [Hid, atK] using hx
  clear g1 hx hq hb0 hb1
  rcases codes code with rfl | rfl | rfl | rfl | ⟨n1, n2, n3, n4⟩
  all_goals
    go_wp2
  all_goals
    go_ret
    refine ⟨?_, hbw⟩
    rw [← HB.out]
    refine says_iff ?_
    unfold FailsM
    rw [← HQ.out]; rw [HX.out]
    first
      | (simp; done)
      | (simp; omega)
      | (simp at *; simp [*]; done)
      | (simp at *; omega)

theorem l4Fails_5 (a : Option Addr) (cp : Nat) (st v code : Int) (k : Int) (xs : List Int) (w : World) (hA : IntAt w a 4 xs) :
    Calls Tryz.prog 62 #[.agg #[.slice a 4 cp, .int .i64 st], OpV 5 k v, .int .i64 code] w fun e w' => e = .returned (.bool (decide (FailsM xs st 5 k v code))) ∧ Below w.heap.size w w' := by
  have HA : Hid (IntAt w a 4 xs) := hA
  clear hA
  obtain ⟨B, hB⟩ : ∃ B, decide (FailsM xs st 5 k v code) = B := ⟨_, rfl⟩
  rw [hB]
  have HB : Hid (decide (FailsM xs st 5 k v code) = B) := hB
  clear hB
  go_enter Tryz.func62, Tryz.ntmps62
  go_wp2_with fail
  have hb0 : Below w.heap.size w ((w.alloc (.cells #[.slice a 4 cp, .int .i64 st] 29)).alloc (.cells #[.int .i64 5, .int .i64 k, .int .i64 v] 49)) := ((Below.refl _ w).alloc (Nat.le_refl _) _).alloc (by simp) _
  refine (specKeyOf_any a 4 cp st v xs _ (HA.out.below hb0 (Nat.le_refl _))).mono ?_
  rintro e w1 ⟨⟨q, rfl, hq⟩, hb1⟩
  have HQ : Hid (q = keyN xs v) := hq.keyN
  simp only [World.size_alloc] at hb1
  have c0 : w1.cell? ⟨w.heap.size, 0, none⟩ = some (.slice a 4 cp) := by rw [hb1.cell (by simp; omega)]; simp
  have c1 : w1.cell? ⟨w.heap.size, 1, none⟩ = some (.int .i64 st) := by rw [hb1.cell (by simp; omega)]; simp
  have d0 : w1.cell? ⟨w.heap.size + 1, 0, none⟩ = some (.int .i64 5) := by rw [hb1.cell (by simp)]; simp
  have hbw : Below w.heap.size w w1 := hb0.trans (hb1.mono (by omega))
  clear hq hb0 hb1
  rcases codes code with rfl | rfl | rfl | rfl | ⟨n1, n2, n3, n4⟩
  all_goals
    go_wp2
  all_goals
    go_ret
    refine ⟨?_, hbw⟩
    rw [← HB.out]
    refine says_iff ?_
    unfold FailsM
    rw [← HQ.out]
    first
      | (simp; done)
      | (simp; omega)
      | (simp at *; simp [*]; done)
      | (simp at *; omega)

theorem l4Fails_6 (a : Option Addr) (cp : Nat) (st v code : Int) (k : Int) (xs : List Int) (w : World) (hA : IntAt w a 4 xs) :
    Calls Tryz.prog 62 #[.agg #[.slice a 4 cp, .int .i64 st], OpV 6 k v, .int .i64 code] w fun e w' => e = .returned (.bool (decide (FailsM xs st 6 k v code))) ∧ Below w.heap.size w w' := by
  have HA : Hid (IntAt w a 4 xs) := hA
  clear hA
  obtain ⟨B, hB⟩ : ∃ B, decide (FailsM xs st 6 k v code) = B := ⟨_, rfl⟩
  rw [hB]
  have HB : Hid (decide (FailsM xs st 6 k v code) = B) := hB
  clear hB
  go_enter Tryz.func62, Tryz.ntmps62
  go_wp2_with fail
  have hb0 : Below w.heap.size w ((w.alloc (.cells #[.slice a 4 cp, .int .i64 st] 29)).alloc (.cells #[.int .i64 6, .int .i64 k, .int .i64 v] 49)) := ((Below.refl _ w).alloc (Nat.le_refl _) _).alloc (by simp) _
  refine (specKeyOf_any a 4 cp st v xs _ (HA.out.below hb0 (Nat.le_refl _))).mono ?_
  rintro e w1 ⟨⟨q, rfl, hq⟩, hb1⟩
  have HQ : Hid (q = keyN xs v) := hq.keyN
  simp only [World.size_alloc] at hb1
  have c0 : w1.cell? ⟨w.heap.size, 0, none⟩ = some (.slice a 4 cp) := by rw [hb1.cell (by simp; omega)]; simp
  have c1 : w1.cell? ⟨w.heap.size, 1, none⟩ = some (.int .i64 st) := by rw [hb1.cell (by simp; omega)]; simp
  have d0 : w1.cell? ⟨w.heap.size + 1, 0, none⟩ = some (.int .i64 6) := by rw [hb1.cell (by simp)]; simp
  have hbw : Below w.heap.size w w1 := hb0.trans (hb1.mono (by omega))
  clear hq hb0 hb1
  rcases codes code with rfl | rfl | rfl | rfl | ⟨n1, n2, n3, n4⟩
  all_goals
    go_wp2
  all_goals
    go_ret
    refine ⟨?_, hbw⟩
    rw [← HB.out]
    refine says_iff ?_
    unfold FailsM
    rw [← HQ.out]
    first
      | (simp; done)
      | (simp; omega)
      | (simp at *; simp [*]; done)
      | (simp at *; omega)

theorem l4Fails_7 (a : Option Addr) (cp : Nat) (st v code : Int) (k : Int) (xs : List Int) (w : World) (hA : IntAt w a 4 xs) :
    Calls Tryz.prog 62 #[.agg #[.slice a 4 cp, .int .i64 st], OpV 7 k v, .int .i64 code] w fun e w' => e = .returned (.bool (decide (FailsM xs st 7 k v code))) ∧ Below w.heap.size w w' := by
  have HA : Hid (IntAt w a 4 xs) := hA
  clear hA
  obtain ⟨B, hB⟩ : ∃ B, decide (FailsM xs st 7 k v code) = B := ⟨_, rfl⟩
  rw [hB]
  have HB : Hid (decide (FailsM xs st 7 k v code) = B) := hB
  clear hB
  go_enter Tryz.func62, Tryz.ntmps62
  go_wp2_with fail
  have hb0 : Below w.heap.size w ((w.alloc (.cells #[.slice a 4 cp, .int .i64 st] 29)).alloc (.cells #[.int .i64 7, .int .i64 k, .int .i64 v] 49)) := ((Below.refl _ w).alloc (Nat.le_refl _) _).alloc (by simp) _
  refine (specKeyOf_any a 4 cp st v xs _ (HA.out.below hb0 (Nat.le_refl _))).mono ?_
  rintro e w1 ⟨⟨q, rfl, hq⟩, hb1⟩
  have HQ : Hid (q = keyN xs v) := hq.keyN
  simp only [World.size_alloc] at hb1
  have c0 : w1.cell? ⟨w.heap.size, 0, none⟩ = some (.slice a 4 cp) := by rw [hb1.cell (by simp; omega)]; simp
  have c1 : w1.cell? ⟨w.heap.size, 1, none⟩ = some (.int .i64 st) := by rw [hb1.cell (by simp; omega)]; simp
  have d0 : w1.cell? ⟨w.heap.size + 1, 0, none⟩ = some (.int .i64 7) := by rw [hb1.cell (by simp)]; simp
  have hbw : Below w.heap.size w w1 := hb0.trans (hb1.mono (by omega))
  clear hq hb0 hb1
  rcases codes code with rfl | rfl | rfl | rfl | ⟨n1, n2, n3, n4⟩
  all_goals
    go_wp2
  all_goals
    go_ret
    refine ⟨?_, hbw⟩
    rw [← HB.out]
    refine says_iff ?_
    unfold FailsM
    rw [← HQ.out]
    first
      | (simp; done)
      | (simp; omega)
      | (simp at *; simp [*]; done)
      | (simp at *; omega)

theorem l4Fails_8 (a : Option Addr) (cp : Nat) (st v code : Int) (k : Int) (xs : List Int) (w : World) (hA : IntAt w a 4 xs) :
    Calls Tryz.prog 62 #[.agg #[.slice a 4 cp, .int .i64 st], OpV 8 k v, .int .i64 code] w fun e w' => e = .returned (.bool (decide (FailsM xs st 8 k v code))) ∧ Below w.heap.size w w' := by
  have HA : Hid (IntAt w a 4 xs) := hA
  clear hA
  obtain ⟨B, hB⟩ : ∃ B, decide (FailsM xs st 8 k v code) = B := ⟨_, rfl⟩
  rw [hB]
  have HB : Hid (decide (FailsM xs st 8 k v code) = B) := hB
  clear hB
  go_enter Tryz.func62, Tryz.ntmps62
  go_wp2_with fail
  have hb0 : Below w.heap.size w ((w.alloc (.cells #[.slice a 4 cp, .int .i64 st] 29)).alloc (.cells #[.int .i64 8, .int .i64 k, .int .i64 v] 49)) := ((Below.refl _ w).alloc (Nat.le_refl _) _).alloc (by simp) _
  refine (specKeyOf_any a 4 cp st v xs _ (HA.out.below hb0 (Nat.le_refl _))).mono ?_
  rintro e w1 ⟨⟨q, rfl, hq⟩, hb1⟩
  have HQ : Hid (q = keyN xs v) := hq.keyN
  simp only [World.size_alloc] at hb1
  have c0 : w1.cell? ⟨w.heap.size, 0, none⟩ = some (.slice a 4 cp) := by rw [hb1.cell (by simp; omega)]; simp
  have c1 : w1.cell? ⟨w.heap.size, 1, none⟩ = some (.int .i64 st) := by rw [hb1.cell (by simp; omega)]; simp
  have d0 : w1.cell? ⟨w.heap.size + 1, 0, none⟩ = some (.int .i64 8) := by rw [hb1.cell (by simp)]; simp
  have hbw : Below w.heap.size w w1 := hb0.trans (hb1.mono (by omega))
  clear hq hb0 hb1
  rcases codes code with rfl | rfl | rfl | rfl | ⟨n1, n2, n3, n4⟩
  all_goals
    go_wp2
  all_goals
    go_ret
    refine ⟨?_, hbw⟩
    rw [← HB.out]
    refine says_iff ?_
    unfold FailsM
    rw [← HQ.out]
    first
      | (simp; done)
      | (simp; omega)
      | (simp at *; simp [*]; done)
      | (simp at *; omega)

theorem l4Fails_9 (a : Option Addr) (cp : Nat) (st v code : Int) (k : Int) (xs : List Int) (w : World) (hA : IntAt w a 4 xs) :
    Calls Tryz.prog 62 #[.agg #[.slice a 4 cp, .int .i64 st], OpV 9 k v, .int .i64 code] w fun e w' => e = .returned (.bool (decide (FailsM xs st 9 k v code))) ∧ Below w.heap.size w w' := by
  have HA : Hid (IntAt w a 4 xs) := hA
  clear hA
  obtain ⟨B, hB⟩ : ∃ B, decide (FailsM xs st 9 k v code) = B := ⟨_, rfl⟩
  rw [hB]
  have HB : Hid (decide (FailsM xs st 9 k v code) = B) := hB
  clear hB
  go_enter Tryz.func62, Tryz.ntmps62
  go_wp2_with fail
  have hb0 : Below w.heap.size w ((w.alloc (.cells #[.slice a 4 cp, .int .i64 st] 29)).alloc (.cells #[.int .i64 9, .int .i64 k, .int .i64 v] 49)) := ((Below.refl _ w).alloc (Nat.le_refl _) _).alloc (by simp) _
  refine (specKeyOf_any a 4 cp st v xs _ (HA.out.below hb0 (Nat.le_refl _))).mono ?_
  rintro e w1 ⟨⟨q, rfl, hq⟩, hb1⟩
  have HQ : Hid (q = keyN xs v) := hq.keyN
  simp only [World.size_alloc] at hb1
  have c0 : w1.cell? ⟨w.heap.size, 0, none⟩ = some (.slice a 4 cp) := by rw [hb1.cell (by simp; omega)]; simp
  have c1 : w1.cell? ⟨w.heap.size, 1, none⟩ = some (.int .i64 st) := by rw [hb1.cell (by simp; omega)]; simp
  have d0 : w1.cell? ⟨w.heap.size + 1, 0, none⟩ = some (.int .i64 9) := by rw [hb1.cell (by simp)]; simp
  have hbw : Below w.heap.size w w1 := hb0.trans (hb1.mono (by omega))
  clear hq hb0 hb1
  rcases codes code with rfl | rfl | rfl | rfl | ⟨n1, n2, n3, n4⟩
  all_goals
    go_wp2
  all_goals
    go_ret
    refine ⟨?_, hbw⟩
    rw [← HB.out]
    refine says_iff ?_
    unfold FailsM
    rw [← HQ.out]
    first
      | (simp; done)
      | (simp; omega)
      | (simp at *; simp [*]; done)
      | (simp at *; omega)

theorem l4Fails_10 (a : Option Addr) (cp : Nat) (st v code : Int) (k : Int) (xs : List Int) (w : World) (hA : IntAt w a 4 xs) :
    Calls Tryz.prog 62 #[.agg #[.slice a 4 cp, .int .i64 st], OpV 10 k v, .int .i64 code] w fun e w' => e = .returned (.bool (decide (FailsM xs st 10 k v code))) ∧ Below w.heap.size w w' := by
  have HA : Hid (IntAt w a 4 xs) := hA
  clear hA
  obtain ⟨B, hB⟩ : ∃ B, decide (FailsM xs st 10 k v code) = B := ⟨_, rfl⟩
  rw [hB]
  have HB : Hid (decide (FailsM xs st 10 k v code) = B) := hB
  clear hB
  go_enter Tryz.func62, Tryz.ntmps62
  go_wp2_with fail
  have hb0 : Below w.heap.size w ((w.alloc (.cells #[.slice a 4 cp, .int .i64 st] 29)).alloc (.cells #[.int .i64 10, .int .i64 k, .int .i64 v] 49)) := ((Below.refl _ w).alloc (Nat.le_refl _) _).alloc (by simp) _
  refine (specKeyOf_any a 4 cp st v xs _ (HA.out.below hb0 (Nat.le_refl _))).mono ?_
  rintro e w1 ⟨⟨q, rfl, hq⟩, hb1⟩
  have HQ : Hid (q = keyN xs v) := hq.keyN
  simp only [World.size_alloc] at hb1
  have c0 : w1.cell? ⟨w.heap.size, 0, none⟩ = some (.slice a 4 cp) := by rw [hb1.cell (by simp; omega)]; simp
  have c1 : w1.cell? ⟨w.heap.size, 1, none⟩ = some (.int .i64 st) := by rw [hb1.cell (by simp; omega)]; simp
  have d0 : w1.cell? ⟨w.heap.size + 1, 0, none⟩ = some (.int .i64 10) := by rw [hb1.cell (by simp)]; simp
  have hbw : Below w.heap.size w w1 := hb0.trans (hb1.mono (by omega))
  clear hq hb0 hb1
  rcases codes code with rfl | rfl | rfl | rfl | ⟨n1, n2, n3, n4⟩
  all_goals
    go_wp2
  all_goals
    go_ret
    refine ⟨?_, hbw⟩
    rw [← HB.out]
    refine says_iff ?_
    unfold FailsM
    rw [← HQ.out]
    first
      | (simp; done)
      | (simp; omega)
      | (simp at *; simp [*]; done)
      | (simp at *; omega)

theorem l4Fails_any (a : Option Addr) (cp : Nat) (st kind k v code : Int) (xs : List Int) (w : World) (hA : IntAt w a 4 xs) (ho : OpGood kind k v) :
    Calls Tryz.prog 62 #[.agg #[.slice a 4 cp, .int .i64 st], OpV kind k v, .int .i64 code] w fun e w' => e = .returned (.bool (decide (FailsM xs st kind k v code))) ∧ Below w.heap.size w w' := by
  have hkey := ho.2.1
  rcases kinds ho.1 with rfl | rfl | rfl | rfl | rfl | rfl | rfl | rfl | rfl | rfl
  · obtain ⟨n, rfl⟩ : ∃ n : Nat, k = n := ⟨k.toNat, by unfold KeyGood at hkey; omega⟩
    exact l4Fails_1 a cp st v code n xs w hA (by unfold KeyGood at hkey; omega)
  · obtain ⟨n, rfl⟩ : ∃ n : Nat, k = n := ⟨k.toNat, by unfold KeyGood at hkey; omega⟩
    exact l4Fails_2 a cp st v code n xs w hA (by unfold KeyGood at hkey; omega)
  · obtain ⟨n, rfl⟩ : ∃ n : Nat, k = n := ⟨k.toNat, by unfold KeyGood at hkey; omega⟩
    exact l4Fails_3 a cp st v code n xs w hA (by unfold KeyGood at hkey; omega)
  · obtain ⟨n, rfl⟩ : ∃ n : Nat, k = n := ⟨k.toNat, by unfold KeyGood at hkey; omega⟩
    exact l4Fails_4 a cp st v code n xs w hA (by unfold KeyGood at hkey; omega)
  · exact l4Fails_5 a cp st v code k xs w hA
  · exact l4Fails_6 a cp st v code k xs w hA
  · exact l4Fails_7 a cp st v code k xs w hA
  · exact l4Fails_8 a cp st v code k xs w hA
  · exact l4Fails_9 a cp st v code k xs w hA
  · exact l4Fails_10 a cp st v code k xs w hA
end
end Go.Proofs.YtecheopkfhfgkaaGreat
