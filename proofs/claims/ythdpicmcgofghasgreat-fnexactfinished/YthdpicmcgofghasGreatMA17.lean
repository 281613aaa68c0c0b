/- Texts joined: Wrds, SpecEntries, SpecWord. -/
import Derived.Test.YthdpicmcgofghasGreatMA16
import Derived.Deep.RegionHeld3
import Derived.Test.YthdpicmcgofghasGreatMA13
import Derived.Test.YthdpicmcgofghasGreatMA02
/- Lists of words: the law's own functions on them. -/
namespace Go.Proofs.YthdpicmcgofghasGreat
open Go.ChangeShapes Go.WideShapes Go.ChangeAt Go.RowKit

theorem infoWord : (Tryz.prog.info? 95).map (fun i => (i.zero, i.size, i.bytes)) = some (some (.agg #[.int .i64 0, .int .i64 0, .int .i64 0]), 3, 24) := by kernel_rfl
set_option maxHeartbeats 1000000 in
theorem toWordS_any (a : Option Addr) (n c : Nat) (fs : List Int) (w : World) (h : TripAt w a n fs) :
    Calls Tryz.prog 56 #[.slice a n c] w fun e w' => e = .returned (.slice (some ⟨w.heap.size, 0, none⟩) n n) ∧ w'.ownsRow w.heap.size 95 3 (.slice (some ⟨w.heap.size, 0, none⟩) n n) n (fs.map I) ∧ Below w.heap.size w w' := by
  have HH : Hid (TripAt w a n fs) := h
  have L1 : Hid (fs.length = n * 3) := h.1
  have hn : n ≤ 1048576 := h.2.1
  clear h
  obtain ⟨i0, hi, hz0, hz1, hz2⟩ := info_parts infoWord
  go_enter Tryz.func56, Tryz.ntmps56
  go_wp2_with (at_make; refine wpList_make_full _ rfl _ _ 35 rfl w.heap.size 95 i0 (.agg #[.int .i64 0, .int .i64 0, .int .i64 0]) 3 Tryz.underlying35 hi hz0 hz1 .i64 .i64 _ _ n rfl rfl rfl rfl (by rw [hz2]; omega) (by unfold maxLen; omega) (Nat.le_refl _) ?_; intro w1 own1 grow1)
  have own0 : w1.ownsRow w.heap.size 95 3 (.slice (some ⟨w.heap.size, 0, none⟩) n n) n ((uptoT fs 0 (n * 3)).map I) := by
    rw [made_trips] at own1
    simpa [uptoT] using own1
  have hb1 : Below w.heap.size w w1 := (Below.refl _ _).grown grow1 (Nat.le_refl _) (fun k e => by cases e)
  clear own1 grow1
  go_loopw [4] (fun i wr => ∃ k : Nat, k ≤ n ∧ i = .int .i64 (k : Int) ∧ wr.ownsRow w.heap.size 95 3 (.slice (some ⟨w.heap.size, 0, none⟩) n n) n ((uptoT fs (k * 3) (n * 3)).map I) ∧ Below w.heap.size w wr) (fun i _ => n - (intOf i).toNat)
  case atStart => exact ⟨0, Nat.zero_le _, rfl, own0, hb1⟩
  case round =>
    obtain ⟨k, hk, rfl, ho, hb⟩ := hrel
    clear own0 hb1
    by_cases hlt : k < n
    · rcases (HH.out.below hb (Nat.le_refl _)).2.2 with h0 | ⟨p1, o1, rfl, g1⟩
      · omega
      have hk0 : (0 : Int) ≤ (k : Int) := by omega
      have hk1 : (k : Int) < (n : Int) := by omega
      have e1 := g1 (k * 3) (by omega)
      have e2 := g1 (k * 3 + 1) (by omega)
      have e3 := g1 (k * 3 + 2) (by omega)
      obtain ⟨x, hx⟩ : ∃ x, fs.getD (k * 3) 0 = x := ⟨_, rfl⟩
      obtain ⟨y, hy⟩ : ∃ y, fs.getD (k * 3 + 1) 0 = y := ⟨_, rfl⟩
      obtain ⟨z, hz⟩ : ∃ z, fs.getD (k * 3 + 2) 0 = z := ⟨_, rfl⟩
      rw [hx] at e1
      rw [hy, ← Nat.add_assoc] at e2
      rw [hz, ← Nat.add_assoc] at e3
      have HO : Hid (wr.ownsRow w.heap.size 95 3 (.slice (some ⟨w.heap.size, 0, none⟩) n n) n ((uptoT fs (k * 3) (n * 3)).map I)) := ho
      have HX : Hid (fs.getD (k * 3) 0 = x ∧ fs.getD (k * 3 + 1) 0 = y ∧ fs.getD (k * 3 + 2) 0 = z) := ⟨hx, hy, hz⟩
      clear g1 hx hy hz ho
      go_wp2_with fail
      refine (toWord_any x y z _).mono ?_
      rintro e w2 ⟨rfl, hb2⟩
      have ho2 := owns_below HO.out hb2 (Nat.le_refl _)
      have hb02 : Below w.heap.size w w2 := hb.trans (hb2.mono hb.size)
      have hs1 := ho2.stored (k * 3) (I x)
      rw [← HX.out.1, uptoT_step L1.out (show k * 3 < n * 3 by omega), HX.out.1] at hs1
      have hs2 := hs1.1.stored (k * 3 + 1) (I y)
      rw [← HX.out.2.1, uptoT_step L1.out (show k * 3 + 1 < n * 3 by omega), HX.out.2.1] at hs2
      have hs3 := hs2.1.stored (k * 3 + 2) (I z)
      rw [← HX.out.2.2, uptoT_step L1.out (show k * 3 + 1 + 1 < n * 3 by omega), HX.out.2.2] at hs3
      have HS : Hid ((((w2.setCell ⟨w.heap.size, k * 3, none⟩ (I x)).setCell ⟨w.heap.size, k * 3 + 1, none⟩ (I y)).setCell ⟨w.heap.size, k * 3 + 2, none⟩ (I z)).ownsRow w.heap.size 95 3 (.slice (some ⟨w.heap.size, 0, none⟩) n n) n ((uptoT fs ((k + 1) * 3) (n * 3)).map I)) := by
        rw [show (k + 1) * 3 = k * 3 + 1 + 1 + 1 by omega]
        exact hs3.1
      have z0 := ho2.frozenAt (k * 3)
      have z1 := ho2.frozenAt (k * 3 + 1)
      have z2 := ho2.frozenAt (k * 3 + 2)
      have hc0 := ho2.cellAt (k * 3) (by omega)
      have hc1 := ho2.cellAt (k * 3 + 1) (by omega)
      have hc2 := ho2.cellAt (k * 3 + 2) (by omega)
      rw [List.getElem?_eq_getElem (by rw [ho2.1]; omega)] at hc0 hc1 hc2
      obtain ⟨u0, hu0⟩ : ∃ u, w2.cell? ⟨w.heap.size, k * 3, none⟩ = some u := ⟨_, hc0⟩
      obtain ⟨u1, hu1⟩ : ∃ u, w2.cell? ⟨w.heap.size, k * 3 + 1, none⟩ = some u := ⟨_, hc1⟩
      obtain ⟨u2, hu2⟩ : ∃ u, w2.cell? ⟨w.heap.size, k * 3 + 2, none⟩ = some u := ⟨_, hc2⟩
      clear hs1 hs2 hs3 ho2 hb2 hc0 hc1 hc2 e1 e2 e3
      go_wp2
      go_roundw
      case rel => exact ⟨k + 1, by omega, by go_num, HS.out, ((hb02.setCell (Nat.le_refl _) _).setCell (Nat.le_refl _) _).setCell (Nat.le_refl _) _⟩
      case measure => simp [intOf]; omega
    · obtain rfl : k = n := by omega
      rw [uptoT_end L1.out] at ho
      go_wp2
      go_ret
      exact ⟨rfl, ho, hb⟩

set_option maxHeartbeats 1000000 in
theorem eqWord_any (x y z x' y' z' : Int) (w : World) : Calls Tryz.prog 107 #[WordV x y z, WordV x' y' z'] w fun e w' => e = .returned (.bool (decide (x = x' ∧ y = y' ∧ z = z'))) ∧ Below w.heap.size w w' := by
  obtain ⟨B, hB⟩ : ∃ B, decide (x = x' ∧ y = y' ∧ z = z') = B := ⟨_, rfl⟩
  rw [hB]
  have HB : Hid (decide (x = x' ∧ y = y' ∧ z = z') = B) := hB
  clear hB
  have neb2 : ∀ a b : Int, (a = b ∧ (a != b) = false) ∨ (¬ a = b ∧ (a != b) = true) := fun a b => by
    by_cases h : a = b
    · exact .inl ⟨h, by simp [h]⟩
    · exact .inr ⟨h, by simp [h]⟩
  rcases neb2 x x' with ⟨h1, g1⟩ | ⟨h1, g1⟩ <;> rcases neb2 y y' with ⟨h2, g2⟩ | ⟨h2, g2⟩ <;> rcases neb2 z z' with ⟨h3, g3⟩ | ⟨h3, g3⟩
  all_goals
    have H1 : Hid _ := h1
    have H2 : Hid _ := h2
    have H3 : Hid _ := h3
    clear h1 h2 h3 neb2
    go_enter Tryz.func107, Tryz.ntmps107
    go_wp2
    iterate 3
      all_goals (try go_region)
      all_goals (try go_wp2)
    all_goals
      go_ret
      refine ⟨?_, (by
        have h0 := ((Below.refl w.heap.size w).alloc (Nat.le_refl _) (.cells #[.int .i64 x, .int .i64 y, .int .i64 z] 95)).alloc (by simp) (.cells #[.int .i64 x', .int .i64 y', .int .i64 z'] 95)
        first | exact h0 | exact h0.drew | exact h0.drew.drew | exact h0.drew.drew.drew)⟩
      rw [← HB.out]
      have h1 := H1.out
      have h2 := H2.out
      have h3 := H3.out
      first
        | (rw [decide_eq_true (show x = x' ∧ y = y' ∧ z = z' from ⟨h1, h2, h3⟩)]; rfl)
        | (rw [decide_eq_false (fun h : x = x' ∧ y = y' ∧ z = z' => h3 h.2.2)]; rfl)
        | (rw [decide_eq_false (fun h : x = x' ∧ y = y' ∧ z = z' => h2 h.2.1)]; rfl)
        | (rw [decide_eq_false (fun h : x = x' ∧ y = y' ∧ z = z' => h1 h.1)]; rfl)

set_option maxHeartbeats 1000000 in
theorem eqWordS_any (a1 a2 : Option Addr) (n1 n2 c1 c2 : Nat) (fs gs : List Int) (w : World) (h1 : TripAt w a1 n1 fs) (h2 : TripAt w a2 n2 gs) :
    Calls Tryz.prog 75 #[.slice a1 n1 c1, .slice a2 n2 c2] w fun e w' => e = .returned (.bool (decide (fs = gs))) ∧ Below w.heap.size w w' := by
  have H1 : Hid (TripAt w a1 n1 fs) := h1
  have H2 : Hid (TripAt w a2 n2 gs) := h2
  have L1 : Hid (fs.length = n1 * 3) := h1.1
  have L2 : Hid (gs.length = n2 * 3) := h2.1
  have b1 := h1.2.1
  have b2 := h2.2.1
  obtain ⟨B, hB⟩ : ∃ B, decide (fs = gs) = B := ⟨_, rfl⟩
  rw [hB]
  have HB : Hid (decide (fs = gs) = B) := hB
  clear h1 h2 hB
  by_cases hn : n1 = n2
  · subst hn
    go_enter Tryz.func75, Tryz.ntmps75
    go_wp2
    go_loopw [5] (fun i wr => ∃ k : Nat, k ≤ n1 ∧ i = .int .i64 k ∧ fs.take (k * 3) = gs.take (k * 3) ∧ Below w.heap.size w wr) (fun i _ => n1 - (intOf i).toNat)
    case atStart => exact ⟨0, Nat.zero_le _, rfl, rfl, Below.refl _ _⟩
    case round =>
      obtain ⟨k, hk1, rfl, ht, hb⟩ := hrel
      have HT : Hid (fs.take (k * 3) = gs.take (k * 3)) := ht
      clear ht
      by_cases hlt1 : k < n1
      · have hk0 : (0 : Int) ≤ (k : Int) := by omega
        have hk1' : (k : Int) < (n1 : Int) := by omega
        rcases (H1.out.below hb (Nat.le_refl _)).2.2 with h | ⟨p1, o1, rfl, g1⟩
        · omega
        rcases (H2.out.below hb (Nat.le_refl _)).2.2 with h | ⟨p2, o2, rfl, g2⟩
        · omega
        obtain ⟨x, hx⟩ : ∃ x, fs.getD (k * 3) 0 = x := ⟨_, rfl⟩
        obtain ⟨y, hy⟩ : ∃ y, fs.getD (k * 3 + 1) 0 = y := ⟨_, rfl⟩
        obtain ⟨z, hz⟩ : ∃ z, fs.getD (k * 3 + 2) 0 = z := ⟨_, rfl⟩
        obtain ⟨x', hx'⟩ : ∃ x, gs.getD (k * 3) 0 = x := ⟨_, rfl⟩
        obtain ⟨y', hy'⟩ : ∃ y, gs.getD (k * 3 + 1) 0 = y := ⟨_, rfl⟩
        obtain ⟨z', hz'⟩ : ∃ z, gs.getD (k * 3 + 2) 0 = z := ⟨_, rfl⟩
        have e1 := g1 (k * 3) (by omega)
        have e2 := g1 (k * 3 + 1) (by omega)
        have e3 := g1 (k * 3 + 2) (by omega)
        have e4 := g2 (k * 3) (by omega)
        have e5 := g2 (k * 3 + 1) (by omega)
        have e6 := g2 (k * 3 + 2) (by omega)
        rw [hx] at e1
        rw [hy, ← Nat.add_assoc] at e2
        rw [hz, ← Nat.add_assoc] at e3
        rw [hx'] at e4
        rw [hy', ← Nat.add_assoc] at e5
        rw [hz', ← Nat.add_assoc] at e6
        have HX : Hid (fs.getD (k * 3) 0 = x ∧ fs.getD (k * 3 + 1) 0 = y ∧ fs.getD (k * 3 + 2) 0 = z ∧ gs.getD (k * 3) 0 = x' ∧ gs.getD (k * 3 + 1) 0 = y' ∧ gs.getD (k * 3 + 2) 0 = z') := ⟨hx, hy, hz, hx', hy', hz'⟩
        clear g1 g2 hx hy hz hx' hy' hz'
        have q1 : p1 < wr.heap.size := World.block_lt_of_cell? wr _ e1
        have q2 : p2 < wr.heap.size := World.block_lt_of_cell? wr _ e4
        obtain ⟨D, hD⟩ : ∃ D, decide (x = x' ∧ y = y' ∧ z = z') = D := ⟨_, rfl⟩
        have HD : Hid (decide (x = x' ∧ y = y' ∧ z = z') = D) := hD
        clear hD
        go_wp2_with fail
        go_region_held3 (fun w' => w'.cell? ⟨p1, o1 + k * 3, none⟩ = some (I x) ∧ w'.cell? ⟨p1, o1 + k * 3 + 1, none⟩ = some (I y) ∧ w'.cell? ⟨p1, o1 + k * 3 + 2, none⟩ = some (I z) ∧ w'.cell? ⟨p2, o2 + k * 3, none⟩ = some (I x') ∧ w'.cell? ⟨p2, o2 + k * 3 + 1, none⟩ = some (I y') ∧ w'.cell? ⟨p2, o2 + k * 3 + 2, none⟩ = some (I z'))
          (first | (with_reducible exact K2.out) | go_keep)
          (first
          | (go_at_call 107
             refine (eqWord_any x y z x' y' z' _).mono ?_
             rintro e w2 ⟨rfl, hb2⟩
             rw [HD.out]
             have hb2' : Below wr.heap.size wr w2 := (Below.refl _ wr).drew.trans hb2
             have K2 : Hid (w2.cell? ⟨p1, o1 + k * 3, none⟩ = some (I x) ∧ w2.cell? ⟨p1, o1 + k * 3 + 1, none⟩ = some (I y) ∧ w2.cell? ⟨p1, o1 + k * 3 + 2, none⟩ = some (I z) ∧ w2.cell? ⟨p2, o2 + k * 3, none⟩ = some (I x') ∧ w2.cell? ⟨p2, o2 + k * 3 + 1, none⟩ = some (I y') ∧ w2.cell? ⟨p2, o2 + k * 3 + 2, none⟩ = some (I z')) := ⟨(hb2'.cell (show p1 < _ from q1)).trans e1, (hb2'.cell (show p1 < _ from q1)).trans e2, (hb2'.cell (show p1 < _ from q1)).trans e3, (hb2'.cell (show p2 < _ from q2)).trans e4, (hb2'.cell (show p2 < _ from q2)).trans e5, (hb2'.cell (show p2 < _ from q2)).trans e6⟩
             have hb02 : Below w.heap.size w w2 := hb.trans (hb2'.mono hb.size)
             clear hb2 hb2'))
        clear e1 e2 e3 e4 e5 e6 K2
        by_cases hh : x = x' ∧ y = y' ∧ z = z'
        · obtain rfl : D = true := by rw [← HD.out]; exact decide_eq_true hh
          have HH : Hid (x = x' ∧ y = y' ∧ z = z') := hh
          clear hh HD
          go_wp2
          have l1 := L1.out
          have l2 := L2.out
          obtain ⟨q1, q2, q3, q4, q5, q6⟩ := HX.out
          exact ⟨⟨k + 1, by omega, by go_num, take_three (by omega) (by omega) HT.out (by rw [q1, q4]; exact HH.out.1) (by rw [q2, q5]; exact HH.out.2.1) (by rw [q3, q6]; exact HH.out.2.2), hb02⟩, by simp [intOf]; omega⟩
        · obtain rfl : D = false := by rw [← HD.out]; exact decide_eq_false hh
          have HH : Hid (fs ≠ gs) := fun e => by
            obtain ⟨q1, q2, q3, q4, q5, q6⟩ := HX.out
            exact hh ⟨by rw [← q1, ← q4, e], by rw [← q2, ← q5, e], by rw [← q3, ← q6, e]⟩
          clear hh
          go_wp2
          go_ret
          refine ⟨?_, hb02⟩
          rw [← HB.out]
          simp [HH.out]
      · obtain rfl : k = n1 := by omega
        go_wp2
        go_ret
        refine ⟨?_, hb⟩
        have l1 := L1.out
        have l2 := L2.out
        have e : fs = gs := by
          have e0 := HT.out
          rwa [List.take_of_length_le (by omega), List.take_of_length_le (by omega)] at e0
        rw [← HB.out]
        simp [e]
  · have hne : ((n1 : Int) != (n2 : Int)) = true := by simp; omega
    have hxy : fs ≠ gs := fun e => by have l1 := L1.out; have l2 := L2.out; rw [e] at l1; omega
    have HX : Hid (fs ≠ gs) := hxy
    clear hxy
    go_enter Tryz.func75, Tryz.ntmps75
    go_wp2
    go_ret
    refine ⟨?_, Below.refl _ _⟩
    rw [← HB.out]
    simp [HX.out]
theorem szWordS_fits (a : Option Addr) (n c : Nat) (left : Int) (w : World) (h0 : 0 ≤ left) (h1 : left ≤ 1048576) (hn : (n : Int) ≤ left) :
    Calls Tryz.prog 43 #[.slice a n c, .int .i64 left] w fun e w' => e = .returned (.int .i64 (left - (n : Int))) ∧ w' = w := by
  have h2 : ¬ (left - (n : Int) < 0) := by omega
  go_enter Tryz.func43, Tryz.ntmps43
  go_wp2
  go_ret
  exact ⟨rfl, rfl⟩
theorem szWordS_big (a : Option Addr) (n c : Nat) (left : Int) (w : World) (h0 : 0 ≤ left) (h1 : left ≤ 1048576) (hn : ¬ (n : Int) ≤ left) (hm : n ≤ 9223372036854775807) :
    Calls Tryz.prog 43 #[.slice a n c, .int .i64 left] w fun e w' => e = .returned (.int .i64 (-1)) ∧ w' = w := by
  have h2 : left - (n : Int) < 0 := by omega
  go_enter Tryz.func43, Tryz.ntmps43
  go_wp2
  go_ret
  exact ⟨rfl, rfl⟩
end Go.Proofs.YthdpicmcgofghasGreat

/- spec.Entries, walked at any Desc and any place. -/
namespace Go.Proofs.YthdpicmcgofghasGreat
open Go.ChangeShapes Go.WideShapes Go.ChangeAt Go.RowKit

theorem Box.three {w : World} {b : Nat} {T : TypeId} {x y z : Value} (h : Box w b #[x, y, z] T) :
    w.cell? ⟨b, 0, none⟩ = some x ∧ w.cell? ⟨b, 1, none⟩ = some y ∧ w.cell? ⟨b, 2, none⟩ = some z ∧ w.frozen? ⟨b, 0, none⟩ = false ∧ w.frozen? ⟨b, 1, none⟩ = false ∧ w.frozen? ⟨b, 2, none⟩ = false :=
  ⟨h.cell 0, h.cell 1, h.cell 2, h.frozen 0, h.frozen 1, h.frozen 2⟩
set_option maxHeartbeats 1000000 in
theorem specEntries_any (sq st : Int) (ea : Option Addr) (en ec : Nat) (es : List Int) (cd : Int) (ra : Option Addr) (rn rc : Nat) (at_ : Int) (w : World) (h1 : TripAt w ea en es) :
    Calls Tryz.prog 49 #[DescV sq st ea en ec cd ra rn rc, .int .i64 at_] w fun e w' => e = .returned (.tuple #[EntryV (entM es en at_).1 (entM es en at_).2.1 (entM es en at_).2.2.1, .bool (entM es en at_).2.2.2]) ∧ Below w.heap.size w w' := by
  have H1 : Hid (TripAt w ea en es) := h1
  have hn := h1.2.1
  obtain ⟨r, hr⟩ : ∃ r, entM es en at_ = r := ⟨_, rfl⟩
  rw [hr]
  have HR : Hid (entM es en at_ = r) := hr
  have HB0 : Hid (Below w.heap.size w ((w.alloc (.cells (DescC sq st ea en ec cd ra rn rc) 93)).alloc (.cells #[.int .i64 0, .int .i64 0, .int .i64 0] 98))) := ((Below.refl _ w).alloc (Nat.le_refl _) _).alloc (by simp) _
  have B1 : Hid (Box ((w.alloc (.cells (DescC sq st ea en ec cd ra rn rc) 93)).alloc (.cells #[.int .i64 0, .int .i64 0, .int .i64 0] 98)) (w.heap.size + 1) #[.int .i64 0, .int .i64 0, .int .i64 0] 98) := by
    have := box_of (w.alloc (.cells (DescC sq st ea en ec cd ra rn rc) 93)) #[.int .i64 0, .int .i64 0, .int .i64 0] 98
    simp at this
    exact this
  clear h1 hr
  go_enter Tryz.func49, Tryz.ntmps49
  go_wp2
  go_loopw [6] (fun i wr => ∃ k : Nat, k ≤ en ∧ i = .int .i64 (k : Int) ∧ (∀ i, i < k → es.getD (i * 3) 0 ≠ at_) ∧ Box wr w.heap.size (DescC sq st ea en ec cd ra rn rc) 93 ∧ Box wr (w.heap.size + 1) #[.int .i64 0, .int .i64 0, .int .i64 0] 98 ∧ Below w.heap.size w wr) (fun i _ => en - (intOf i).toNat)
  case atStart => exact ⟨0, Nat.zero_le _, rfl, fun i hi => by omega, (box_of w _ _).alloc _, B1.out, HB0.out⟩
  case round =>
    obtain ⟨k, hk, rfl, hno, hbox, hbox2, hb⟩ := hrel
    have HNO : Hid (∀ i, i < k → es.getD (i * 3) 0 ≠ at_) := hno
    have HBX : Hid (Box wr w.heap.size (DescC sq st ea en ec cd ra rn rc) 93 ∧ Box wr (w.heap.size + 1) #[.int .i64 0, .int .i64 0, .int .i64 0] 98) := ⟨hbox, hbox2⟩
    obtain ⟨_, _, x2, _, _, _, _, _, _, _⟩ := hbox.desc
    obtain ⟨y0, y1, y2, f0, f1, f2⟩ := hbox2.three
    clear hno hbox hbox2 B1 HB0
    by_cases hlt : k < en
    · rcases (H1.out.below hb (Nat.le_refl _)).2.2 with h0 | ⟨p1, o1, rfl, g1⟩
      · omega
      have hk0 : (0 : Int) ≤ (k : Int) := by omega
      have hk1 : (k : Int) < (en : Int) := by omega
      have e1 := g1 (k * 3) (by omega)
      have e2 := g1 (k * 3 + 1) (by omega)
      have e3 := g1 (k * 3 + 2) (by omega)
      obtain ⟨x, hx⟩ : ∃ x, es.getD (k * 3) 0 = x := ⟨_, rfl⟩
      obtain ⟨y, hy⟩ : ∃ y, es.getD (k * 3 + 1) 0 = y := ⟨_, rfl⟩
      obtain ⟨z, hz⟩ : ∃ z, es.getD (k * 3 + 2) 0 = z := ⟨_, rfl⟩
      have HX : Hid (es.getD (k * 3) 0 = x ∧ es.getD (k * 3 + 1) 0 = y ∧ es.getD (k * 3 + 2) 0 = z) := ⟨hx, hy, hz⟩
      rw [hx] at e1
      rw [hy, ← Nat.add_assoc] at e2
      rw [hz, ← Nat.add_assoc] at e3
      clear g1 hx hy hz
      by_cases hxa : x = at_
      · have hxb : (x == at_) = true := by simpa using hxa
        have HV : Hid (r = (x, y, z, true)) := by
          show _ = _
          obtain ⟨q1, q2, q3⟩ := HX.out
          rw [← HR.out, entM_yes (idxE_eq (Nat.le_of_lt hlt) HNO.out fun _ => q1.trans hxa) hlt, q1, q2, q3]
        clear hxa
        go_wp2
        (try simp only [Exit.inBlock, Exit.then])
        refine bodyPost_ret (v := .tuple #[EntryV x y z, .bool true]) (by simp [results, Tryz.results49, go_sem, y0, y1, y2]; try rfl) rfl ?_
        refine ⟨by rw [HV.out], ((hb.setCell (by simp) _).setCell (by simp) _).setCell (by simp) _⟩
      · have hxb : (x == at_) = false := by simpa using hxa
        have HN : Hid (∀ i, i < k + 1 → es.getD (i * 3) 0 ≠ at_) := fun i hi => by
          by_cases e : i = k
          · rw [e, HX.out.1]; exact hxa
          · exact HNO.out i (by omega)
        clear hxa
        go_wp2
        exact ⟨⟨k + 1, by omega, by go_num, HN.out, HBX.out.1, HBX.out.2, hb⟩, by simp [intOf]; omega⟩
    · obtain rfl : k = en := by omega
      have HV : Hid (r = (0, 0, 0, false)) := by show _ = _; rw [← HR.out, entM_no (idxE_eq (Nat.le_refl _) HNO.out fun h => by omega)]
      go_wp2
      (try simp only [Exit.inBlock, Exit.then])
      refine bodyPost_ret (v := .tuple #[EntryV 0 0 0, .bool false]) (by simp [results, Tryz.results49, go_sem, y0, y1, y2]; try rfl) rfl ?_
      refine ⟨by rw [HV.out], ?_⟩
      first
        | exact ((hb.setCell (by simp) _).setCell (by simp) _).setCell (by simp) _
        | exact hb
end Go.Proofs.YthdpicmcgofghasGreat

/- spec.WordOk, walked at any word and any number of threads. -/
namespace Go.Proofs.YthdpicmcgofghasGreat
open Go.ChangeShapes Go.WideShapes Go.ChangeAt Go.RowKit Go.Joins

/-- A number from 0 to 1000, or a mark of one of so many threads. -/
def wordOkM (n t s th : Int) : Bool := if t = 0 then (decide (s = 0) && inB n 0 1000) else (decide (n = 0) && (inB t 1 th && inB s 1 1000000))
set_option maxHeartbeats 1000000 in
theorem specWordOk_any (n t s th : Int) (w : World) : Calls Tryz.prog 48 #[WordV n t s, .int .i64 th] w fun e w' => e = .returned (.bool (wordOkM n t s th)) ∧ Below w.heap.size w w' := by
  have hb0 : Below w.heap.size w (w.alloc (.cells #[.int .i64 n, .int .i64 t, .int .i64 s] 95)) := (Below.refl _ w).alloc (Nat.le_refl _) _
  have HB : Hid _ := hb0
  clear hb0
  obtain ⟨B, hB⟩ : ∃ B, wordOkM n t s th = B := ⟨_, rfl⟩
  rw [hB]
  have HM : Hid (wordOkM n t s th = B) := hB
  clear hB
  by_cases ht : t = 0
  · subst ht
    by_cases hs : s = 0
    · subst hs
      go_enter Tryz.func48, Tryz.ntmps48
      go_wp2_with fail
      refine (l1In_g n 0 1000 _).mono ?_
      rintro e w1 ⟨rfl, rfl⟩
      rw [show inB n 0 1000 = B from by rw [← HM.out]; simp [wordOkM]]
      go_wp2
      go_ret
      exact ⟨rfl, HB.out⟩
    · have hs' : (s == 0) = false := by simpa using hs
      obtain rfl : B = false := by rw [← HM.out]; simp [wordOkM, hs]
      clear HM hs
      go_enter Tryz.func48, Tryz.ntmps48
      go_wp2
      go_ret
      exact ⟨rfl, HB.out⟩
  · have ht' : (t == 0) = false := by simpa using ht
    by_cases hn : n = 0
    · subst hn
      rcases hi : inB t 1 th with _ | _
      · obtain rfl : B = false := by rw [← HM.out]; simp [wordOkM, ht, hi]
        have HI : Hid (inB t 1 th = false) := hi
        clear HM ht hi
        go_enter Tryz.func48, Tryz.ntmps48
        go_wp2_with fail
        refine (l1In_g t 1 th _).mono ?_
        rintro e w1 ⟨rfl, rfl⟩
        rw [HI.out]
        go_wp2
        go_ret
        exact ⟨rfl, HB.out⟩
      · have HI : Hid (inB t 1 th = true) := hi
        have HS : Hid (inB s 1 1000000 = B) := by show _ = _; rw [← HM.out]; simp [wordOkM, ht, hi]
        clear HM ht hi
        go_enter Tryz.func48, Tryz.ntmps48
        go_wp2_with fail
        refine (l1In_g t 1 th _).mono ?_
        rintro e w1 ⟨rfl, rfl⟩
        rw [HI.out]
        go_wp2_with fail
        refine (l1In_g s 1 1000000 _).mono ?_
        rintro e w2 ⟨rfl, rfl⟩
        rw [HS.out]
        go_wp2
        go_ret
        exact ⟨rfl, HB.out⟩
    · have hn' : (n == 0) = false := by simpa using hn
      obtain rfl : B = false := by rw [← HM.out]; simp [wordOkM, ht, hn]
      clear HM hn ht
      go_enter Tryz.func48, Tryz.ntmps48
      go_wp2
      go_ret
      exact ⟨rfl, HB.out⟩
end Go.Proofs.YthdpicmcgofghasGreat
