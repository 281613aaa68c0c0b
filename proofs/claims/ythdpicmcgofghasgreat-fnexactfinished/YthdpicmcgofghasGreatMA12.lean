/- Texts joined: Ents, ResV, Ints, ResL. -/
import Derived.Test.YthdpicmcgofghasGreatMA11
import Derived.Deep.RegionHeld3
import Derived.Test.YthdpicmcgofghasGreatMA01
import Derived.Test.YthdpicmcgofghasGreatRows
import Derived.WalkKit
import Derived.ProofKit
import Derived.WalkSmall
import Derived.OpenShut
import Derived.Handy
import Derived.ChangeOld
import Derived.Lib.SmallJoins
/- Lists of entries: the law's own functions on them. -/
namespace Go.Proofs.YthdpicmcgofghasGreat
open Go.ChangeShapes Go.WideShapes Go.ChangeAt Go.RowKit

theorem infoEntry : (Tryz.prog.info? 98).map (fun i => (i.zero, i.size, i.bytes)) = some (some (.agg #[.int .i64 0, .int .i64 0, .int .i64 0]), 3, 24) := by kernel_rfl
set_option maxHeartbeats 1000000 in
theorem toEntryS_any (a : Option Addr) (n c : Nat) (fs : List Int) (w : World) (h : TripAt w a n fs) :
    Calls Tryz.prog 116 #[.slice a n c] w fun e w' => e = .returned (.slice (some ⟨w.heap.size, 0, none⟩) n n) ∧ w'.ownsRow w.heap.size 98 3 (.slice (some ⟨w.heap.size, 0, none⟩) n n) n (fs.map I) ∧ Below w.heap.size w w' := by
  have HH : Hid (TripAt w a n fs) := h
  have L1 : Hid (fs.length = n * 3) := h.1
  have hn : n ≤ 1048576 := h.2.1
  clear h
  obtain ⟨i0, hi, hz0, hz1, hz2⟩ := info_parts infoEntry
  go_enter Tryz.func116, Tryz.ntmps116
  go_wp2_with (at_make; refine wpList_make_full _ rfl _ _ 90 rfl w.heap.size 98 i0 (.agg #[.int .i64 0, .int .i64 0, .int .i64 0]) 3 Tryz.underlying90 hi hz0 hz1 .i64 .i64 _ _ n rfl rfl rfl rfl (by rw [hz2]; omega) (by unfold maxLen; omega) (Nat.le_refl _) ?_; intro w1 own1 grow1)
  have own0 : w1.ownsRow w.heap.size 98 3 (.slice (some ⟨w.heap.size, 0, none⟩) n n) n ((uptoT fs 0 (n * 3)).map I) := by
    rw [made_trips] at own1
    simpa [uptoT] using own1
  have hb1 : Below w.heap.size w w1 := (Below.refl _ _).grown grow1 (Nat.le_refl _) (fun k e => by cases e)
  clear own1 grow1
  go_loopw [4] (fun i wr => ∃ k : Nat, k ≤ n ∧ i = .int .i64 (k : Int) ∧ wr.ownsRow w.heap.size 98 3 (.slice (some ⟨w.heap.size, 0, none⟩) n n) n ((uptoT fs (k * 3) (n * 3)).map I) ∧ Below w.heap.size w wr) (fun i _ => n - (intOf i).toNat)
  case atStart => exact ⟨0, Nat.zero_le _, rfl, own0, hb1⟩
  case round =>
    obtain ⟨k, hk, rfl, ho, hb⟩ := hrel
    clear own0 hb1
    by_cases hlt : k < n
    · rcases (HH.out.below hb (Nat.le_refl _)).2.2 with h0 | ⟨p1, o1, rfl, g1⟩
      · omega
      have hk0 : (0 : Int) ≤ (k : Int) := by omega
      have hk1 : (k : Int) < (n : Int) := by omega
      have e1 := g1 (k * 3) (by omega)
      have e2 := g1 (k * 3 + 1) (by omega)
      have e3 := g1 (k * 3 + 2) (by omega)
      obtain ⟨x, hx⟩ : ∃ x, fs.getD (k * 3) 0 = x := ⟨_, rfl⟩
      obtain ⟨y, hy⟩ : ∃ y, fs.getD (k * 3 + 1) 0 = y := ⟨_, rfl⟩
      obtain ⟨z, hz⟩ : ∃ z, fs.getD (k * 3 + 2) 0 = z := ⟨_, rfl⟩
      rw [hx] at e1
      rw [hy, ← Nat.add_assoc] at e2
      rw [hz, ← Nat.add_assoc] at e3
      have HO : Hid (wr.ownsRow w.heap.size 98 3 (.slice (some ⟨w.heap.size, 0, none⟩) n n) n ((uptoT fs (k * 3) (n * 3)).map I)) := ho
      have HX : Hid (fs.getD (k * 3) 0 = x ∧ fs.getD (k * 3 + 1) 0 = y ∧ fs.getD (k * 3 + 2) 0 = z) := ⟨hx, hy, hz⟩
      clear g1 hx hy hz ho
      go_wp2_with fail
      refine (toEntry_any x y z _).mono ?_
      rintro e w2 ⟨rfl, hb2⟩
      have ho2 := owns_below HO.out hb2 (Nat.le_refl _)
      have hb02 : Below w.heap.size w w2 := hb.trans (hb2.mono hb.size)
      have hs1 := ho2.stored (k * 3) (I x)
      rw [← HX.out.1, uptoT_step L1.out (show k * 3 < n * 3 by omega), HX.out.1] at hs1
      have hs2 := hs1.1.stored (k * 3 + 1) (I y)
      rw [← HX.out.2.1, uptoT_step L1.out (show k * 3 + 1 < n * 3 by omega), HX.out.2.1] at hs2
      have hs3 := hs2.1.stored (k * 3 + 2) (I z)
      rw [← HX.out.2.2, uptoT_step L1.out (show k * 3 + 1 + 1 < n * 3 by omega), HX.out.2.2] at hs3
      have HS : Hid ((((w2.setCell ⟨w.heap.size, k * 3, none⟩ (I x)).setCell ⟨w.heap.size, k * 3 + 1, none⟩ (I y)).setCell ⟨w.heap.size, k * 3 + 2, none⟩ (I z)).ownsRow w.heap.size 98 3 (.slice (some ⟨w.heap.size, 0, none⟩) n n) n ((uptoT fs ((k + 1) * 3) (n * 3)).map I)) := by
        rw [show (k + 1) * 3 = k * 3 + 1 + 1 + 1 by omega]
        exact hs3.1
      have z0 := ho2.frozenAt (k * 3)
      have z1 := ho2.frozenAt (k * 3 + 1)
      have z2 := ho2.frozenAt (k * 3 + 2)
      have hc0 := ho2.cellAt (k * 3) (by omega)
      have hc1 := ho2.cellAt (k * 3 + 1) (by omega)
      have hc2 := ho2.cellAt (k * 3 + 2) (by omega)
      rw [List.getElem?_eq_getElem (by rw [ho2.1]; omega)] at hc0 hc1 hc2
      obtain ⟨u0, hu0⟩ : ∃ u, w2.cell? ⟨w.heap.size, k * 3, none⟩ = some u := ⟨_, hc0⟩
      obtain ⟨u1, hu1⟩ : ∃ u, w2.cell? ⟨w.heap.size, k * 3 + 1, none⟩ = some u := ⟨_, hc1⟩
      obtain ⟨u2, hu2⟩ : ∃ u, w2.cell? ⟨w.heap.size, k * 3 + 2, none⟩ = some u := ⟨_, hc2⟩
      clear hs1 hs2 hs3 ho2 hb2 hc0 hc1 hc2 e1 e2 e3
      go_wp2
      go_roundw
      case rel => exact ⟨k + 1, by omega, by go_num, HS.out, ((hb02.setCell (Nat.le_refl _) _).setCell (Nat.le_refl _) _).setCell (Nat.le_refl _) _⟩
      case measure => simp [intOf]; omega
    · obtain rfl : k = n := by omega
      rw [uptoT_end L1.out] at ho
      go_wp2
      go_ret
      exact ⟨rfl, ho, hb⟩

set_option maxHeartbeats 1000000 in
theorem eqEntry_any (x y z x' y' z' : Int) (w : World) : Calls Tryz.prog 139 #[EntryV x y z, EntryV x' y' z'] w fun e w' => e = .returned (.bool (decide (x = x' ∧ y = y' ∧ z = z'))) ∧ Below w.heap.size w w' := by
  obtain ⟨B, hB⟩ : ∃ B, decide (x = x' ∧ y = y' ∧ z = z') = B := ⟨_, rfl⟩
  rw [hB]
  have HB : Hid (decide (x = x' ∧ y = y' ∧ z = z') = B) := hB
  clear hB
  have neb2 : ∀ a b : Int, (a = b ∧ (a != b) = false) ∨ (¬ a = b ∧ (a != b) = true) := fun a b => by
    by_cases h : a = b
    · exact .inl ⟨h, by simp [h]⟩
    · exact .inr ⟨h, by simp [h]⟩
  rcases neb2 x x' with ⟨h1, g1⟩ | ⟨h1, g1⟩ <;> rcases neb2 y y' with ⟨h2, g2⟩ | ⟨h2, g2⟩ <;> rcases neb2 z z' with ⟨h3, g3⟩ | ⟨h3, g3⟩
  all_goals
    have H1 : Hid _ := h1
    have H2 : Hid _ := h2
    have H3 : Hid _ := h3
    clear h1 h2 h3 neb2
    go_enter Tryz.func139, Tryz.ntmps139
    go_wp2
    iterate 3
      all_goals (try go_region)
      all_goals (try go_wp2)
    all_goals
      go_ret
      refine ⟨?_, (by
        have h0 := ((Below.refl w.heap.size w).alloc (Nat.le_refl _) (.cells #[.int .i64 x, .int .i64 y, .int .i64 z] 98)).alloc (by simp) (.cells #[.int .i64 x', .int .i64 y', .int .i64 z'] 98)
        first | exact h0 | exact h0.drew | exact h0.drew.drew | exact h0.drew.drew.drew)⟩
      rw [← HB.out]
      have h1 := H1.out
      have h2 := H2.out
      have h3 := H3.out
      first
        | (rw [decide_eq_true (show x = x' ∧ y = y' ∧ z = z' from ⟨h1, h2, h3⟩)]; rfl)
        | (rw [decide_eq_false (fun h : x = x' ∧ y = y' ∧ z = z' => h3 h.2.2)]; rfl)
        | (rw [decide_eq_false (fun h : x = x' ∧ y = y' ∧ z = z' => h2 h.2.1)]; rfl)
        | (rw [decide_eq_false (fun h : x = x' ∧ y = y' ∧ z = z' => h1 h.1)]; rfl)

set_option maxHeartbeats 1000000 in
theorem eqEntryS_any (a1 a2 : Option Addr) (n1 n2 c1 c2 : Nat) (fs gs : List Int) (w : World) (h1 : TripAt w a1 n1 fs) (h2 : TripAt w a2 n2 gs) :
    Calls Tryz.prog 127 #[.slice a1 n1 c1, .slice a2 n2 c2] w fun e w' => e = .returned (.bool (decide (fs = gs))) ∧ Below w.heap.size w w' := by
  have H1 : Hid (TripAt w a1 n1 fs) := h1
  have H2 : Hid (TripAt w a2 n2 gs) := h2
  have L1 : Hid (fs.length = n1 * 3) := h1.1
  have L2 : Hid (gs.length = n2 * 3) := h2.1
  have b1 := h1.2.1
  have b2 := h2.2.1
  obtain ⟨B, hB⟩ : ∃ B, decide (fs = gs) = B := ⟨_, rfl⟩
  rw [hB]
  have HB : Hid (decide (fs = gs) = B) := hB
  clear h1 h2 hB
  by_cases hn : n1 = n2
  · subst hn
    go_enter Tryz.func127, Tryz.ntmps127
    go_wp2
    go_loopw [5] (fun i wr => ∃ k : Nat, k ≤ n1 ∧ i = .int .i64 k ∧ fs.take (k * 3) = gs.take (k * 3) ∧ Below w.heap.size w wr) (fun i _ => n1 - (intOf i).toNat)
    case atStart => exact ⟨0, Nat.zero_le _, rfl, rfl, Below.refl _ _⟩
    case round =>
      obtain ⟨k, hk1, rfl, ht, hb⟩ := hrel
      have HT : Hid (fs.take (k * 3) = gs.take (k * 3)) := ht
      clear ht
      by_cases hlt1 : k < n1
      · have hk0 : (0 : Int) ≤ (k : Int) := by omega
        have hk1' : (k : Int) < (n1 : Int) := by omega
        rcases (H1.out.below hb (Nat.le_refl _)).2.2 with h | ⟨p1, o1, rfl, g1⟩
        · omega
        rcases (H2.out.below hb (Nat.le_refl _)).2.2 with h | ⟨p2, o2, rfl, g2⟩
        · omega
        obtain ⟨x, hx⟩ : ∃ x, fs.getD (k * 3) 0 = x := ⟨_, rfl⟩
        obtain ⟨y, hy⟩ : ∃ y, fs.getD (k * 3 + 1) 0 = y := ⟨_, rfl⟩
        obtain ⟨z, hz⟩ : ∃ z, fs.getD (k * 3 + 2) 0 = z := ⟨_, rfl⟩
        obtain ⟨x', hx'⟩ : ∃ x, gs.getD (k * 3) 0 = x := ⟨_, rfl⟩
        obtain ⟨y', hy'⟩ : ∃ y, gs.getD (k * 3 + 1) 0 = y := ⟨_, rfl⟩
        obtain ⟨z', hz'⟩ : ∃ z, gs.getD (k * 3 + 2) 0 = z := ⟨_, rfl⟩
        have e1 := g1 (k * 3) (by omega)
        have e2 := g1 (k * 3 + 1) (by omega)
        have e3 := g1 (k * 3 + 2) (by omega)
        have e4 := g2 (k * 3) (by omega)
        have e5 := g2 (k * 3 + 1) (by omega)
        have e6 := g2 (k * 3 + 2) (by omega)
        rw [hx] at e1
        rw [hy, ← Nat.add_assoc] at e2
        rw [hz, ← Nat.add_assoc] at e3
        rw [hx'] at e4
        rw [hy', ← Nat.add_assoc] at e5
        rw [hz', ← Nat.add_assoc] at e6
        have HX : Hid (fs.getD (k * 3) 0 = x ∧ fs.getD (k * 3 + 1) 0 = y ∧ fs.getD (k * 3 + 2) 0 = z ∧ gs.getD (k * 3) 0 = x' ∧ gs.getD (k * 3 + 1) 0 = y' ∧ gs.getD (k * 3 + 2) 0 = z') := ⟨hx, hy, hz, hx', hy', hz'⟩
        clear g1 g2 hx hy hz hx' hy' hz'
        have q1 : p1 < wr.heap.size := World.block_lt_of_cell? wr _ e1
        have q2 : p2 < wr.heap.size := World.block_lt_of_cell? wr _ e4
        obtain ⟨D, hD⟩ : ∃ D, decide (x = x' ∧ y = y' ∧ z = z') = D := ⟨_, rfl⟩
        have HD : Hid (decide (x = x' ∧ y = y' ∧ z = z') = D) := hD
        clear hD
        go_wp2_with fail
        go_region_held3 (fun w' => w'.cell? ⟨p1, o1 + k * 3, none⟩ = some (I x) ∧ w'.cell? ⟨p1, o1 + k * 3 + 1, none⟩ = some (I y) ∧ w'.cell? ⟨p1, o1 + k * 3 + 2, none⟩ = some (I z) ∧ w'.cell? ⟨p2, o2 + k * 3, none⟩ = some (I x') ∧ w'.cell? ⟨p2, o2 + k * 3 + 1, none⟩ = some (I y') ∧ w'.cell? ⟨p2, o2 + k * 3 + 2, none⟩ = some (I z'))
          (first | (with_reducible exact K2.out) | go_keep)
          (first
          | (go_at_call 139
             refine (eqEntry_any x y z x' y' z' _).mono ?_
             rintro e w2 ⟨rfl, hb2⟩
             rw [HD.out]
             have hb2' : Below wr.heap.size wr w2 := (Below.refl _ wr).drew.trans hb2
             have K2 : Hid (w2.cell? ⟨p1, o1 + k * 3, none⟩ = some (I x) ∧ w2.cell? ⟨p1, o1 + k * 3 + 1, none⟩ = some (I y) ∧ w2.cell? ⟨p1, o1 + k * 3 + 2, none⟩ = some (I z) ∧ w2.cell? ⟨p2, o2 + k * 3, none⟩ = some (I x') ∧ w2.cell? ⟨p2, o2 + k * 3 + 1, none⟩ = some (I y') ∧ w2.cell? ⟨p2, o2 + k * 3 + 2, none⟩ = some (I z')) := ⟨(hb2'.cell (show p1 < _ from q1)).trans e1, (hb2'.cell (show p1 < _ from q1)).trans e2, (hb2'.cell (show p1 < _ from q1)).trans e3, (hb2'.cell (show p2 < _ from q2)).trans e4, (hb2'.cell (show p2 < _ from q2)).trans e5, (hb2'.cell (show p2 < _ from q2)).trans e6⟩
             have hb02 : Below w.heap.size w w2 := hb.trans (hb2'.mono hb.size)
             clear hb2 hb2'))
        clear e1 e2 e3 e4 e5 e6 K2
        by_cases hh : x = x' ∧ y = y' ∧ z = z'
        · obtain rfl : D = true := by rw [← HD.out]; exact decide_eq_true hh
          have HH : Hid (x = x' ∧ y = y' ∧ z = z') := hh
          clear hh HD
          go_wp2
          have l1 := L1.out
          have l2 := L2.out
          obtain ⟨q1, q2, q3, q4, q5, q6⟩ := HX.out
          exact ⟨⟨k + 1, by omega, by go_num, take_three (by omega) (by omega) HT.out (by rw [q1, q4]; exact HH.out.1) (by rw [q2, q5]; exact HH.out.2.1) (by rw [q3, q6]; exact HH.out.2.2), hb02⟩, by simp [intOf]; omega⟩
        · obtain rfl : D = false := by rw [← HD.out]; exact decide_eq_false hh
          have HH : Hid (fs ≠ gs) := fun e => by
            obtain ⟨q1, q2, q3, q4, q5, q6⟩ := HX.out
            exact hh ⟨by rw [← q1, ← q4, e], by rw [← q2, ← q5, e], by rw [← q3, ← q6, e]⟩
          clear hh
          go_wp2
          go_ret
          refine ⟨?_, hb02⟩
          rw [← HB.out]
          simp [HH.out]
      · obtain rfl : k = n1 := by omega
        go_wp2
        go_ret
        refine ⟨?_, hb⟩
        have l1 := L1.out
        have l2 := L2.out
        have e : fs = gs := by
          have e0 := HT.out
          rwa [List.take_of_length_le (by omega), List.take_of_length_le (by omega)] at e0
        rw [← HB.out]
        simp [e]
  · have hne : ((n1 : Int) != (n2 : Int)) = true := by simp; omega
    have hxy : fs ≠ gs := fun e => by have l1 := L1.out; have l2 := L2.out; rw [e] at l1; omega
    have HX : Hid (fs ≠ gs) := hxy
    clear hxy
    go_enter Tryz.func127, Tryz.ntmps127
    go_wp2
    go_ret
    refine ⟨?_, Below.refl _ _⟩
    rw [← HB.out]
    simp [HX.out]
theorem szEntryS_fits (a : Option Addr) (n c : Nat) (left : Int) (w : World) (h0 : 0 ≤ left) (h1 : left ≤ 1048576) (hn : (n : Int) ≤ left) :
    Calls Tryz.prog 115 #[.slice a n c, .int .i64 left] w fun e w' => e = .returned (.int .i64 (left - (n : Int))) ∧ w' = w := by
  have h2 : ¬ (left - (n : Int) < 0) := by omega
  go_enter Tryz.func115, Tryz.ntmps115
  go_wp2
  go_ret
  exact ⟨rfl, rfl⟩
theorem szEntryS_big (a : Option Addr) (n c : Nat) (left : Int) (w : World) (h0 : 0 ≤ left) (h1 : left ≤ 1048576) (hn : ¬ (n : Int) ≤ left) (hm : n ≤ 9223372036854775807) :
    Calls Tryz.prog 115 #[.slice a n c, .int .i64 left] w fun e w' => e = .returned (.int .i64 (-1)) ∧ w' = w := by
  have h2 : left - (n : Int) < 0 := by omega
  go_enter Tryz.func115, Tryz.ntmps115
  go_wp2
  go_ret
  exact ⟨rfl, rfl⟩
end Go.Proofs.YthdpicmcgofghasGreat

/- What comes of an op, as a value. -/
namespace Go.Proofs.YthdpicmcgofghasGreat
/-- What comes of an op, as a value. -/
abbrev ResV (code : Int) (a : Option Addr) (n c : Nat) : Value := .agg #[.int .i64 code, .slice a n c]
end Go.Proofs.YthdpicmcgofghasGreat

/- The laws' own helpers toIntS and eqIntS, walked: a new list of the same numbers; whether two lists of numbers are alike. -/
namespace Go.Proofs.YthdpicmcgofghasGreat
open Go.ChangeShapes Go.WideShapes Go.ChangeAt Go.RowKit

set_option maxHeartbeats 400000 in
theorem eqIntS_any (a1 a2 : Option Addr) (n1 n2 c1 c2 : Nat) (xs ys : List Int) (w : World) (h1 : IntAt w a1 n1 xs) (h2 : IntAt w a2 n2 ys) :
    Calls Tryz.prog 38 #[.slice a1 n1 c1, .slice a2 n2 c2] w fun e w' => e = .returned (.bool (decide (xs = ys))) ∧ ∃ m, w' = w.drewN m := by
  obtain ⟨l1, b1, h1⟩ := h1
  obtain ⟨l2, b2, h2⟩ := h2
  have H1 : Hid (n1 = 0 ∨ ∃ b o, a1 = some ⟨b, o, none⟩ ∧ ∀ i, i < n1 → w.cell? ⟨b, o + i, none⟩ = some (I (xs.getD i 0))) := h1
  have H2 : Hid (n2 = 0 ∨ ∃ b o, a2 = some ⟨b, o, none⟩ ∧ ∀ i, i < n2 → w.cell? ⟨b, o + i, none⟩ = some (I (ys.getD i 0))) := h2
  have L1 : Hid (xs.length = n1) := l1
  have L2 : Hid (ys.length = n2) := l2
  clear h1 h2 l1 l2
  by_cases hn : n1 = n2
  · subst hn
    go_enter Tryz.func38, Tryz.ntmps38
    go_wp2
    go_loopw [5] (fun i wr => ∃ k m : Nat, k ≤ n1 ∧ i = .int .i64 k ∧ xs.take k = ys.take k ∧ wr = w.drewN m) (fun i _ => n1 - (intOf i).toNat)
    case atStart => exact ⟨0, 0, Nat.zero_le _, rfl, rfl, rfl⟩
    case round =>
      obtain ⟨k, m, hk, rfl, ht, rfl⟩ := hrel
      have HT : Hid (xs.take k = ys.take k) := ht
      clear ht
      by_cases hlt : k < n1
      · rcases H1.out with h | ⟨p1, o1, rfl, g1⟩
        · omega
        rcases H2.out with h | ⟨p2, o2, rfl, g2⟩
        · omega
        obtain ⟨x, hx⟩ : ∃ x, xs.getD k 0 = x := ⟨_, rfl⟩
        obtain ⟨y, hy⟩ : ∃ y, ys.getD k 0 = y := ⟨_, rfl⟩
        have e1 := g1 k hlt
        have e2 := g2 k hlt
        rw [hx] at e1
        rw [hy] at e2
        have HX : Hid (xs.getD k 0 = x) := hx
        have HY : Hid (ys.getD k 0 = y) := hy
        clear g1 g2 hx hy
        go_wp2
        go_region
        go_wp2
        · have hd : (x != y) = true := by assumption
          go_ret
          refine ⟨?_, m + 1, rfl⟩
          have e : xs ≠ ys := fun e => by rw [← HX.out, ← HY.out, e] at hd; simp at hd
          simp [e]
        · have hd : (x != y) = false := by assumption
          have l1 := L1.out
          have l2 := L2.out
          exact ⟨⟨k + 1, m + 1, by omega, by go_num, take_nextI (by omega) (by omega) HT.out (by rw [HX.out, HY.out]; simpa using hd), rfl⟩, by simp [intOf]; omega⟩
      · go_wp2
        go_ret
        refine ⟨?_, m, rfl⟩
        have e : xs = ys := by
          have := HT.out
          rwa [List.take_of_length_le (by have := L1.out; omega), List.take_of_length_le (by have := L2.out; omega)] at this
        simp [e]
  · have hz : ((n1 : Int) != (n2 : Int)) = true := by simp; omega
    go_enter Tryz.func38, Tryz.ntmps38
    go_wp2
    go_ret
    refine ⟨?_, 0, rfl⟩
    have e : xs ≠ ys := fun e => hn (by rw [← L1.out, ← L2.out, e])
    simp [e]

/-- What has been written of a list so far: the first k of xs, noughts behind them. -/
def upto (xs : List Int) (k n : Nat) : List Int := xs.take k ++ List.replicate (n - k) 0
theorem upto_step {xs : List Int} {k n : Nat} (hx : xs.length = n) (h : k < n) : (((upto xs k n).map I).set k (I (xs.getD k 0))) = (upto xs (k + 1) n).map I := by
  rw [← List.map_set]
  congr 1
  unfold upto
  have hl : (xs.take k).length = k := by rw [List.length_take]; omega
  rw [List.set_append_right _ _ (by omega), hl, Nat.sub_self, show n - k = (n - (k + 1)) + 1 by omega, List.replicate_succ, List.set_cons_zero,
    List.take_succ_eq_append_getElem (show k < xs.length by omega), List.append_assoc]
  simp [List.getD, show k < xs.length by omega]
theorem upto_end {xs : List Int} {n : Nat} (hx : xs.length = n) : upto xs n n = xs := by
  unfold upto
  rw [List.take_of_length_le (by omega)]; simp

set_option maxHeartbeats 400000 in
theorem toIntS_any (a : Option Addr) (n c : Nat) (xs : List Int) (w : World) (h : IntAt w a n xs) :
    Calls Tryz.prog 26 #[.slice a n c] w fun e w' => e = .returned (.slice (some ⟨w.heap.size, 0, none⟩) n n) ∧ w'.ownsRow w.heap.size 3 1 (.slice (some ⟨w.heap.size, 0, none⟩) n n) n (xs.map I) ∧ Below w.heap.size w w' := by
  have HA := h
  have HH : Hid (IntAt w a n xs) := HA
  obtain ⟨l1, b1, _⟩ := h
  have L1 : Hid (xs.length = n) := l1
  clear l1 HA
  obtain ⟨i0, hi, hz0, hz1, hz2⟩ := info_parts infoInt
  go_enter Tryz.func26, Tryz.ntmps26
  go_wp2_with (at_make; refine wpList_make_full _ rfl _ _ 28 rfl w.heap.size 3 i0 (.int .i64 0) 1 Tryz.underlying28 hi hz0 hz1 .i64 .i64 _ _ n rfl rfl rfl rfl (by rw [hz2]; omega) (by unfold maxLen; omega) (Nat.le_refl _) ?_; intro w1 own1 grow1)
  have own0 : w1.ownsRow w.heap.size 3 1 (.slice (some ⟨w.heap.size, 0, none⟩) n n) n ((upto xs 0 n).map I) := by
    have e : (madeCells (Value.int .i64 0).cells (n * 1)).toList = (upto xs 0 n).map I := by
      rw [Nat.mul_one]
      exact (toList_madeCells_one _ _).trans (by simp [upto])
    rwa [e] at own1
  have hb1 : Below w.heap.size w w1 := (Below.refl _ _).grown grow1 (Nat.le_refl _) (fun k e => by cases e)
  clear own1 grow1
  go_loopw [4] (fun i wr => ∃ k : Nat, k ≤ n ∧ i = .int .i64 (k : Int) ∧ wr.ownsRow w.heap.size 3 1 (.slice (some ⟨w.heap.size, 0, none⟩) n n) n ((upto xs k n).map I) ∧ Below w.heap.size w wr) (fun i _ => n - (intOf i).toNat)
  case atStart => exact ⟨0, Nat.zero_le _, rfl, own0, hb1⟩
  case round =>
    obtain ⟨k, hk, rfl, ho, hb⟩ := hrel
    clear own0 hb1
    by_cases hlt : k < n
    · rcases (HH.out.below hb (Nat.le_refl _)).2.2 with h0 | ⟨p1, o1, rfl, g1⟩
      · omega
      have e1 := g1 k hlt
      obtain ⟨x, hx⟩ : ∃ x, xs.getD k 0 = x := ⟨_, rfl⟩
      rw [hx] at e1
      have hst := ho.stored k (I x)
      rw [← hx, upto_step L1.out hlt, hx] at hst
      have HS : Hid ((wr.setCell ⟨w.heap.size, k, none⟩ (I x)).ownsRow w.heap.size 3 1 (.slice (some ⟨w.heap.size, 0, none⟩) n n) n ((upto xs (k + 1) n).map I)) := hst.1
      have hf := ho.frozenAt k
      obtain ⟨u, hc⟩ := own_cell ho hlt
      clear g1 hx hst ho
      go_wp2
      go_roundw
      case rel => exact ⟨k + 1, by omega, by go_num, HS.out, hb.setCell (Nat.le_refl _) _⟩
      case measure => simp [intOf]; omega
    · obtain rfl : k = n := by omega
      rw [upto_end L1.out] at ho
      go_wp2
      go_ret
      exact ⟨rfl, ho, hb⟩
end Go.Proofs.YthdpicmcgofghasGreat

/- The laws' own helpers for results, walked: toRes (a new result that reads alike), szRes, szRows told exactly, eqRes; a result that came in, opened. -/
namespace Go.Proofs.YthdpicmcgofghasGreat
open Go.ChangeShapes Go.WideShapes Go.ChangeAt Go.RowKit Go.Joins

set_option maxHeartbeats 1000000 in
theorem toRes_any (a : Option Addr) (n c : Nat) (st : Int) (xs : List Int) (w : World) (h : IntAt w a n xs) :
    Calls Tryz.prog 95 #[ResV st a n c] w fun e w' => e = .returned (ResV st (some ⟨w.heap.size + 3, 0, none⟩) n n) ∧ w'.ownsRow (w.heap.size + 3) 3 1 (.slice (some ⟨w.heap.size + 3, 0, none⟩) n n) n (xs.map I) ∧ Below w.heap.size w w' := by
  have HA : Hid (IntAt w a n xs) := h
  clear h
  go_enter Tryz.func95, Tryz.ntmps95
  go_wp2_with fail
  have hb0 : Below w.heap.size w (((w.alloc (.cells #[.int .i64 st, .slice a n c] 86)).alloc (.cells #[.int .i64 0, .slice none 0 0] 91)).alloc (.cells #[.int .i64 st, .slice none 0 0] 91)) :=
    (((Below.refl _ w).alloc (Nat.le_refl _) _).alloc (by simp) _).alloc (by simp; omega) _
  refine (toIntS_any a n c xs _ (HA.out.below hb0 (Nat.le_refl _))).mono ?_
  rintro e w1 ⟨rfl, own1, hb1⟩
  simp only [World.size_alloc] at own1 hb1
  have hs1 := hb1.size
  simp only [World.size_alloc] at hs1
  have c10 : w1.cell? ⟨w.heap.size + 1, 0, none⟩ = some (.int .i64 0) := by rw [hb1.cell (show w.heap.size + 1 < w.heap.size + 1 + 1 + 1 by omega)]; simp [World.cell?_alloc_past, World.cell?_alloc_at]
  have c11 : w1.cell? ⟨w.heap.size + 1, 1, none⟩ = some (.slice none 0 0) := by rw [hb1.cell (show w.heap.size + 1 < w.heap.size + 1 + 1 + 1 by omega)]; simp [World.cell?_alloc_past, World.cell?_alloc_at]
  have c20 : w1.cell? ⟨w.heap.size + 1 + 1, 0, none⟩ = some (.int .i64 st) := by rw [hb1.cell (show w.heap.size + 1 + 1 < w.heap.size + 1 + 1 + 1 by omega)]; simp [World.cell?_alloc_at]
  have c21 : w1.cell? ⟨w.heap.size + 1 + 1, 1, none⟩ = some (.slice none 0 0) := by rw [hb1.cell (show w.heap.size + 1 + 1 < w.heap.size + 1 + 1 + 1 by omega)]; simp [World.cell?_alloc_at]
  have f10 : w1.frozen? ⟨w.heap.size + 1, 0, none⟩ = false := by rw [hb1.frozen (show w.heap.size + 1 < w.heap.size + 1 + 1 + 1 by omega)]; simp [World.frozen?_alloc_past, World.frozen?_alloc_at]
  have f11 : w1.frozen? ⟨w.heap.size + 1, 1, none⟩ = false := by rw [hb1.frozen (show w.heap.size + 1 < w.heap.size + 1 + 1 + 1 by omega)]; simp [World.frozen?_alloc_past, World.frozen?_alloc_at]
  have f20 : w1.frozen? ⟨w.heap.size + 1 + 1, 0, none⟩ = false := by rw [hb1.frozen (show w.heap.size + 1 + 1 < w.heap.size + 1 + 1 + 1 by omega)]; simp [World.frozen?_alloc_at]
  have f21 : w1.frozen? ⟨w.heap.size + 1 + 1, 1, none⟩ = false := by rw [hb1.frozen (show w.heap.size + 1 + 1 < w.heap.size + 1 + 1 + 1 by omega)]; simp [World.frozen?_alloc_at]
  have hbw : Below w.heap.size w w1 := hb0.trans (hb1.mono (by omega))
  have HO : Hid (w1.ownsRow (w.heap.size + 1 + 1 + 1) 3 1 (.slice (some ⟨w.heap.size + 1 + 1 + 1, 0, none⟩) n n) n (xs.map I)) := own1
  clear hb0 hb1 own1
  go_wp2
  (try simp only [Exit.inBlock, Exit.then])
  refine bodyPost_ret (by simp [results, Tryz.results95, go_sem, c10, c11]; try rfl) rfl ?_
  exact ⟨rfl, ownsRow_setCell_below (ownsRow_setCell_below (ownsRow_setCell_below HO.out (by simp) _) (by simp) _) (by simp) _,
    ((hbw.setCell (by simp; omega) _).setCell (by simp) _).setCell (by simp) _⟩

theorem toRes_g (a : Option Addr) (n c : Nat) (st : Int) (xs : List Int) (w : World) (h : IntAt w a n xs) :
    Calls Tryz.prog 95 #[ResV st a n c] w fun e w' => ∃ g : Nat, e = .returned (ResV st (some ⟨g, 0, none⟩) n n) ∧ w.heap.size ≤ g ∧ w'.ownsRow g 3 1 (.slice (some ⟨g, 0, none⟩) n n) n (xs.map I) ∧ Below w.heap.size w w' :=
  (toRes_any a n c st xs w h).mono fun _ _ ⟨h1, h2, h3⟩ => ⟨_, h1, by omega, h2, h3⟩
theorem szRes_fits (a : Option Addr) (n c : Nat) (st left : Int) (w : World) (h0 : 0 ≤ left) (h1 : left ≤ 1048576) (hn : (n : Int) ≤ left) :
    Calls Tryz.prog 85 #[ResV st a n c, .int .i64 left] w fun e w' => e = .returned (.int .i64 (left - (n : Int))) ∧ Below w.heap.size w w' := by
  have h2 : ¬ (left - (n : Int) < 0) := by omega
  go_enter Tryz.func85, Tryz.ntmps85
  go_wp2
  go_ret
  exact ⟨rfl, (Below.refl _ _).alloc (Nat.le_refl _) _⟩
theorem szRes_big (a : Option Addr) (n c : Nat) (st left : Int) (w : World) (h0 : 0 ≤ left) (h1 : left ≤ 1048576) (hn : ¬ (n : Int) ≤ left) (hm : n ≤ 9223372036854775807) :
    Calls Tryz.prog 85 #[ResV st a n c, .int .i64 left] w fun e w' => e = .returned (.int .i64 (-1)) ∧ Below w.heap.size w w' := by
  have h2 : left - (n : Int) < 0 := by omega
  go_enter Tryz.func85, Tryz.ntmps85
  go_wp2
  go_ret
  exact ⟨rfl, (Below.refl _ _).alloc (Nat.le_refl _) _⟩

set_option maxHeartbeats 1000000 in
theorem eqRes_same (a1 a2 : Option Addr) (n1 n2 c1 c2 : Nat) (st : Int) (xs : List Int) (w : World) (h1 : IntAt w a1 n1 xs) (h2 : IntAt w a2 n2 xs) :
    Calls Tryz.prog 113 #[ResV st a1 n1 c1, ResV st a2 n2 c2] w fun e w' => e = .returned (.bool true) ∧ Below w.heap.size w w' := by
  have H1 : Hid (IntAt w a1 n1 xs) := h1
  have H2 : Hid (IntAt w a2 n2 xs) := h2
  clear h1 h2
  go_enter Tryz.func113, Tryz.ntmps113
  go_wp2_with fail
  have hb0 : Below w.heap.size w ((w.alloc (.cells #[.int .i64 st, .slice a1 n1 c1] 91)).alloc (.cells #[.int .i64 st, .slice a2 n2 c2] 91)) := ((Below.refl _ w).alloc (Nat.le_refl _) _).alloc (by simp) _
  refine (eqIntS_any a1 a2 n1 n2 c1 c2 xs xs _ (H1.out.below hb0 (Nat.le_refl _)) (H2.out.below hb0 (Nat.le_refl _))).mono ?_
  rintro e w1 ⟨rfl, m, rfl⟩
  have hb1 := below_drewN hb0 m
  clear hb0
  rw [show decide (xs = xs) = true from decide_eq_true rfl]
  go_wp2
  go_ret
  exact ⟨rfl, hb1⟩

theorem cellsRes : Tryz.prog.cellsOf 86 = 2 := by kernel_rfl
set_option maxRecDepth 100000 in
theorem open_res {H : Type} {enc : TypeId × Value → H} {W : World} {base b0 : Nat} {held : Bool} {v : Value} {d : DataW H} {p : List MemPlace}
    (hv : Value.okWide Tryz.prog W .any b0 86 v) (h : DataW.Trod enc Tryz.prog W base (fun _ => true) held 86 v d p) :
    ∃ (a : Option Addr) (n c : Nat) (st : Int) (xs : List Int), v = ResV st a n c ∧ n ≤ 9223372036854775807 ∧ (∀ x ∈ xs, (Lit.int .i64 x).wf = true) ∧ (n ≤ 1099511627776 → IntAt W a n xs) := by
  obtain ⟨v0, v1, y0, y1, m, rfl, rfl, rfl, h1, h0⟩ := open_agg2 Tryz.underlying86 (by kernel_rfl) cellsRes hv h
  obtain ⟨st, e1, rfl, w1⟩ := DataW.trod_int Tryz.underlying3 h1
  obtain rfl : v0 = .int .i64 st := by simpa using e1
  rcases open_ints Tryz.underlying28 Tryz.underlying3 (by kernel_rfl) h0 with ⟨hcs, _⟩ | ⟨x, l, cc, zs, hcs, _, hl, hm, hz, _, hcell, hwz⟩
  · obtain rfl : v1 = .slice none 0 0 := by simpa using hcs
    exact ⟨none, 0, 0, st, [], rfl, by omega, fun x hx => by simp at hx, fun _ => ⟨rfl, by omega, .inl rfl⟩⟩
  · obtain rfl : v1 = .slice (some x) l cc := by simpa using hcs
    refine ⟨some x, l, cc, st, zs.take l, rfl, by unfold maxLen at hm; omega, fun x hx => hwz x (List.mem_of_mem_take hx), fun hn => ⟨by simp at hz; rw [List.length_take]; omega, hn, ?_⟩⟩
    by_cases h0 : l = 0
    · exact .inl h0
    · simp at hz
      obtain ⟨b, o, rfl, hc⟩ := ints_at hcell (by omega)
      refine .inr ⟨b, o, rfl, fun i hi => ?_⟩
      rw [hc i (by omega)]
      simp [List.getD, hi]
end Go.Proofs.YthdpicmcgofghasGreat
