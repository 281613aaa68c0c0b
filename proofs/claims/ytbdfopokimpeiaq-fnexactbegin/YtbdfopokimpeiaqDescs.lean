/- Lists of Descs: the laws' own functions on them; one that came in, opened. -/
import Derived.Test.YtbdfopokimpeiaqValM
import Derived.Test.YtbdfopokimpeiaqOpenDesc
import Derived.Deep.RegionHeld3
namespace Go.Proofs.Ytbdfopokimpeiaq
open Go.ChangeShapes Go.WideShapes Go.ChangeAt Go.RowKit Go.Joins

/-- n Descs that came in lie there: their lists may be too long to be looked at. -/
def DescPre (w : World) (a : Option Addr) (n : Nat) (ds : List DK) : Prop :=
  ds.length = n ∧ n ≤ 1048576 ∧ (n = 0 ∨ ∃ b o, a = some ⟨b, o, none⟩ ∧ ∀ i, i < n → ∃ ea ec ra rc, Five w b (o + i * 5) (dk ds i) ea ec ra rc ∧ (dk ds i).en ≤ 9223372036854775807 ∧ (dk ds i).rn ≤ 9223372036854775807 ∧
    ((dk ds i).en ≤ 1048576 → TripAt w ea (dk ds i).en (dk ds i).es) ∧ ((dk ds i).rn ≤ 1048576 → IntAt w ra (dk ds i).rn (dk ds i).rs))
theorem DescPre.at {w : World} {a : Option Addr} {n : Nat} {ds : List DK} (h : DescPre w a n ds) (hs : ∀ i, i < n → (dk ds i).en ≤ 1048576 ∧ (dk ds i).rn ≤ 1048576) : DescAt w a n ds := by
  obtain ⟨h1, h2, h3 | ⟨b, o, h3, h4⟩⟩ := h
  · exact ⟨h1, h2, .inl h3⟩
  · refine ⟨h1, h2, .inr ⟨b, o, h3, fun i hi => ?_⟩⟩
    obtain ⟨ea, ec, ra, rc, h5, _, _, h6, h7⟩ := h4 i hi
    exact ⟨ea, ec, ra, rc, h5, h6 (hs i hi).1, h7 (hs i hi).2⟩
theorem dk_map {f : Nat → DK} {n i : Nat} (h : i < n) : dk ((List.range n).map f) i = f i := by
  unfold dk
  simp [List.getD, h]
theorem cellsLDescS : Try.prog.cellsOf 77 = 5 := by kernel_rfl
set_option maxRecDepth 100000 in
theorem open_descs {H : Type} {enc : TypeId × Value → H} {W : World} {base : Nat} {held : Bool} {fuel : Nat} {v : Value} {x : DataW H × List MemPlace}
    (h : DataW.trod enc Try.prog W base (fun _ => true) held fuel 23 [v] = some x) :
    ∃ (a : Option Addr) (n c : Nat) (ds : List DK), v = .slice a n c ∧ n ≤ 9223372036854775807 ∧ (n ≤ 1048576 → DescPre W a n ds) := by
  rcases Go.Deep.open_slice Try.underlying23 h with ⟨hcs, _⟩ | ⟨a, len, cap, m, k, D, Pl, hcs, hb, hl, hm, hmm, _, hx⟩
  · obtain rfl : v = .slice none 0 0 := by simpa using hcs
    exact ⟨none, 0, 0, [], rfl, by omega, fun _ => ⟨rfl, by omega, .inl rfl⟩⟩
  · obtain rfl : v = .slice (some a) len cap := by simpa using hcs
    have hlm : len ≤ m := by rw [hmm]; split <;> omega
    have each : ∀ i, i < len → ∃ z : DK × Option Addr × Nat × Option Addr × Nat, W.cell? (a.add (i * 5)) = some (I z.1.sq) ∧ W.cell? (a.add (i * 5 + 1)) = some (I z.1.st) ∧ W.cell? (a.add (i * 5 + 2)) = some (.slice z.2.1 z.1.en z.2.2.1) ∧ W.cell? (a.add (i * 5 + 3)) = some (I z.1.cd) ∧ W.cell? (a.add (i * 5 + 4)) = some (.slice z.2.2.2.1 z.1.rn z.2.2.2.2) ∧
        z.1.en ≤ 9223372036854775807 ∧ z.1.rn ≤ 9223372036854775807 ∧ (z.1.en ≤ 1048576 → TripAt W z.2.1 z.1.en z.1.es) ∧ (z.1.rn ≤ 1048576 → IntAt W z.2.2.2.1 z.1.rn z.1.rs) := by
      intro i hi
      obtain ⟨cs', h1, h2⟩ := hx i (by omega)
      rw [cellsLDescS] at h1
      obtain ⟨_, hlen, hcell⟩ := World.cells?_some h1
      obtain ⟨sq, st, ea, en, ec, es, cd, ra, rn, rc, rs, rfl, hin⟩ := open_desc_cells h2
      have e0 := hcell 0 (by omega)
      have e1 := hcell 1 (by omega)
      have e2 := hcell 2 (by omega)
      have e3 := hcell 3 (by omega)
      have e4 := hcell 4 (by omega)
      rw [Go.Deep.add_add] at e0 e1 e2 e3 e4
      exact ⟨(⟨sq, st, en, es, cd, rn, rs⟩, ea, ec, ra, rc), by simpa using e0, by simpa using e1, by simpa using e2, by simpa using e3, by simpa using e4, hin.we, hin.wr, hin.ents, hin.ints⟩
    obtain ⟨z, hz⟩ := Go.Deep.choose_lt each
    refine ⟨some a, len, cap, (List.range len).map fun i => (z i).1, rfl, by unfold maxLen at hm; omega, fun hn => ⟨by simp, hn, ?_⟩⟩
    by_cases h0 : len = 0
    · exact .inl h0
    · obtain ⟨b, off, spot⟩ := a
      have hspot : spot = none := by simpa [Addr.add] using World.cell?_spot (hz 0 (by omega)).1
      subst hspot
      refine .inr ⟨b, off, rfl, fun i hi => ⟨(z i).2.1, (z i).2.2.1, (z i).2.2.2.1, (z i).2.2.2.2, ?_⟩⟩
      obtain ⟨q0, q1, q2, q3, q4, q5, q6, q7, q8⟩ := hz i hi
      rw [dk_map hi]
      rw [Go.WideShapes.add_plain] at q0 q1 q2 q3 q4
      exact ⟨⟨q0, by rw [Nat.add_assoc]; exact q1, by rw [Nat.add_assoc]; exact q2, by rw [Nat.add_assoc]; exact q3, by rw [Nat.add_assoc]; exact q4⟩, q5, q6, q7, q8⟩

set_option maxHeartbeats 1000000 in
theorem szDescS_any (a : Option Addr) (n c : Nat) (ds : List DK) (left : Int) (w : World) (h : n ≤ 1048576 → DescPre w a n ds) (hm : n ≤ 9223372036854775807) (h0 : 0 ≤ left) (h1 : left ≤ 1048576) :
    Calls Try.prog 9 #[.slice a n c, .int .i64 left] w fun e w' => Below w.heap.size w w' ∧ ((e = .returned (.int .i64 (-1))) ∨ ∃ r : Int, e = .returned (.int .i64 r) ∧ 0 ≤ r ∧ r ≤ 1048576 ∧ (n : Int) ≤ left ∧ DescAt w a n ds ∧ ∀ i, i < n → (dk ds i).en ≤ 1048576 ∧ (dk ds i).rn ≤ 1048576) := by
  by_cases hn : (n : Int) ≤ left
  case neg =>
    have h2 : left - (n : Int) < 0 := by omega
    clear h
    go_enter Try.func9, Try.ntmps9
    go_wp2
    go_ret
    exact ⟨Below.refl _ _, .inl rfl⟩
  have HP : Hid (DescPre w a n ds) := h (by omega)
  clear h
  have h2 : ¬ (left - (n : Int) < 0) := by omega
  go_enter Try.func9, Try.ntmps9
  go_wp2
  go_loopw [1, 5] (fun l i wr => ∃ (k : Nat) (r : Int), k ≤ n ∧ l = .int .i64 r ∧ i = .int .i64 (k : Int) ∧ 0 ≤ r ∧ r ≤ 1048576 ∧ (∀ i, i < k → (dk ds i).en ≤ 1048576 ∧ (dk ds i).rn ≤ 1048576) ∧ Below w.heap.size w wr) (fun _ i _ => n - (intOf i).toNat)
  case atStart => exact ⟨0, left - n, Nat.zero_le _, rfl, rfl, by omega, by omega, fun i hi => by omega, Below.refl _ _⟩
  case round =>
    obtain ⟨k, r, hk, rfl, rfl, hr0, hr1, hok, hb⟩ := hrel
    have HOK : Hid (∀ i, i < k → (dk ds i).en ≤ 1048576 ∧ (dk ds i).rn ≤ 1048576) := hok
    clear hok
    by_cases hlt : k < n
    · rcases HP.out.2.2 with h0 | ⟨p1, o1, rfl, g1⟩
      · omega
      obtain ⟨ea, ec, ra, rc, h5, q5, q6, _, _⟩ := g1 k hlt
      obtain ⟨f0, f1, f2, f3, f4⟩ := h5.below hb (Nat.le_refl _)
      have hk0 : (0 : Int) ≤ (k : Int) := by omega
      have hk1 : (k : Int) < (n : Int) := by omega
      obtain ⟨D, hD⟩ : ∃ D, dk ds k = D := ⟨_, rfl⟩
      have HD : Hid (dk ds k = D) := hD
      rw [hD] at f0 f1 f2 f3 f4 q5 q6
      obtain ⟨dsq, dst, den, des, dcd, drn, drs⟩ := D
      dsimp only at f0 f1 f2 f3 f4 q5 q6
      clear g1 h5 hD
      by_cases hfit : (den : Int) + (drn : Int) ≤ r
      · have hr2 : ¬ (r - (den : Int) - (drn : Int) < 0) := by omega
        go_wp2_with fail
        refine (szDesc_fits dsq dst dcd r ea ra den ec drn rc _ hr0 hr1 hfit).mono ?_
        rintro e w1 ⟨rfl, hb1⟩
        have hb2 : Below w.heap.size w w1 := hb.trans (hb1.mono hb.size)
        clear hb1 f0 f1 f2 f3 f4
        go_wp2
        exact ⟨⟨k + 1, r - den - drn, by omega, rfl, by go_num, by omega, by omega, fun i hi => by
          by_cases e : i = k
          · rw [e, HD.out]; exact ⟨by show den ≤ _; omega, by show drn ≤ _; omega⟩
          · exact HOK.out i (by omega), hb2⟩, by simp [intOf]; omega⟩
      · go_wp2_with fail
        refine (szDesc_big dsq dst dcd r ea ra den ec drn rc _ hr0 hr1 (by omega) q5 q6).mono ?_
        rintro e w1 ⟨rfl, hb1⟩
        have hb2 : Below w.heap.size w w1 := hb.trans (hb1.mono hb.size)
        clear hb1 f0 f1 f2 f3 f4
        go_wp2
        go_ret
        exact ⟨hb2, .inl rfl⟩
    · obtain rfl : k = n := by omega
      have HA : Hid (DescAt w a k ds) := HP.out.at HOK.out
      go_wp2
      go_ret
      exact ⟨hb, .inr ⟨r, rfl, hr0, hr1, hn, HA.out, HOK.out⟩⟩
end Go.Proofs.Ytbdfopokimpeiaq
