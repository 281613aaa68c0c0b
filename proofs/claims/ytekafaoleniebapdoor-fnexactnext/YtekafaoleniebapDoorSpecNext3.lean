/- spec.l5Make, l5All and Next, walked. -/
import Derived.Test.YtekafaoleniebapDoorSpecNext2
import Derived.Test.YtekafaoleniebapDoorSpecOp
namespace Go.Proofs.YtekafaoleniebapDoor
open Go.ChangeShapes Go.WideShapes Go.ChangeAt Go.RowKit

theorem l1In_any (x lo hi : Int) (h : lo ≤ hi) (w : World) : Calls Tryd.prog 18 #[.int .i64 x, .int .i64 lo, .int .i64 hi] w fun e w' => e = .returned (.bool (decide (lo ≤ x ∧ x ≤ hi))) ∧ w' = w := by
  rcases tri lo hi x h with ⟨h0, h1⟩ | ⟨h0, h1⟩ | ⟨h0, h1⟩
  · rw [show decide (lo ≤ x ∧ x ≤ hi) = true from decide_eq_true ⟨h0, h1⟩]
    go_enter Tryd.func18, Tryd.ntmps18
    go_wp2
    go_ret
    exact ⟨by simp, rfl⟩
  · rw [show decide (lo ≤ x ∧ x ≤ hi) = false from decide_eq_false (fun h => h0 h.1)]
    go_enter Tryd.func18, Tryd.ntmps18
    go_wp2
    go_ret
    exact ⟨by simp, rfl⟩
  · rw [show decide (lo ≤ x ∧ x ≤ hi) = false from decide_eq_false (fun h => h1 h.2)]
    go_enter Tryd.func18, Tryd.ntmps18
    go_wp2
    go_ret
    exact ⟨by simp, rfl⟩

set_option maxHeartbeats 2000000 in
theorem l5Make_any (b : Nat) (a : Option Addr) (n c : Nat) (fs : List Int) (w : World) (hq : ∀ q, a = some q → n ≠ 0 → q.block ≠ b) (hW : WBox w b a n c (-1, false)) (hP : PairAt w a n fs) :
    Calls Tryd.prog 31 #[.pointer (some ⟨b, 0, none⟩)] w fun e w' => e = .returned (.tuple #[]) ∧ WBox w' b a n c (makeM fs n) ∧ w.grownBy w' (some b) := by
  have HQ : Hid (∀ q, a = some q → n ≠ 0 → q.block ≠ b) := hq
  have HS0 : Hid (NextSt w b a n c fs w (-1, false)) := ⟨hW, hP, World.grownBy.refl _ _⟩
  clear hW hP hq
  go_enter Tryd.func31, Tryd.ntmps31
  go_wp2_with fail
  refine (specStateAt_any _).mono ?_
  rintro e wp ⟨rfl, hwp⟩
  rw [hwp]
  clear hwp
  go_wp2_with fail
  refine (l5Know_any b a n c (-1, false) 13 fs _ HS0.out.box HS0.out.ps).mono ?_
  rintro e w1 ⟨rfl, hW, hf⟩
  obtain ⟨r1, hr1⟩ : ∃ r, knowM fs n (-1, false) 13 = r := ⟨_, rfl⟩
  rw [hr1] at hW
  rw [hr1]
  have HR1 : Hid (knowM fs n (-1, false) 13 = r1) := hr1
  have HS1 : Hid (NextSt w b a n c fs w1 r1.1) := HS0.out.know HQ.out hW hf
  clear hW hf hr1
  go_wp2_with fail
  refine (l1In_any r1.2 1 4 (by decide) _).mono ?_
  rintro e wp ⟨rfl, hwp⟩
  rw [hwp]
  clear hwp
  by_cases hin : 1 ≤ r1.2 ∧ r1.2 ≤ 4
  · rw [show decide (1 ≤ r1.2 ∧ r1.2 ≤ 4) = true from decide_eq_true hin]
    have HI : Hid (ifM r1.1 (¬ (1 ≤ r1.2 ∧ r1.2 ≤ 4)) = (r1.1.1, r1.1.2 || false)) := by
      show _ = _
      unfold ifM
      rw [decide_eq_false (fun h => h hin)]
    have h1 := hin.1
    have h2 := hin.2
    clear hin
    go_wp2_with fail
    refine (l5If_any b a n c r1.1 false _ HS1.out.box).mono ?_
    rintro e w2 ⟨rfl, hW, hf⟩
    rw [← HI.out] at hW
    have HS2 : Hid (NextSt w b a n c fs w2 (ifM r1.1 (¬ (1 ≤ r1.2 ∧ r1.2 ≤ 4)))) := HS1.out.know HQ.out hW hf
    clear hW hf
    go_wp2_with fail
    refine (specRowAt_any (r1.2 - 1) _).mono ?_
    rintro e wp ⟨rfl, hwp⟩
    rw [hwp]
    clear hwp
    go_wp2_with fail
    refine (l5Know_any b a n c (ifM r1.1 (¬ (1 ≤ r1.2 ∧ r1.2 ≤ 4))) (placeN 1 (r1.2 - 1)) fs _ HS2.out.box HS2.out.ps).mono ?_
    rintro e w3 ⟨rfl, hW, hf⟩
    obtain ⟨r3, hr3⟩ : ∃ r, knowM fs n (ifM r1.1 (¬ (1 ≤ r1.2 ∧ r1.2 ≤ 4))) (placeN 1 (r1.2 - 1)) = r := ⟨_, rfl⟩
    rw [hr3] at hW
    rw [hr3]
    have HR3 : Hid (knowM fs n (ifM r1.1 (¬ (1 ≤ r1.2 ∧ r1.2 ≤ 4))) (placeN 1 (r1.2 - 1)) = r3) := hr3
    have HS3 : Hid (NextSt w b a n c fs w3 r3.1) := HS2.out.know HQ.out hW hf
    clear hW hf hr3
    have HM : Hid (makeM fs n = if r3.2 = 0 then r3.1 else (knowM fs n r3.1 (placeN 5 r3.2)).1) := by
      show makeM fs n = _
      unfold makeM
      simp only [HR1.out, HR3.out]
    rcases nebN r3.2 0 with ⟨hv, hvb⟩ | ⟨hv, hvb⟩
    · have HM2 : Hid (makeM fs n = r3.1) := HM.out.trans (if_pos hv)
      clear hv HM
      go_wp2
      go_end0
      rw [HM2.out]
      exact ⟨rfl, HS3.out.box, HS3.out.far⟩
    · have HM2 : Hid (makeM fs n = (knowM fs n r3.1 (placeN 5 r3.2)).1) := HM.out.trans (if_neg hv)
      clear hv HM
      go_wp2_with fail
      refine (specViaAt_any r3.2 _).mono ?_
      rintro e wp ⟨rfl, hwp⟩
      rw [hwp]
      clear hwp
      go_wp2_with fail
      refine (l5Know_any b a n c r3.1 (placeN 5 r3.2) fs _ HS3.out.box HS3.out.ps).mono ?_
      rintro e w4 ⟨rfl, hW, hf⟩
      have HS4 : Hid (NextSt w b a n c fs w4 (knowM fs n r3.1 (placeN 5 r3.2)).1) := HS3.out.know HQ.out hW hf
      clear hW hf
      go_wp2
      go_end0
      rw [HM2.out]
      exact ⟨rfl, HS4.out.box, HS4.out.far⟩
  · rw [show decide (1 ≤ r1.2 ∧ r1.2 ≤ 4) = false from decide_eq_false hin]
    have HI : Hid (ifM r1.1 (¬ (1 ≤ r1.2 ∧ r1.2 ≤ 4)) = (r1.1.1, r1.1.2 || true)) := by
      show _ = _
      unfold ifM
      rw [decide_eq_true hin]
    have HST : Hid ((ifM r1.1 (¬ (1 ≤ r1.2 ∧ r1.2 ≤ 4))).2 = true) := by
      show _ = _
      rw [HI.out]
      simp
    have HM2 : Hid (makeM fs n = ifM r1.1 (¬ (1 ≤ r1.2 ∧ r1.2 ≤ 4))) := by
      show makeM fs n = _
      unfold makeM
      simp only [HR1.out]
      rw [knowM_stop HST.out]
      simp
    clear hin
    go_wp2_with fail
    refine (l5If_any b a n c r1.1 true _ HS1.out.box).mono ?_
    rintro e w2 ⟨rfl, hW, hf⟩
    rw [← HI.out] at hW
    have HS2 : Hid (NextSt w b a n c fs w2 (ifM r1.1 (¬ (1 ≤ r1.2 ∧ r1.2 ≤ 4)))) := HS1.out.know HQ.out hW hf
    clear hW hf
    go_wp2_with fail
    refine (specRowAt_any _ _).mono ?_
    rintro e wp ⟨rfl, hwp⟩
    rw [hwp]
    clear hwp
    go_wp2_with fail
    refine (l5Know_any b a n c (ifM r1.1 (¬ (1 ≤ r1.2 ∧ r1.2 ≤ 4))) _ fs _ HS2.out.box HS2.out.ps).mono ?_
    rintro e w3 ⟨rfl, hW, hf⟩
    rw [knowM_stop HST.out] at hW
    rw [knowM_stop HST.out]
    have HS3 : Hid (NextSt w b a n c fs w3 (ifM r1.1 (¬ (1 ≤ r1.2 ∧ r1.2 ≤ 4)))) := HS2.out.know HQ.out hW hf
    clear hW hf
    go_wp2
    go_end0
    rw [HM2.out]
    exact ⟨rfl, HS3.out.box, HS3.out.far⟩

/-- The answer of l5All: the block where it has come to. -/
def AllSays (e : Ending) (w w' : World) (a : Option Addr) (n c : Nat) (s : Work) : Prop := ∃ b, e = .returned (.pointer (some ⟨b, 0, none⟩)) ∧ WBox w' b a n c s ∧ Below w.heap.size w w'
theorem pairs_apart {w : World} {a : Option Addr} {n : Nat} {fs : List Int} (h : PairAt w a n fs) {b : Nat} (hb : w.heap.size ≤ b) : ∀ q, a = some q → n ≠ 0 → q.block ≠ b := by
  intro q hq h0
  rcases h.2.2 with h1 | ⟨p, o, e, g⟩
  · exact absurd h1 h0
  · rw [e] at hq
    cases hq
    have := World.block_lt_of_cell? w _ (g 0 (by omega))
    show p ≠ b
    simp at this
    omega

set_option maxHeartbeats 2000000 in
theorem l5All_1 (a : Option Addr) (n c : Nat) (k v : Int) (fs : List Int) (w : World) (hP : PairAt w a n fs) (hk : 0 ≤ k ∧ k ≤ 3) :
    Calls Tryd.prog 11 #[OpV 1 k v, .slice a n c] w fun e w' => AllSays e w w' a n c (putM fs n k v) := by
  obtain ⟨W0, hW0⟩ : ∃ W0, W0 = (w.alloc (.cells #[.int .i64 1, .int .i64 k, .int .i64 v] 27)).alloc (.cells #[.slice a n c, .int .i64 (-1), .bool false] 35) := ⟨_, rfl⟩
  have hbw : Below w.heap.size w W0 := by rw [hW0]; exact ((Below.refl _ w).alloc (Nat.le_refl _) _).alloc (by simp) _
  obtain ⟨b, hb⟩ : ∃ b, b = w.heap.size + 1 := ⟨_, rfl⟩
  have hbox : WBox W0 b a n c (-1, false) := by
    rw [hW0, hb]
    show ((w.heap.push _).push _)[w.heap.size + 1]? = _
    rw [show w.heap.size + 1 = (w.heap.push (Obj.cells #[.int .i64 1, .int .i64 k, .int .i64 v] 27)).size by simp, Array.getElem?_push_size]
  have HQ : Hid (∀ q, a = some q → n ≠ 0 → q.block ≠ b) := pairs_apart hP (by omega)
  have HS0 : Hid (NextSt W0 b a n c fs W0 (-1, false)) := ⟨hbox, hP.below hbw (Nat.le_refl _), World.grownBy.refl _ _⟩
  have HBW : Hid (Below w.heap.size w W0) := hbw
  have hbn : w.heap.size ≠ b := by omega
  have hbl : w.heap.size ≤ b := by omega
  have O0 : Hid (W0.cell? ⟨w.heap.size, 0, none⟩ = some (.int .i64 1)) := by show _ = _; rw [hW0, World.cell?_alloc_past _ _ _ (by simp)]; simp
  have O1 : Hid (W0.cell? ⟨w.heap.size, 1, none⟩ = some (.int .i64 k)) := by show _ = _; rw [hW0, World.cell?_alloc_past _ _ _ (by simp)]; simp
  have O2 : Hid (W0.cell? ⟨w.heap.size, 2, none⟩ = some (.int .i64 v)) := by show _ = _; rw [hW0, World.cell?_alloc_past _ _ _ (by simp)]; simp
  clear hP hbox hbw
  go_enter Tryd.func11, Tryd.ntmps11
  go_wp2_with fail
  rw [← hb, ← hW0]
  clear hb hW0
  refine (l5Put_any b a n c 1 k v fs _ HQ.out HS0.out.box HS0.out.ps hk).mono ?_
  rintro e w1 ⟨rfl, hW, hf⟩
  have HS1 : Hid (NextSt W0 b a n c fs w1 (putM fs n k v)) := HS0.out.know HQ.out hW hf
  clear hW hf
  go_wp2
  go_ret
  exact ⟨b, rfl, HS1.out.box, HBW.out.grown HS1.out.far HBW.out.size (fun j e => by cases e; exact hbl)⟩
set_option maxHeartbeats 2000000 in
theorem l5All_2 (a : Option Addr) (n c : Nat) (k v : Int) (fs : List Int) (w : World) (hP : PairAt w a n fs) (hk : 0 ≤ k ∧ k ≤ 3) :
    Calls Tryd.prog 11 #[OpV 2 k v, .slice a n c] w fun e w' => AllSays e w w' a n c (setM fs n k v) := by
  obtain ⟨W0, hW0⟩ : ∃ W0, W0 = (w.alloc (.cells #[.int .i64 2, .int .i64 k, .int .i64 v] 27)).alloc (.cells #[.slice a n c, .int .i64 (-1), .bool false] 35) := ⟨_, rfl⟩
  have hbw : Below w.heap.size w W0 := by rw [hW0]; exact ((Below.refl _ w).alloc (Nat.le_refl _) _).alloc (by simp) _
  obtain ⟨b, hb⟩ : ∃ b, b = w.heap.size + 1 := ⟨_, rfl⟩
  have hbox : WBox W0 b a n c (-1, false) := by
    rw [hW0, hb]
    show ((w.heap.push _).push _)[w.heap.size + 1]? = _
    rw [show w.heap.size + 1 = (w.heap.push (Obj.cells #[.int .i64 2, .int .i64 k, .int .i64 v] 27)).size by simp, Array.getElem?_push_size]
  have HQ : Hid (∀ q, a = some q → n ≠ 0 → q.block ≠ b) := pairs_apart hP (by omega)
  have HS0 : Hid (NextSt W0 b a n c fs W0 (-1, false)) := ⟨hbox, hP.below hbw (Nat.le_refl _), World.grownBy.refl _ _⟩
  have HBW : Hid (Below w.heap.size w W0) := hbw
  have hbn : w.heap.size ≠ b := by omega
  have hbl : w.heap.size ≤ b := by omega
  have O0 : Hid (W0.cell? ⟨w.heap.size, 0, none⟩ = some (.int .i64 2)) := by show _ = _; rw [hW0, World.cell?_alloc_past _ _ _ (by simp)]; simp
  have O1 : Hid (W0.cell? ⟨w.heap.size, 1, none⟩ = some (.int .i64 k)) := by show _ = _; rw [hW0, World.cell?_alloc_past _ _ _ (by simp)]; simp
  have O2 : Hid (W0.cell? ⟨w.heap.size, 2, none⟩ = some (.int .i64 v)) := by show _ = _; rw [hW0, World.cell?_alloc_past _ _ _ (by simp)]; simp
  clear hP hbox hbw
  go_enter Tryd.func11, Tryd.ntmps11
  go_wp2_with fail
  rw [← hb, ← hW0]
  clear hb hW0
  refine (l5Set_any b a n c 2 k v fs _ HQ.out HS0.out.box HS0.out.ps hk).mono ?_
  rintro e w1 ⟨rfl, hW, hf⟩
  have HS1 : Hid (NextSt W0 b a n c fs w1 (setM fs n k v)) := HS0.out.know HQ.out hW hf
  clear hW hf
  go_wp2
  go_ret
  exact ⟨b, rfl, HS1.out.box, HBW.out.grown HS1.out.far HBW.out.size (fun j e => by cases e; exact hbl)⟩
set_option maxHeartbeats 2000000 in
theorem l5All_3 (a : Option Addr) (n c : Nat) (k v : Int) (fs : List Int) (w : World) (hP : PairAt w a n fs) (hk : 0 ≤ k ∧ k ≤ 3) :
    Calls Tryd.prog 11 #[OpV 3 k v, .slice a n c] w fun e w' => AllSays e w w' a n c (delM fs n k) := by
  obtain ⟨W0, hW0⟩ : ∃ W0, W0 = (w.alloc (.cells #[.int .i64 3, .int .i64 k, .int .i64 v] 27)).alloc (.cells #[.slice a n c, .int .i64 (-1), .bool false] 35) := ⟨_, rfl⟩
  have hbw : Below w.heap.size w W0 := by rw [hW0]; exact ((Below.refl _ w).alloc (Nat.le_refl _) _).alloc (by simp) _
  obtain ⟨b, hb⟩ : ∃ b, b = w.heap.size + 1 := ⟨_, rfl⟩
  have hbox : WBox W0 b a n c (-1, false) := by
    rw [hW0, hb]
    show ((w.heap.push _).push _)[w.heap.size + 1]? = _
    rw [show w.heap.size + 1 = (w.heap.push (Obj.cells #[.int .i64 3, .int .i64 k, .int .i64 v] 27)).size by simp, Array.getElem?_push_size]
  have HQ : Hid (∀ q, a = some q → n ≠ 0 → q.block ≠ b) := pairs_apart hP (by omega)
  have HS0 : Hid (NextSt W0 b a n c fs W0 (-1, false)) := ⟨hbox, hP.below hbw (Nat.le_refl _), World.grownBy.refl _ _⟩
  have HBW : Hid (Below w.heap.size w W0) := hbw
  have hbn : w.heap.size ≠ b := by omega
  have hbl : w.heap.size ≤ b := by omega
  have O0 : Hid (W0.cell? ⟨w.heap.size, 0, none⟩ = some (.int .i64 3)) := by show _ = _; rw [hW0, World.cell?_alloc_past _ _ _ (by simp)]; simp
  have O1 : Hid (W0.cell? ⟨w.heap.size, 1, none⟩ = some (.int .i64 k)) := by show _ = _; rw [hW0, World.cell?_alloc_past _ _ _ (by simp)]; simp
  have O2 : Hid (W0.cell? ⟨w.heap.size, 2, none⟩ = some (.int .i64 v)) := by show _ = _; rw [hW0, World.cell?_alloc_past _ _ _ (by simp)]; simp
  clear hP hbox hbw
  go_enter Tryd.func11, Tryd.ntmps11
  go_wp2_with fail
  rw [← hb, ← hW0]
  clear hb hW0
  refine (l5Del_any b a n c 3 k v fs _ HQ.out HS0.out.box HS0.out.ps hk).mono ?_
  rintro e w1 ⟨rfl, hW, hf⟩
  have HS1 : Hid (NextSt W0 b a n c fs w1 (delM fs n k)) := HS0.out.know HQ.out hW hf
  clear hW hf
  go_wp2
  go_ret
  exact ⟨b, rfl, HS1.out.box, HBW.out.grown HS1.out.far HBW.out.size (fun j e => by cases e; exact hbl)⟩
set_option maxHeartbeats 2000000 in
theorem l5All_4 (a : Option Addr) (n c : Nat) (k v : Int) (fs : List Int) (w : World) (hP : PairAt w a n fs) :
    Calls Tryd.prog 11 #[OpV 4 k v, .slice a n c] w fun e w' => AllSays e w w' a n c ((knowM fs n (-1, false) (placeN 1 k)).1) := by
  obtain ⟨W0, hW0⟩ : ∃ W0, W0 = (w.alloc (.cells #[.int .i64 4, .int .i64 k, .int .i64 v] 27)).alloc (.cells #[.slice a n c, .int .i64 (-1), .bool false] 35) := ⟨_, rfl⟩
  have hbw : Below w.heap.size w W0 := by rw [hW0]; exact ((Below.refl _ w).alloc (Nat.le_refl _) _).alloc (by simp) _
  obtain ⟨b, hb⟩ : ∃ b, b = w.heap.size + 1 := ⟨_, rfl⟩
  have hbox : WBox W0 b a n c (-1, false) := by
    rw [hW0, hb]
    show ((w.heap.push _).push _)[w.heap.size + 1]? = _
    rw [show w.heap.size + 1 = (w.heap.push (Obj.cells #[.int .i64 4, .int .i64 k, .int .i64 v] 27)).size by simp, Array.getElem?_push_size]
  have HQ : Hid (∀ q, a = some q → n ≠ 0 → q.block ≠ b) := pairs_apart hP (by omega)
  have HS0 : Hid (NextSt W0 b a n c fs W0 (-1, false)) := ⟨hbox, hP.below hbw (Nat.le_refl _), World.grownBy.refl _ _⟩
  have HBW : Hid (Below w.heap.size w W0) := hbw
  have hbn : w.heap.size ≠ b := by omega
  have hbl : w.heap.size ≤ b := by omega
  have O0 : Hid (W0.cell? ⟨w.heap.size, 0, none⟩ = some (.int .i64 4)) := by show _ = _; rw [hW0, World.cell?_alloc_past _ _ _ (by simp)]; simp
  have O1 : Hid (W0.cell? ⟨w.heap.size, 1, none⟩ = some (.int .i64 k)) := by show _ = _; rw [hW0, World.cell?_alloc_past _ _ _ (by simp)]; simp
  have O2 : Hid (W0.cell? ⟨w.heap.size, 2, none⟩ = some (.int .i64 v)) := by show _ = _; rw [hW0, World.cell?_alloc_past _ _ _ (by simp)]; simp
  clear hP hbox hbw
  go_enter Tryd.func11, Tryd.ntmps11
  go_wp2_with fail
  rw [← hb, ← hW0]
  clear hb hW0
  refine (specRowAt_any k _).mono ?_
  rintro e wp ⟨rfl, hwp⟩
  rw [hwp]
  clear hwp
  go_wp2_with fail
  refine (l5Know_any b a n c ((-1, false)) (placeN 1 k) fs _ HS0.out.box HS0.out.ps).mono ?_
  rintro e w1 ⟨rfl, hW, hf⟩
  have HS1 : Hid (NextSt W0 b a n c fs w1 (knowM fs n ((-1, false)) (placeN 1 k)).1) := HS0.out.know HQ.out hW hf
  clear hW hf
  go_wp2
  go_ret
  exact ⟨b, rfl, HS1.out.box, HBW.out.grown HS1.out.far HBW.out.size (fun j e => by cases e; exact hbl)⟩
set_option maxHeartbeats 2000000 in
theorem l5All_5 (a : Option Addr) (n c : Nat) (k v : Int) (fs : List Int) (w : World) (hP : PairAt w a n fs) :
    Calls Tryd.prog 11 #[OpV 5 k v, .slice a n c] w fun e w' => AllSays e w w' a n c ((knowM fs n (-1, false) (placeN 2 v)).1) := by
  obtain ⟨W0, hW0⟩ : ∃ W0, W0 = (w.alloc (.cells #[.int .i64 5, .int .i64 k, .int .i64 v] 27)).alloc (.cells #[.slice a n c, .int .i64 (-1), .bool false] 35) := ⟨_, rfl⟩
  have hbw : Below w.heap.size w W0 := by rw [hW0]; exact ((Below.refl _ w).alloc (Nat.le_refl _) _).alloc (by simp) _
  obtain ⟨b, hb⟩ : ∃ b, b = w.heap.size + 1 := ⟨_, rfl⟩
  have hbox : WBox W0 b a n c (-1, false) := by
    rw [hW0, hb]
    show ((w.heap.push _).push _)[w.heap.size + 1]? = _
    rw [show w.heap.size + 1 = (w.heap.push (Obj.cells #[.int .i64 5, .int .i64 k, .int .i64 v] 27)).size by simp, Array.getElem?_push_size]
  have HQ : Hid (∀ q, a = some q → n ≠ 0 → q.block ≠ b) := pairs_apart hP (by omega)
  have HS0 : Hid (NextSt W0 b a n c fs W0 (-1, false)) := ⟨hbox, hP.below hbw (Nat.le_refl _), World.grownBy.refl _ _⟩
  have HBW : Hid (Below w.heap.size w W0) := hbw
  have hbn : w.heap.size ≠ b := by omega
  have hbl : w.heap.size ≤ b := by omega
  have O0 : Hid (W0.cell? ⟨w.heap.size, 0, none⟩ = some (.int .i64 5)) := by show _ = _; rw [hW0, World.cell?_alloc_past _ _ _ (by simp)]; simp
  have O1 : Hid (W0.cell? ⟨w.heap.size, 1, none⟩ = some (.int .i64 k)) := by show _ = _; rw [hW0, World.cell?_alloc_past _ _ _ (by simp)]; simp
  have O2 : Hid (W0.cell? ⟨w.heap.size, 2, none⟩ = some (.int .i64 v)) := by show _ = _; rw [hW0, World.cell?_alloc_past _ _ _ (by simp)]; simp
  clear hP hbox hbw
  go_enter Tryd.func11, Tryd.ntmps11
  go_wp2_with fail
  rw [← hb, ← hW0]
  clear hb hW0
  refine (specOwnerAt_any v _).mono ?_
  rintro e wp ⟨rfl, hwp⟩
  rw [hwp]
  clear hwp
  go_wp2_with fail
  refine (l5Know_any b a n c ((-1, false)) (placeN 2 v) fs _ HS0.out.box HS0.out.ps).mono ?_
  rintro e w1 ⟨rfl, hW, hf⟩
  have HS1 : Hid (NextSt W0 b a n c fs w1 (knowM fs n ((-1, false)) (placeN 2 v)).1) := HS0.out.know HQ.out hW hf
  clear hW hf
  go_wp2
  go_ret
  exact ⟨b, rfl, HS1.out.box, HBW.out.grown HS1.out.far HBW.out.size (fun j e => by cases e; exact hbl)⟩
set_option maxHeartbeats 2000000 in
theorem l5All_6 (a : Option Addr) (n c : Nat) (k v : Int) (fs : List Int) (w : World) (hP : PairAt w a n fs) :
    Calls Tryd.prog 11 #[OpV 6 k v, .slice a n c] w fun e w' => AllSays e w w' a n c ((knowM fs n (-1, false) (placeN 3 k)).1) := by
  obtain ⟨W0, hW0⟩ : ∃ W0, W0 = (w.alloc (.cells #[.int .i64 6, .int .i64 k, .int .i64 v] 27)).alloc (.cells #[.slice a n c, .int .i64 (-1), .bool false] 35) := ⟨_, rfl⟩
  have hbw : Below w.heap.size w W0 := by rw [hW0]; exact ((Below.refl _ w).alloc (Nat.le_refl _) _).alloc (by simp) _
  obtain ⟨b, hb⟩ : ∃ b, b = w.heap.size + 1 := ⟨_, rfl⟩
  have hbox : WBox W0 b a n c (-1, false) := by
    rw [hW0, hb]
    show ((w.heap.push _).push _)[w.heap.size + 1]? = _
    rw [show w.heap.size + 1 = (w.heap.push (Obj.cells #[.int .i64 6, .int .i64 k, .int .i64 v] 27)).size by simp, Array.getElem?_push_size]
  have HQ : Hid (∀ q, a = some q → n ≠ 0 → q.block ≠ b) := pairs_apart hP (by omega)
  have HS0 : Hid (NextSt W0 b a n c fs W0 (-1, false)) := ⟨hbox, hP.below hbw (Nat.le_refl _), World.grownBy.refl _ _⟩
  have HBW : Hid (Below w.heap.size w W0) := hbw
  have hbn : w.heap.size ≠ b := by omega
  have hbl : w.heap.size ≤ b := by omega
  have O0 : Hid (W0.cell? ⟨w.heap.size, 0, none⟩ = some (.int .i64 6)) := by show _ = _; rw [hW0, World.cell?_alloc_past _ _ _ (by simp)]; simp
  have O1 : Hid (W0.cell? ⟨w.heap.size, 1, none⟩ = some (.int .i64 k)) := by show _ = _; rw [hW0, World.cell?_alloc_past _ _ _ (by simp)]; simp
  have O2 : Hid (W0.cell? ⟨w.heap.size, 2, none⟩ = some (.int .i64 v)) := by show _ = _; rw [hW0, World.cell?_alloc_past _ _ _ (by simp)]; simp
  clear hP hbox hbw
  go_enter Tryd.func11, Tryd.ntmps11
  go_wp2_with fail
  rw [← hb, ← hW0]
  clear hb hW0
  refine (specCountAt_any k _).mono ?_
  rintro e wp ⟨rfl, hwp⟩
  rw [hwp]
  clear hwp
  go_wp2_with fail
  refine (l5Know_any b a n c ((-1, false)) (placeN 3 k) fs _ HS0.out.box HS0.out.ps).mono ?_
  rintro e w1 ⟨rfl, hW, hf⟩
  have HS1 : Hid (NextSt W0 b a n c fs w1 (knowM fs n ((-1, false)) (placeN 3 k)).1) := HS0.out.know HQ.out hW hf
  clear hW hf
  go_wp2
  go_ret
  exact ⟨b, rfl, HS1.out.box, HBW.out.grown HS1.out.far HBW.out.size (fun j e => by cases e; exact hbl)⟩
set_option maxHeartbeats 2000000 in
theorem l5All_8 (a : Option Addr) (n c : Nat) (k v : Int) (fs : List Int) (w : World) (hP : PairAt w a n fs) :
    Calls Tryd.prog 11 #[OpV 8 k v, .slice a n c] w fun e w' => AllSays e w w' a n c ((knowM fs n (-1, false) (13)).1) := by
  obtain ⟨W0, hW0⟩ : ∃ W0, W0 = (w.alloc (.cells #[.int .i64 8, .int .i64 k, .int .i64 v] 27)).alloc (.cells #[.slice a n c, .int .i64 (-1), .bool false] 35) := ⟨_, rfl⟩
  have hbw : Below w.heap.size w W0 := by rw [hW0]; exact ((Below.refl _ w).alloc (Nat.le_refl _) _).alloc (by simp) _
  obtain ⟨b, hb⟩ : ∃ b, b = w.heap.size + 1 := ⟨_, rfl⟩
  have hbox : WBox W0 b a n c (-1, false) := by
    rw [hW0, hb]
    show ((w.heap.push _).push _)[w.heap.size + 1]? = _
    rw [show w.heap.size + 1 = (w.heap.push (Obj.cells #[.int .i64 8, .int .i64 k, .int .i64 v] 27)).size by simp, Array.getElem?_push_size]
  have HQ : Hid (∀ q, a = some q → n ≠ 0 → q.block ≠ b) := pairs_apart hP (by omega)
  have HS0 : Hid (NextSt W0 b a n c fs W0 (-1, false)) := ⟨hbox, hP.below hbw (Nat.le_refl _), World.grownBy.refl _ _⟩
  have HBW : Hid (Below w.heap.size w W0) := hbw
  have hbn : w.heap.size ≠ b := by omega
  have hbl : w.heap.size ≤ b := by omega
  have O0 : Hid (W0.cell? ⟨w.heap.size, 0, none⟩ = some (.int .i64 8)) := by show _ = _; rw [hW0, World.cell?_alloc_past _ _ _ (by simp)]; simp
  have O1 : Hid (W0.cell? ⟨w.heap.size, 1, none⟩ = some (.int .i64 k)) := by show _ = _; rw [hW0, World.cell?_alloc_past _ _ _ (by simp)]; simp
  have O2 : Hid (W0.cell? ⟨w.heap.size, 2, none⟩ = some (.int .i64 v)) := by show _ = _; rw [hW0, World.cell?_alloc_past _ _ _ (by simp)]; simp
  clear hP hbox hbw
  go_enter Tryd.func11, Tryd.ntmps11
  go_wp2_with fail
  rw [← hb, ← hW0]
  clear hb hW0
  refine (specStateAt_any _).mono ?_
  rintro e wp ⟨rfl, hwp⟩
  rw [hwp]
  clear hwp
  go_wp2_with fail
  refine (l5Know_any b a n c ((-1, false)) (13) fs _ HS0.out.box HS0.out.ps).mono ?_
  rintro e w1 ⟨rfl, hW, hf⟩
  have HS1 : Hid (NextSt W0 b a n c fs w1 (knowM fs n ((-1, false)) (13)).1) := HS0.out.know HQ.out hW hf
  clear hW hf
  go_wp2
  go_ret
  exact ⟨b, rfl, HS1.out.box, HBW.out.grown HS1.out.far HBW.out.size (fun j e => by cases e; exact hbl)⟩
set_option maxHeartbeats 2000000 in
theorem l5All_9 (a : Option Addr) (n c : Nat) (k v : Int) (fs : List Int) (w : World) (hP : PairAt w a n fs) :
    Calls Tryd.prog 11 #[OpV 9 k v, .slice a n c] w fun e w' => AllSays e w w' a n c (makeM fs n) := by
  obtain ⟨W0, hW0⟩ : ∃ W0, W0 = (w.alloc (.cells #[.int .i64 9, .int .i64 k, .int .i64 v] 27)).alloc (.cells #[.slice a n c, .int .i64 (-1), .bool false] 35) := ⟨_, rfl⟩
  have hbw : Below w.heap.size w W0 := by rw [hW0]; exact ((Below.refl _ w).alloc (Nat.le_refl _) _).alloc (by simp) _
  obtain ⟨b, hb⟩ : ∃ b, b = w.heap.size + 1 := ⟨_, rfl⟩
  have hbox : WBox W0 b a n c (-1, false) := by
    rw [hW0, hb]
    show ((w.heap.push _).push _)[w.heap.size + 1]? = _
    rw [show w.heap.size + 1 = (w.heap.push (Obj.cells #[.int .i64 9, .int .i64 k, .int .i64 v] 27)).size by simp, Array.getElem?_push_size]
  have HQ : Hid (∀ q, a = some q → n ≠ 0 → q.block ≠ b) := pairs_apart hP (by omega)
  have HS0 : Hid (NextSt W0 b a n c fs W0 (-1, false)) := ⟨hbox, hP.below hbw (Nat.le_refl _), World.grownBy.refl _ _⟩
  have HBW : Hid (Below w.heap.size w W0) := hbw
  have hbn : w.heap.size ≠ b := by omega
  have hbl : w.heap.size ≤ b := by omega
  have O0 : Hid (W0.cell? ⟨w.heap.size, 0, none⟩ = some (.int .i64 9)) := by show _ = _; rw [hW0, World.cell?_alloc_past _ _ _ (by simp)]; simp
  have O1 : Hid (W0.cell? ⟨w.heap.size, 1, none⟩ = some (.int .i64 k)) := by show _ = _; rw [hW0, World.cell?_alloc_past _ _ _ (by simp)]; simp
  have O2 : Hid (W0.cell? ⟨w.heap.size, 2, none⟩ = some (.int .i64 v)) := by show _ = _; rw [hW0, World.cell?_alloc_past _ _ _ (by simp)]; simp
  clear hP hbox hbw
  go_enter Tryd.func11, Tryd.ntmps11
  go_wp2_with fail
  rw [← hb, ← hW0]
  clear hb hW0
  refine (l5Make_any b a n c fs _ HQ.out HS0.out.box HS0.out.ps).mono ?_
  rintro e w1 ⟨rfl, hW, hf⟩
  have HS1 : Hid (NextSt W0 b a n c fs w1 (makeM fs n)) := HS0.out.know HQ.out hW hf
  clear hW hf
  go_wp2
  go_ret
  exact ⟨b, rfl, HS1.out.box, HBW.out.grown HS1.out.far HBW.out.size (fun j e => by cases e; exact hbl)⟩
set_option maxHeartbeats 2000000 in
theorem l5All_10 (a : Option Addr) (n c : Nat) (k v : Int) (fs : List Int) (w : World) (hP : PairAt w a n fs) :
    Calls Tryd.prog 11 #[OpV 10 k v, .slice a n c] w fun e w' => AllSays e w w' a n c ((knowM fs n (ifM (knowM fs n (-1, false) 13).1 ((knowM fs n (-1, false) 13).2 ≠ 5)) (placeN 5 v)).1) := by
  obtain ⟨W0, hW0⟩ : ∃ W0, W0 = (w.alloc (.cells #[.int .i64 10, .int .i64 k, .int .i64 v] 27)).alloc (.cells #[.slice a n c, .int .i64 (-1), .bool false] 35) := ⟨_, rfl⟩
  have hbw : Below w.heap.size w W0 := by rw [hW0]; exact ((Below.refl _ w).alloc (Nat.le_refl _) _).alloc (by simp) _
  obtain ⟨b, hb⟩ : ∃ b, b = w.heap.size + 1 := ⟨_, rfl⟩
  have hbox : WBox W0 b a n c (-1, false) := by
    rw [hW0, hb]
    show ((w.heap.push _).push _)[w.heap.size + 1]? = _
    rw [show w.heap.size + 1 = (w.heap.push (Obj.cells #[.int .i64 10, .int .i64 k, .int .i64 v] 27)).size by simp, Array.getElem?_push_size]
  have HQ : Hid (∀ q, a = some q → n ≠ 0 → q.block ≠ b) := pairs_apart hP (by omega)
  have HS0 : Hid (NextSt W0 b a n c fs W0 (-1, false)) := ⟨hbox, hP.below hbw (Nat.le_refl _), World.grownBy.refl _ _⟩
  have HBW : Hid (Below w.heap.size w W0) := hbw
  have hbn : w.heap.size ≠ b := by omega
  have hbl : w.heap.size ≤ b := by omega
  have O0 : Hid (W0.cell? ⟨w.heap.size, 0, none⟩ = some (.int .i64 10)) := by show _ = _; rw [hW0, World.cell?_alloc_past _ _ _ (by simp)]; simp
  have O1 : Hid (W0.cell? ⟨w.heap.size, 1, none⟩ = some (.int .i64 k)) := by show _ = _; rw [hW0, World.cell?_alloc_past _ _ _ (by simp)]; simp
  have O2 : Hid (W0.cell? ⟨w.heap.size, 2, none⟩ = some (.int .i64 v)) := by show _ = _; rw [hW0, World.cell?_alloc_past _ _ _ (by simp)]; simp
  clear hP hbox hbw
  go_enter Tryd.func11, Tryd.ntmps11
  go_wp2_with fail
  rw [← hb, ← hW0]
  clear hb hW0
  refine (specStateAt_any _).mono ?_
  rintro e wp ⟨rfl, hwp⟩
  rw [hwp]
  clear hwp
  go_wp2_with fail
  refine (l5Know_any b a n c (-1, false) 13 fs _ HS0.out.box HS0.out.ps).mono ?_
  rintro e w1 ⟨rfl, hW, hf⟩
  obtain ⟨r1, hr1⟩ : ∃ r, knowM fs n (-1, false) 13 = r := ⟨_, rfl⟩
  rw [hr1] at hW
  rw [hr1]
  have HR1 : Hid (knowM fs n (-1, false) 13 = r1) := hr1
  have HS1 : Hid (NextSt W0 b a n c fs w1 r1.1) := HS0.out.know HQ.out hW hf
  clear hW hf hr1
  go_wp2_with fail
  refine (l5If_any b a n c r1.1 (r1.2 != 5) _ HS1.out.box).mono ?_
  rintro e w2 ⟨rfl, hW, hf⟩
  rw [show (r1.2 != 5) = decide (r1.2 ≠ 5) by by_cases h : r1.2 = 5 <;> simp [h]] at hW
  have HS2 : Hid (NextSt W0 b a n c fs w2 (ifM r1.1 (r1.2 ≠ 5))) := HS1.out.know HQ.out hW hf
  have o2 : w2.cell? ⟨w.heap.size, 2, none⟩ = some (.int .i64 v) := far_cell HS2.out.far O2.out hbn
  clear hW hf
  go_wp2_with fail
  refine (specViaAt_any v _).mono ?_
  rintro e wp ⟨rfl, hwp⟩
  rw [hwp]
  clear hwp
  go_wp2_with fail
  refine (l5Know_any b a n c (ifM r1.1 (r1.2 ≠ 5)) (placeN 5 v) fs _ HS2.out.box HS2.out.ps).mono ?_
  rintro e w3 ⟨rfl, hW, hf⟩
  have HS3 : Hid (NextSt W0 b a n c fs w3 (knowM fs n (ifM r1.1 (r1.2 ≠ 5)) (placeN 5 v)).1) := HS2.out.know HQ.out hW hf
  clear hW hf
  go_wp2
  go_ret
  rw [HR1.out]
  exact ⟨b, rfl, HS3.out.box, HBW.out.grown HS3.out.far HBW.out.size (fun j e => by cases e; exact hbl)⟩
/-- How far all rows are known. -/
def scanM (fs : List Int) (n : Nat) : Nat → Work
  | 0 => (-1, false)
  | j + 1 => (knowM fs n (scanM fs n j) (placeN 1 (j : Int))).1

set_option maxHeartbeats 2000000 in
theorem l5All_7 (a : Option Addr) (n c : Nat) (k v : Int) (fs : List Int) (w : World) (hP : PairAt w a n fs) :
    Calls Tryd.prog 11 #[OpV 7 k v, .slice a n c] w fun e w' => AllSays e w w' a n c (scanM fs n 4) := by
  obtain ⟨W0, hW0⟩ : ∃ W0, W0 = (w.alloc (.cells #[.int .i64 7, .int .i64 k, .int .i64 v] 27)).alloc (.cells #[.slice a n c, .int .i64 (-1), .bool false] 35) := ⟨_, rfl⟩
  have hbw : Below w.heap.size w W0 := by rw [hW0]; exact ((Below.refl _ w).alloc (Nat.le_refl _) _).alloc (by simp) _
  obtain ⟨b, hb⟩ : ∃ b, b = w.heap.size + 1 := ⟨_, rfl⟩
  have hbox : WBox W0 b a n c (-1, false) := by
    rw [hW0, hb]
    show ((w.heap.push _).push _)[w.heap.size + 1]? = _
    rw [show w.heap.size + 1 = (w.heap.push (Obj.cells #[.int .i64 7, .int .i64 k, .int .i64 v] 27)).size by simp, Array.getElem?_push_size]
  have HQ : Hid (∀ q, a = some q → n ≠ 0 → q.block ≠ b) := pairs_apart hP (by omega)
  have HS0 : Hid (NextSt W0 b a n c fs W0 (-1, false)) := ⟨hbox, hP.below hbw (Nat.le_refl _), World.grownBy.refl _ _⟩
  have HBW : Hid (Below w.heap.size w W0) := hbw
  have hbn : w.heap.size ≠ b := by omega
  have hbl : w.heap.size ≤ b := by omega
  have O0 : Hid (W0.cell? ⟨w.heap.size, 0, none⟩ = some (.int .i64 7)) := by show _ = _; rw [hW0, World.cell?_alloc_past _ _ _ (by simp)]; simp
  have O1 : Hid (W0.cell? ⟨w.heap.size, 1, none⟩ = some (.int .i64 k)) := by show _ = _; rw [hW0, World.cell?_alloc_past _ _ _ (by simp)]; simp
  have O2 : Hid (W0.cell? ⟨w.heap.size, 2, none⟩ = some (.int .i64 v)) := by show _ = _; rw [hW0, World.cell?_alloc_past _ _ _ (by simp)]; simp
  clear hP hbox hbw
  go_enter Tryd.func11, Tryd.ntmps11
  go_wp2_with fail
  rw [← hb, ← hW0]
  clear hb hW0
  go_loopw [6] (fun i wr => ∃ j : Nat, j ≤ 4 ∧ i = .int .i64 j ∧ NextSt W0 b a n c fs wr (scanM fs n j)) (fun i _ => 4 - (intOf i).toNat)
  case atStart => exact ⟨0, by omega, rfl, HS0.out⟩
  case round =>
    obtain ⟨j, hj, rfl, hS⟩ := hrel
    have HSj : Hid (NextSt W0 b a n c fs wr (scanM fs n j)) := hS
    clear hS
    by_cases hlt : j < 4
    · have hj0 : (0 : Int) ≤ (j : Int) := by omega
      have hj1 : (j : Int) < 4 := by omega
      go_wp2_with fail
      refine (specRowAt_any (j : Int) _).mono ?_
      rintro e wp ⟨rfl, hwp⟩
      rw [hwp]
      clear hwp
      go_wp2_with fail
      refine (l5Know_any b a n c (scanM fs n j) (placeN 1 (j : Int)) fs _ HSj.out.box HSj.out.ps).mono ?_
      rintro e w3 ⟨rfl, hW, hf⟩
      have HS3 : Hid (NextSt W0 b a n c fs w3 (scanM fs n (j + 1))) := HSj.out.know HQ.out hW hf
      clear hW hf
      go_wp2
      exact ⟨⟨j + 1, by omega, by go_num, HS3.out⟩, by simp [intOf]; omega⟩
    · obtain rfl : j = 4 := by omega
      go_wp2
      go_ret
      exact ⟨b, rfl, HSj.out.box, HBW.out.grown HSj.out.far HBW.out.size (fun j e => by cases e; exact hbl)⟩

theorem l5All_any (a : Option Addr) (n c : Nat) (kind k v : Int) (fs : List Int) (w : World) (hP : PairAt w a n fs) (hop : OpGood kind k v) :
    Calls Tryd.prog 11 #[OpV kind k v, .slice a n c] w fun e w' => AllSays e w w' a n c (allM fs n kind k v) := by
  obtain ⟨hk, hkey, _⟩ := hop
  unfold KeyGood at hkey
  rcases kinds hk with rfl | rfl | rfl | rfl | rfl | rfl | rfl | rfl | rfl | rfl
  · exact l5All_1 a n c k v fs w hP (by omega)
  · exact l5All_2 a n c k v fs w hP (by omega)
  · exact l5All_3 a n c k v fs w hP (by omega)
  · exact l5All_4 a n c k v fs w hP
  · exact l5All_5 a n c k v fs w hP
  · exact l5All_6 a n c k v fs w hP
  · exact l5All_7 a n c k v fs w hP
  · exact l5All_8 a n c k v fs w hP
  · exact l5All_9 a n c k v fs w hP
  · exact l5All_10 a n c k v fs w hP

set_option maxHeartbeats 1000000 in
theorem specNext_any (a : Option Addr) (n c : Nat) (kind k v : Int) (fs : List Int) (w : World) (hP : PairAt w a n fs) :
    Calls Tryd.prog 5 #[OpV kind k v, .slice a n c] w fun e w' => e = .returned (.int .i64 (nextM fs n kind k v)) ∧ Below w.heap.size w w' := by
  have HP : Hid (PairAt w a n fs) := hP
  clear hP
  have hbA : Below w.heap.size w (w.alloc (.cells #[.int .i64 kind, .int .i64 k, .int .i64 v] 27)) := (Below.refl _ w).alloc (Nat.le_refl _) _
  have HBA : Hid (Below w.heap.size w (w.alloc (.cells #[.int .i64 kind, .int .i64 k, .int .i64 v] 27))) := hbA
  clear hbA
  go_enter Tryd.func5, Tryd.ntmps5
  go_wp2_with fail
  refine (specOpOk_any kind k v _).mono ?_
  rintro e w1 ⟨rfl, hb1⟩
  have HB1 : Hid (Below w.heap.size w w1) := HBA.out.trans (hb1.mono (by simp))
  have o0 : w1.cell? ⟨w.heap.size, 0, none⟩ = some (.int .i64 kind) := by rw [hb1.cell (by simp)]; simp
  have o1 : w1.cell? ⟨w.heap.size, 1, none⟩ = some (.int .i64 k) := by rw [hb1.cell (by simp)]; simp
  have o2 : w1.cell? ⟨w.heap.size, 2, none⟩ = some (.int .i64 v) := by rw [hb1.cell (by simp)]; simp
  clear hb1
  by_cases hop : OpGood kind k v
  · rw [show decide (OpGood kind k v) = true from decide_eq_true hop]
    have HO : Hid (OpGood kind k v) := hop
    have HN : Hid (nextM fs n kind k v = (allM fs n kind k v).1) := if_pos hop
    clear hop
    go_wp2_with fail
    refine (l5All_any a n c kind k v fs _ (HP.out.below HB1.out (Nat.le_refl _)) HO.out).mono ?_
    rintro e w2 ⟨b, rfl, hW, hb2⟩
    obtain ⟨c0, c1, c2, -⟩ := hW.facts
    have HB2 : Hid (Below w.heap.size w w2) := HB1.out.trans (hb2.mono HB1.out.size)
    clear hW hb2
    go_wp2
    go_ret
    exact ⟨by rw [HN.out]; rfl, HB2.out⟩
  · rw [show decide (OpGood kind k v) = false from decide_eq_false hop]
    have HN : Hid (nextM fs n kind k v = -1) := if_neg hop
    clear hop
    go_wp2
    go_ret
    exact ⟨by rw [HN.out]; rfl, HB1.out⟩
end Go.Proofs.YtekafaoleniebapDoor
