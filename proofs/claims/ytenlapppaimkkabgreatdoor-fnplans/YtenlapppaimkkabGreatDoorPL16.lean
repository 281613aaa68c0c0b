/- Texts joined: SpecNext3, SpecNow9, SpecNowA. -/
import Derived.Test.YtenlapppaimkkabGreatDoorPL14
import Derived.Test.YtenlapppaimkkabGreatDoorPL15
import Derived.Test.YtenlapppaimkkabGreatDoorPL03
import Derived.Test.YtenlapppaimkkabGreatDoorPL01
import Derived.Test.YtenlapppaimkkabGreatDoorPL12
import Derived.Test.YtenlapppaimkkabGreatDoorPL13
set_option maxHeartbeats 4000000
set_option maxRecDepth 100000
namespace Go.Proofs.YtenlapppaimkkabGreatDoor
section
open Go.ChangeShapes Go.WideShapes Go.ChangeAt Go.RowKit
theorem l1In_any (x lo hi : Int) (h : lo ≤ hi) (w : World) : Calls Tryz.prog 77 #[.int .i64 x, .int .i64 lo, .int .i64 hi] w fun e w' => e = .returned (.bool (decide (lo ≤ x ∧ x ≤ hi))) ∧ w' = w := by
  rcases tri lo hi x h with ⟨h0, h1⟩ | ⟨h0, h1⟩ | ⟨h0, h1⟩
  · rw [show decide (lo ≤ x ∧ x ≤ hi) = true from decide_eq_true ⟨h0, h1⟩]
    go_enter Tryz.func77, Tryz.ntmps77
    go_wp2
    go_ret
    exact ⟨by simp, rfl⟩
  · rw [show decide (lo ≤ x ∧ x ≤ hi) = false from decide_eq_false (fun h => h0 h.1)]
    go_enter Tryz.func77, Tryz.ntmps77
    go_wp2
    go_ret
    exact ⟨by simp, rfl⟩
  · rw [show decide (lo ≤ x ∧ x ≤ hi) = false from decide_eq_false (fun h => h1 h.2)]
    go_enter Tryz.func77, Tryz.ntmps77
    go_wp2
    go_ret
    exact ⟨by simp, rfl⟩

theorem l5Make_any (b : Nat) (a : Option Addr) (n c : Nat) (fs : List Int) (w : World) (hq : ∀ q, a = some q → n ≠ 0 → q.block ≠ b) (hW : WBox w b a n c (-1, false)) (hP : PairAt w a n fs) :
    Calls Tryz.prog 96 #[.pointer (some ⟨b, 0, none⟩)] w fun e w' => e = .returned (.tuple #[]) ∧ WBox w' b a n c (makeM fs n) ∧ w.grownBy w' (some b) := by
  have HQ : Hid (∀ q, a = some q → n ≠ 0 → q.block ≠ b) := hq
  have HS0 : Hid (NextSt w b a n c fs w (-1, false)) := ⟨hW, hP, World.grownBy.refl _ _⟩
  clear hW hP hq
  go_enter Tryz.func96, Tryz.ntmps96
  go_wp2_with fail
  refine (specStateAt_any _).mono ?_
  rintro e wp ⟨rfl, hwp⟩
  rw [hwp]
  clear hwp
  go_wp2_with fail
  refine (l5Know_any b a n c (-1, false) 13 fs _ HS0.out.box HS0.out.ps).mono ?_
  rintro e w1 ⟨rfl, hW, hf⟩
  obtain ⟨r1, hr1⟩ : ∃ r, knowM fs n (-1, false) 13 = r := ⟨_, rfl⟩
  rw [hr1] at hW
  rw [hr1]
  have HR1 : Hid (knowM fs n (-1, false) 13 = r1) := hr1
  have HS1 : Hid (NextSt w b a n c fs w1 r1.1) := HS0.out.know HQ.out hW hf
  clear hW hf hr1
  go_wp2_with fail
  refine (l1In_any r1.2 1 4 (by decide) _).mono ?_
  rintro e wp ⟨rfl, hwp⟩
  rw [hwp]
  clear hwp
  by_cases hin : 1 ≤ r1.2 ∧ r1.2 ≤ 4
  · rw [show decide (1 ≤ r1.2 ∧ r1.2 ≤ 4) = true from decide_eq_true hin]
    have HI : Hid (ifM r1.1 (¬ (1 ≤ r1.2 ∧ r1.2 ≤ 4)) = (r1.1.1, r1.1.2 || false)) := by
      show _ = _
      unfold ifM
      rw [decide_eq_false (fun h => h hin)]
    have h1 := hin.1
    have h2 := hin.2
    clear hin
    go_wp2_with fail
    refine (l5If_any b a n c r1.1 false _ HS1.out.box).mono ?_
    rintro e w2 ⟨rfl, hW, hf⟩
    rw [← HI.out] at hW
    have HS2 : Hid (NextSt w b a n c fs w2 (ifM r1.1 (¬ (1 ≤ r1.2 ∧ r1.2 ≤ 4)))) := HS1.out.know HQ.out hW hf
    clear hW hf
    go_wp2_with fail
    refine (specRowAt_any (r1.2 - 1) _).mono ?_
    rintro e wp ⟨rfl, hwp⟩
    rw [hwp]
    clear hwp
    go_wp2_with fail
    refine (l5Know_any b a n c (ifM r1.1 (¬ (1 ≤ r1.2 ∧ r1.2 ≤ 4))) (placeN 1 (r1.2 - 1)) fs _ HS2.out.box HS2.out.ps).mono ?_
    rintro e w3 ⟨rfl, hW, hf⟩
    obtain ⟨r3, hr3⟩ : ∃ r, knowM fs n (ifM r1.1 (¬ (1 ≤ r1.2 ∧ r1.2 ≤ 4))) (placeN 1 (r1.2 - 1)) = r := ⟨_, rfl⟩
    rw [hr3] at hW
    rw [hr3]
    have HR3 : Hid (knowM fs n (ifM r1.1 (¬ (1 ≤ r1.2 ∧ r1.2 ≤ 4))) (placeN 1 (r1.2 - 1)) = r3) := hr3
    have HS3 : Hid (NextSt w b a n c fs w3 r3.1) := HS2.out.know HQ.out hW hf
    clear hW hf hr3
    have HM : Hid (makeM fs n = if r3.2 = 0 then r3.1 else (knowM fs n r3.1 (placeN 5 r3.2)).1) := by
      show makeM fs n = _
      unfold makeM
      simp only [HR1.out, HR3.out]
    rcases nebN r3.2 0 with ⟨hv, hvb⟩ | ⟨hv, hvb⟩
    · have HM2 : Hid (makeM fs n = r3.1) := HM.out.trans (if_pos hv)
      clear hv HM
      go_wp2
      go_end0
      rw [HM2.out]
      exact ⟨rfl, HS3.out.box, HS3.out.far⟩
    · have HM2 : Hid (makeM fs n = (knowM fs n r3.1 (placeN 5 r3.2)).1) := HM.out.trans (if_neg hv)
      clear hv HM
      go_wp2_with fail
      refine (specViaAt_any r3.2 _).mono ?_
      rintro e wp ⟨rfl, hwp⟩
      rw [hwp]
      clear hwp
      go_wp2_with fail
      refine (l5Know_any b a n c r3.1 (placeN 5 r3.2) fs _ HS3.out.box HS3.out.ps).mono ?_
      rintro e w4 ⟨rfl, hW, hf⟩
      have HS4 : Hid (NextSt w b a n c fs w4 (knowM fs n r3.1 (placeN 5 r3.2)).1) := HS3.out.know HQ.out hW hf
      clear hW hf
      go_wp2
      go_end0
      rw [HM2.out]
      exact ⟨rfl, HS4.out.box, HS4.out.far⟩
  · rw [show decide (1 ≤ r1.2 ∧ r1.2 ≤ 4) = false from decide_eq_false hin]
    have HI : Hid (ifM r1.1 (¬ (1 ≤ r1.2 ∧ r1.2 ≤ 4)) = (r1.1.1, r1.1.2 || true)) := by
      show _ = _
      unfold ifM
      rw [decide_eq_true hin]
    have HST : Hid ((ifM r1.1 (¬ (1 ≤ r1.2 ∧ r1.2 ≤ 4))).2 = true) := by
      show _ = _
      rw [HI.out]
      simp
    have HM2 : Hid (makeM fs n = ifM r1.1 (¬ (1 ≤ r1.2 ∧ r1.2 ≤ 4))) := by
      show makeM fs n = _
      unfold makeM
      simp only [HR1.out]
      rw [knowM_stop HST.out]
      simp
    clear hin
    go_wp2_with fail
    refine (l5If_any b a n c r1.1 true _ HS1.out.box).mono ?_
    rintro e w2 ⟨rfl, hW, hf⟩
    rw [← HI.out] at hW
    have HS2 : Hid (NextSt w b a n c fs w2 (ifM r1.1 (¬ (1 ≤ r1.2 ∧ r1.2 ≤ 4)))) := HS1.out.know HQ.out hW hf
    clear hW hf
    go_wp2_with fail
    refine (specRowAt_any _ _).mono ?_
    rintro e wp ⟨rfl, hwp⟩
    rw [hwp]
    clear hwp
    go_wp2_with fail
    refine (l5Know_any b a n c (ifM r1.1 (¬ (1 ≤ r1.2 ∧ r1.2 ≤ 4))) _ fs _ HS2.out.box HS2.out.ps).mono ?_
    rintro e w3 ⟨rfl, hW, hf⟩
    rw [knowM_stop HST.out] at hW
    rw [knowM_stop HST.out]
    have HS3 : Hid (NextSt w b a n c fs w3 (ifM r1.1 (¬ (1 ≤ r1.2 ∧ r1.2 ≤ 4)))) := HS2.out.know HQ.out hW hf
    clear hW hf
    go_wp2
    go_end0
    rw [HM2.out]
    exact ⟨rfl, HS3.out.box, HS3.out.far⟩

def AllSays (e : Ending) (w w' : World) (a : Option Addr) (n c : Nat) (s : Work) : Prop := ∃ b, e = .returned (.pointer (some ⟨b, 0, none⟩)) ∧ WBox w' b a n c s ∧ Below w.heap.size w w'
theorem pairs_apart {w : World} {a : Option Addr} {n : Nat} {fs : List Int} (h : PairAt w a n fs) {b : Nat} (hb : w.heap.size ≤ b) : ∀ q, a = some q → n ≠ 0 → q.block ≠ b := by
  intro q hq h0
  rcases h.2.2 with h1 | ⟨p, o, e, g⟩
  · exact absurd h1 h0
  · rw [e] at hq
    cases hq
    have := World.block_lt_of_cell? w _ (g 0 (by omega))
    show p ≠ b
    simp at this
    omega

theorem l5All_1 (a : Option Addr) (n c : Nat) (k v : Int) (fs : List Int) (w : World) (hP : PairAt w a n fs) (hk : 0 ≤ k ∧ k ≤ 3) :
    Calls Tryz.prog 64 #[OpV 1 k v, .slice a n c] w fun e w' => AllSays e w w' a n c (putM fs n k v) := by
  obtain ⟨W0, hW0⟩ : ∃ W0, W0 = (w.alloc (.cells #[.int .i64 1, .int .i64 k, .int .i64 v] 28)).alloc (.cells #[.slice a n c, .int .i64 (-1), .bool false] 90) := ⟨_, rfl⟩
  have hbw : Below w.heap.size w W0 := by rw [hW0]; exact ((Below.refl _ w).alloc (Nat.le_refl _) _).alloc (by simp) _
  obtain ⟨b, hb⟩ : ∃ b, b = w.heap.size + 1 := ⟨_, rfl⟩
  have hbox : WBox W0 b a n c (-1, false) := by
    rw [hW0, hb]
    show ((w.heap.push _).push _)[w.heap.size + 1]? = _
    rw [show w.heap.size + 1 = (w.heap.push (Obj.cells #[.int .i64 1, .int .i64 k, .int .i64 v] 28)).size by simp, Array.getElem?_push_size]
  have HQ : Hid (∀ q, a = some q → n ≠ 0 → q.block ≠ b) := pairs_apart hP (by omega)
  have HS0 : Hid (NextSt W0 b a n c fs W0 (-1, false)) := ⟨hbox, hP.below hbw (Nat.le_refl _), World.grownBy.refl _ _⟩
  have HBW : Hid (Below w.heap.size w W0) := hbw
  have hbn : w.heap.size ≠ b := by omega
  have hbl : w.heap.size ≤ b := by omega
  have O0 : Hid (W0.cell? ⟨w.heap.size, 0, none⟩ = some (.int .i64 1)) := by show _ = _; rw [hW0, World.cell?_alloc_past _ _ _ (by simp)]; simp
  have O1 : Hid (W0.cell? ⟨w.heap.size, 1, none⟩ = some (.int .i64 k)) := by show _ = _; rw [hW0, World.cell?_alloc_past _ _ _ (by simp)]; simp
  have O2 : Hid (W0.cell? ⟨w.heap.size, 2, none⟩ = some (.int .i64 v)) := by show _ = _; rw [hW0, World.cell?_alloc_past _ _ _ (by simp)]; simp
  clear hP hbox hbw
  go_enter Tryz.func64, Tryz.ntmps64
  go_wp2_with fail
  rw [← hb, ← hW0]
  clear hb hW0
  refine (l5Put_any b a n c 1 k v fs _ HQ.out HS0.out.box HS0.out.ps hk).mono ?_
  rintro e w1 ⟨rfl, hW, hf⟩
  have HS1 : Hid (NextSt W0 b a n c fs w1 (putM fs n k v)) := HS0.out.know HQ.out hW hf
  clear hW hf
  go_wp2
  go_ret
  exact ⟨b, rfl, HS1.out.box, HBW.out.grown HS1.out.far HBW.out.size (fun j e => by cases e; exact hbl)⟩
theorem l5All_2 (a : Option Addr) (n c : Nat) (k v : Int) (fs : List Int) (w : World) (hP : PairAt w a n fs) (hk : 0 ≤ k ∧ k ≤ 3) :
    Calls Tryz.prog 64 #[OpV 2 k v, .slice a n c] w fun e w' => AllSays e w w' a n c (setM fs n k v) := by
  obtain ⟨W0, hW0⟩ : ∃ W0, W0 = (w.alloc (.cells #[.int .i64 2, .int .i64 k, .int .i64 v] 28)).alloc (.cells #[.slice a n c, .int .i64 (-1), .bool false] 90) := ⟨_, rfl⟩
  have hbw : Below w.heap.size w W0 := by rw [hW0]; exact ((Below.refl _ w).alloc (Nat.le_refl _) _).alloc (by simp) _
  obtain ⟨b, hb⟩ : ∃ b, b = w.heap.size + 1 := ⟨_, rfl⟩
  have hbox : WBox W0 b a n c (-1, false) := by
    rw [hW0, hb]
    show ((w.heap.push _).push _)[w.heap.size + 1]? = _
    rw [show w.heap.size + 1 = (w.heap.push (Obj.cells #[.int .i64 2, .int .i64 k, .int .i64 v] 28)).size by simp, Array.getElem?_push_size]
  have HQ : Hid (∀ q, a = some q → n ≠ 0 → q.block ≠ b) := pairs_apart hP (by omega)
  have HS0 : Hid (NextSt W0 b a n c fs W0 (-1, false)) := ⟨hbox, hP.below hbw (Nat.le_refl _), World.grownBy.refl _ _⟩
  have HBW : Hid (Below w.heap.size w W0) := hbw
  have hbn : w.heap.size ≠ b := by omega
  have hbl : w.heap.size ≤ b := by omega
  have O0 : Hid (W0.cell? ⟨w.heap.size, 0, none⟩ = some (.int .i64 2)) := by show _ = _; rw [hW0, World.cell?_alloc_past _ _ _ (by simp)]; simp
  have O1 : Hid (W0.cell? ⟨w.heap.size, 1, none⟩ = some (.int .i64 k)) := by show _ = _; rw [hW0, World.cell?_alloc_past _ _ _ (by simp)]; simp
  have O2 : Hid (W0.cell? ⟨w.heap.size, 2, none⟩ = some (.int .i64 v)) := by show _ = _; rw [hW0, World.cell?_alloc_past _ _ _ (by simp)]; simp
  clear hP hbox hbw
  go_enter Tryz.func64, Tryz.ntmps64
  go_wp2_with fail
  rw [← hb, ← hW0]
  clear hb hW0
  refine (l5Set_any b a n c 2 k v fs _ HQ.out HS0.out.box HS0.out.ps hk).mono ?_
  rintro e w1 ⟨rfl, hW, hf⟩
  have HS1 : Hid (NextSt W0 b a n c fs w1 (setM fs n k v)) := HS0.out.know HQ.out hW hf
  clear hW hf
  go_wp2
  go_ret
  exact ⟨b, rfl, HS1.out.box, HBW.out.grown HS1.out.far HBW.out.size (fun j e => by cases e; exact hbl)⟩
theorem l5All_3 (a : Option Addr) (n c : Nat) (k v : Int) (fs : List Int) (w : World) (hP : PairAt w a n fs) (hk : 0 ≤ k ∧ k ≤ 3) :
    Calls Tryz.prog 64 #[OpV 3 k v, .slice a n c] w fun e w' => AllSays e w w' a n c (delM fs n k) := by
  obtain ⟨W0, hW0⟩ : ∃ W0, W0 = (w.alloc (.cells #[.int .i64 3, .int .i64 k, .int .i64 v] 28)).alloc (.cells #[.slice a n c, .int .i64 (-1), .bool false] 90) := ⟨_, rfl⟩
  have hbw : Below w.heap.size w W0 := by rw [hW0]; exact ((Below.refl _ w).alloc (Nat.le_refl _) _).alloc (by simp) _
  obtain ⟨b, hb⟩ : ∃ b, b = w.heap.size + 1 := ⟨_, rfl⟩
  have hbox : WBox W0 b a n c (-1, false) := by
    rw [hW0, hb]
    show ((w.heap.push _).push _)[w.heap.size + 1]? = _
    rw [show w.heap.size + 1 = (w.heap.push (Obj.cells #[.int .i64 3, .int .i64 k, .int .i64 v] 28)).size by simp, Array.getElem?_push_size]
  have HQ : Hid (∀ q, a = some q → n ≠ 0 → q.block ≠ b) := pairs_apart hP (by omega)
  have HS0 : Hid (NextSt W0 b a n c fs W0 (-1, false)) := ⟨hbox, hP.below hbw (Nat.le_refl _), World.grownBy.refl _ _⟩
  have HBW : Hid (Below w.heap.size w W0) := hbw
  have hbn : w.heap.size ≠ b := by omega
  have hbl : w.heap.size ≤ b := by omega
  have O0 : Hid (W0.cell? ⟨w.heap.size, 0, none⟩ = some (.int .i64 3)) := by show _ = _; rw [hW0, World.cell?_alloc_past _ _ _ (by simp)]; simp
  have O1 : Hid (W0.cell? ⟨w.heap.size, 1, none⟩ = some (.int .i64 k)) := by show _ = _; rw [hW0, World.cell?_alloc_past _ _ _ (by simp)]; simp
  have O2 : Hid (W0.cell? ⟨w.heap.size, 2, none⟩ = some (.int .i64 v)) := by show _ = _; rw [hW0, World.cell?_alloc_past _ _ _ (by simp)]; simp
  clear hP hbox hbw
  go_enter Tryz.func64, Tryz.ntmps64
  go_wp2_with fail
  rw [← hb, ← hW0]
  clear hb hW0
  refine (l5Del_any b a n c 3 k v fs _ HQ.out HS0.out.box HS0.out.ps hk).mono ?_
  rintro e w1 ⟨rfl, hW, hf⟩
  have HS1 : Hid (NextSt W0 b a n c fs w1 (delM fs n k)) := HS0.out.know HQ.out hW hf
  clear hW hf
  go_wp2
  go_ret
  exact ⟨b, rfl, HS1.out.box, HBW.out.grown HS1.out.far HBW.out.size (fun j e => by cases e; exact hbl)⟩
theorem l5All_4 (a : Option Addr) (n c : Nat) (k v : Int) (fs : List Int) (w : World) (hP : PairAt w a n fs) :
    Calls Tryz.prog 64 #[OpV 4 k v, .slice a n c] w fun e w' => AllSays e w w' a n c ((knowM fs n (-1, false) (placeN 1 k)).1) := by
  obtain ⟨W0, hW0⟩ : ∃ W0, W0 = (w.alloc (.cells #[.int .i64 4, .int .i64 k, .int .i64 v] 28)).alloc (.cells #[.slice a n c, .int .i64 (-1), .bool false] 90) := ⟨_, rfl⟩
  have hbw : Below w.heap.size w W0 := by rw [hW0]; exact ((Below.refl _ w).alloc (Nat.le_refl _) _).alloc (by simp) _
  obtain ⟨b, hb⟩ : ∃ b, b = w.heap.size + 1 := ⟨_, rfl⟩
  have hbox : WBox W0 b a n c (-1, false) := by
    rw [hW0, hb]
    show ((w.heap.push _).push _)[w.heap.size + 1]? = _
    rw [show w.heap.size + 1 = (w.heap.push (Obj.cells #[.int .i64 4, .int .i64 k, .int .i64 v] 28)).size by simp, Array.getElem?_push_size]
  have HQ : Hid (∀ q, a = some q → n ≠ 0 → q.block ≠ b) := pairs_apart hP (by omega)
  have HS0 : Hid (NextSt W0 b a n c fs W0 (-1, false)) := ⟨hbox, hP.below hbw (Nat.le_refl _), World.grownBy.refl _ _⟩
  have HBW : Hid (Below w.heap.size w W0) := hbw
  have hbn : w.heap.size ≠ b := by omega
  have hbl : w.heap.size ≤ b := by omega
  have O0 : Hid (W0.cell? ⟨w.heap.size, 0, none⟩ = some (.int .i64 4)) := by show _ = _; rw [hW0, World.cell?_alloc_past _ _ _ (by simp)]; simp
  have O1 : Hid (W0.cell? ⟨w.heap.size, 1, none⟩ = some (.int .i64 k)) := by show _ = _; rw [hW0, World.cell?_alloc_past _ _ _ (by simp)]; simp
  have O2 : Hid (W0.cell? ⟨w.heap.size, 2, none⟩ = some (.int .i64 v)) := by show _ = _; rw [hW0, World.cell?_alloc_past _ _ _ (by simp)]; simp
  clear hP hbox hbw
  go_enter Tryz.func64, Tryz.ntmps64
  go_wp2_with fail
  rw [← hb, ← hW0]
  clear hb hW0
  refine (specRowAt_any k _).mono ?_
  rintro e wp ⟨rfl, hwp⟩
  rw [hwp]
  clear hwp
  go_wp2_with fail
  refine (l5Know_any b a n c ((-1, false)) (placeN 1 k) fs _ HS0.out.box HS0.out.ps).mono ?_
  rintro e w1 ⟨rfl, hW, hf⟩
  have HS1 : Hid (NextSt W0 b a n c fs w1 (knowM fs n ((-1, false)) (placeN 1 k)).1) := HS0.out.know HQ.out hW hf
  clear hW hf
  go_wp2
  go_ret
  exact ⟨b, rfl, HS1.out.box, HBW.out.grown HS1.out.far HBW.out.size (fun j e => by cases e; exact hbl)⟩
theorem l5All_5 (a : Option Addr) (n c : Nat) (k v : Int) (fs : List Int) (w : World) (hP : PairAt w a n fs) :
    Calls Tryz.prog 64 #[OpV 5 k v, .slice a n c] w fun e w' => AllSays e w w' a n c ((knowM fs n (-1, false) (placeN 2 v)).1) := by
  obtain ⟨W0, hW0⟩ : ∃ W0, W0 = (w.alloc (.cells #[.int .i64 5, .int .i64 k, .int .i64 v] 28)).alloc (.cells #[.slice a n c, .int .i64 (-1), .bool false] 90) := ⟨_, rfl⟩
  have hbw : Below w.heap.size w W0 := by rw [hW0]; exact ((Below.refl _ w).alloc (Nat.le_refl _) _).alloc (by simp) _
  obtain ⟨b, hb⟩ : ∃ b, b = w.heap.size + 1 := ⟨_, rfl⟩
  have hbox : WBox W0 b a n c (-1, false) := by
    rw [hW0, hb]
    show ((w.heap.push _).push _)[w.heap.size + 1]? = _
    rw [show w.heap.size + 1 = (w.heap.push (Obj.cells #[.int .i64 5, .int .i64 k, .int .i64 v] 28)).size by simp, Array.getElem?_push_size]
  have HQ : Hid (∀ q, a = some q → n ≠ 0 → q.block ≠ b) := pairs_apart hP (by omega)
  have HS0 : Hid (NextSt W0 b a n c fs W0 (-1, false)) := ⟨hbox, hP.below hbw (Nat.le_refl _), World.grownBy.refl _ _⟩
  have HBW : Hid (Below w.heap.size w W0) := hbw
  have hbn : w.heap.size ≠ b := by omega
  have hbl : w.heap.size ≤ b := by omega
  have O0 : Hid (W0.cell? ⟨w.heap.size, 0, none⟩ = some (.int .i64 5)) := by show _ = _; rw [hW0, World.cell?_alloc_past _ _ _ (by simp)]; simp
  have O1 : Hid (W0.cell? ⟨w.heap.size, 1, none⟩ = some (.int .i64 k)) := by show _ = _; rw [hW0, World.cell?_alloc_past _ _ _ (by simp)]; simp
  have O2 : Hid (W0.cell? ⟨w.heap.size, 2, none⟩ = some (.int .i64 v)) := by show _ = _; rw [hW0, World.cell?_alloc_past _ _ _ (by simp)]; simp
  clear hP hbox hbw
  go_enter Tryz.func64, Tryz.ntmps64
  go_wp2_with fail
  rw [← hb, ← hW0]
  clear hb hW0
  refine (specOwnerAt_any v _).mono ?_
  rintro e wp ⟨rfl, hwp⟩
  rw [hwp]
  clear hwp
  go_wp2_with fail
  refine (l5Know_any b a n c ((-1, false)) (placeN 2 v) fs _ HS0.out.box HS0.out.ps).mono ?_
  rintro e w1 ⟨rfl, hW, hf⟩
  have HS1 : Hid (NextSt W0 b a n c fs w1 (knowM fs n ((-1, false)) (placeN 2 v)).1) := HS0.out.know HQ.out hW hf
  clear hW hf
  go_wp2
  go_ret
  exact ⟨b, rfl, HS1.out.box, HBW.out.grown HS1.out.far HBW.out.size (fun j e => by cases e; exact hbl)⟩
theorem l5All_6 (a : Option Addr) (n c : Nat) (k v : Int) (fs : List Int) (w : World) (hP : PairAt w a n fs) :
    Calls Tryz.prog 64 #[OpV 6 k v, .slice a n c] w fun e w' => AllSays e w w' a n c ((knowM fs n (-1, false) (placeN 3 k)).1) := by
  obtain ⟨W0, hW0⟩ : ∃ W0, W0 = (w.alloc (.cells #[.int .i64 6, .int .i64 k, .int .i64 v] 28)).alloc (.cells #[.slice a n c, .int .i64 (-1), .bool false] 90) := ⟨_, rfl⟩
  have hbw : Below w.heap.size w W0 := by rw [hW0]; exact ((Below.refl _ w).alloc (Nat.le_refl _) _).alloc (by simp) _
  obtain ⟨b, hb⟩ : ∃ b, b = w.heap.size + 1 := ⟨_, rfl⟩
  have hbox : WBox W0 b a n c (-1, false) := by
    rw [hW0, hb]
    show ((w.heap.push _).push _)[w.heap.size + 1]? = _
    rw [show w.heap.size + 1 = (w.heap.push (Obj.cells #[.int .i64 6, .int .i64 k, .int .i64 v] 28)).size by simp, Array.getElem?_push_size]
  have HQ : Hid (∀ q, a = some q → n ≠ 0 → q.block ≠ b) := pairs_apart hP (by omega)
  have HS0 : Hid (NextSt W0 b a n c fs W0 (-1, false)) := ⟨hbox, hP.below hbw (Nat.le_refl _), World.grownBy.refl _ _⟩
  have HBW : Hid (Below w.heap.size w W0) := hbw
  have hbn : w.heap.size ≠ b := by omega
  have hbl : w.heap.size ≤ b := by omega
  have O0 : Hid (W0.cell? ⟨w.heap.size, 0, none⟩ = some (.int .i64 6)) := by show _ = _; rw [hW0, World.cell?_alloc_past _ _ _ (by simp)]; simp
  have O1 : Hid (W0.cell? ⟨w.heap.size, 1, none⟩ = some (.int .i64 k)) := by show _ = _; rw [hW0, World.cell?_alloc_past _ _ _ (by simp)]; simp
  have O2 : Hid (W0.cell? ⟨w.heap.size, 2, none⟩ = some (.int .i64 v)) := by show _ = _; rw [hW0, World.cell?_alloc_past _ _ _ (by simp)]; simp
  clear hP hbox hbw
  go_enter Tryz.func64, Tryz.ntmps64
  go_wp2_with fail
  rw [← hb, ← hW0]
  clear hb hW0
  refine (specCountAt_any k _).mono ?_
  rintro e wp ⟨rfl, hwp⟩
  rw [hwp]
  clear hwp
  go_wp2_with fail
  refine (l5Know_any b a n c ((-1, false)) (placeN 3 k) fs _ HS0.out.box HS0.out.ps).mono ?_
  rintro e w1 ⟨rfl, hW, hf⟩
  have HS1 : Hid (NextSt W0 b a n c fs w1 (knowM fs n ((-1, false)) (placeN 3 k)).1) := HS0.out.know HQ.out hW hf
  clear hW hf
  go_wp2
  go_ret
  exact ⟨b, rfl, HS1.out.box, HBW.out.grown HS1.out.far HBW.out.size (fun j e => by cases e; exact hbl)⟩
theorem l5All_8 (a : Option Addr) (n c : Nat) (k v : Int) (fs : List Int) (w : World) (hP : PairAt w a n fs) :
    Calls Tryz.prog 64 #[OpV 8 k v, .slice a n c] w fun e w' => AllSays e w w' a n c ((knowM fs n (-1, false) (13)).1) := by
  obtain ⟨W0, hW0⟩ : ∃ W0, W0 = (w.alloc (.cells #[.int .i64 8, .int .i64 k, .int .i64 v] 28)).alloc (.cells #[.slice a n c, .int .i64 (-1), .bool false] 90) := ⟨_, rfl⟩
  have hbw : Below w.heap.size w W0 := by rw [hW0]; exact ((Below.refl _ w).alloc (Nat.le_refl _) _).alloc (by simp) _
  obtain ⟨b, hb⟩ : ∃ b, b = w.heap.size + 1 := ⟨_, rfl⟩
  have hbox : WBox W0 b a n c (-1, false) := by
    rw [hW0, hb]
    show ((w.heap.push _).push _)[w.heap.size + 1]? = _
    rw [show w.heap.size + 1 = (w.heap.push (Obj.cells #[.int .i64 8, .int .i64 k, .int .i64 v] 28)).size by simp, Array.getElem?_push_size]
  have HQ : Hid (∀ q, a = some q → n ≠ 0 → q.block ≠ b) := pairs_apart hP (by omega)
  have HS0 : Hid (NextSt W0 b a n c fs W0 (-1, false)) := ⟨hbox, hP.below hbw (Nat.le_refl _), World.grownBy.refl _ _⟩
  have HBW : Hid (Below w.heap.size w W0) := hbw
  have hbn : w.heap.size ≠ b := by omega
  have hbl : w.heap.size ≤ b := by omega
  have O0 : Hid (W0.cell? ⟨w.heap.size, 0, none⟩ = some (.int .i64 8)) := by show _ = _; rw [hW0, World.cell?_alloc_past _ _ _ (by simp)]; simp
  have O1 : Hid (W0.cell? ⟨w.heap.size, 1, none⟩ = some (.int .i64 k)) := by show _ = _; rw [hW0, World.cell?_alloc_past _ _ _ (by simp)]; simp
  have O2 : Hid (W0.cell? ⟨w.heap.size, 2, none⟩ = some (.int .i64 v)) := by show _ = _; rw [hW0, World.cell?_alloc_past _ _ _ (by simp)]; simp
  clear hP hbox hbw
  go_enter Tryz.func64, Tryz.ntmps64
  go_wp2_with fail
  rw [← hb, ← hW0]
  clear hb hW0
  refine (specStateAt_any _).mono ?_
  rintro e wp ⟨rfl, hwp⟩
  rw [hwp]
  clear hwp
  go_wp2_with fail
  refine (l5Know_any b a n c ((-1, false)) (13) fs _ HS0.out.box HS0.out.ps).mono ?_
  rintro e w1 ⟨rfl, hW, hf⟩
  have HS1 : Hid (NextSt W0 b a n c fs w1 (knowM fs n ((-1, false)) (13)).1) := HS0.out.know HQ.out hW hf
  clear hW hf
  go_wp2
  go_ret
  exact ⟨b, rfl, HS1.out.box, HBW.out.grown HS1.out.far HBW.out.size (fun j e => by cases e; exact hbl)⟩
theorem l5All_9 (a : Option Addr) (n c : Nat) (k v : Int) (fs : List Int) (w : World) (hP : PairAt w a n fs) :
    Calls Tryz.prog 64 #[OpV 9 k v, .slice a n c] w fun e w' => AllSays e w w' a n c (makeM fs n) := by
  obtain ⟨W0, hW0⟩ : ∃ W0, W0 = (w.alloc (.cells #[.int .i64 9, .int .i64 k, .int .i64 v] 28)).alloc (.cells #[.slice a n c, .int .i64 (-1), .bool false] 90) := ⟨_, rfl⟩
  have hbw : Below w.heap.size w W0 := by rw [hW0]; exact ((Below.refl _ w).alloc (Nat.le_refl _) _).alloc (by simp) _
  obtain ⟨b, hb⟩ : ∃ b, b = w.heap.size + 1 := ⟨_, rfl⟩
  have hbox : WBox W0 b a n c (-1, false) := by
    rw [hW0, hb]
    show ((w.heap.push _).push _)[w.heap.size + 1]? = _
    rw [show w.heap.size + 1 = (w.heap.push (Obj.cells #[.int .i64 9, .int .i64 k, .int .i64 v] 28)).size by simp, Array.getElem?_push_size]
  have HQ : Hid (∀ q, a = some q → n ≠ 0 → q.block ≠ b) := pairs_apart hP (by omega)
  have HS0 : Hid (NextSt W0 b a n c fs W0 (-1, false)) := ⟨hbox, hP.below hbw (Nat.le_refl _), World.grownBy.refl _ _⟩
  have HBW : Hid (Below w.heap.size w W0) := hbw
  have hbn : w.heap.size ≠ b := by omega
  have hbl : w.heap.size ≤ b := by omega
  have O0 : Hid (W0.cell? ⟨w.heap.size, 0, none⟩ = some (.int .i64 9)) := by show _ = _; rw [hW0, World.cell?_alloc_past _ _ _ (by simp)]; simp
  have O1 : Hid (W0.cell? ⟨w.heap.size, 1, none⟩ = some (.int .i64 k)) := by show _ = _; rw [hW0, World.cell?_alloc_past _ _ _ (by simp)]; simp
  have O2 : Hid (W0.cell? ⟨w.heap.size, 2, none⟩ = some (.int .i64 v)) := by show _ = _; rw [hW0, World.cell?_alloc_past _ _ _ (by simp)]; simp
  clear hP hbox hbw
  go_enter Tryz.func64, Tryz.ntmps64
  go_wp2_with fail
  rw [← hb, ← hW0]
  clear hb hW0
  refine (l5Make_any b a n c fs _ HQ.out HS0.out.box HS0.out.ps).mono ?_
  rintro e w1 ⟨rfl, hW, hf⟩
  have HS1 : Hid (NextSt W0 b a n c fs w1 (makeM fs n)) := HS0.out.know HQ.out hW hf
  clear hW hf
  go_wp2
  go_ret
  exact ⟨b, rfl, HS1.out.box, HBW.out.grown HS1.out.far HBW.out.size (fun j e => by cases e; exact hbl)⟩
theorem l5All_10 (a : Option Addr) (n c : Nat) (k v : Int) (fs : List Int) (w : World) (hP : PairAt w a n fs) :
    Calls Tryz.prog 64 #[OpV 10 k v, .slice a n c] w fun e w' => AllSays e w w' a n c ((knowM fs n (ifM (knowM fs n (-1, false) 13).1 ((knowM fs n (-1, false) 13).2 ≠ 5)) (placeN 5 v)).1) := by
  obtain ⟨W0, hW0⟩ : ∃ W0, W0 = (w.alloc (.cells #[.int .i64 10, .int .i64 k, .int .i64 v] 28)).alloc (.cells #[.slice a n c, .int .i64 (-1), .bool false] 90) := ⟨_, rfl⟩
  have hbw : Below w.heap.size w W0 := by rw [hW0]; exact ((Below.refl _ w).alloc (Nat.le_refl _) _).alloc (by simp) _
  obtain ⟨b, hb⟩ : ∃ b, b = w.heap.size + 1 := ⟨_, rfl⟩
  have hbox : WBox W0 b a n c (-1, false) := by
    rw [hW0, hb]
    show ((w.heap.push _).push _)[w.heap.size + 1]? = _
    rw [show w.heap.size + 1 = (w.heap.push (Obj.cells #[.int .i64 10, .int .i64 k, .int .i64 v] 28)).size by simp, Array.getElem?_push_size]
  have HQ : Hid (∀ q, a = some q → n ≠ 0 → q.block ≠ b) := pairs_apart hP (by omega)
  have HS0 : Hid (NextSt W0 b a n c fs W0 (-1, false)) := ⟨hbox, hP.below hbw (Nat.le_refl _), World.grownBy.refl _ _⟩
  have HBW : Hid (Below w.heap.size w W0) := hbw
  have hbn : w.heap.size ≠ b := by omega
  have hbl : w.heap.size ≤ b := by omega
  have O0 : Hid (W0.cell? ⟨w.heap.size, 0, none⟩ = some (.int .i64 10)) := by show _ = _; rw [hW0, World.cell?_alloc_past _ _ _ (by simp)]; simp
  have O1 : Hid (W0.cell? ⟨w.heap.size, 1, none⟩ = some (.int .i64 k)) := by show _ = _; rw [hW0, World.cell?_alloc_past _ _ _ (by simp)]; simp
  have O2 : Hid (W0.cell? ⟨w.heap.size, 2, none⟩ = some (.int .i64 v)) := by show _ = _; rw [hW0, World.cell?_alloc_past _ _ _ (by simp)]; simp
  clear hP hbox hbw
  go_enter Tryz.func64, Tryz.ntmps64
  go_wp2_with fail
  rw [← hb, ← hW0]
  clear hb hW0
  refine (specStateAt_any _).mono ?_
  rintro e wp ⟨rfl, hwp⟩
  rw [hwp]
  clear hwp
  go_wp2_with fail
  refine (l5Know_any b a n c (-1, false) 13 fs _ HS0.out.box HS0.out.ps).mono ?_
  rintro e w1 ⟨rfl, hW, hf⟩
  obtain ⟨r1, hr1⟩ : ∃ r, knowM fs n (-1, false) 13 = r := ⟨_, rfl⟩
  rw [hr1] at hW
  rw [hr1]
  have HR1 : Hid (knowM fs n (-1, false) 13 = r1) := hr1
  have HS1 : Hid (NextSt W0 b a n c fs w1 r1.1) := HS0.out.know HQ.out hW hf
  clear hW hf hr1
  go_wp2_with fail
  refine (l5If_any b a n c r1.1 (r1.2 != 5) _ HS1.out.box).mono ?_
  rintro e w2 ⟨rfl, hW, hf⟩
  rw [show (r1.2 != 5) = decide (r1.2 ≠ 5) by by_cases h : r1.2 = 5 <;> simp [h]] at hW
  have HS2 : Hid (NextSt W0 b a n c fs w2 (ifM r1.1 (r1.2 ≠ 5))) := HS1.out.know HQ.out hW hf
  have o2 : w2.cell? ⟨w.heap.size, 2, none⟩ = some (.int .i64 v) := far_cell HS2.out.far O2.out hbn
  clear hW hf
  go_wp2_with fail
  refine (specViaAt_any v _).mono ?_
  rintro e wp ⟨rfl, hwp⟩
  rw [hwp]
  clear hwp
  go_wp2_with fail
  refine (l5Know_any b a n c (ifM r1.1 (r1.2 ≠ 5)) (placeN 5 v) fs _ HS2.out.box HS2.out.ps).mono ?_
  rintro e w3 ⟨rfl, hW, hf⟩
  have HS3 : Hid (NextSt W0 b a n c fs w3 (knowM fs n (ifM r1.1 (r1.2 ≠ 5)) (placeN 5 v)).1) := HS2.out.know HQ.out hW hf
  clear hW hf
  go_wp2
  go_ret
  rw [HR1.out]
  exact ⟨b, rfl, HS3.out.box, HBW.out.grown HS3.out.far HBW.out.size (fun j e => by cases e; exact hbl)⟩
def scanM (fs : List Int) (n : Nat) : Nat → Work
  | 0 => (-1, false)
  | j + 1 => (knowM fs n (scanM fs n j) (placeN 1 (j : Int))).1

theorem l5All_7 (a : Option Addr) (n c : Nat) (k v : Int) (fs : List Int) (w : World) (hP : PairAt w a n fs) :
    Calls Tryz.prog 64 #[OpV 7 k v, .slice a n c] w fun e w' => AllSays e w w' a n c (scanM fs n 4) := by
  obtain ⟨W0, hW0⟩ : ∃ W0, W0 = (w.alloc (.cells #[.int .i64 7, .int .i64 k, .int .i64 v] 28)).alloc (.cells #[.slice a n c, .int .i64 (-1), .bool false] 90) := ⟨_, rfl⟩
  have hbw : Below w.heap.size w W0 := by rw [hW0]; exact ((Below.refl _ w).alloc (Nat.le_refl _) _).alloc (by simp) _
  obtain ⟨b, hb⟩ : ∃ b, b = w.heap.size + 1 := ⟨_, rfl⟩
  have hbox : WBox W0 b a n c (-1, false) := by
    rw [hW0, hb]
    show ((w.heap.push _).push _)[w.heap.size + 1]? = _
    rw [show w.heap.size + 1 = (w.heap.push (Obj.cells #[.int .i64 7, .int .i64 k, .int .i64 v] 28)).size by simp, Array.getElem?_push_size]
  have HQ : Hid (∀ q, a = some q → n ≠ 0 → q.block ≠ b) := pairs_apart hP (by omega)
  have HS0 : Hid (NextSt W0 b a n c fs W0 (-1, false)) := ⟨hbox, hP.below hbw (Nat.le_refl _), World.grownBy.refl _ _⟩
  have HBW : Hid (Below w.heap.size w W0) := hbw
  have hbn : w.heap.size ≠ b := by omega
  have hbl : w.heap.size ≤ b := by omega
  have O0 : Hid (W0.cell? ⟨w.heap.size, 0, none⟩ = some (.int .i64 7)) := by show _ = _; rw [hW0, World.cell?_alloc_past _ _ _ (by simp)]; simp
  have O1 : Hid (W0.cell? ⟨w.heap.size, 1, none⟩ = some (.int .i64 k)) := by show _ = _; rw [hW0, World.cell?_alloc_past _ _ _ (by simp)]; simp
  have O2 : Hid (W0.cell? ⟨w.heap.size, 2, none⟩ = some (.int .i64 v)) := by show _ = _; rw [hW0, World.cell?_alloc_past _ _ _ (by simp)]; simp
  clear hP hbox hbw
  go_enter Tryz.func64, Tryz.ntmps64
  go_wp2_with fail
  rw [← hb, ← hW0]
  clear hb hW0
  go_loopw [6] (fun i wr => ∃ j : Nat, j ≤ 4 ∧ i = .int .i64 j ∧ NextSt W0 b a n c fs wr (scanM fs n j)) (fun i _ => 4 - (intOf i).toNat)
  case atStart => exact ⟨0, by omega, rfl, HS0.out⟩
  case round =>
    obtain ⟨j, hj, rfl, hS⟩ := hrel
    have HSj : Hid (NextSt W0 b a n c fs wr (scanM fs n j)) := hS
    clear hS
    by_cases hlt : j < 4
    · have hj0 : (0 : Int) ≤ (j : Int) := by omega
      have hj1 : (j : Int) < 4 := by omega
      go_wp2_with fail
      refine (specRowAt_any (j : Int) _).mono ?_
      rintro e wp ⟨rfl, hwp⟩
      rw [hwp]
      clear hwp
      go_wp2_with fail
      refine (l5Know_any b a n c (scanM fs n j) (placeN 1 (j : Int)) fs _ HSj.out.box HSj.out.ps).mono ?_
      rintro e w3 ⟨rfl, hW, hf⟩
      have HS3 : Hid (NextSt W0 b a n c fs w3 (scanM fs n (j + 1))) := HSj.out.know HQ.out hW hf
      clear hW hf
      go_wp2
      exact ⟨⟨j + 1, by omega, by go_num, HS3.out⟩, by simp [intOf]; omega⟩
    · obtain rfl : j = 4 := by omega
      go_wp2
      go_ret
      exact ⟨b, rfl, HSj.out.box, HBW.out.grown HSj.out.far HBW.out.size (fun j e => by cases e; exact hbl)⟩

theorem l5All_any (a : Option Addr) (n c : Nat) (kind k v : Int) (fs : List Int) (w : World) (hP : PairAt w a n fs) (hop : OpGood kind k v) :
    Calls Tryz.prog 64 #[OpV kind k v, .slice a n c] w fun e w' => AllSays e w w' a n c (allM fs n kind k v) := by
  obtain ⟨hk, hkey, _⟩ := hop
  unfold KeyGood at hkey
  rcases kinds hk with rfl | rfl | rfl | rfl | rfl | rfl | rfl | rfl | rfl | rfl
  · exact l5All_1 a n c k v fs w hP (by omega)
  · exact l5All_2 a n c k v fs w hP (by omega)
  · exact l5All_3 a n c k v fs w hP (by omega)
  · exact l5All_4 a n c k v fs w hP
  · exact l5All_5 a n c k v fs w hP
  · exact l5All_6 a n c k v fs w hP
  · exact l5All_7 a n c k v fs w hP
  · exact l5All_8 a n c k v fs w hP
  · exact l5All_9 a n c k v fs w hP
  · exact l5All_10 a n c k v fs w hP

theorem specNext_any (a : Option Addr) (n c : Nat) (kind k v : Int) (fs : List Int) (w : World) (hP : PairAt w a n fs) :
    Calls Tryz.prog 21 #[OpV kind k v, .slice a n c] w fun e w' => e = .returned (.int .i64 (nextM fs n kind k v)) ∧ Below w.heap.size w w' := by
  have HP : Hid (PairAt w a n fs) := hP
  clear hP
  have hbA : Below w.heap.size w (w.alloc (.cells #[.int .i64 kind, .int .i64 k, .int .i64 v] 28)) := (Below.refl _ w).alloc (Nat.le_refl _) _
  have HBA : Hid (Below w.heap.size w (w.alloc (.cells #[.int .i64 kind, .int .i64 k, .int .i64 v] 28))) := hbA
  clear hbA
  go_enter Tryz.func21, Tryz.ntmps21
  go_wp2_with fail
  refine (specOpOk_any kind k v _).mono ?_
  rintro e w1 ⟨rfl, hb1⟩
  have HB1 : Hid (Below w.heap.size w w1) := HBA.out.trans (hb1.mono (by simp))
  have o0 : w1.cell? ⟨w.heap.size, 0, none⟩ = some (.int .i64 kind) := by rw [hb1.cell (by simp)]; simp
  have o1 : w1.cell? ⟨w.heap.size, 1, none⟩ = some (.int .i64 k) := by rw [hb1.cell (by simp)]; simp
  have o2 : w1.cell? ⟨w.heap.size, 2, none⟩ = some (.int .i64 v) := by rw [hb1.cell (by simp)]; simp
  clear hb1
  by_cases hop : OpGood kind k v
  · rw [show decide (OpGood kind k v) = true from decide_eq_true hop]
    have HO : Hid (OpGood kind k v) := hop
    have HN : Hid (nextM fs n kind k v = (allM fs n kind k v).1) := if_pos hop
    clear hop
    go_wp2_with fail
    refine (l5All_any a n c kind k v fs _ (HP.out.below HB1.out (Nat.le_refl _)) HO.out).mono ?_
    rintro e w2 ⟨b, rfl, hW, hb2⟩
    obtain ⟨c0, c1, c2, -⟩ := hW.facts
    have HB2 : Hid (Below w.heap.size w w2) := HB1.out.trans (hb2.mono HB1.out.size)
    clear hW hb2
    go_wp2
    go_ret
    exact ⟨by rw [HN.out]; rfl, HB2.out⟩
  · rw [show decide (OpGood kind k v) = false from decide_eq_false hop]
    have HN : Hid (nextM fs n kind k v = -1) := if_neg hop
    clear hop
    go_wp2
    go_ret
    exact ⟨by rw [HN.out]; rfl, HB1.out⟩
theorem now_9a (pa : Option Addr) (m pc : Nat) (fs : List Int) (k v : Int) (w : World) (hP : PairAt w pa m fs) (r o st : Int) (rb ob sb : Bool) (h1 : readF fs (placeN 1 k) m = (r, rb)) (h2 : readF fs (placeN 2 v) m = (o, ob)) (h3 : readF fs 13 m = (st, sb)) (hs : ¬ (1 ≤ st ∧ st ≤ 4)) :
    Calls Tryz.prog 29 #[OpV 9 k v, .slice pa m pc] w fun e w' => (∃ a c, e = .returned (.tuple #[.agg #[.bool true, .int .i64 (4), .slice a 0 c, .slice none 0 0], .bool true]) ∧ IntAt w' a 0 [] ∧ ∀ q, a = some q → w.heap.size ≤ q.block) ∧ Below w.heap.size w w' := by
  have HP : Hid (PairAt w pa m fs) := hP
  have H1 : Hid (readF fs (placeN 1 k) m = (r, rb) ∧ readF fs (placeN 2 v) m = (o, ob) ∧ readF fs 13 m = (st, sb)) := ⟨h1, h2, h3⟩
  have HS9 : Hid (¬ (1 ≤ st ∧ st ≤ 4)) := hs
  clear hP h1 h2 h3 hs
  obtain ⟨W1, hW1⟩ : ∃ W1, (w.alloc (.cells #[.int .i64 9, .int .i64 k, .int .i64 v] 28)).alloc (.cells #[.bool false, .int .i64 0, .slice none 0 0, .slice none 0 0] 36) = W1 := ⟨_, rfl⟩
  have b1 : Below w.heap.size w W1 := by rw [← hW1]; exact ((Below.refl _ _).alloc (Nat.le_refl _) _).alloc (by simp) _
  have x0 : W1.heap[w.heap.size]? = some (.cells #[.int .i64 9, .int .i64 k, .int .i64 v] 28 (0, 0)) := by rw [← hW1]; exact (Below.heap_alloc _ _ _ (by simp)).trans (by show (w.heap.push _)[w.heap.size]? = _; simp)
  have x1 : W1.heap[w.heap.size + 1]? = some (.cells #[.bool false, .int .i64 0, .slice none 0 0, .slice none 0 0] 36 (0, 0)) := by rw [← hW1]; show ((w.heap.push _).push _)[w.heap.size + 1]? = _; rw [Array.getElem?_push]; simp
  have HX : Hid (Below w.heap.size w W1 ∧ W1.heap[w.heap.size]? = some (.cells #[.int .i64 9, .int .i64 k, .int .i64 v] 28 (0, 0)) ∧ W1.heap[w.heap.size + 1]? = some (.cells #[.bool false, .int .i64 0, .slice none 0 0, .slice none 0 0] 36 (0, 0)) ∧ w.heap.size + 1 < W1.heap.size) := ⟨b1, x0, x1, (Array.getElem?_eq_some_iff.1 x1).1⟩
  have CE : Hid (∀ {w' : World}, Below W1.heap.size W1 w' → (w'.cell? ⟨w.heap.size, 0, none⟩ = some (.int .i64 9) ∧ w'.cell? ⟨w.heap.size, 1, none⟩ = some (.int .i64 k) ∧ w'.cell? ⟨w.heap.size, 2, none⟩ = some (.int .i64 v)) ∧ w'.heap[w.heap.size + 1]? = some (.cells #[.bool false, .int .i64 0, .slice none 0 0, .slice none 0 0] 36 (0, 0))) := fun hb => by
    have h0 := (hb.block _ (Nat.lt_of_succ_lt HX.out.2.2.2)).trans HX.out.2.1
    exact ⟨⟨by simp [World.cell?, h0], by simp [World.cell?, h0], by simp [World.cell?, h0]⟩, (hb.block _ HX.out.2.2.2).trans HX.out.2.2.1⟩
  clear b1 x0 x1
  obtain ⟨c0, c1, c2⟩ := (CE.out (Below.refl _ W1)).1
  go_enter Tryz.func29, Tryz.ntmps29
  go_wp2_with fail
  refine (specRowAt_any k _).mono ?_
  rintro e wp ⟨rfl, hwp⟩
  rw [hwp]
  clear hwp
  go_wp2_with fail
  refine (specRead_any pa m pc (placeN 1 k) fs _ (by first | exact HP.out.below (HX.out.1.trans ((Below.refl _ W1).mono (Nat.le_of_lt (Nat.lt_of_succ_lt HX.out.2.2.2)))) (Nat.le_refl _) | exact hW1 ▸ HP.out.below HX.out.1 (Nat.le_refl _) | (rw [hW1]; exact HP.out.below HX.out.1 (Nat.le_refl _)))).mono ?_
  rintro e w1 ⟨rfl, hb⟩
  rw [H1.out.1]
  have B1 : Hid (Below W1.heap.size W1 w1) := (by first | exact hb | exact hW1 ▸ hb)
  clear hb c0 c1 c2
  obtain ⟨⟨c0, c1, c2⟩, _⟩ := CE.out B1.out
  go_wp2_with fail
  refine (specOwnerAt_any v _).mono ?_
  rintro e wp ⟨rfl, hwp⟩
  rw [hwp]
  clear hwp
  go_wp2_with fail
  refine (specRead_any pa m pc (placeN 2 v) fs _ (by first | exact HP.out.below (HX.out.1.trans (B1.out.mono (Nat.le_of_lt (Nat.lt_of_succ_lt HX.out.2.2.2)))) (Nat.le_refl _) | exact hW1 ▸ HP.out.below HX.out.1 (Nat.le_refl _) | (rw [hW1]; exact HP.out.below HX.out.1 (Nat.le_refl _)))).mono ?_
  rintro e w2 ⟨rfl, hb⟩
  rw [H1.out.2.1]
  have B2 : Hid (Below W1.heap.size W1 w2) := B1.out.trans (hb.mono B1.out.size)
  clear hb c0 c1 c2
  obtain ⟨⟨c0, c1, c2⟩, _⟩ := CE.out B2.out
  go_wp2_with fail
  refine (specStateAt_any _).mono ?_
  rintro e wp ⟨rfl, hwp⟩
  rw [hwp]
  clear hwp
  go_wp2_with fail
  refine (specRead_any pa m pc 13 fs _ (by first | exact HP.out.below (HX.out.1.trans (B2.out.mono (Nat.le_of_lt (Nat.lt_of_succ_lt HX.out.2.2.2)))) (Nat.le_refl _) | exact hW1 ▸ HP.out.below HX.out.1 (Nat.le_refl _) | (rw [hW1]; exact HP.out.below HX.out.1 (Nat.le_refl _)))).mono ?_
  rintro e w3 ⟨rfl, hb⟩
  rw [H1.out.2.2]
  have B3 : Hid (Below W1.heap.size W1 w3) := B2.out.trans (hb.mono B2.out.size)
  clear hb c0 c1 c2
  obtain ⟨⟨c0, c1, c2⟩, _⟩ := CE.out B3.out
  obtain ⟨W4, hW4⟩ : ∃ W4, w3.alloc (.cells #[] 3) = W4 := ⟨_, rfl⟩
  have hb4 : Below w3.heap.size w3 W4 := by rw [← hW4]; exact (Below.refl _ _).alloc (Nat.le_refl _) _
  have B4 : Hid (Below W1.heap.size W1 W4) := B3.out.trans (hb4.mono B3.out.size)
  clear hb4 c0 c1 c2
  obtain ⟨⟨c0, c1, c2⟩, x3⟩ := CE.out B4.out
  have p0 : W4.cell? ⟨w.heap.size + 1, 0, none⟩ = some (.bool false) := by simp [World.cell?, x3]
  have p1 : W4.cell? ⟨w.heap.size + 1, 1, none⟩ = some (.int .i64 0) := by simp [World.cell?, x3]
  have p2 : W4.cell? ⟨w.heap.size + 1, 2, none⟩ = some (.slice none 0 0) := by simp [World.cell?, x3]
  have p3 : W4.cell? ⟨w.heap.size + 1, 3, none⟩ = some (.slice none 0 0) := by simp [World.cell?, x3]
  have q0 : W4.frozen? ⟨w.heap.size + 1, 0, none⟩ = false := by simp [World.frozen?, x3]
  have q1 : W4.frozen? ⟨w.heap.size + 1, 1, none⟩ = false := by simp [World.frozen?, x3]
  have q2 : W4.frozen? ⟨w.heap.size + 1, 2, none⟩ = false := by simp [World.frozen?, x3]
  have q3 : W4.frozen? ⟨w.heap.size + 1, 3, none⟩ = false := by simp [World.frozen?, x3]
  clear x3
  have HI : Hid (IntAt W4 (some ⟨w3.heap.size, 0, none⟩) 0 []) := ⟨rfl, by omega, .inl rfl⟩
  go_wp2_with fail
  refine (l1In_any st 1 4 (by omega) _).mono ?_
  rintro e wp ⟨rfl, hwp⟩
  rw [hwp, decide_eq_false HS9.out]
  clear hwp
  go_wp2
  (try simp only [Exit.inBlock, Exit.then])
  refine bodyPost_ret (by simp [results, Tryz.results29, go_sem, p0, p1, p2, p3]; try rfl) rfl ?_
  have hlo := HX.out.1.trans (B4.out.mono (Nat.le_of_lt (Nat.lt_of_succ_lt HX.out.2.2.2)))
  exact ⟨⟨_, _, rfl, ⟨rfl, by omega, .inl rfl⟩, fun q e => by cases e; have h1 := HX.out.2.2.2; have h2 := B3.out.size; show w.heap.size ≤ w3.heap.size; omega⟩, (((hlo.setCell (p := ⟨w.heap.size + 1, 0, none⟩) (by simp) _).setCell (p := ⟨w.heap.size + 1, 1, none⟩) (by simp) _).setCell (p := ⟨w.heap.size + 1, 2, none⟩) (by simp) _).setCell (p := ⟨w.heap.size + 1, 3, none⟩) (by simp) _⟩
theorem now_9b (pa : Option Addr) (m pc : Nat) (fs : List Int) (k v : Int) (w : World) (hP : PairAt w pa m fs) (r o st : Int) (rb ob sb : Bool) (h1 : readF fs (placeN 1 k) m = (r, rb)) (h2 : readF fs (placeN 2 v) m = (o, ob)) (h3 : readF fs 13 m = (st, sb)) (hs : 1 ≤ st ∧ st ≤ 4) :
    Calls Tryz.prog 29 #[OpV 9 k v, .slice pa m pc] w fun e w' => (∃ a c, e = .returned (.tuple #[.agg #[.bool true, .int .i64 (-1), .slice a 0 c, .slice none 0 0], .bool false]) ∧ IntAt w' a 0 [] ∧ ∀ q, a = some q → w.heap.size ≤ q.block) ∧ Below w.heap.size w w' := by
  have HP : Hid (PairAt w pa m fs) := hP
  have H1 : Hid (readF fs (placeN 1 k) m = (r, rb) ∧ readF fs (placeN 2 v) m = (o, ob) ∧ readF fs 13 m = (st, sb)) := ⟨h1, h2, h3⟩
  have HS9 : Hid (1 ≤ st ∧ st ≤ 4) := hs
  clear hP h1 h2 h3 hs
  obtain ⟨W1, hW1⟩ : ∃ W1, (w.alloc (.cells #[.int .i64 9, .int .i64 k, .int .i64 v] 28)).alloc (.cells #[.bool false, .int .i64 0, .slice none 0 0, .slice none 0 0] 36) = W1 := ⟨_, rfl⟩
  have b1 : Below w.heap.size w W1 := by rw [← hW1]; exact ((Below.refl _ _).alloc (Nat.le_refl _) _).alloc (by simp) _
  have x0 : W1.heap[w.heap.size]? = some (.cells #[.int .i64 9, .int .i64 k, .int .i64 v] 28 (0, 0)) := by rw [← hW1]; exact (Below.heap_alloc _ _ _ (by simp)).trans (by show (w.heap.push _)[w.heap.size]? = _; simp)
  have x1 : W1.heap[w.heap.size + 1]? = some (.cells #[.bool false, .int .i64 0, .slice none 0 0, .slice none 0 0] 36 (0, 0)) := by rw [← hW1]; show ((w.heap.push _).push _)[w.heap.size + 1]? = _; rw [Array.getElem?_push]; simp
  have HX : Hid (Below w.heap.size w W1 ∧ W1.heap[w.heap.size]? = some (.cells #[.int .i64 9, .int .i64 k, .int .i64 v] 28 (0, 0)) ∧ W1.heap[w.heap.size + 1]? = some (.cells #[.bool false, .int .i64 0, .slice none 0 0, .slice none 0 0] 36 (0, 0)) ∧ w.heap.size + 1 < W1.heap.size) := ⟨b1, x0, x1, (Array.getElem?_eq_some_iff.1 x1).1⟩
  have CE : Hid (∀ {w' : World}, Below W1.heap.size W1 w' → (w'.cell? ⟨w.heap.size, 0, none⟩ = some (.int .i64 9) ∧ w'.cell? ⟨w.heap.size, 1, none⟩ = some (.int .i64 k) ∧ w'.cell? ⟨w.heap.size, 2, none⟩ = some (.int .i64 v)) ∧ w'.heap[w.heap.size + 1]? = some (.cells #[.bool false, .int .i64 0, .slice none 0 0, .slice none 0 0] 36 (0, 0))) := fun hb => by
    have h0 := (hb.block _ (Nat.lt_of_succ_lt HX.out.2.2.2)).trans HX.out.2.1
    exact ⟨⟨by simp [World.cell?, h0], by simp [World.cell?, h0], by simp [World.cell?, h0]⟩, (hb.block _ HX.out.2.2.2).trans HX.out.2.2.1⟩
  clear b1 x0 x1
  obtain ⟨c0, c1, c2⟩ := (CE.out (Below.refl _ W1)).1
  go_enter Tryz.func29, Tryz.ntmps29
  go_wp2_with fail
  refine (specRowAt_any k _).mono ?_
  rintro e wp ⟨rfl, hwp⟩
  rw [hwp]
  clear hwp
  go_wp2_with fail
  refine (specRead_any pa m pc (placeN 1 k) fs _ (by first | exact HP.out.below (HX.out.1.trans ((Below.refl _ W1).mono (Nat.le_of_lt (Nat.lt_of_succ_lt HX.out.2.2.2)))) (Nat.le_refl _) | exact hW1 ▸ HP.out.below HX.out.1 (Nat.le_refl _) | (rw [hW1]; exact HP.out.below HX.out.1 (Nat.le_refl _)))).mono ?_
  rintro e w1 ⟨rfl, hb⟩
  rw [H1.out.1]
  have B1 : Hid (Below W1.heap.size W1 w1) := (by first | exact hb | exact hW1 ▸ hb)
  clear hb c0 c1 c2
  obtain ⟨⟨c0, c1, c2⟩, _⟩ := CE.out B1.out
  go_wp2_with fail
  refine (specOwnerAt_any v _).mono ?_
  rintro e wp ⟨rfl, hwp⟩
  rw [hwp]
  clear hwp
  go_wp2_with fail
  refine (specRead_any pa m pc (placeN 2 v) fs _ (by first | exact HP.out.below (HX.out.1.trans (B1.out.mono (Nat.le_of_lt (Nat.lt_of_succ_lt HX.out.2.2.2)))) (Nat.le_refl _) | exact hW1 ▸ HP.out.below HX.out.1 (Nat.le_refl _) | (rw [hW1]; exact HP.out.below HX.out.1 (Nat.le_refl _)))).mono ?_
  rintro e w2 ⟨rfl, hb⟩
  rw [H1.out.2.1]
  have B2 : Hid (Below W1.heap.size W1 w2) := B1.out.trans (hb.mono B1.out.size)
  clear hb c0 c1 c2
  obtain ⟨⟨c0, c1, c2⟩, _⟩ := CE.out B2.out
  go_wp2_with fail
  refine (specStateAt_any _).mono ?_
  rintro e wp ⟨rfl, hwp⟩
  rw [hwp]
  clear hwp
  go_wp2_with fail
  refine (specRead_any pa m pc 13 fs _ (by first | exact HP.out.below (HX.out.1.trans (B2.out.mono (Nat.le_of_lt (Nat.lt_of_succ_lt HX.out.2.2.2)))) (Nat.le_refl _) | exact hW1 ▸ HP.out.below HX.out.1 (Nat.le_refl _) | (rw [hW1]; exact HP.out.below HX.out.1 (Nat.le_refl _)))).mono ?_
  rintro e w3 ⟨rfl, hb⟩
  rw [H1.out.2.2]
  have B3 : Hid (Below W1.heap.size W1 w3) := B2.out.trans (hb.mono B2.out.size)
  clear hb c0 c1 c2
  obtain ⟨⟨c0, c1, c2⟩, _⟩ := CE.out B3.out
  obtain ⟨W4, hW4⟩ : ∃ W4, w3.alloc (.cells #[] 3) = W4 := ⟨_, rfl⟩
  have hb4 : Below w3.heap.size w3 W4 := by rw [← hW4]; exact (Below.refl _ _).alloc (Nat.le_refl _) _
  have B4 : Hid (Below W1.heap.size W1 W4) := B3.out.trans (hb4.mono B3.out.size)
  clear hb4 c0 c1 c2
  obtain ⟨⟨c0, c1, c2⟩, x3⟩ := CE.out B4.out
  have p0 : W4.cell? ⟨w.heap.size + 1, 0, none⟩ = some (.bool false) := by simp [World.cell?, x3]
  have p1 : W4.cell? ⟨w.heap.size + 1, 1, none⟩ = some (.int .i64 0) := by simp [World.cell?, x3]
  have p2 : W4.cell? ⟨w.heap.size + 1, 2, none⟩ = some (.slice none 0 0) := by simp [World.cell?, x3]
  have p3 : W4.cell? ⟨w.heap.size + 1, 3, none⟩ = some (.slice none 0 0) := by simp [World.cell?, x3]
  have q0 : W4.frozen? ⟨w.heap.size + 1, 0, none⟩ = false := by simp [World.frozen?, x3]
  have q1 : W4.frozen? ⟨w.heap.size + 1, 1, none⟩ = false := by simp [World.frozen?, x3]
  have q2 : W4.frozen? ⟨w.heap.size + 1, 2, none⟩ = false := by simp [World.frozen?, x3]
  have q3 : W4.frozen? ⟨w.heap.size + 1, 3, none⟩ = false := by simp [World.frozen?, x3]
  clear x3
  have HI : Hid (IntAt W4 (some ⟨w3.heap.size, 0, none⟩) 0 []) := ⟨rfl, by omega, .inl rfl⟩
  go_wp2_with fail
  refine (l1In_any st 1 4 (by omega) _).mono ?_
  rintro e wp ⟨rfl, hwp⟩
  rw [hwp, decide_eq_true HS9.out]
  clear hwp
  go_wp2
  (try simp only [Exit.inBlock, Exit.then])
  refine bodyPost_ret (by simp [results, Tryz.results29, go_sem, p0, p1, p2, p3]; try rfl) rfl ?_
  have hlo := HX.out.1.trans (B4.out.mono (Nat.le_of_lt (Nat.lt_of_succ_lt HX.out.2.2.2)))
  exact ⟨⟨_, _, rfl, ⟨rfl, by omega, .inl rfl⟩, fun q e => by cases e; have h1 := HX.out.2.2.2; have h2 := B3.out.size; show w.heap.size ≤ w3.heap.size; omega⟩, (((hlo.setCell (p := ⟨w.heap.size + 1, 0, none⟩) (by simp) _).setCell (p := ⟨w.heap.size + 1, 1, none⟩) (by simp) _).setCell (p := ⟨w.heap.size + 1, 2, none⟩) (by simp) _).setCell (p := ⟨w.heap.size + 1, 3, none⟩) (by simp) _⟩
def nowC (kind v r o st q : Int) : Int × List Int :=
  if kind = 1 then (if r ≠ 0 then (1, []) else if o ≠ 0 then (2, []) else (-1, []))
  else if kind = 2 then (if r = 0 then (3, []) else if r = v then (0, []) else if o ≠ 0 then (2, []) else (-1, []))
  else if kind = 3 then (if r = 0 then (3, []) else (-1, []))
  else if kind = 4 then (if r = 0 then (3, []) else (0, [r]))
  else if kind = 5 then (if o = 0 then (3, []) else (0, [wrap64 (o - 1)]))
  else if kind = 6 then (0, [q])
  else if kind = 7 then (-1, [])
  else if kind = 8 then (if st ≠ 0 then (4, []) else (-1, []))
  else if kind = 9 then (if 1 ≤ st ∧ st ≤ 4 then (-1, []) else (4, []))
  else (if st ≠ 5 then (4, []) else (-1, []))
def nowR (fs : List Int) (m : Nat) (kind k v : Int) : Int × List Int := nowC kind v (readF fs (placeN 1 k) m).1 (readF fs (placeN 2 v) m).1 (readF fs 13 m).1 (readF fs (placeN 3 k) m).1
def NowIs (w : World) (R : Int × List Int) (e : Ending) (w' : World) : Prop :=
  (∃ a c, e = .returned (.tuple #[.agg #[.bool true, .int .i64 R.1, .slice a R.2.length c, .slice none 0 0], .bool (decide (0 ≤ R.1))]) ∧ IntAt w' a R.2.length R.2 ∧ ∀ q, a = some q → w.heap.size ≤ q.block) ∧ Below w.heap.size w w'
theorem l5Now_any (pa : Option Addr) (m pc : Nat) (fs : List Int) (kind k v : Int) (w : World) (hP : PairAt w pa m fs) (hk : 1 ≤ kind ∧ kind ≤ 10) :
    Calls Tryz.prog 29 #[OpV kind k v, .slice pa m pc] w fun e w' => NowIs w (nowR fs m kind k v) e w' := by
  unfold nowR
  obtain ⟨⟨r, rb⟩, h1⟩ : ∃ x, readF fs (placeN 1 k) m = x := ⟨_, rfl⟩
  obtain ⟨⟨o, ob⟩, h2⟩ : ∃ x, readF fs (placeN 2 v) m = x := ⟨_, rfl⟩
  obtain ⟨⟨st, sb⟩, h3⟩ : ∃ x, readF fs 13 m = x := ⟨_, rfl⟩
  obtain ⟨⟨q, qb⟩, h4⟩ : ∃ x, readF fs (placeN 3 k) m = x := ⟨_, rfl⟩
  rw [h1, h2, h3, h4]
  dsimp only
  have bt : ∀ {x y : Int}, x = y → (x == y) = true ∧ (x != y) = false := fun h => ⟨by simpa using h, by simpa using h⟩
  have bf : ∀ {x y : Int}, ¬ x = y → (x == y) = false ∧ (x != y) = true := fun h => ⟨by simpa using h, by simpa using h⟩
  rcases kinds hk with rfl | rfl | rfl | rfl | rfl | rfl | rfl | rfl | rfl | rfl
  · by_cases hr : r = 0
    · by_cases ho : o = 0
      · rw [show nowC 1 v r o st q = (-1, []) by simp [nowC, hr, ho]]; exact now_1c pa m pc fs k v w hP r o st rb ob sb h1 h2 h3 (bt hr).2 (bt hr).1 (bt ho).2 (bt ho).1
      · rw [show nowC 1 v r o st q = (2, []) by simp [nowC, hr, ho]]; exact now_1b pa m pc fs k v w hP r o st rb ob sb h1 h2 h3 (bt hr).2 (bt hr).1 (bf ho).2 (bf ho).1
    · rw [show nowC 1 v r o st q = (1, []) by simp [nowC, hr]]; exact now_1a pa m pc fs k v w hP r o st rb ob sb h1 h2 h3 (bf hr).2 (bf hr).1
  · by_cases hr : r = 0
    · rw [show nowC 2 v r o st q = (3, []) by simp [nowC, hr]]; exact now_2a pa m pc fs k v w hP r o st rb ob sb h1 h2 h3 (bt hr).2 (bt hr).1
    · by_cases hv : r = v
      · rw [show nowC 2 v r o st q = (0, []) by unfold nowC; rw [if_neg (by omega), if_pos rfl, if_neg hr, if_pos hv]]; exact now_2b pa m pc fs k v w hP r o st rb ob sb h1 h2 h3 (bf hr).2 (bf hr).1 (bt hv).1
      · by_cases ho : o = 0
        · rw [show nowC 2 v r o st q = (-1, []) by simp [nowC, hr, hv, ho]]; exact now_2d pa m pc fs k v w hP r o st rb ob sb h1 h2 h3 (bf hr).2 (bf hr).1 (bf hv).1 (bt ho).2 (bt ho).1
        · rw [show nowC 2 v r o st q = (2, []) by simp [nowC, hr, hv, ho]]; exact now_2c pa m pc fs k v w hP r o st rb ob sb h1 h2 h3 (bf hr).2 (bf hr).1 (bf hv).1 (bf ho).2 (bf ho).1
  · by_cases hr : r = 0
    · rw [show nowC 3 v r o st q = (3, []) by simp [nowC, hr]]; exact now_3a pa m pc fs k v w hP r o st rb ob sb h1 h2 h3 (bt hr).2 (bt hr).1
    · rw [show nowC 3 v r o st q = (-1, []) by simp [nowC, hr]]; exact now_3b pa m pc fs k v w hP r o st rb ob sb h1 h2 h3 (bf hr).2 (bf hr).1
  · by_cases hr : r = 0
    · rw [show nowC 4 v r o st q = (3, []) by simp [nowC, hr]]; exact now_4a pa m pc fs k v w hP r o st rb ob sb h1 h2 h3 (bt hr).2 (bt hr).1
    · rw [show nowC 4 v r o st q = (0, [r]) by simp [nowC, hr]]; exact now_4b pa m pc fs k v w hP r o st rb ob sb h1 h2 h3 (bf hr).2 (bf hr).1
  · by_cases ho : o = 0
    · rw [show nowC 5 v r o st q = (3, []) by simp [nowC, ho]]; exact now_5a pa m pc fs k v w hP r o st rb ob sb h1 h2 h3 (bt ho).2 (bt ho).1
    · rw [show nowC 5 v r o st q = (0, [wrap64 (o - 1)]) by simp [nowC, ho]]; exact now_5b pa m pc fs k v w hP r o st rb ob sb h1 h2 h3 (bf ho).2 (bf ho).1
  · rw [show nowC 6 v r o st q = (0, [q]) by simp [nowC]]; exact now_6a pa m pc fs k v w hP r o st rb ob sb h1 h2 h3 q qb h4
  · rw [show nowC 7 v r o st q = (-1, []) by simp [nowC]]; exact now_7a pa m pc fs k v w hP r o st rb ob sb h1 h2 h3
  · by_cases hs : st = 0
    · rw [show nowC 8 v r o st q = (-1, []) by simp [nowC, hs]]; exact now_8b pa m pc fs k v w hP r o st rb ob sb h1 h2 h3 (bt hs).2
    · rw [show nowC 8 v r o st q = (4, []) by simp [nowC, hs]]; exact now_8a pa m pc fs k v w hP r o st rb ob sb h1 h2 h3 (bf hs).2
  · by_cases hs : 1 ≤ st ∧ st ≤ 4
    · rw [show nowC 9 v r o st q = (-1, []) by simp [nowC, hs]]; exact now_9b pa m pc fs k v w hP r o st rb ob sb h1 h2 h3 hs
    · rw [show nowC 9 v r o st q = (4, []) by unfold nowC; rw [if_neg (by omega), if_neg (by omega), if_neg (by omega), if_neg (by omega), if_neg (by omega), if_neg (by omega), if_neg (by omega), if_neg (by omega), if_pos rfl, if_neg hs]]; exact now_9a pa m pc fs k v w hP r o st rb ob sb h1 h2 h3 hs
  · by_cases hs : st = 5
    · rw [show nowC 10 v r o st q = (-1, []) by simp [nowC, hs]]; exact now_10b pa m pc fs k v w hP r o st rb ob sb h1 h2 h3 (bt hs).2
    · rw [show nowC 10 v r o st q = (4, []) by simp [nowC, hs]]; exact now_10a pa m pc fs k v w hP r o st rb ob sb h1 h2 h3 (bf hs).2
end
end Go.Proofs.YtenlapppaimkkabGreatDoor
