/- Texts joined: SpecSc. -/
import Derived.Test.YtmgofehafjogfaaSH15
set_option maxHeartbeats 4000000
set_option maxRecDepth 100000
namespace Go.Proofs.Ytmgofehafjogfaa
section
open Go.ChangeShapes Go.WideShapes Go.ChangeAt Go.RowKit
theorem specSchemaOk_any (a1 : Option Addr) (n1 c1 : Nat) (a2 : Option Addr) (n2 c2 : Nat) (a3 : Option Addr) (n3 c3 : Nat) (S : SchD) (hsz : ∀ x ∈ S.idx, x.1.size ≤ 9223372036854775807) (hsc : ∀ x ∈ S.cols, x.1.size ≤ 9223372036854775807) (w : World) (h : SchAt w a1 n1 c1 a2 n2 c2 a3 n3 c3 S) :
    Calls Try.prog 18 #[ScV a1 n1 c1 a2 n2 c2 a3 n3 c3] w fun e w' => e = .returned (.bool (decide (ScGood S))) ∧ Below w.heap.size w w' := by
  obtain ⟨R, hR⟩ : ∃ R, decide (ScGood S) = R := ⟨_, rfl⟩
  rw [hR]
  have HR : Hid (decide (ScGood S) = R) := hR
  have HSZ : Hid (∀ x ∈ S.idx, x.1.size ≤ 9223372036854775807) := hsz
  have HSC : Hid (∀ x ∈ S.cols, x.1.size ≤ 9223372036854775807) := hsc
  clear hR hsz hsc
  obtain ⟨W, hW⟩ : ∃ W, w.alloc (.cells #[.slice a1 n1 c1, .slice a2 n2 c2, .slice a3 n3 c3] 28) = W := ⟨_, rfl⟩
  obtain ⟨g, hg⟩ : ∃ g, w.heap.size = g := ⟨_, rfl⟩
  have HG : Hid (w.heap.size = g) := hg
  have HB0 : Hid (Below g w W) := by rw [← hW, ← hg]; exact (Below.refl _ w).alloc (Nat.le_refl _) _
  have X0 : Hid (Box W g #[.slice a1 n1 c1, .slice a2 n2 c2, .slice a3 n3 c3] 28) := by rw [← hW, ← hg]; exact box_of w _ _
  have HW : Hid (w.alloc (.cells #[.slice a1 n1 c1, .slice a2 n2 c2, .slice a3 n3 c3] 28) = W) := hW
  have HSA : Hid (SchAt W a1 n1 c1 a2 n2 c2 a3 n3 c3 S) := h.below HB0.out (Nat.le_of_eq hg)
  have BX : Hid (∀ y, Below W.heap.size W y → y.cell? ⟨g, 0, none⟩ = some (.slice a1 n1 c1) ∧ y.cell? ⟨g, 1, none⟩ = some (.slice a2 n2 c2) ∧ y.cell? ⟨g, 2, none⟩ = some (.slice a3 n3 c3)) := fun y hb => (X0.out.below hb X0.out.lt).triV
  have HGS : Hid (g ≤ W.heap.size) := Nat.le_of_lt X0.out.lt
  rw [hg]
  clear hW hg h
  have hl := HSA.out.cols.1
  have hn := HSA.out.cols.2.1
  have hl2 := HSA.out.key.1
  have hn2 := HSA.out.k2
  go_enter Try.func18, Try.ntmps18
  go_upto_region 1 with (fail)
  rw [HW.out, HG.out]
  go_wp2
  go_loopw [3] (fun i wr => ∃ j : Nat, j ≤ n1 ∧ i = .int .i64 (j : Int) ∧ (∀ x ∈ S.cols.take j, CnGood x.1 ∧ 1 ≤ x.2.1 ∧ x.2.1 ≤ 3) ∧ ((S.cols.take j).map (·.1)).Nodup ∧ Below W.heap.size W wr) (fun i _ => n1 - (RowKit.intOf i).toNat)
  case atStart => exact ⟨0, Nat.zero_le _, rfl, fun x hx => (by simp at hx), (by simp), Below.refl _ _⟩
  case round =>
    obtain ⟨j, hj, rfl, hq, hnd, hb⟩ := hrel
    have HQ : Hid (∀ x ∈ S.cols.take j, CnGood x.1 ∧ 1 ≤ x.2.1 ∧ x.2.1 ≤ 3) := hq
    have HN : Hid (((S.cols.take j).map (·.1)).Nodup) := hnd
    have HBW : Hid (Below W.heap.size W wr) := hb
    clear hq hnd hb
    by_cases hlt : j < n1
    · rcases (HSA.out.cols.below HBW.out (Nat.le_refl _)).2.2 with h0 | ⟨p1, o1, rfl, g1⟩
      · omega
      obtain ⟨x, hx⟩ : ∃ x, S.cols[j]? = some x := ⟨_, List.getElem?_eq_getElem (by omega)⟩
      obtain ⟨e0, e1, e2⟩ := g1 j x hx
      have HX : Hid (S.cols[j]? = some x) := hx
      have hsn := HSC.out x (List.mem_of_getElem? hx)
      obtain ⟨nm, kd, nl⟩ := x
      dsimp only at e0 e1 e2 hsn
      have hk0 : (0 : Int) ≤ (j : Int) := by omega
      have hk1 : (j : Int) < (n1 : Int) := by omega
      have HBD : Hid (Below W.heap.size W wr.drew) := HBW.out.drew
      have hpl : p1 < wr.drew.heap.size := World.block_lt_of_cell? wr _ e0
      have CEL : Hid (∀ y, Below wr.drew.heap.size wr.drew y → (fun w' => w'.cell? ⟨g, 0, none⟩ = some (.slice (some ⟨p1, o1, none⟩) n1 c1) ∧ w'.cell? ⟨g, 1, none⟩ = some (.slice a2 n2 c2) ∧ w'.cell? ⟨g, 2, none⟩ = some (.slice a3 n3 c3) ∧ w'.cell? ⟨p1, o1 + j * 3, none⟩ = some (.string nm) ∧ w'.cell? ⟨p1, o1 + j * 3 + 1, none⟩ = some (.int .i64 kd)) y) := fun y hb => by
        obtain ⟨c0, c1', c2'⟩ := BX.out y (HBD.out.trans (hb.mono HBD.out.size))
        exact ⟨c0, c1', c2', (hb.cell hpl).trans e0, (hb.cell hpl).trans e1⟩
      have K0 : Hid ((fun w' => w'.cell? ⟨g, 0, none⟩ = some (.slice (some ⟨p1, o1, none⟩) n1 c1) ∧ w'.cell? ⟨g, 1, none⟩ = some (.slice a2 n2 c2) ∧ w'.cell? ⟨g, 2, none⟩ = some (.slice a3 n3 c3) ∧ w'.cell? ⟨p1, o1 + j * 3, none⟩ = some (.string nm) ∧ w'.cell? ⟨p1, o1 + j * 3 + 1, none⟩ = some (.int .i64 kd)) wr.drew) := CEL.out _ (Below.refl _ _)
      have ON : Hid (∀ y, Below wr.drew.heap.size wr.drew y → Below W.heap.size W y) := fun y hb => HBD.out.trans (hb.mono HBD.out.size)
      obtain ⟨c0, c1', c2'⟩ := BX.out _ HBW.out
      clear g1 hx hpl e0 e1 e2
      go_upto_region 4 with (fail)
      clear c0 c1' c2'
      by_cases hv : CnGood nm
      case neg =>
        have HRV : Hid (R = false) := by
          show _ = _
          rw [← HR.out]
          exact decide_eq_false fun hh => hv (hh.1 _ (List.mem_of_getElem? HX.out)).1
        refine wp_region_held_drew (S := fun w' => w'.cell? ⟨g, 0, none⟩ = some (.slice (some ⟨p1, o1, none⟩) n1 c1) ∧ w'.cell? ⟨g, 1, none⟩ = some (.slice a2 n2 c2) ∧ w'.cell? ⟨g, 2, none⟩ = some (.slice a3 n3 c3) ∧ w'.cell? ⟨p1, o1 + j * 3, none⟩ = some (.string nm) ∧ w'.cell? ⟨p1, o1 + j * 3 + 1, none⟩ = some (.int .i64 kd)) (by kernel_rfl) K0.out (fun hHeld => ?_)
        refine wpAnyH_take (i := 0) (oi := _) (v := ?v1_0) (by rw [List.getElem?_toArray]; exact rfl) (by kernel_rfl) (by kernel_rfl) (by kernel_rfl) (by intro _ _ _ h; exact h) (Or.inl ⟨by kernel_rfl, ?y1_0⟩) hHeld ?_
        case y1_0 =>
          intro w hSw
          obtain ⟨c0, c1', c2', x0, x1⟩ := hSw
          go_simp
          (try with_reducible rfl)
        (try simp only [Act.put, List.setIfInBounds_toArray, List.set_cons_zero, List.set_cons_succ])
        refine wpAnyH_take (i := 1) (oi := _) (v := ?v1_1) (by rw [List.getElem?_toArray]; exact rfl) (by kernel_rfl) (by kernel_rfl) (by kernel_rfl) (by intro _ _ _ h; exact h) (Or.inl ⟨by kernel_rfl, ?y1_1⟩) hHeld ?_
        case y1_1 =>
          intro w hSw
          obtain ⟨c0, c1', c2', x0, x1⟩ := hSw
          go_simp
          (try with_reducible rfl)
        (try simp only [Act.put, List.setIfInBounds_toArray, List.set_cons_zero, List.set_cons_succ])
        refine wpAnyH_take (i := 2) (oi := _) (v := ?v1_2) (by rw [List.getElem?_toArray]; exact rfl) (by kernel_rfl) (by kernel_rfl) (by kernel_rfl) (by intro _ _ _ h; exact h) (Or.inl ⟨by kernel_rfl, ?y1_2⟩) hHeld ?_
        case y1_2 =>
          intro w hSw
          obtain ⟨c0, c1', c2', x0, x1⟩ := hSw
          go_simp
          (try with_reducible rfl)
        (try simp only [Act.put, List.setIfInBounds_toArray, List.set_cons_zero, List.set_cons_succ])
        refine wpAnyH_take (i := 3) (oi := _) (v := ?v1_3) (by rw [List.getElem?_toArray]; exact rfl) (by kernel_rfl) (by kernel_rfl) (by kernel_rfl) (by intro _ _ _ h; exact h) (Or.inl ⟨by kernel_rfl, ?y1_3⟩) hHeld ?_
        case y1_3 =>
          intro w hSw
          obtain ⟨c0, c1', c2', x0, x1⟩ := hSw
          go_simp
          (try with_reducible rfl)
        (try simp only [Act.put, List.setIfInBounds_toArray, List.set_cons_zero, List.set_cons_succ])
        refine wpAnyH_take (i := 4) (oi := _) (v := ?v1_4) (by rw [List.getElem?_toArray]; exact rfl) (by kernel_rfl) (by kernel_rfl) (by kernel_rfl) (by intro _ _ _ h; exact h) (Or.inl ⟨by kernel_rfl, ?y1_4⟩) hHeld ?_
        case y1_4 =>
          intro w hSw
          obtain ⟨c0, c1', c2', x0, x1⟩ := hSw
          go_simp
          (try with_reducible rfl)
        (try simp only [Act.put, List.setIfInBounds_toArray, List.set_cons_zero, List.set_cons_succ])
        refine wpAnyH_take (i := 5) (oi := _) (v := ?v1_5) (by rw [List.getElem?_toArray]; exact rfl) (by kernel_rfl) (by kernel_rfl) (by kernel_rfl) (by intro _ _ _ h; exact h) (Or.inl ⟨by kernel_rfl, ?y1_5⟩) hHeld ?_
        case y1_5 =>
          intro w hSw
          obtain ⟨c0, c1', c2', x0, x1⟩ := hSw
          go_simp
          (try with_reducible rfl)
        (try simp only [Act.put, List.setIfInBounds_toArray, List.set_cons_zero, List.set_cons_succ])
        refine wpAnyH_ready (rs := [6]) (by kernel_rfl) (by simp) ?_
        refine AllReadyH.cons (o := _) (by rw [List.getElem?_toArray]; exact rfl) (fun K hK => ?_) AllReadyH.nil
        rw [if_pos (by kernel_rfl)]
        go_simp
        refine (specColNameOk_any nm hsn _).mono ?_
        rintro e w2 ⟨rfl, rfl⟩
        rw [decide_eq_false hv]
        refine hK.out _ _ hHeld (fun hHeld => ?_)
        clear hK K
        (try simp only [Act.put, List.setIfInBounds_toArray, List.set_cons_zero, List.set_cons_succ])
        refine wpAnyH_take (i := 7) (oi := _) (v := .bool true) (by rw [List.getElem?_toArray]; exact rfl) (by kernel_rfl) (by kernel_rfl) (by kernel_rfl) (by intro _ _ _ h; exact h) (Or.inl ⟨by kernel_rfl, ?y1_7⟩) hHeld ?_
        case y1_7 =>
          intro w hSw
          obtain ⟨c0, c1', c2', x0, x1⟩ := hSw
          go_simp
          (try with_reducible rfl)
        (try simp only [Act.put, List.setIfInBounds_toArray, List.set_cons_zero, List.set_cons_succ])
        refine wpAnyH_take (i := 8) (oi := _) (v := .bool true) (by rw [List.getElem?_toArray]; exact rfl) (by kernel_rfl) (by kernel_rfl) (by kernel_rfl) (by intro _ _ _ h; exact h) (Or.inl ⟨by kernel_rfl, ?y1_8⟩) hHeld ?_
        case y1_8 =>
          intro w hSw
          obtain ⟨c0, c1', c2', x0, x1⟩ := hSw
          go_simp
          (try with_reducible rfl)
        (try simp only [Act.put, List.setIfInBounds_toArray, List.set_cons_zero, List.set_cons_succ])
        refine wpAnyH_take (i := 9) (oi := _) (v := undef) (by rw [List.getElem?_toArray]; exact rfl) (by kernel_rfl) (by kernel_rfl) (by kernel_rfl) (by intro _ _ _ h; exact h) (Or.inr ⟨by kernel_rfl, rfl⟩) hHeld ?_
        (try simp only [Act.put, List.setIfInBounds_toArray, List.set_cons_zero, List.set_cons_succ])
        refine wpAnyH_take (i := 10) (oi := _) (v := undef) (by rw [List.getElem?_toArray]; exact rfl) (by kernel_rfl) (by kernel_rfl) (by kernel_rfl) (by intro _ _ _ h; exact h) (Or.inr ⟨by kernel_rfl, rfl⟩) hHeld ?_
        (try simp only [Act.put, List.setIfInBounds_toArray, List.set_cons_zero, List.set_cons_succ])
        refine wpAnyH_take (i := 11) (oi := _) (v := undef) (by rw [List.getElem?_toArray]; exact rfl) (by kernel_rfl) (by kernel_rfl) (by kernel_rfl) (by intro _ _ _ h; exact h) (Or.inr ⟨by kernel_rfl, rfl⟩) hHeld ?_
        (try simp only [Act.put, List.setIfInBounds_toArray, List.set_cons_zero, List.set_cons_succ])
        refine wpAnyH_take (i := 12) (oi := _) (v := undef) (by rw [List.getElem?_toArray]; exact rfl) (by kernel_rfl) (by kernel_rfl) (by kernel_rfl) (by intro _ _ _ h; exact h) (Or.inr ⟨by kernel_rfl, rfl⟩) hHeld ?_
        (try simp only [Act.put, List.setIfInBounds_toArray, List.set_cons_zero, List.set_cons_succ])
        refine wpAnyH_take (i := 13) (oi := _) (v := undef) (by rw [List.getElem?_toArray]; exact rfl) (by kernel_rfl) (by kernel_rfl) (by kernel_rfl) (by intro _ _ _ h; exact h) (Or.inr ⟨by kernel_rfl, rfl⟩) hHeld ?_
        (try simp only [Act.put, List.setIfInBounds_toArray, List.set_cons_zero, List.set_cons_succ])
        refine wpAnyH_take (i := 14) (oi := _) (v := undef) (by rw [List.getElem?_toArray]; exact rfl) (by kernel_rfl) (by kernel_rfl) (by kernel_rfl) (by intro _ _ _ h; exact h) (Or.inr ⟨by kernel_rfl, rfl⟩) hHeld ?_
        (try simp only [Act.put, List.setIfInBounds_toArray, List.set_cons_zero, List.set_cons_succ])
        refine wpAnyH_ready (rs := [15]) (by kernel_rfl) (by simp) ?_
        refine AllReadyH.cons (o := _) (by rw [List.getElem?_toArray]; exact rfl) (fun K hK => ?_) AllReadyH.nil
        rw [if_neg (by rw [show Region.wanted _ _ = false by kernel_rfl]; decide)]
        refine hK.out _ _ hHeld (fun hHeld => ?_)
        clear hK K
        (try simp only [Act.put, List.setIfInBounds_toArray, List.set_cons_zero, List.set_cons_succ])
        refine wpAnyH_take (i := 16) (oi := _) (v := undef) (by rw [List.getElem?_toArray]; exact rfl) (by kernel_rfl) (by kernel_rfl) (by kernel_rfl) (by intro _ _ _ h; exact h) (Or.inr ⟨by kernel_rfl, rfl⟩) hHeld ?_
        (try simp only [Act.put, List.setIfInBounds_toArray, List.set_cons_zero, List.set_cons_succ])
        refine wpAnyH_take (i := 17) (oi := _) (v := .bool true) (by rw [List.getElem?_toArray]; exact rfl) (by kernel_rfl) (by kernel_rfl) (by kernel_rfl) (by intro _ _ _ h; exact h) (Or.inl ⟨by kernel_rfl, ?y1_17⟩) hHeld ?_
        case y1_17 =>
          intro w hSw
          obtain ⟨c0, c1', c2', x0, x1⟩ := hSw
          go_simp
          (try with_reducible rfl)
        (try simp only [Act.put, List.setIfInBounds_toArray, List.set_cons_zero, List.set_cons_succ])
        refine wpAnyH_take (i := 18) (oi := _) (v := .bool true) (by rw [List.getElem?_toArray]; exact rfl) (by kernel_rfl) (by kernel_rfl) (by kernel_rfl) (by intro _ _ _ h; exact h) (Or.inl ⟨by kernel_rfl, ?y1_18⟩) hHeld ?_
        case y1_18 =>
          intro w hSw
          obtain ⟨c0, c1', c2', x0, x1⟩ := hSw
          go_simp
          (try with_reducible rfl)
        (try simp only [Act.put, List.setIfInBounds_toArray, List.set_cons_zero, List.set_cons_succ])
        refine wpAnyH_take (i := 19) (oi := _) (v := undef) (by rw [List.getElem?_toArray]; exact rfl) (by kernel_rfl) (by kernel_rfl) (by kernel_rfl) (by intro _ _ _ h; exact h) (Or.inr ⟨by kernel_rfl, rfl⟩) hHeld ?_
        (try simp only [Act.put, List.setIfInBounds_toArray, List.set_cons_zero, List.set_cons_succ])
        refine wpAnyH_take (i := 20) (oi := _) (v := undef) (by rw [List.getElem?_toArray]; exact rfl) (by kernel_rfl) (by kernel_rfl) (by kernel_rfl) (by intro _ _ _ h; exact h) (Or.inr ⟨by kernel_rfl, rfl⟩) hHeld ?_
        (try simp only [Act.put, List.setIfInBounds_toArray, List.set_cons_zero, List.set_cons_succ])
        refine wpAnyH_take (i := 21) (oi := _) (v := undef) (by rw [List.getElem?_toArray]; exact rfl) (by kernel_rfl) (by kernel_rfl) (by kernel_rfl) (by intro _ _ _ h; exact h) (Or.inr ⟨by kernel_rfl, rfl⟩) hHeld ?_
        (try simp only [Act.put, List.setIfInBounds_toArray, List.set_cons_zero, List.set_cons_succ])
        refine wpAnyH_take (i := 22) (oi := _) (v := undef) (by rw [List.getElem?_toArray]; exact rfl) (by kernel_rfl) (by kernel_rfl) (by kernel_rfl) (by intro _ _ _ h; exact h) (Or.inr ⟨by kernel_rfl, rfl⟩) hHeld ?_
        (try simp only [Act.put, List.setIfInBounds_toArray, List.set_cons_zero, List.set_cons_succ])
        refine wpAnyH_take (i := 23) (oi := _) (v := undef) (by rw [List.getElem?_toArray]; exact rfl) (by kernel_rfl) (by kernel_rfl) (by kernel_rfl) (by intro _ _ _ h; exact h) (Or.inr ⟨by kernel_rfl, rfl⟩) hHeld ?_
        (try simp only [Act.put, List.setIfInBounds_toArray, List.set_cons_zero, List.set_cons_succ])
        refine wpAnyH_take (i := 24) (oi := _) (v := undef) (by rw [List.getElem?_toArray]; exact rfl) (by kernel_rfl) (by kernel_rfl) (by kernel_rfl) (by intro _ _ _ h; exact h) (Or.inr ⟨by kernel_rfl, rfl⟩) hHeld ?_
        (try simp only [Act.put, List.setIfInBounds_toArray, List.set_cons_zero, List.set_cons_succ])
        refine wpAnyH_take (i := 25) (oi := _) (v := undef) (by rw [List.getElem?_toArray]; exact rfl) (by kernel_rfl) (by kernel_rfl) (by kernel_rfl) (by intro _ _ _ h; exact h) (Or.inr ⟨by kernel_rfl, rfl⟩) hHeld ?_
        (try simp only [Act.put, List.setIfInBounds_toArray, List.set_cons_zero, List.set_cons_succ])
        refine wpAnyH_take (i := 27) (oi := _) (v := undef) (by rw [List.getElem?_toArray]; exact rfl) (by kernel_rfl) (by kernel_rfl) (by kernel_rfl) (by intro _ _ _ h; exact h) (Or.inr ⟨by kernel_rfl, rfl⟩) hHeld ?_
        (try simp only [Act.put, List.setIfInBounds_toArray, List.set_cons_zero, List.set_cons_succ])
        refine wpAnyH_ready (rs := [26]) (by kernel_rfl) (by simp) ?_
        refine AllReadyH.cons (o := _) (by rw [List.getElem?_toArray]; exact rfl) (fun K hK => ?_) AllReadyH.nil
        rw [if_neg (by rw [show Region.wanted _ _ = false by kernel_rfl]; decide)]
        refine hK.out _ _ hHeld (fun hHeld => ?_)
        clear hK K
        (try simp only [Act.put, List.setIfInBounds_toArray, List.set_cons_zero, List.set_cons_succ])
        refine wpAnyH_take (i := 28) (oi := _) (v := undef) (by rw [List.getElem?_toArray]; exact rfl) (by kernel_rfl) (by kernel_rfl) (by kernel_rfl) (by intro _ _ _ h; exact h) (Or.inr ⟨by kernel_rfl, rfl⟩) hHeld ?_
        (try simp only [Act.put, List.setIfInBounds_toArray, List.set_cons_zero, List.set_cons_succ])
        refine wpAnyH_take (i := 29) (oi := _) (v := .bool true) (by rw [List.getElem?_toArray]; exact rfl) (by kernel_rfl) (by kernel_rfl) (by kernel_rfl) (by intro _ _ _ h; exact h) (Or.inl ⟨by kernel_rfl, ?y1_29⟩) hHeld ?_
        case y1_29 =>
          intro w hSw
          obtain ⟨c0, c1', c2', x0, x1⟩ := hSw
          go_simp
          (try with_reducible rfl)
        (try simp only [Act.put, List.setIfInBounds_toArray, List.set_cons_zero, List.set_cons_succ])
        refine wpAnyH_done (by kernel_rfl) ?_ _
        (try simp only [Exit.then])
        go_wp2
        go_ret
        exact ⟨by rw [HRV.out]; rfl, HB0.out.trans (HBD.out.mono HGS.out)⟩
      by_cases hk : 1 ≤ kd ∧ kd ≤ 3
      case neg =>
        have HRV : Hid (R = false) := by
          show _ = _
          rw [← HR.out]
          exact decide_eq_false fun hh => hk (hh.1 _ (List.mem_of_getElem? HX.out)).2
        refine wp_region_held_drew (S := fun w' => w'.cell? ⟨g, 0, none⟩ = some (.slice (some ⟨p1, o1, none⟩) n1 c1) ∧ w'.cell? ⟨g, 1, none⟩ = some (.slice a2 n2 c2) ∧ w'.cell? ⟨g, 2, none⟩ = some (.slice a3 n3 c3) ∧ w'.cell? ⟨p1, o1 + j * 3, none⟩ = some (.string nm) ∧ w'.cell? ⟨p1, o1 + j * 3 + 1, none⟩ = some (.int .i64 kd)) (by kernel_rfl) K0.out (fun hHeld => ?_)
        refine wpAnyH_take (i := 0) (oi := _) (v := ?v2_0) (by rw [List.getElem?_toArray]; exact rfl) (by kernel_rfl) (by kernel_rfl) (by kernel_rfl) (by intro _ _ _ h; exact h) (Or.inl ⟨by kernel_rfl, ?y2_0⟩) hHeld ?_
        case y2_0 =>
          intro w hSw
          obtain ⟨c0, c1', c2', x0, x1⟩ := hSw
          go_simp
          (try with_reducible rfl)
        (try simp only [Act.put, List.setIfInBounds_toArray, List.set_cons_zero, List.set_cons_succ])
        refine wpAnyH_take (i := 1) (oi := _) (v := ?v2_1) (by rw [List.getElem?_toArray]; exact rfl) (by kernel_rfl) (by kernel_rfl) (by kernel_rfl) (by intro _ _ _ h; exact h) (Or.inl ⟨by kernel_rfl, ?y2_1⟩) hHeld ?_
        case y2_1 =>
          intro w hSw
          obtain ⟨c0, c1', c2', x0, x1⟩ := hSw
          go_simp
          (try with_reducible rfl)
        (try simp only [Act.put, List.setIfInBounds_toArray, List.set_cons_zero, List.set_cons_succ])
        refine wpAnyH_take (i := 2) (oi := _) (v := ?v2_2) (by rw [List.getElem?_toArray]; exact rfl) (by kernel_rfl) (by kernel_rfl) (by kernel_rfl) (by intro _ _ _ h; exact h) (Or.inl ⟨by kernel_rfl, ?y2_2⟩) hHeld ?_
        case y2_2 =>
          intro w hSw
          obtain ⟨c0, c1', c2', x0, x1⟩ := hSw
          go_simp
          (try with_reducible rfl)
        (try simp only [Act.put, List.setIfInBounds_toArray, List.set_cons_zero, List.set_cons_succ])
        refine wpAnyH_take (i := 3) (oi := _) (v := ?v2_3) (by rw [List.getElem?_toArray]; exact rfl) (by kernel_rfl) (by kernel_rfl) (by kernel_rfl) (by intro _ _ _ h; exact h) (Or.inl ⟨by kernel_rfl, ?y2_3⟩) hHeld ?_
        case y2_3 =>
          intro w hSw
          obtain ⟨c0, c1', c2', x0, x1⟩ := hSw
          go_simp
          (try with_reducible rfl)
        (try simp only [Act.put, List.setIfInBounds_toArray, List.set_cons_zero, List.set_cons_succ])
        refine wpAnyH_take (i := 4) (oi := _) (v := ?v2_4) (by rw [List.getElem?_toArray]; exact rfl) (by kernel_rfl) (by kernel_rfl) (by kernel_rfl) (by intro _ _ _ h; exact h) (Or.inl ⟨by kernel_rfl, ?y2_4⟩) hHeld ?_
        case y2_4 =>
          intro w hSw
          obtain ⟨c0, c1', c2', x0, x1⟩ := hSw
          go_simp
          (try with_reducible rfl)
        (try simp only [Act.put, List.setIfInBounds_toArray, List.set_cons_zero, List.set_cons_succ])
        refine wpAnyH_take (i := 5) (oi := _) (v := ?v2_5) (by rw [List.getElem?_toArray]; exact rfl) (by kernel_rfl) (by kernel_rfl) (by kernel_rfl) (by intro _ _ _ h; exact h) (Or.inl ⟨by kernel_rfl, ?y2_5⟩) hHeld ?_
        case y2_5 =>
          intro w hSw
          obtain ⟨c0, c1', c2', x0, x1⟩ := hSw
          go_simp
          (try with_reducible rfl)
        (try simp only [Act.put, List.setIfInBounds_toArray, List.set_cons_zero, List.set_cons_succ])
        refine wpAnyH_ready (rs := [6]) (by kernel_rfl) (by simp) ?_
        refine AllReadyH.cons (o := _) (by rw [List.getElem?_toArray]; exact rfl) (fun K hK => ?_) AllReadyH.nil
        rw [if_pos (by kernel_rfl)]
        go_simp
        refine (specColNameOk_any nm hsn _).mono ?_
        rintro e w2 ⟨rfl, rfl⟩
        rw [decide_eq_true hv]
        refine hK.out _ _ hHeld (fun hHeld => ?_)
        clear hK K
        (try simp only [Act.put, List.setIfInBounds_toArray, List.set_cons_zero, List.set_cons_succ])
        refine wpAnyH_take (i := 7) (oi := _) (v := .bool false) (by rw [List.getElem?_toArray]; exact rfl) (by kernel_rfl) (by kernel_rfl) (by kernel_rfl) (by intro _ _ _ h; exact h) (Or.inl ⟨by kernel_rfl, ?y2_7⟩) hHeld ?_
        case y2_7 =>
          intro w hSw
          obtain ⟨c0, c1', c2', x0, x1⟩ := hSw
          go_simp
          (try with_reducible rfl)
        (try simp only [Act.put, List.setIfInBounds_toArray, List.set_cons_zero, List.set_cons_succ])
        refine wpAnyH_take (i := 8) (oi := _) (v := .bool false) (by rw [List.getElem?_toArray]; exact rfl) (by kernel_rfl) (by kernel_rfl) (by kernel_rfl) (by intro _ _ _ h; exact h) (Or.inl ⟨by kernel_rfl, ?y2_8⟩) hHeld ?_
        case y2_8 =>
          intro w hSw
          obtain ⟨c0, c1', c2', x0, x1⟩ := hSw
          go_simp
          (try with_reducible rfl)
        (try simp only [Act.put, List.setIfInBounds_toArray, List.set_cons_zero, List.set_cons_succ])
        refine wpAnyH_take (i := 9) (oi := _) (v := ?v2_9) (by rw [List.getElem?_toArray]; exact rfl) (by kernel_rfl) (by kernel_rfl) (by kernel_rfl) (by intro _ _ _ h; exact h) (Or.inl ⟨by kernel_rfl, ?y2_9⟩) hHeld ?_
        case y2_9 =>
          intro w hSw
          obtain ⟨c0, c1', c2', x0, x1⟩ := hSw
          go_simp
          (try with_reducible rfl)
        (try simp only [Act.put, List.setIfInBounds_toArray, List.set_cons_zero, List.set_cons_succ])
        refine wpAnyH_take (i := 10) (oi := _) (v := ?v2_10) (by rw [List.getElem?_toArray]; exact rfl) (by kernel_rfl) (by kernel_rfl) (by kernel_rfl) (by intro _ _ _ h; exact h) (Or.inl ⟨by kernel_rfl, ?y2_10⟩) hHeld ?_
        case y2_10 =>
          intro w hSw
          obtain ⟨c0, c1', c2', x0, x1⟩ := hSw
          go_simp
          (try with_reducible rfl)
        (try simp only [Act.put, List.setIfInBounds_toArray, List.set_cons_zero, List.set_cons_succ])
        refine wpAnyH_take (i := 11) (oi := _) (v := ?v2_11) (by rw [List.getElem?_toArray]; exact rfl) (by kernel_rfl) (by kernel_rfl) (by kernel_rfl) (by intro _ _ _ h; exact h) (Or.inl ⟨by kernel_rfl, ?y2_11⟩) hHeld ?_
        case y2_11 =>
          intro w hSw
          obtain ⟨c0, c1', c2', x0, x1⟩ := hSw
          go_simp
          (try with_reducible rfl)
        (try simp only [Act.put, List.setIfInBounds_toArray, List.set_cons_zero, List.set_cons_succ])
        refine wpAnyH_take (i := 12) (oi := _) (v := ?v2_12) (by rw [List.getElem?_toArray]; exact rfl) (by kernel_rfl) (by kernel_rfl) (by kernel_rfl) (by intro _ _ _ h; exact h) (Or.inl ⟨by kernel_rfl, ?y2_12⟩) hHeld ?_
        case y2_12 =>
          intro w hSw
          obtain ⟨c0, c1', c2', x0, x1⟩ := hSw
          go_simp
          (try with_reducible rfl)
        (try simp only [Act.put, List.setIfInBounds_toArray, List.set_cons_zero, List.set_cons_succ])
        refine wpAnyH_take (i := 13) (oi := _) (v := ?v2_13) (by rw [List.getElem?_toArray]; exact rfl) (by kernel_rfl) (by kernel_rfl) (by kernel_rfl) (by intro _ _ _ h; exact h) (Or.inl ⟨by kernel_rfl, ?y2_13⟩) hHeld ?_
        case y2_13 =>
          intro w hSw
          obtain ⟨c0, c1', c2', x0, x1⟩ := hSw
          go_simp
          (try with_reducible rfl)
        (try simp only [Act.put, List.setIfInBounds_toArray, List.set_cons_zero, List.set_cons_succ])
        refine wpAnyH_take (i := 14) (oi := _) (v := ?v2_14) (by rw [List.getElem?_toArray]; exact rfl) (by kernel_rfl) (by kernel_rfl) (by kernel_rfl) (by intro _ _ _ h; exact h) (Or.inl ⟨by kernel_rfl, ?y2_14⟩) hHeld ?_
        case y2_14 =>
          intro w hSw
          obtain ⟨c0, c1', c2', x0, x1⟩ := hSw
          go_simp
          (try with_reducible rfl)
        (try simp only [Act.put, List.setIfInBounds_toArray, List.set_cons_zero, List.set_cons_succ])
        refine wpAnyH_ready (rs := [15]) (by kernel_rfl) (by simp) ?_
        refine AllReadyH.cons (o := _) (by rw [List.getElem?_toArray]; exact rfl) (fun K hK => ?_) AllReadyH.nil
        rw [if_pos (by kernel_rfl)]
        go_simp
        refine (l1In_g _ _ _ _).mono ?_
        rintro e w3 ⟨rfl, rfl⟩
        rw [inB_no hk]
        refine hK.out _ _ hHeld (fun hHeld => ?_)
        clear hK K
        (try simp only [Act.put, List.setIfInBounds_toArray, List.set_cons_zero, List.set_cons_succ])
        refine wpAnyH_take (i := 16) (oi := _) (v := .bool true) (by rw [List.getElem?_toArray]; exact rfl) (by kernel_rfl) (by kernel_rfl) (by kernel_rfl) (by intro _ _ _ h; exact h) (Or.inl ⟨by kernel_rfl, ?y2_16⟩) hHeld ?_
        case y2_16 =>
          intro w hSw
          obtain ⟨c0, c1', c2', x0, x1⟩ := hSw
          go_simp
          (try with_reducible rfl)
        (try simp only [Act.put, List.setIfInBounds_toArray, List.set_cons_zero, List.set_cons_succ])
        refine wpAnyH_take (i := 17) (oi := _) (v := .bool true) (by rw [List.getElem?_toArray]; exact rfl) (by kernel_rfl) (by kernel_rfl) (by kernel_rfl) (by intro _ _ _ h; exact h) (Or.inl ⟨by kernel_rfl, ?y2_17⟩) hHeld ?_
        case y2_17 =>
          intro w hSw
          obtain ⟨c0, c1', c2', x0, x1⟩ := hSw
          go_simp
          (try with_reducible rfl)
        (try simp only [Act.put, List.setIfInBounds_toArray, List.set_cons_zero, List.set_cons_succ])
        refine wpAnyH_take (i := 18) (oi := _) (v := .bool true) (by rw [List.getElem?_toArray]; exact rfl) (by kernel_rfl) (by kernel_rfl) (by kernel_rfl) (by intro _ _ _ h; exact h) (Or.inl ⟨by kernel_rfl, ?y2_18⟩) hHeld ?_
        case y2_18 =>
          intro w hSw
          obtain ⟨c0, c1', c2', x0, x1⟩ := hSw
          go_simp
          (try with_reducible rfl)
        (try simp only [Act.put, List.setIfInBounds_toArray, List.set_cons_zero, List.set_cons_succ])
        refine wpAnyH_take (i := 19) (oi := _) (v := undef) (by rw [List.getElem?_toArray]; exact rfl) (by kernel_rfl) (by kernel_rfl) (by kernel_rfl) (by intro _ _ _ h; exact h) (Or.inr ⟨by kernel_rfl, rfl⟩) hHeld ?_
        (try simp only [Act.put, List.setIfInBounds_toArray, List.set_cons_zero, List.set_cons_succ])
        refine wpAnyH_take (i := 20) (oi := _) (v := undef) (by rw [List.getElem?_toArray]; exact rfl) (by kernel_rfl) (by kernel_rfl) (by kernel_rfl) (by intro _ _ _ h; exact h) (Or.inr ⟨by kernel_rfl, rfl⟩) hHeld ?_
        (try simp only [Act.put, List.setIfInBounds_toArray, List.set_cons_zero, List.set_cons_succ])
        refine wpAnyH_take (i := 21) (oi := _) (v := undef) (by rw [List.getElem?_toArray]; exact rfl) (by kernel_rfl) (by kernel_rfl) (by kernel_rfl) (by intro _ _ _ h; exact h) (Or.inr ⟨by kernel_rfl, rfl⟩) hHeld ?_
        (try simp only [Act.put, List.setIfInBounds_toArray, List.set_cons_zero, List.set_cons_succ])
        refine wpAnyH_take (i := 22) (oi := _) (v := undef) (by rw [List.getElem?_toArray]; exact rfl) (by kernel_rfl) (by kernel_rfl) (by kernel_rfl) (by intro _ _ _ h; exact h) (Or.inr ⟨by kernel_rfl, rfl⟩) hHeld ?_
        (try simp only [Act.put, List.setIfInBounds_toArray, List.set_cons_zero, List.set_cons_succ])
        refine wpAnyH_take (i := 23) (oi := _) (v := undef) (by rw [List.getElem?_toArray]; exact rfl) (by kernel_rfl) (by kernel_rfl) (by kernel_rfl) (by intro _ _ _ h; exact h) (Or.inr ⟨by kernel_rfl, rfl⟩) hHeld ?_
        (try simp only [Act.put, List.setIfInBounds_toArray, List.set_cons_zero, List.set_cons_succ])
        refine wpAnyH_take (i := 24) (oi := _) (v := undef) (by rw [List.getElem?_toArray]; exact rfl) (by kernel_rfl) (by kernel_rfl) (by kernel_rfl) (by intro _ _ _ h; exact h) (Or.inr ⟨by kernel_rfl, rfl⟩) hHeld ?_
        (try simp only [Act.put, List.setIfInBounds_toArray, List.set_cons_zero, List.set_cons_succ])
        refine wpAnyH_take (i := 25) (oi := _) (v := undef) (by rw [List.getElem?_toArray]; exact rfl) (by kernel_rfl) (by kernel_rfl) (by kernel_rfl) (by intro _ _ _ h; exact h) (Or.inr ⟨by kernel_rfl, rfl⟩) hHeld ?_
        (try simp only [Act.put, List.setIfInBounds_toArray, List.set_cons_zero, List.set_cons_succ])
        refine wpAnyH_take (i := 27) (oi := _) (v := undef) (by rw [List.getElem?_toArray]; exact rfl) (by kernel_rfl) (by kernel_rfl) (by kernel_rfl) (by intro _ _ _ h; exact h) (Or.inr ⟨by kernel_rfl, rfl⟩) hHeld ?_
        (try simp only [Act.put, List.setIfInBounds_toArray, List.set_cons_zero, List.set_cons_succ])
        refine wpAnyH_ready (rs := [26]) (by kernel_rfl) (by simp) ?_
        refine AllReadyH.cons (o := _) (by rw [List.getElem?_toArray]; exact rfl) (fun K hK => ?_) AllReadyH.nil
        rw [if_neg (by rw [show Region.wanted _ _ = false by kernel_rfl]; decide)]
        refine hK.out _ _ hHeld (fun hHeld => ?_)
        clear hK K
        (try simp only [Act.put, List.setIfInBounds_toArray, List.set_cons_zero, List.set_cons_succ])
        refine wpAnyH_take (i := 28) (oi := _) (v := undef) (by rw [List.getElem?_toArray]; exact rfl) (by kernel_rfl) (by kernel_rfl) (by kernel_rfl) (by intro _ _ _ h; exact h) (Or.inr ⟨by kernel_rfl, rfl⟩) hHeld ?_
        (try simp only [Act.put, List.setIfInBounds_toArray, List.set_cons_zero, List.set_cons_succ])
        refine wpAnyH_take (i := 29) (oi := _) (v := .bool true) (by rw [List.getElem?_toArray]; exact rfl) (by kernel_rfl) (by kernel_rfl) (by kernel_rfl) (by intro _ _ _ h; exact h) (Or.inl ⟨by kernel_rfl, ?y2_29⟩) hHeld ?_
        case y2_29 =>
          intro w hSw
          obtain ⟨c0, c1', c2', x0, x1⟩ := hSw
          go_simp
          (try with_reducible rfl)
        (try simp only [Act.put, List.setIfInBounds_toArray, List.set_cons_zero, List.set_cons_succ])
        refine wpAnyH_done (by kernel_rfl) ?_ _
        (try simp only [Exit.then])
        go_wp2
        go_ret
        exact ⟨by rw [HRV.out]; rfl, HB0.out.trans (HBD.out.mono HGS.out)⟩
      obtain ⟨ca, hca⟩ : ∃ ca, colAt S.cols nm = ca := ⟨_, rfl⟩
      have HCA : Hid (colAt S.cols nm = ca) := hca
      have HV1 : Hid (CnGood nm ∧ 1 ≤ kd ∧ kd ≤ 3) := ⟨hv, hk⟩
      by_cases hcj : ca = (j : Int)
      · have hcb : (ca != (j : Int)) = false := by simpa using hcj
        have HQ1 : Hid (∀ x ∈ S.cols.take (j + 1), CnGood x.1 ∧ 1 ≤ x.2.1 ∧ x.2.1 ≤ 3) := take_all HQ.out HX.out HV1.out
        have HN1 : Hid (((S.cols.take (j + 1)).map (·.1)).Nodup) := by
          show List.Nodup _
          have h1 := HN.out
          have h2 := (col_self S.cols j _ HX.out).1 (by show colAt S.cols nm = _; rw [hca, hcj])
          rw [List.map_take] at h1 ⊢
          refine take_nodup h1 (by rw [List.getElem?_map, HX.out]; rfl) ?_
          intro y hy
          rw [← List.map_take] at hy
          obtain ⟨z, hz, rfl⟩ := List.mem_map.1 hy
          exact h2 z hz
        clear hca hcj
        refine wp_region_held_drew (S := fun w' => w'.cell? ⟨g, 0, none⟩ = some (.slice (some ⟨p1, o1, none⟩) n1 c1) ∧ w'.cell? ⟨g, 1, none⟩ = some (.slice a2 n2 c2) ∧ w'.cell? ⟨g, 2, none⟩ = some (.slice a3 n3 c3) ∧ w'.cell? ⟨p1, o1 + j * 3, none⟩ = some (.string nm) ∧ w'.cell? ⟨p1, o1 + j * 3 + 1, none⟩ = some (.int .i64 kd)) (by kernel_rfl) K0.out (fun hHeld => ?_)
        refine wpAnyH_take (i := 0) (oi := _) (v := ?v3_0) (by rw [List.getElem?_toArray]; exact rfl) (by kernel_rfl) (by kernel_rfl) (by kernel_rfl) (by intro _ _ _ h; exact h) (Or.inl ⟨by kernel_rfl, ?y3_0⟩) hHeld ?_
        case y3_0 =>
          intro w hSw
          obtain ⟨c0, c1', c2', x0, x1⟩ := hSw
          go_simp
          (try with_reducible rfl)
        (try simp only [Act.put, List.setIfInBounds_toArray, List.set_cons_zero, List.set_cons_succ])
        refine wpAnyH_take (i := 1) (oi := _) (v := ?v3_1) (by rw [List.getElem?_toArray]; exact rfl) (by kernel_rfl) (by kernel_rfl) (by kernel_rfl) (by intro _ _ _ h; exact h) (Or.inl ⟨by kernel_rfl, ?y3_1⟩) hHeld ?_
        case y3_1 =>
          intro w hSw
          obtain ⟨c0, c1', c2', x0, x1⟩ := hSw
          go_simp
          (try with_reducible rfl)
        (try simp only [Act.put, List.setIfInBounds_toArray, List.set_cons_zero, List.set_cons_succ])
        refine wpAnyH_take (i := 2) (oi := _) (v := ?v3_2) (by rw [List.getElem?_toArray]; exact rfl) (by kernel_rfl) (by kernel_rfl) (by kernel_rfl) (by intro _ _ _ h; exact h) (Or.inl ⟨by kernel_rfl, ?y3_2⟩) hHeld ?_
        case y3_2 =>
          intro w hSw
          obtain ⟨c0, c1', c2', x0, x1⟩ := hSw
          go_simp
          (try with_reducible rfl)
        (try simp only [Act.put, List.setIfInBounds_toArray, List.set_cons_zero, List.set_cons_succ])
        refine wpAnyH_take (i := 3) (oi := _) (v := ?v3_3) (by rw [List.getElem?_toArray]; exact rfl) (by kernel_rfl) (by kernel_rfl) (by kernel_rfl) (by intro _ _ _ h; exact h) (Or.inl ⟨by kernel_rfl, ?y3_3⟩) hHeld ?_
        case y3_3 =>
          intro w hSw
          obtain ⟨c0, c1', c2', x0, x1⟩ := hSw
          go_simp
          (try with_reducible rfl)
        (try simp only [Act.put, List.setIfInBounds_toArray, List.set_cons_zero, List.set_cons_succ])
        refine wpAnyH_take (i := 4) (oi := _) (v := ?v3_4) (by rw [List.getElem?_toArray]; exact rfl) (by kernel_rfl) (by kernel_rfl) (by kernel_rfl) (by intro _ _ _ h; exact h) (Or.inl ⟨by kernel_rfl, ?y3_4⟩) hHeld ?_
        case y3_4 =>
          intro w hSw
          obtain ⟨c0, c1', c2', x0, x1⟩ := hSw
          go_simp
          (try with_reducible rfl)
        (try simp only [Act.put, List.setIfInBounds_toArray, List.set_cons_zero, List.set_cons_succ])
        refine wpAnyH_take (i := 5) (oi := _) (v := ?v3_5) (by rw [List.getElem?_toArray]; exact rfl) (by kernel_rfl) (by kernel_rfl) (by kernel_rfl) (by intro _ _ _ h; exact h) (Or.inl ⟨by kernel_rfl, ?y3_5⟩) hHeld ?_
        case y3_5 =>
          intro w hSw
          obtain ⟨c0, c1', c2', x0, x1⟩ := hSw
          go_simp
          (try with_reducible rfl)
        (try simp only [Act.put, List.setIfInBounds_toArray, List.set_cons_zero, List.set_cons_succ])
        refine wpAnyH_ready (rs := [6]) (by kernel_rfl) (by simp) ?_
        refine AllReadyH.cons (o := _) (by rw [List.getElem?_toArray]; exact rfl) (fun K hK => ?_) AllReadyH.nil
        rw [if_pos (by kernel_rfl)]
        go_simp
        refine (specColNameOk_any nm hsn _).mono ?_
        rintro e w2 ⟨rfl, rfl⟩
        rw [decide_eq_true hv]
        refine hK.out _ _ hHeld (fun hHeld => ?_)
        clear hK K
        (try simp only [Act.put, List.setIfInBounds_toArray, List.set_cons_zero, List.set_cons_succ])
        refine wpAnyH_take (i := 7) (oi := _) (v := .bool false) (by rw [List.getElem?_toArray]; exact rfl) (by kernel_rfl) (by kernel_rfl) (by kernel_rfl) (by intro _ _ _ h; exact h) (Or.inl ⟨by kernel_rfl, ?y3_7⟩) hHeld ?_
        case y3_7 =>
          intro w hSw
          obtain ⟨c0, c1', c2', x0, x1⟩ := hSw
          go_simp
          (try with_reducible rfl)
        (try simp only [Act.put, List.setIfInBounds_toArray, List.set_cons_zero, List.set_cons_succ])
        refine wpAnyH_take (i := 8) (oi := _) (v := .bool false) (by rw [List.getElem?_toArray]; exact rfl) (by kernel_rfl) (by kernel_rfl) (by kernel_rfl) (by intro _ _ _ h; exact h) (Or.inl ⟨by kernel_rfl, ?y3_8⟩) hHeld ?_
        case y3_8 =>
          intro w hSw
          obtain ⟨c0, c1', c2', x0, x1⟩ := hSw
          go_simp
          (try with_reducible rfl)
        (try simp only [Act.put, List.setIfInBounds_toArray, List.set_cons_zero, List.set_cons_succ])
        refine wpAnyH_take (i := 9) (oi := _) (v := ?v3_9) (by rw [List.getElem?_toArray]; exact rfl) (by kernel_rfl) (by kernel_rfl) (by kernel_rfl) (by intro _ _ _ h; exact h) (Or.inl ⟨by kernel_rfl, ?y3_9⟩) hHeld ?_
        case y3_9 =>
          intro w hSw
          obtain ⟨c0, c1', c2', x0, x1⟩ := hSw
          go_simp
          (try with_reducible rfl)
        (try simp only [Act.put, List.setIfInBounds_toArray, List.set_cons_zero, List.set_cons_succ])
        refine wpAnyH_take (i := 10) (oi := _) (v := ?v3_10) (by rw [List.getElem?_toArray]; exact rfl) (by kernel_rfl) (by kernel_rfl) (by kernel_rfl) (by intro _ _ _ h; exact h) (Or.inl ⟨by kernel_rfl, ?y3_10⟩) hHeld ?_
        case y3_10 =>
          intro w hSw
          obtain ⟨c0, c1', c2', x0, x1⟩ := hSw
          go_simp
          (try with_reducible rfl)
        (try simp only [Act.put, List.setIfInBounds_toArray, List.set_cons_zero, List.set_cons_succ])
        refine wpAnyH_take (i := 11) (oi := _) (v := ?v3_11) (by rw [List.getElem?_toArray]; exact rfl) (by kernel_rfl) (by kernel_rfl) (by kernel_rfl) (by intro _ _ _ h; exact h) (Or.inl ⟨by kernel_rfl, ?y3_11⟩) hHeld ?_
        case y3_11 =>
          intro w hSw
          obtain ⟨c0, c1', c2', x0, x1⟩ := hSw
          go_simp
          (try with_reducible rfl)
        (try simp only [Act.put, List.setIfInBounds_toArray, List.set_cons_zero, List.set_cons_succ])
        refine wpAnyH_take (i := 12) (oi := _) (v := ?v3_12) (by rw [List.getElem?_toArray]; exact rfl) (by kernel_rfl) (by kernel_rfl) (by kernel_rfl) (by intro _ _ _ h; exact h) (Or.inl ⟨by kernel_rfl, ?y3_12⟩) hHeld ?_
        case y3_12 =>
          intro w hSw
          obtain ⟨c0, c1', c2', x0, x1⟩ := hSw
          go_simp
          (try with_reducible rfl)
        (try simp only [Act.put, List.setIfInBounds_toArray, List.set_cons_zero, List.set_cons_succ])
        refine wpAnyH_take (i := 13) (oi := _) (v := ?v3_13) (by rw [List.getElem?_toArray]; exact rfl) (by kernel_rfl) (by kernel_rfl) (by kernel_rfl) (by intro _ _ _ h; exact h) (Or.inl ⟨by kernel_rfl, ?y3_13⟩) hHeld ?_
        case y3_13 =>
          intro w hSw
          obtain ⟨c0, c1', c2', x0, x1⟩ := hSw
          go_simp
          (try with_reducible rfl)
        (try simp only [Act.put, List.setIfInBounds_toArray, List.set_cons_zero, List.set_cons_succ])
        refine wpAnyH_take (i := 14) (oi := _) (v := ?v3_14) (by rw [List.getElem?_toArray]; exact rfl) (by kernel_rfl) (by kernel_rfl) (by kernel_rfl) (by intro _ _ _ h; exact h) (Or.inl ⟨by kernel_rfl, ?y3_14⟩) hHeld ?_
        case y3_14 =>
          intro w hSw
          obtain ⟨c0, c1', c2', x0, x1⟩ := hSw
          go_simp
          (try with_reducible rfl)
        (try simp only [Act.put, List.setIfInBounds_toArray, List.set_cons_zero, List.set_cons_succ])
        refine wpAnyH_ready (rs := [15]) (by kernel_rfl) (by simp) ?_
        refine AllReadyH.cons (o := _) (by rw [List.getElem?_toArray]; exact rfl) (fun K hK => ?_) AllReadyH.nil
        rw [if_pos (by kernel_rfl)]
        go_simp
        refine (l1In_g _ _ _ _).mono ?_
        rintro e w3 ⟨rfl, rfl⟩
        rw [inB_yes hk]
        refine hK.out _ _ hHeld (fun hHeld => ?_)
        clear hK K
        (try simp only [Act.put, List.setIfInBounds_toArray, List.set_cons_zero, List.set_cons_succ])
        refine wpAnyH_take (i := 16) (oi := _) (v := .bool false) (by rw [List.getElem?_toArray]; exact rfl) (by kernel_rfl) (by kernel_rfl) (by kernel_rfl) (by intro _ _ _ h; exact h) (Or.inl ⟨by kernel_rfl, ?y3_16⟩) hHeld ?_
        case y3_16 =>
          intro w hSw
          obtain ⟨c0, c1', c2', x0, x1⟩ := hSw
          go_simp
          (try with_reducible rfl)
        (try simp only [Act.put, List.setIfInBounds_toArray, List.set_cons_zero, List.set_cons_succ])
        refine wpAnyH_take (i := 17) (oi := _) (v := .bool false) (by rw [List.getElem?_toArray]; exact rfl) (by kernel_rfl) (by kernel_rfl) (by kernel_rfl) (by intro _ _ _ h; exact h) (Or.inl ⟨by kernel_rfl, ?y3_17⟩) hHeld ?_
        case y3_17 =>
          intro w hSw
          obtain ⟨c0, c1', c2', x0, x1⟩ := hSw
          go_simp
          (try with_reducible rfl)
        (try simp only [Act.put, List.setIfInBounds_toArray, List.set_cons_zero, List.set_cons_succ])
        refine wpAnyH_take (i := 18) (oi := _) (v := .bool false) (by rw [List.getElem?_toArray]; exact rfl) (by kernel_rfl) (by kernel_rfl) (by kernel_rfl) (by intro _ _ _ h; exact h) (Or.inl ⟨by kernel_rfl, ?y3_18⟩) hHeld ?_
        case y3_18 =>
          intro w hSw
          obtain ⟨c0, c1', c2', x0, x1⟩ := hSw
          go_simp
          (try with_reducible rfl)
        (try simp only [Act.put, List.setIfInBounds_toArray, List.set_cons_zero, List.set_cons_succ])
        refine wpAnyH_take (i := 19) (oi := _) (v := ?v3_19) (by rw [List.getElem?_toArray]; exact rfl) (by kernel_rfl) (by kernel_rfl) (by kernel_rfl) (by intro _ _ _ h; exact h) (Or.inl ⟨by kernel_rfl, ?y3_19⟩) hHeld ?_
        case y3_19 =>
          intro w hSw
          obtain ⟨c0, c1', c2', x0, x1⟩ := hSw
          go_simp
          (try with_reducible rfl)
        (try simp only [Act.put, List.setIfInBounds_toArray, List.set_cons_zero, List.set_cons_succ])
        refine wpAnyH_take (i := 20) (oi := _) (v := ?v3_20) (by rw [List.getElem?_toArray]; exact rfl) (by kernel_rfl) (by kernel_rfl) (by kernel_rfl) (by intro _ _ _ h; exact h) (Or.inl ⟨by kernel_rfl, ?y3_20⟩) hHeld ?_
        case y3_20 =>
          intro w hSw
          obtain ⟨c0, c1', c2', x0, x1⟩ := hSw
          go_simp
          (try with_reducible rfl)
        (try simp only [Act.put, List.setIfInBounds_toArray, List.set_cons_zero, List.set_cons_succ])
        refine wpAnyH_take (i := 21) (oi := _) (v := ?v3_21) (by rw [List.getElem?_toArray]; exact rfl) (by kernel_rfl) (by kernel_rfl) (by kernel_rfl) (by intro _ _ _ h; exact h) (Or.inl ⟨by kernel_rfl, ?y3_21⟩) hHeld ?_
        case y3_21 =>
          intro w hSw
          obtain ⟨c0, c1', c2', x0, x1⟩ := hSw
          go_simp
          (try with_reducible rfl)
        (try simp only [Act.put, List.setIfInBounds_toArray, List.set_cons_zero, List.set_cons_succ])
        refine wpAnyH_take (i := 22) (oi := _) (v := ?v3_22) (by rw [List.getElem?_toArray]; exact rfl) (by kernel_rfl) (by kernel_rfl) (by kernel_rfl) (by intro _ _ _ h; exact h) (Or.inl ⟨by kernel_rfl, ?y3_22⟩) hHeld ?_
        case y3_22 =>
          intro w hSw
          obtain ⟨c0, c1', c2', x0, x1⟩ := hSw
          go_simp
          (try with_reducible rfl)
        (try simp only [Act.put, List.setIfInBounds_toArray, List.set_cons_zero, List.set_cons_succ])
        refine wpAnyH_take (i := 23) (oi := _) (v := ?v3_23) (by rw [List.getElem?_toArray]; exact rfl) (by kernel_rfl) (by kernel_rfl) (by kernel_rfl) (by intro _ _ _ h; exact h) (Or.inl ⟨by kernel_rfl, ?y3_23⟩) hHeld ?_
        case y3_23 =>
          intro w hSw
          obtain ⟨c0, c1', c2', x0, x1⟩ := hSw
          go_simp
          (try with_reducible rfl)
        (try simp only [Act.put, List.setIfInBounds_toArray, List.set_cons_zero, List.set_cons_succ])
        refine wpAnyH_take (i := 24) (oi := _) (v := ?v3_24) (by rw [List.getElem?_toArray]; exact rfl) (by kernel_rfl) (by kernel_rfl) (by kernel_rfl) (by intro _ _ _ h; exact h) (Or.inl ⟨by kernel_rfl, ?y3_24⟩) hHeld ?_
        case y3_24 =>
          intro w hSw
          obtain ⟨c0, c1', c2', x0, x1⟩ := hSw
          go_simp
          (try with_reducible rfl)
        (try simp only [Act.put, List.setIfInBounds_toArray, List.set_cons_zero, List.set_cons_succ])
        refine wpAnyH_take (i := 25) (oi := _) (v := ?v3_25) (by rw [List.getElem?_toArray]; exact rfl) (by kernel_rfl) (by kernel_rfl) (by kernel_rfl) (by intro _ _ _ h; exact h) (Or.inl ⟨by kernel_rfl, ?y3_25⟩) hHeld ?_
        case y3_25 =>
          intro w hSw
          obtain ⟨c0, c1', c2', x0, x1⟩ := hSw
          go_simp
          (try with_reducible rfl)
        (try simp only [Act.put, List.setIfInBounds_toArray, List.set_cons_zero, List.set_cons_succ])
        refine wpAnyH_take (i := 27) (oi := _) (v := ?v3_27) (by rw [List.getElem?_toArray]; exact rfl) (by kernel_rfl) (by kernel_rfl) (by kernel_rfl) (by intro _ _ _ h; exact h) (Or.inl ⟨by kernel_rfl, ?y3_27⟩) hHeld ?_
        case y3_27 =>
          intro w hSw
          obtain ⟨c0, c1', c2', x0, x1⟩ := hSw
          go_simp
          (try with_reducible rfl)
        (try simp only [Act.put, List.setIfInBounds_toArray, List.set_cons_zero, List.set_cons_succ])
        refine wpAnyH_ready (rs := [26]) (by kernel_rfl) (by simp) ?_
        refine AllReadyH.cons (o := _) (by rw [List.getElem?_toArray]; exact rfl) (fun K hK => ?_) AllReadyH.nil
        rw [if_pos (by kernel_rfl)]
        go_simp
        refine (specColAt_any (some ⟨p1, o1, none⟩) n1 c1 a2 n2 c2 a3 n3 c3 S nm _ (HSA.out.below HBD.out (Nat.le_refl _))).mono ?_
        rintro e w4 ⟨rfl, hb4⟩
        rw [HCA.out]
        have Y4 : Hid (Below wr.drew.heap.size wr.drew w4) := hb4
        clear hb4
        refine hK.out _ _ (CEL.out _ Y4.out) (fun hHeld => ?_)
        clear hK K
        (try simp only [Act.put, List.setIfInBounds_toArray, List.set_cons_zero, List.set_cons_succ])
        refine wpAnyH_take (i := 28) (oi := _) (v := .bool false) (by rw [List.getElem?_toArray]; exact rfl) (by kernel_rfl) (by kernel_rfl) (by kernel_rfl) (by intro _ _ _ h; exact h) (Or.inl ⟨by kernel_rfl, ?y3_28⟩) hHeld ?_
        case y3_28 =>
          intro w hSw
          obtain ⟨c0, c1', c2', x0, x1⟩ := hSw
          go_simp
          (try with_reducible rfl)
        (try simp only [Act.put, List.setIfInBounds_toArray, List.set_cons_zero, List.set_cons_succ])
        refine wpAnyH_take (i := 29) (oi := _) (v := .bool false) (by rw [List.getElem?_toArray]; exact rfl) (by kernel_rfl) (by kernel_rfl) (by kernel_rfl) (by intro _ _ _ h; exact h) (Or.inl ⟨by kernel_rfl, ?y3_29⟩) hHeld ?_
        case y3_29 =>
          intro w hSw
          obtain ⟨c0, c1', c2', x0, x1⟩ := hSw
          go_simp
          (try with_reducible rfl)
        (try simp only [Act.put, List.setIfInBounds_toArray, List.set_cons_zero, List.set_cons_succ])
        refine wpAnyH_done (by kernel_rfl) ?_ _
        (try simp only [Exit.then])
        go_wp2
        exact ⟨⟨j + 1, by omega, by go_num, HQ1.out, HN1.out, ON.out _ Y4.out⟩, by simp [RowKit.intOf]; omega⟩
      · have hcb : (ca != (j : Int)) = true := by simpa using hcj
        have HRV : Hid (R = false) := by
          show _ = _
          rw [← HR.out]
          refine decide_eq_false fun hh => hcj ?_
          rw [← hca]
          refine (col_self S.cols j _ HX.out).2 fun y hy he => ?_
          exact nodup_take (j := j) (x := nm) hh.2.1 (by rw [List.getElem?_map, HX.out]; rfl) y.1 (by rw [← List.map_take]; exact List.mem_map_of_mem hy) he
        clear hca hcj
        refine wp_region_held_drew (S := fun w' => w'.cell? ⟨g, 0, none⟩ = some (.slice (some ⟨p1, o1, none⟩) n1 c1) ∧ w'.cell? ⟨g, 1, none⟩ = some (.slice a2 n2 c2) ∧ w'.cell? ⟨g, 2, none⟩ = some (.slice a3 n3 c3) ∧ w'.cell? ⟨p1, o1 + j * 3, none⟩ = some (.string nm) ∧ w'.cell? ⟨p1, o1 + j * 3 + 1, none⟩ = some (.int .i64 kd)) (by kernel_rfl) K0.out (fun hHeld => ?_)
        refine wpAnyH_take (i := 0) (oi := _) (v := ?v4_0) (by rw [List.getElem?_toArray]; exact rfl) (by kernel_rfl) (by kernel_rfl) (by kernel_rfl) (by intro _ _ _ h; exact h) (Or.inl ⟨by kernel_rfl, ?y4_0⟩) hHeld ?_
        case y4_0 =>
          intro w hSw
          obtain ⟨c0, c1', c2', x0, x1⟩ := hSw
          go_simp
          (try with_reducible rfl)
        (try simp only [Act.put, List.setIfInBounds_toArray, List.set_cons_zero, List.set_cons_succ])
        refine wpAnyH_take (i := 1) (oi := _) (v := ?v4_1) (by rw [List.getElem?_toArray]; exact rfl) (by kernel_rfl) (by kernel_rfl) (by kernel_rfl) (by intro _ _ _ h; exact h) (Or.inl ⟨by kernel_rfl, ?y4_1⟩) hHeld ?_
        case y4_1 =>
          intro w hSw
          obtain ⟨c0, c1', c2', x0, x1⟩ := hSw
          go_simp
          (try with_reducible rfl)
        (try simp only [Act.put, List.setIfInBounds_toArray, List.set_cons_zero, List.set_cons_succ])
        refine wpAnyH_take (i := 2) (oi := _) (v := ?v4_2) (by rw [List.getElem?_toArray]; exact rfl) (by kernel_rfl) (by kernel_rfl) (by kernel_rfl) (by intro _ _ _ h; exact h) (Or.inl ⟨by kernel_rfl, ?y4_2⟩) hHeld ?_
        case y4_2 =>
          intro w hSw
          obtain ⟨c0, c1', c2', x0, x1⟩ := hSw
          go_simp
          (try with_reducible rfl)
        (try simp only [Act.put, List.setIfInBounds_toArray, List.set_cons_zero, List.set_cons_succ])
        refine wpAnyH_take (i := 3) (oi := _) (v := ?v4_3) (by rw [List.getElem?_toArray]; exact rfl) (by kernel_rfl) (by kernel_rfl) (by kernel_rfl) (by intro _ _ _ h; exact h) (Or.inl ⟨by kernel_rfl, ?y4_3⟩) hHeld ?_
        case y4_3 =>
          intro w hSw
          obtain ⟨c0, c1', c2', x0, x1⟩ := hSw
          go_simp
          (try with_reducible rfl)
        (try simp only [Act.put, List.setIfInBounds_toArray, List.set_cons_zero, List.set_cons_succ])
        refine wpAnyH_take (i := 4) (oi := _) (v := ?v4_4) (by rw [List.getElem?_toArray]; exact rfl) (by kernel_rfl) (by kernel_rfl) (by kernel_rfl) (by intro _ _ _ h; exact h) (Or.inl ⟨by kernel_rfl, ?y4_4⟩) hHeld ?_
        case y4_4 =>
          intro w hSw
          obtain ⟨c0, c1', c2', x0, x1⟩ := hSw
          go_simp
          (try with_reducible rfl)
        (try simp only [Act.put, List.setIfInBounds_toArray, List.set_cons_zero, List.set_cons_succ])
        refine wpAnyH_take (i := 5) (oi := _) (v := ?v4_5) (by rw [List.getElem?_toArray]; exact rfl) (by kernel_rfl) (by kernel_rfl) (by kernel_rfl) (by intro _ _ _ h; exact h) (Or.inl ⟨by kernel_rfl, ?y4_5⟩) hHeld ?_
        case y4_5 =>
          intro w hSw
          obtain ⟨c0, c1', c2', x0, x1⟩ := hSw
          go_simp
          (try with_reducible rfl)
        (try simp only [Act.put, List.setIfInBounds_toArray, List.set_cons_zero, List.set_cons_succ])
        refine wpAnyH_ready (rs := [6]) (by kernel_rfl) (by simp) ?_
        refine AllReadyH.cons (o := _) (by rw [List.getElem?_toArray]; exact rfl) (fun K hK => ?_) AllReadyH.nil
        rw [if_pos (by kernel_rfl)]
        go_simp
        refine (specColNameOk_any nm hsn _).mono ?_
        rintro e w2 ⟨rfl, rfl⟩
        rw [decide_eq_true hv]
        refine hK.out _ _ hHeld (fun hHeld => ?_)
        clear hK K
        (try simp only [Act.put, List.setIfInBounds_toArray, List.set_cons_zero, List.set_cons_succ])
        refine wpAnyH_take (i := 7) (oi := _) (v := .bool false) (by rw [List.getElem?_toArray]; exact rfl) (by kernel_rfl) (by kernel_rfl) (by kernel_rfl) (by intro _ _ _ h; exact h) (Or.inl ⟨by kernel_rfl, ?y4_7⟩) hHeld ?_
        case y4_7 =>
          intro w hSw
          obtain ⟨c0, c1', c2', x0, x1⟩ := hSw
          go_simp
          (try with_reducible rfl)
        (try simp only [Act.put, List.setIfInBounds_toArray, List.set_cons_zero, List.set_cons_succ])
        refine wpAnyH_take (i := 8) (oi := _) (v := .bool false) (by rw [List.getElem?_toArray]; exact rfl) (by kernel_rfl) (by kernel_rfl) (by kernel_rfl) (by intro _ _ _ h; exact h) (Or.inl ⟨by kernel_rfl, ?y4_8⟩) hHeld ?_
        case y4_8 =>
          intro w hSw
          obtain ⟨c0, c1', c2', x0, x1⟩ := hSw
          go_simp
          (try with_reducible rfl)
        (try simp only [Act.put, List.setIfInBounds_toArray, List.set_cons_zero, List.set_cons_succ])
        refine wpAnyH_take (i := 9) (oi := _) (v := ?v4_9) (by rw [List.getElem?_toArray]; exact rfl) (by kernel_rfl) (by kernel_rfl) (by kernel_rfl) (by intro _ _ _ h; exact h) (Or.inl ⟨by kernel_rfl, ?y4_9⟩) hHeld ?_
        case y4_9 =>
          intro w hSw
          obtain ⟨c0, c1', c2', x0, x1⟩ := hSw
          go_simp
          (try with_reducible rfl)
        (try simp only [Act.put, List.setIfInBounds_toArray, List.set_cons_zero, List.set_cons_succ])
        refine wpAnyH_take (i := 10) (oi := _) (v := ?v4_10) (by rw [List.getElem?_toArray]; exact rfl) (by kernel_rfl) (by kernel_rfl) (by kernel_rfl) (by intro _ _ _ h; exact h) (Or.inl ⟨by kernel_rfl, ?y4_10⟩) hHeld ?_
        case y4_10 =>
          intro w hSw
          obtain ⟨c0, c1', c2', x0, x1⟩ := hSw
          go_simp
          (try with_reducible rfl)
        (try simp only [Act.put, List.setIfInBounds_toArray, List.set_cons_zero, List.set_cons_succ])
        refine wpAnyH_take (i := 11) (oi := _) (v := ?v4_11) (by rw [List.getElem?_toArray]; exact rfl) (by kernel_rfl) (by kernel_rfl) (by kernel_rfl) (by intro _ _ _ h; exact h) (Or.inl ⟨by kernel_rfl, ?y4_11⟩) hHeld ?_
        case y4_11 =>
          intro w hSw
          obtain ⟨c0, c1', c2', x0, x1⟩ := hSw
          go_simp
          (try with_reducible rfl)
        (try simp only [Act.put, List.setIfInBounds_toArray, List.set_cons_zero, List.set_cons_succ])
        refine wpAnyH_take (i := 12) (oi := _) (v := ?v4_12) (by rw [List.getElem?_toArray]; exact rfl) (by kernel_rfl) (by kernel_rfl) (by kernel_rfl) (by intro _ _ _ h; exact h) (Or.inl ⟨by kernel_rfl, ?y4_12⟩) hHeld ?_
        case y4_12 =>
          intro w hSw
          obtain ⟨c0, c1', c2', x0, x1⟩ := hSw
          go_simp
          (try with_reducible rfl)
        (try simp only [Act.put, List.setIfInBounds_toArray, List.set_cons_zero, List.set_cons_succ])
        refine wpAnyH_take (i := 13) (oi := _) (v := ?v4_13) (by rw [List.getElem?_toArray]; exact rfl) (by kernel_rfl) (by kernel_rfl) (by kernel_rfl) (by intro _ _ _ h; exact h) (Or.inl ⟨by kernel_rfl, ?y4_13⟩) hHeld ?_
        case y4_13 =>
          intro w hSw
          obtain ⟨c0, c1', c2', x0, x1⟩ := hSw
          go_simp
          (try with_reducible rfl)
        (try simp only [Act.put, List.setIfInBounds_toArray, List.set_cons_zero, List.set_cons_succ])
        refine wpAnyH_take (i := 14) (oi := _) (v := ?v4_14) (by rw [List.getElem?_toArray]; exact rfl) (by kernel_rfl) (by kernel_rfl) (by kernel_rfl) (by intro _ _ _ h; exact h) (Or.inl ⟨by kernel_rfl, ?y4_14⟩) hHeld ?_
        case y4_14 =>
          intro w hSw
          obtain ⟨c0, c1', c2', x0, x1⟩ := hSw
          go_simp
          (try with_reducible rfl)
        (try simp only [Act.put, List.setIfInBounds_toArray, List.set_cons_zero, List.set_cons_succ])
        refine wpAnyH_ready (rs := [15]) (by kernel_rfl) (by simp) ?_
        refine AllReadyH.cons (o := _) (by rw [List.getElem?_toArray]; exact rfl) (fun K hK => ?_) AllReadyH.nil
        rw [if_pos (by kernel_rfl)]
        go_simp
        refine (l1In_g _ _ _ _).mono ?_
        rintro e w3 ⟨rfl, rfl⟩
        rw [inB_yes hk]
        refine hK.out _ _ hHeld (fun hHeld => ?_)
        clear hK K
        (try simp only [Act.put, List.setIfInBounds_toArray, List.set_cons_zero, List.set_cons_succ])
        refine wpAnyH_take (i := 16) (oi := _) (v := .bool false) (by rw [List.getElem?_toArray]; exact rfl) (by kernel_rfl) (by kernel_rfl) (by kernel_rfl) (by intro _ _ _ h; exact h) (Or.inl ⟨by kernel_rfl, ?y4_16⟩) hHeld ?_
        case y4_16 =>
          intro w hSw
          obtain ⟨c0, c1', c2', x0, x1⟩ := hSw
          go_simp
          (try with_reducible rfl)
        (try simp only [Act.put, List.setIfInBounds_toArray, List.set_cons_zero, List.set_cons_succ])
        refine wpAnyH_take (i := 17) (oi := _) (v := .bool false) (by rw [List.getElem?_toArray]; exact rfl) (by kernel_rfl) (by kernel_rfl) (by kernel_rfl) (by intro _ _ _ h; exact h) (Or.inl ⟨by kernel_rfl, ?y4_17⟩) hHeld ?_
        case y4_17 =>
          intro w hSw
          obtain ⟨c0, c1', c2', x0, x1⟩ := hSw
          go_simp
          (try with_reducible rfl)
        (try simp only [Act.put, List.setIfInBounds_toArray, List.set_cons_zero, List.set_cons_succ])
        refine wpAnyH_take (i := 18) (oi := _) (v := .bool false) (by rw [List.getElem?_toArray]; exact rfl) (by kernel_rfl) (by kernel_rfl) (by kernel_rfl) (by intro _ _ _ h; exact h) (Or.inl ⟨by kernel_rfl, ?y4_18⟩) hHeld ?_
        case y4_18 =>
          intro w hSw
          obtain ⟨c0, c1', c2', x0, x1⟩ := hSw
          go_simp
          (try with_reducible rfl)
        (try simp only [Act.put, List.setIfInBounds_toArray, List.set_cons_zero, List.set_cons_succ])
        refine wpAnyH_take (i := 19) (oi := _) (v := ?v4_19) (by rw [List.getElem?_toArray]; exact rfl) (by kernel_rfl) (by kernel_rfl) (by kernel_rfl) (by intro _ _ _ h; exact h) (Or.inl ⟨by kernel_rfl, ?y4_19⟩) hHeld ?_
        case y4_19 =>
          intro w hSw
          obtain ⟨c0, c1', c2', x0, x1⟩ := hSw
          go_simp
          (try with_reducible rfl)
        (try simp only [Act.put, List.setIfInBounds_toArray, List.set_cons_zero, List.set_cons_succ])
        refine wpAnyH_take (i := 20) (oi := _) (v := ?v4_20) (by rw [List.getElem?_toArray]; exact rfl) (by kernel_rfl) (by kernel_rfl) (by kernel_rfl) (by intro _ _ _ h; exact h) (Or.inl ⟨by kernel_rfl, ?y4_20⟩) hHeld ?_
        case y4_20 =>
          intro w hSw
          obtain ⟨c0, c1', c2', x0, x1⟩ := hSw
          go_simp
          (try with_reducible rfl)
        (try simp only [Act.put, List.setIfInBounds_toArray, List.set_cons_zero, List.set_cons_succ])
        refine wpAnyH_take (i := 21) (oi := _) (v := ?v4_21) (by rw [List.getElem?_toArray]; exact rfl) (by kernel_rfl) (by kernel_rfl) (by kernel_rfl) (by intro _ _ _ h; exact h) (Or.inl ⟨by kernel_rfl, ?y4_21⟩) hHeld ?_
        case y4_21 =>
          intro w hSw
          obtain ⟨c0, c1', c2', x0, x1⟩ := hSw
          go_simp
          (try with_reducible rfl)
        (try simp only [Act.put, List.setIfInBounds_toArray, List.set_cons_zero, List.set_cons_succ])
        refine wpAnyH_take (i := 22) (oi := _) (v := ?v4_22) (by rw [List.getElem?_toArray]; exact rfl) (by kernel_rfl) (by kernel_rfl) (by kernel_rfl) (by intro _ _ _ h; exact h) (Or.inl ⟨by kernel_rfl, ?y4_22⟩) hHeld ?_
        case y4_22 =>
          intro w hSw
          obtain ⟨c0, c1', c2', x0, x1⟩ := hSw
          go_simp
          (try with_reducible rfl)
        (try simp only [Act.put, List.setIfInBounds_toArray, List.set_cons_zero, List.set_cons_succ])
        refine wpAnyH_take (i := 23) (oi := _) (v := ?v4_23) (by rw [List.getElem?_toArray]; exact rfl) (by kernel_rfl) (by kernel_rfl) (by kernel_rfl) (by intro _ _ _ h; exact h) (Or.inl ⟨by kernel_rfl, ?y4_23⟩) hHeld ?_
        case y4_23 =>
          intro w hSw
          obtain ⟨c0, c1', c2', x0, x1⟩ := hSw
          go_simp
          (try with_reducible rfl)
        (try simp only [Act.put, List.setIfInBounds_toArray, List.set_cons_zero, List.set_cons_succ])
        refine wpAnyH_take (i := 24) (oi := _) (v := ?v4_24) (by rw [List.getElem?_toArray]; exact rfl) (by kernel_rfl) (by kernel_rfl) (by kernel_rfl) (by intro _ _ _ h; exact h) (Or.inl ⟨by kernel_rfl, ?y4_24⟩) hHeld ?_
        case y4_24 =>
          intro w hSw
          obtain ⟨c0, c1', c2', x0, x1⟩ := hSw
          go_simp
          (try with_reducible rfl)
        (try simp only [Act.put, List.setIfInBounds_toArray, List.set_cons_zero, List.set_cons_succ])
        refine wpAnyH_take (i := 25) (oi := _) (v := ?v4_25) (by rw [List.getElem?_toArray]; exact rfl) (by kernel_rfl) (by kernel_rfl) (by kernel_rfl) (by intro _ _ _ h; exact h) (Or.inl ⟨by kernel_rfl, ?y4_25⟩) hHeld ?_
        case y4_25 =>
          intro w hSw
          obtain ⟨c0, c1', c2', x0, x1⟩ := hSw
          go_simp
          (try with_reducible rfl)
        (try simp only [Act.put, List.setIfInBounds_toArray, List.set_cons_zero, List.set_cons_succ])
        refine wpAnyH_take (i := 27) (oi := _) (v := ?v4_27) (by rw [List.getElem?_toArray]; exact rfl) (by kernel_rfl) (by kernel_rfl) (by kernel_rfl) (by intro _ _ _ h; exact h) (Or.inl ⟨by kernel_rfl, ?y4_27⟩) hHeld ?_
        case y4_27 =>
          intro w hSw
          obtain ⟨c0, c1', c2', x0, x1⟩ := hSw
          go_simp
          (try with_reducible rfl)
        (try simp only [Act.put, List.setIfInBounds_toArray, List.set_cons_zero, List.set_cons_succ])
        refine wpAnyH_ready (rs := [26]) (by kernel_rfl) (by simp) ?_
        refine AllReadyH.cons (o := _) (by rw [List.getElem?_toArray]; exact rfl) (fun K hK => ?_) AllReadyH.nil
        rw [if_pos (by kernel_rfl)]
        go_simp
        refine (specColAt_any (some ⟨p1, o1, none⟩) n1 c1 a2 n2 c2 a3 n3 c3 S nm _ (HSA.out.below HBD.out (Nat.le_refl _))).mono ?_
        rintro e w4 ⟨rfl, hb4⟩
        rw [HCA.out]
        have Y4 : Hid (Below wr.drew.heap.size wr.drew w4) := hb4
        clear hb4
        refine hK.out _ _ (CEL.out _ Y4.out) (fun hHeld => ?_)
        clear hK K
        (try simp only [Act.put, List.setIfInBounds_toArray, List.set_cons_zero, List.set_cons_succ])
        refine wpAnyH_take (i := 28) (oi := _) (v := .bool true) (by rw [List.getElem?_toArray]; exact rfl) (by kernel_rfl) (by kernel_rfl) (by kernel_rfl) (by intro _ _ _ h; exact h) (Or.inl ⟨by kernel_rfl, ?y4_28⟩) hHeld ?_
        case y4_28 =>
          intro w hSw
          obtain ⟨c0, c1', c2', x0, x1⟩ := hSw
          go_simp
          (try with_reducible rfl)
        (try simp only [Act.put, List.setIfInBounds_toArray, List.set_cons_zero, List.set_cons_succ])
        refine wpAnyH_take (i := 29) (oi := _) (v := .bool true) (by rw [List.getElem?_toArray]; exact rfl) (by kernel_rfl) (by kernel_rfl) (by kernel_rfl) (by intro _ _ _ h; exact h) (Or.inl ⟨by kernel_rfl, ?y4_29⟩) hHeld ?_
        case y4_29 =>
          intro w hSw
          obtain ⟨c0, c1', c2', x0, x1⟩ := hSw
          go_simp
          (try with_reducible rfl)
        (try simp only [Act.put, List.setIfInBounds_toArray, List.set_cons_zero, List.set_cons_succ])
        refine wpAnyH_done (by kernel_rfl) ?_ _
        (try simp only [Exit.then])
        go_wp2
        go_ret
        exact ⟨by rw [HRV.out]; rfl, HB0.out.trans ((ON.out _ Y4.out).mono HGS.out)⟩
    · obtain rfl : j = n1 := by omega
      have HC1 : Hid (∀ x ∈ S.cols, CnGood x.1 ∧ 1 ≤ x.2.1 ∧ x.2.1 ≤ 3) := by
        have h1 := HQ.out
        rw [List.take_of_length_le (by omega)] at h1
        exact h1
      have HC2 : Hid ((S.cols.map (·.1)).Nodup) := by
        have h1 := HN.out
        rw [List.take_of_length_le (by omega)] at h1
        exact h1
      have HFIN : Hid (((((1 ≤ (j : Int) ∧ (j : Int) ≤ 5) ∧ PlGood S.cols.length S.key 4) ∧ IxGood S.cols.length S.idx) ∧ ∀ x ∈ S.key, fast S.cols x) ↔ ScGood S) :=
        ⟨fun hh => ⟨HC1.out, HC2.out, by omega, hh.1.1.2, hh.1.2, hh.2⟩, fun hh => ⟨⟨⟨by have := hh.2.2.1; omega, hh.2.2.2.1⟩, hh.2.2.2.2.1⟩, hh.2.2.2.2.2⟩⟩
      obtain ⟨c0, c1', c2'⟩ := BX.out _ HBW.out
      go_wp2_with fail
      refine (l1In_g _ _ _ _).mono ?_
      rintro e w2 ⟨rfl, rfl⟩
      by_cases hv : 1 ≤ (j : Int) ∧ (j : Int) ≤ 5
      case neg =>
        rw [inB_no hv]
        have HRV : Hid (R = false) := by
          show _ = _
          rw [← HR.out]
          exact decide_eq_false fun hh => hv (HFIN.out.2 hh).1.1.1
        go_wp2
        go_ret
        exact ⟨by rw [HRV.out]; rfl, HB0.out.trans (HBW.out.mono HGS.out)⟩
      rw [inB_yes hv]
      go_wp2_with fail
      refine (specPlaces_any a1 j c1 a2 n2 c2 a3 n3 c3 S a2 n2 c2 S.key 4 _ (HSA.out.below HBW.out (Nat.le_refl _)) (HSA.out.key.below HBW.out (Nat.le_refl _)) hn2).mono ?_
      rintro e w3 ⟨rfl, hb3⟩
      have Y3 : Hid (Below W.heap.size W w3) := HBW.out.trans (hb3.mono HBW.out.size)
      clear hb3 c0 c1' c2'
      obtain ⟨c0, c1', c2'⟩ := BX.out _ Y3.out
      by_cases hp : PlGood S.cols.length S.key 4
      case neg =>
        rw [decide_eq_false hp]
        have HRV : Hid (R = false) := by
          show _ = _
          rw [← HR.out]
          exact decide_eq_false fun hh => hp (HFIN.out.2 hh).1.1.2
        go_wp2
        go_ret
        exact ⟨by rw [HRV.out]; rfl, HB0.out.trans (Y3.out.mono HGS.out)⟩
      rw [decide_eq_true hp]
      go_wp2_with fail
      refine (specIndexes_any a1 j c1 a2 n2 c2 a3 n3 c3 S HSZ.out _ (HSA.out.below Y3.out (Nat.le_refl _))).mono ?_
      rintro e w4 ⟨rfl, hb4⟩
      have Y4 : Hid (Below W.heap.size W w4) := Y3.out.trans (hb4.mono Y3.out.size)
      clear hb4 c0 c1' c2'
      obtain ⟨c0, c1', c2'⟩ := BX.out _ Y4.out
      by_cases hx : IxGood S.cols.length S.idx
      case neg =>
        rw [decide_eq_false hx]
        have HRV : Hid (R = false) := by
          show _ = _
          rw [← HR.out]
          exact decide_eq_false fun hh => hx (HFIN.out.2 hh).1.2
        go_wp2
        go_ret
        exact ⟨by rw [HRV.out]; rfl, HB0.out.trans (Y4.out.mono HGS.out)⟩
      rw [decide_eq_true hx]
      have HPL : Hid (PlGood S.cols.length S.key 4) := hp
      have HR2 : Hid ((∀ x ∈ S.key, fast S.cols x) ↔ ScGood S) := ⟨fun hh => HFIN.out.1 ⟨⟨⟨hv, hp⟩, hx⟩, hh⟩, fun hh => (HFIN.out.2 hh).2⟩
      clear hv hp hx
      go_wp2
      clear c0 c1' c2'
      go_loopw [4] (fun i wr => ∃ k : Nat, k ≤ n2 ∧ i = .int .i64 (k : Int) ∧ (∀ x ∈ S.key.take k, fast S.cols x) ∧ Below W.heap.size W wr) (fun i _ => n2 - (RowKit.intOf i).toNat)
      case atStart => exact ⟨0, Nat.zero_le _, rfl, fun x hx => (by simp at hx), Y4.out⟩
      case round =>
        obtain ⟨k, hk, rfl, hq, hb⟩ := hrel
        have HK : Hid (∀ x ∈ S.key.take k, fast S.cols x) := hq
        have HBV : Hid (Below W.heap.size W _) := hb
        obtain ⟨c0, c1', c2'⟩ := BX.out _ hb
        clear hq hb
        by_cases hlk : k < n2
        · rcases (HSA.out.key.below HBV.out (Nat.le_refl _)).2.2 with h0 | ⟨p2, o2, rfl, g2⟩
          · omega
          obtain ⟨x, hx⟩ : ∃ x, S.key[k]? = some x := ⟨_, List.getElem?_eq_getElem (by omega)⟩
          have HX : Hid (S.key[k]? = some x) := hx
          have hxr := HPL.out.1 x (List.mem_of_getElem? hx)
          have hxd : S.key.getD k 0 = x := by simp [List.getD, hx]
          have e0 := g2 k hlk
          rw [hxd] at e0
          obtain ⟨m, rfl⟩ : ∃ m : Nat, x = (m : Int) := ⟨x.toNat, by omega⟩
          rcases (HSA.out.cols.below HBV.out (Nat.le_refl _)).2.2 with h0 | ⟨p1, o1, rfl, g1⟩
          · omega
          obtain ⟨y, hy⟩ : ∃ y, S.cols[m]? = some y := ⟨_, List.getElem?_eq_getElem (by omega)⟩
          have e1 := (g1 m y hy).2.2
          have hfy : fast S.cols (m : Int) ↔ y.2.2 = false := by unfold fast; rw [Int.toNat_natCast]; simp [List.getD, hy]
          have HFY : Hid (fast S.cols (m : Int) ↔ y.2.2 = false) := hfy
          obtain ⟨nl, hnl⟩ : ∃ nl, y.2.2 = nl := ⟨_, rfl⟩
          rw [hnl] at e1 HFY
          have hk2 : (0 : Int) ≤ (k : Int) := by omega
          have hk3 : (k : Int) < (n2 : Int) := by omega
          have hk4 : (0 : Int) ≤ (m : Int) := by omega
          have hk5 : (m : Int) < (j : Int) := by omega
          clear g1 g2 hx hy hxd hfy hnl hxr
          cases nl
          · have HK1 : Hid (∀ z ∈ S.key.take (k + 1), fast S.cols z) := take_all HK.out HX.out (HFY.out.2 rfl)
            go_wp2
            go_region
            go_wp2
            exact ⟨⟨k + 1, by omega, by go_num, HK1.out, HBV.out.drew⟩, by simp [RowKit.intOf]; omega⟩
          · have HRV : Hid (R = false) := by
              show _ = _
              rw [← HR.out]
              exact decide_eq_false fun hh => by have h1 := HFY.out.1 (HR2.out.2 hh _ (List.mem_of_getElem? HX.out)); cases h1
            go_wp2
            go_region
            go_wp2
            go_ret
            exact ⟨by rw [HRV.out]; rfl, HB0.out.trans (HBV.out.drew.mono HGS.out)⟩
        · obtain rfl : k = n2 := by omega
          have HRV : Hid (R = true) := by
            have h1 := HK.out
            rw [List.take_of_length_le (by omega)] at h1
            show _ = _
            rw [← HR.out]
            exact decide_eq_true (HR2.out.1 h1)
          go_wp2
          go_ret
          exact ⟨by rw [HRV.out]; rfl, HB0.out.trans (HBV.out.mono HGS.out)⟩
end
end Go.Proofs.Ytmgofehafjogfaa
