/- Texts joined: ImplSm, SpecVs, ImplVo, RowL. -/
import Derived.Test.YtmgofehafjogfaaSH11
import Derived.Test.YtmgofehafjogfaaSH12
import Derived.Test.YtmgofehafjogfaaSH02
import Derived.Deep.RegionHeld3
import Derived.Deep.Cut
import Derived.Test.YtmgofehafjogfaaSH01
import Derived.Test.YtmgofehafjogfaaRows
import Derived.Laws.StructEq
import Derived.Test.YtmgofehafjogfaaSH09
set_option maxHeartbeats 8000000
set_option maxRecDepth 100000
namespace Go.Proofs.Ytmgofehafjogfaa
section
open Go.ChangeShapes Go.WideShapes Go.ChangeAt Go.RowKit Go.Maps
theorem ch_key {L : List Col3} {zs xs : List Int} {n : Nat} (h : ∀ x, x ∈ zs ↔ 0 ≤ x ∧ x < (n : Int) ∧ fast L x) (hl : L.length = n) : ChGood zs xs 4 ↔ PlGood L.length xs 4 ∧ ∀ x ∈ xs, fast L x := by
  subst hl
  constructor
  · rintro ⟨h1, h2, h3, h4⟩
    exact ⟨⟨fun x hx => ⟨((h x).1 (h1 x hx)).1, ((h x).1 (h1 x hx)).2.1⟩, h2, h3, by omega⟩, fun x hx => ((h x).1 (h1 x hx)).2.2⟩
  · rintro ⟨⟨h1, h2, h3, h4⟩, h5⟩
    exact ⟨fun x hx => (h x).2 ⟨(h1 x hx).1, (h1 x hx).2, h5 x hx⟩, h2, h3, by omega⟩
theorem sc_split (S : SchD) : ScGood S ↔ CoGood S.cols ∧ (PlGood S.cols.length S.key 4 ∧ ∀ x ∈ S.key, fast S.cols x) ∧ IxGood S.cols.length S.idx := by
  constructor
  · rintro ⟨h1, h2, h3, h4, h5, h6⟩
    exact ⟨⟨h3, ⟨fun x hx => by obtain ⟨y, hy, rfl⟩ := List.mem_map.1 hx; exact (h1 y hy).1, h2⟩, fun x hx => (h1 x hx).2⟩, ⟨h4, h6⟩, h5⟩
  · rintro ⟨⟨h3, ⟨h1, h2⟩, h7⟩, ⟨h4, h6⟩, h5⟩
    exact ⟨fun x hx => ⟨h1 _ (List.mem_map_of_mem hx), h7 x hx⟩, h2, h3, h4, h5, h6⟩
theorem implSchemaOk_any (a1 : Option Addr) (n1 c1 : Nat) (a2 : Option Addr) (n2 c2 : Nat) (a3 : Option Addr) (n3 c3 : Nat) (S : SchD) (w : World) (h : SchAt w a1 n1 c1 a2 n2 c2 a3 n3 c3 S) (hz : SchSz S) :
    Calls Try.prog 17 #[ScV a1 n1 c1 a2 n2 c2 a3 n3 c3] w fun e w' => e = .returned (.bool (decide (ScGood S))) ∧ Below w.heap.size w w' := by
  obtain ⟨R, hR⟩ : ∃ R, decide (ScGood S) = R := ⟨_, rfl⟩
  rw [hR]
  have HR : Hid (decide (ScGood S) = R) := hR
  have HSP : Hid (ScGood S ↔ CoGood S.cols ∧ (PlGood S.cols.length S.key 4 ∧ ∀ x ∈ S.key, fast S.cols x) ∧ IxGood S.cols.length S.idx) := sc_split S
  have HCZ : Hid (∀ x ∈ S.cols, x.1.size ≤ 1048576) := hz.cols
  have HXZ : Hid (∀ x ∈ S.idx, x.1.size ≤ 1048576) := hz.idx
  clear hR hz
  obtain ⟨W, hW⟩ : ∃ W, w.alloc (.cells #[.slice a1 n1 c1, .slice a2 n2 c2, .slice a3 n3 c3] 28) = W := ⟨_, rfl⟩
  obtain ⟨g, hg⟩ : ∃ g, w.heap.size = g := ⟨_, rfl⟩
  have HG : Hid (w.heap.size = g) := hg
  have HB0 : Hid (Below g w W) := by rw [← hW, ← hg]; exact (Below.refl _ w).alloc (Nat.le_refl _) _
  have X0 : Hid (Box W g #[.slice a1 n1 c1, .slice a2 n2 c2, .slice a3 n3 c3] 28) := by rw [← hW, ← hg]; exact box_of w _ _
  have HW : Hid (w.alloc (.cells #[.slice a1 n1 c1, .slice a2 n2 c2, .slice a3 n3 c3] 28) = W) := hW
  have HSA : Hid (SchAt W a1 n1 c1 a2 n2 c2 a3 n3 c3 S) := h.below HB0.out (Nat.le_of_eq hg)
  have BX : Hid (∀ y, Below W.heap.size W y → y.cell? ⟨g, 0, none⟩ = some (.slice a1 n1 c1) ∧ y.cell? ⟨g, 1, none⟩ = some (.slice a2 n2 c2) ∧ y.cell? ⟨g, 2, none⟩ = some (.slice a3 n3 c3)) := fun y hb => (X0.out.below hb X0.out.lt).triV
  have HGS : Hid (g ≤ W.heap.size) := Nat.le_of_lt X0.out.lt
  rw [hg]
  clear hW hg h
  have HL1 : Hid (S.cols.length = n1) := HSA.out.cols.1
  have HB00 : Hid (Below W.heap.size W W.drew) := (Below.refl _ _).drew
  have K0 : Hid ((fun w' => w'.cell? ⟨g, 0, none⟩ = some (.slice a1 n1 c1) ∧ w'.cell? ⟨g, 1, none⟩ = some (.slice a2 n2 c2) ∧ w'.cell? ⟨g, 2, none⟩ = some (.slice a3 n3 c3)) W.drew) := BX.out _ HB00.out
  have hcel := BX.out _ (Below.refl _ _)
  obtain ⟨c0, c1', c2'⟩ := hcel
  go_enter Try.func17, Try.ntmps17
  go_upto_region 1 with (fail)
  rw [HW.out, HG.out]
  clear c0 c1' c2'
  by_cases hco : CoGood S.cols
  case neg =>
    have HRV : Hid (R = false) := by
      show _ = _
      rw [← HR.out]
      exact decide_eq_false fun hh => hco (HSP.out.1 hh).1
    refine wp_region_held_drew (S := fun w' => w'.cell? ⟨g, 0, none⟩ = some (.slice a1 n1 c1) ∧ w'.cell? ⟨g, 1, none⟩ = some (.slice a2 n2 c2) ∧ w'.cell? ⟨g, 2, none⟩ = some (.slice a3 n3 c3)) (by kernel_rfl) K0.out (fun hHeld => ?_)
    refine wpAnyH_take (i := 0) (oi := _) (v := ?v1_0) (by rw [List.getElem?_toArray]; exact rfl) (by kernel_rfl) (by kernel_rfl) (by kernel_rfl) (by intro _ _ _ h; exact h) (Or.inl ⟨by kernel_rfl, ?y1_0⟩) hHeld ?_
    case y1_0 =>
      intro w hSw
      obtain ⟨c0, c1', c2'⟩ := hSw
      go_simp
      (try with_reducible rfl)
    (try simp only [Act.put, List.setIfInBounds_toArray, List.set_cons_zero, List.set_cons_succ])
    refine wpAnyH_take (i := 1) (oi := _) (v := ?v1_1) (by rw [List.getElem?_toArray]; exact rfl) (by kernel_rfl) (by kernel_rfl) (by kernel_rfl) (by intro _ _ _ h; exact h) (Or.inl ⟨by kernel_rfl, ?y1_1⟩) hHeld ?_
    case y1_1 =>
      intro w hSw
      obtain ⟨c0, c1', c2'⟩ := hSw
      go_simp
      (try with_reducible rfl)
    (try simp only [Act.put, List.setIfInBounds_toArray, List.set_cons_zero, List.set_cons_succ])
    refine wpAnyH_ready (rs := [2]) (by kernel_rfl) (by simp) ?_
    refine AllReadyH.cons (o := _) (by rw [List.getElem?_toArray]; exact rfl) (fun K hK => ?_) AllReadyH.nil
    rw [if_pos (by kernel_rfl)]
    go_simp
    refine (colsOk_any a1 n1 c1 S.cols _ (HSA.out.cols.below HB00.out (Nat.le_refl _)) HCZ.out).mono ?_
    rintro e w2 ⟨rfl, hb2⟩
    rw [decide_eq_false hco]
    have Y2 : Hid (Below W.heap.size W w2) := HB00.out.trans (hb2.mono HB00.out.size)
    clear hb2
    refine hK.out _ _ (BX.out _ Y2.out) (fun hHeld => ?_)
    clear hK K
    (try simp only [Act.put, List.setIfInBounds_toArray, List.set_cons_zero, List.set_cons_succ])
    refine wpAnyH_take (i := 3) (oi := _) (v := .bool false) (by rw [List.getElem?_toArray]; exact rfl) (by kernel_rfl) (by kernel_rfl) (by kernel_rfl) (by intro _ _ _ h; exact h) (Or.inl ⟨by kernel_rfl, ?y1_3⟩) hHeld ?_
    case y1_3 =>
      intro w hSw
      obtain ⟨c0, c1', c2'⟩ := hSw
      go_simp
      (try with_reducible rfl)
    (try simp only [Act.put, List.setIfInBounds_toArray, List.set_cons_zero, List.set_cons_succ])
    refine wpAnyH_take (i := 4) (oi := _) (v := undef) (by rw [List.getElem?_toArray]; exact rfl) (by kernel_rfl) (by kernel_rfl) (by kernel_rfl) (by intro _ _ _ h; exact h) (Or.inr ⟨by kernel_rfl, rfl⟩) hHeld ?_
    (try simp only [Act.put, List.setIfInBounds_toArray, List.set_cons_zero, List.set_cons_succ])
    refine wpAnyH_take (i := 5) (oi := _) (v := undef) (by rw [List.getElem?_toArray]; exact rfl) (by kernel_rfl) (by kernel_rfl) (by kernel_rfl) (by intro _ _ _ h; exact h) (Or.inr ⟨by kernel_rfl, rfl⟩) hHeld ?_
    (try simp only [Act.put, List.setIfInBounds_toArray, List.set_cons_zero, List.set_cons_succ])
    refine wpAnyH_take (i := 6) (oi := _) (v := undef) (by rw [List.getElem?_toArray]; exact rfl) (by kernel_rfl) (by kernel_rfl) (by kernel_rfl) (by intro _ _ _ h; exact h) (Or.inr ⟨by kernel_rfl, rfl⟩) hHeld ?_
    (try simp only [Act.put, List.setIfInBounds_toArray, List.set_cons_zero, List.set_cons_succ])
    refine wpAnyH_take (i := 7) (oi := _) (v := undef) (by rw [List.getElem?_toArray]; exact rfl) (by kernel_rfl) (by kernel_rfl) (by kernel_rfl) (by intro _ _ _ h; exact h) (Or.inr ⟨by kernel_rfl, rfl⟩) hHeld ?_
    (try simp only [Act.put, List.setIfInBounds_toArray, List.set_cons_zero, List.set_cons_succ])
    refine wpAnyH_ready (rs := [8]) (by kernel_rfl) (by simp) ?_
    refine AllReadyH.cons (o := _) (by rw [List.getElem?_toArray]; exact rfl) (fun K hK => ?_) AllReadyH.nil
    rw [if_neg (by rw [show Region.wanted _ _ = false by kernel_rfl]; decide)]
    refine hK.out _ _ hHeld (fun hHeld => ?_)
    clear hK K
    (try simp only [Act.put, List.setIfInBounds_toArray, List.set_cons_zero, List.set_cons_succ])
    refine wpAnyH_ready (rs := [9]) (by kernel_rfl) (by simp) ?_
    refine AllReadyH.cons (o := _) (by rw [List.getElem?_toArray]; exact rfl) (fun K hK => ?_) AllReadyH.nil
    rw [if_neg (by rw [show Region.wanted _ _ = false by kernel_rfl]; decide)]
    refine hK.out _ _ hHeld (fun hHeld => ?_)
    clear hK K
    (try simp only [Act.put, List.setIfInBounds_toArray, List.set_cons_zero, List.set_cons_succ])
    refine wpAnyH_take (i := 10) (oi := _) (v := .bool false) (by rw [List.getElem?_toArray]; exact rfl) (by kernel_rfl) (by kernel_rfl) (by kernel_rfl) (by intro _ _ _ h; exact h) (Or.inl ⟨by kernel_rfl, ?y1_10⟩) hHeld ?_
    case y1_10 =>
      intro w hSw
      obtain ⟨c0, c1', c2'⟩ := hSw
      go_simp
      (try with_reducible rfl)
    (try simp only [Act.put, List.setIfInBounds_toArray, List.set_cons_zero, List.set_cons_succ])
    refine wpAnyH_take (i := 11) (oi := _) (v := .bool false) (by rw [List.getElem?_toArray]; exact rfl) (by kernel_rfl) (by kernel_rfl) (by kernel_rfl) (by intro _ _ _ h; exact h) (Or.inl ⟨by kernel_rfl, ?y1_11⟩) hHeld ?_
    case y1_11 =>
      intro w hSw
      obtain ⟨c0, c1', c2'⟩ := hSw
      go_simp
      (try with_reducible rfl)
    (try simp only [Act.put, List.setIfInBounds_toArray, List.set_cons_zero, List.set_cons_succ])
    refine wpAnyH_take (i := 12) (oi := _) (v := undef) (by rw [List.getElem?_toArray]; exact rfl) (by kernel_rfl) (by kernel_rfl) (by kernel_rfl) (by intro _ _ _ h; exact h) (Or.inr ⟨by kernel_rfl, rfl⟩) hHeld ?_
    (try simp only [Act.put, List.setIfInBounds_toArray, List.set_cons_zero, List.set_cons_succ])
    refine wpAnyH_take (i := 13) (oi := _) (v := undef) (by rw [List.getElem?_toArray]; exact rfl) (by kernel_rfl) (by kernel_rfl) (by kernel_rfl) (by intro _ _ _ h; exact h) (Or.inr ⟨by kernel_rfl, rfl⟩) hHeld ?_
    (try simp only [Act.put, List.setIfInBounds_toArray, List.set_cons_zero, List.set_cons_succ])
    refine wpAnyH_take (i := 14) (oi := _) (v := undef) (by rw [List.getElem?_toArray]; exact rfl) (by kernel_rfl) (by kernel_rfl) (by kernel_rfl) (by intro _ _ _ h; exact h) (Or.inr ⟨by kernel_rfl, rfl⟩) hHeld ?_
    (try simp only [Act.put, List.setIfInBounds_toArray, List.set_cons_zero, List.set_cons_succ])
    refine wpAnyH_take (i := 15) (oi := _) (v := undef) (by rw [List.getElem?_toArray]; exact rfl) (by kernel_rfl) (by kernel_rfl) (by kernel_rfl) (by intro _ _ _ h; exact h) (Or.inr ⟨by kernel_rfl, rfl⟩) hHeld ?_
    (try simp only [Act.put, List.setIfInBounds_toArray, List.set_cons_zero, List.set_cons_succ])
    refine wpAnyH_ready (rs := [16]) (by kernel_rfl) (by simp) ?_
    refine AllReadyH.cons (o := _) (by rw [List.getElem?_toArray]; exact rfl) (fun K hK => ?_) AllReadyH.nil
    rw [if_neg (by rw [show Region.wanted _ _ = false by kernel_rfl]; decide)]
    refine hK.out _ _ hHeld (fun hHeld => ?_)
    clear hK K
    (try simp only [Act.put, List.setIfInBounds_toArray, List.set_cons_zero, List.set_cons_succ])
    refine wpAnyH_take (i := 17) (oi := _) (v := .bool false) (by rw [List.getElem?_toArray]; exact rfl) (by kernel_rfl) (by kernel_rfl) (by kernel_rfl) (by intro _ _ _ h; exact h) (Or.inl ⟨by kernel_rfl, ?y1_17⟩) hHeld ?_
    case y1_17 =>
      intro w hSw
      obtain ⟨c0, c1', c2'⟩ := hSw
      go_simp
      (try with_reducible rfl)
    (try simp only [Act.put, List.setIfInBounds_toArray, List.set_cons_zero, List.set_cons_succ])
    refine wpAnyH_take (i := 18) (oi := _) (v := .bool false) (by rw [List.getElem?_toArray]; exact rfl) (by kernel_rfl) (by kernel_rfl) (by kernel_rfl) (by intro _ _ _ h; exact h) (Or.inl ⟨by kernel_rfl, ?y1_18⟩) hHeld ?_
    case y1_18 =>
      intro w hSw
      obtain ⟨c0, c1', c2'⟩ := hSw
      go_simp
      (try with_reducible rfl)
    (try simp only [Act.put, List.setIfInBounds_toArray, List.set_cons_zero, List.set_cons_succ])
    refine wpAnyH_done (by kernel_rfl) ?_ _
    (try simp only [Exit.then])
    go_wp2
    go_ret
    exact ⟨by rw [HRV.out]; rfl, HB0.out.trans (Y2.out.mono HGS.out)⟩
  have H12 : Hid (n1 ≤ 12) := by have h1 := hco.1.2; have h2 := HL1.out; show _ ≤ _; omega
  by_cases hk : PlGood S.cols.length S.key 4 ∧ ∀ x ∈ S.key, fast S.cols x
  case neg =>
    have HRV : Hid (R = false) := by
      show _ = _
      rw [← HR.out]
      exact decide_eq_false fun hh => hk (HSP.out.1 hh).2.1
    refine wp_region_held_drew (S := fun w' => w'.cell? ⟨g, 0, none⟩ = some (.slice a1 n1 c1) ∧ w'.cell? ⟨g, 1, none⟩ = some (.slice a2 n2 c2) ∧ w'.cell? ⟨g, 2, none⟩ = some (.slice a3 n3 c3)) (by kernel_rfl) K0.out (fun hHeld => ?_)
    refine wpAnyH_take (i := 0) (oi := _) (v := ?v2_0) (by rw [List.getElem?_toArray]; exact rfl) (by kernel_rfl) (by kernel_rfl) (by kernel_rfl) (by intro _ _ _ h; exact h) (Or.inl ⟨by kernel_rfl, ?y2_0⟩) hHeld ?_
    case y2_0 =>
      intro w hSw
      obtain ⟨c0, c1', c2'⟩ := hSw
      go_simp
      (try with_reducible rfl)
    (try simp only [Act.put, List.setIfInBounds_toArray, List.set_cons_zero, List.set_cons_succ])
    refine wpAnyH_take (i := 1) (oi := _) (v := ?v2_1) (by rw [List.getElem?_toArray]; exact rfl) (by kernel_rfl) (by kernel_rfl) (by kernel_rfl) (by intro _ _ _ h; exact h) (Or.inl ⟨by kernel_rfl, ?y2_1⟩) hHeld ?_
    case y2_1 =>
      intro w hSw
      obtain ⟨c0, c1', c2'⟩ := hSw
      go_simp
      (try with_reducible rfl)
    (try simp only [Act.put, List.setIfInBounds_toArray, List.set_cons_zero, List.set_cons_succ])
    refine wpAnyH_ready (rs := [2]) (by kernel_rfl) (by simp) ?_
    refine AllReadyH.cons (o := _) (by rw [List.getElem?_toArray]; exact rfl) (fun K hK => ?_) AllReadyH.nil
    rw [if_pos (by kernel_rfl)]
    go_simp
    refine (colsOk_any a1 n1 c1 S.cols _ (HSA.out.cols.below HB00.out (Nat.le_refl _)) HCZ.out).mono ?_
    rintro e w2 ⟨rfl, hb2⟩
    rw [decide_eq_true hco]
    have Y2 : Hid (Below W.heap.size W w2) := HB00.out.trans (hb2.mono HB00.out.size)
    clear hb2
    refine hK.out _ _ (BX.out _ Y2.out) (fun hHeld => ?_)
    clear hK K
    (try simp only [Act.put, List.setIfInBounds_toArray, List.set_cons_zero, List.set_cons_succ])
    refine wpAnyH_take (i := 3) (oi := _) (v := .bool true) (by rw [List.getElem?_toArray]; exact rfl) (by kernel_rfl) (by kernel_rfl) (by kernel_rfl) (by intro _ _ _ h; exact h) (Or.inl ⟨by kernel_rfl, ?y2_3⟩) hHeld ?_
    case y2_3 =>
      intro w hSw
      obtain ⟨c0, c1', c2'⟩ := hSw
      go_simp
      (try with_reducible rfl)
    (try simp only [Act.put, List.setIfInBounds_toArray, List.set_cons_zero, List.set_cons_succ])
    refine wpAnyH_take (i := 4) (oi := _) (v := ?v2_4) (by rw [List.getElem?_toArray]; exact rfl) (by kernel_rfl) (by kernel_rfl) (by kernel_rfl) (by intro _ _ _ h; exact h) (Or.inl ⟨by kernel_rfl, ?y2_4⟩) hHeld ?_
    case y2_4 =>
      intro w hSw
      obtain ⟨c0, c1', c2'⟩ := hSw
      go_simp
      (try with_reducible rfl)
    (try simp only [Act.put, List.setIfInBounds_toArray, List.set_cons_zero, List.set_cons_succ])
    refine wpAnyH_take (i := 5) (oi := _) (v := ?v2_5) (by rw [List.getElem?_toArray]; exact rfl) (by kernel_rfl) (by kernel_rfl) (by kernel_rfl) (by intro _ _ _ h; exact h) (Or.inl ⟨by kernel_rfl, ?y2_5⟩) hHeld ?_
    case y2_5 =>
      intro w hSw
      obtain ⟨c0, c1', c2'⟩ := hSw
      go_simp
      (try with_reducible rfl)
    (try simp only [Act.put, List.setIfInBounds_toArray, List.set_cons_zero, List.set_cons_succ])
    refine wpAnyH_take (i := 6) (oi := _) (v := ?v2_6) (by rw [List.getElem?_toArray]; exact rfl) (by kernel_rfl) (by kernel_rfl) (by kernel_rfl) (by intro _ _ _ h; exact h) (Or.inl ⟨by kernel_rfl, ?y2_6⟩) hHeld ?_
    case y2_6 =>
      intro w hSw
      obtain ⟨c0, c1', c2'⟩ := hSw
      go_simp
      (try with_reducible rfl)
    (try simp only [Act.put, List.setIfInBounds_toArray, List.set_cons_zero, List.set_cons_succ])
    refine wpAnyH_take (i := 7) (oi := _) (v := ?v2_7) (by rw [List.getElem?_toArray]; exact rfl) (by kernel_rfl) (by kernel_rfl) (by kernel_rfl) (by intro _ _ _ h; exact h) (Or.inl ⟨by kernel_rfl, ?y2_7⟩) hHeld ?_
    case y2_7 =>
      intro w hSw
      obtain ⟨c0, c1', c2'⟩ := hSw
      go_simp
      (try with_reducible rfl)
    (try simp only [Act.put, List.setIfInBounds_toArray, List.set_cons_zero, List.set_cons_succ])
    refine wpAnyH_ready (rs := [8]) (by kernel_rfl) (by simp) ?_
    refine AllReadyH.cons (o := _) (by rw [List.getElem?_toArray]; exact rfl) (fun K hK => ?_) AllReadyH.nil
    rw [if_pos (by kernel_rfl)]
    go_simp
    refine (keyPlaces_any a1 n1 c1 S.cols _ (HSA.out.cols.below Y2.out (Nat.le_refl _)) H12.out HCZ.out hco.2.1.2).mono ?_
    rintro e w3 ⟨⟨v, zs, rfl, ho, hmem⟩, hb3⟩
    have Y3 : Hid (Below W.heap.size W w3) := Y2.out.trans (hb3.mono Y2.out.size)
    have HO : Hid (OrdAt w3 v zs) := ho
    have HM : Hid (∀ x, x ∈ zs ↔ 0 ≤ x ∧ x < (n1 : Int) ∧ fast S.cols x) := hmem
    clear hb3 ho hmem
    refine hK.out _ _ (BX.out _ Y3.out) (fun hHeld => ?_)
    clear hK K
    (try simp only [Act.put, List.setIfInBounds_toArray, List.set_cons_zero, List.set_cons_succ])
    refine wpAnyH_ready (rs := [9]) (by kernel_rfl) (by simp) ?_
    refine AllReadyH.cons (o := _) (by rw [List.getElem?_toArray]; exact rfl) (fun K hK => ?_) AllReadyH.nil
    rw [if_pos (by kernel_rfl)]
    go_simp
    refine (chosenOk_any a2 n2 c2 S.key 4 v zs _ (HSA.out.key.below Y3.out (Nat.le_refl _)) HSA.out.r2 HSA.out.k2 HO.out).mono ?_
    rintro e w4 ⟨rfl, rfl⟩
    rw [decide_eq_decide.2 (ch_key HM.out HL1.out), decide_eq_false hk]
    refine hK.out _ _ hHeld (fun hHeld => ?_)
    clear hK K
    (try simp only [Act.put, List.setIfInBounds_toArray, List.set_cons_zero, List.set_cons_succ])
    refine wpAnyH_take (i := 10) (oi := _) (v := .bool false) (by rw [List.getElem?_toArray]; exact rfl) (by kernel_rfl) (by kernel_rfl) (by kernel_rfl) (by intro _ _ _ h; exact h) (Or.inl ⟨by kernel_rfl, ?y2_10⟩) hHeld ?_
    case y2_10 =>
      intro w hSw
      obtain ⟨c0, c1', c2'⟩ := hSw
      go_simp
      (try with_reducible rfl)
    (try simp only [Act.put, List.setIfInBounds_toArray, List.set_cons_zero, List.set_cons_succ])
    refine wpAnyH_take (i := 11) (oi := _) (v := .bool false) (by rw [List.getElem?_toArray]; exact rfl) (by kernel_rfl) (by kernel_rfl) (by kernel_rfl) (by intro _ _ _ h; exact h) (Or.inl ⟨by kernel_rfl, ?y2_11⟩) hHeld ?_
    case y2_11 =>
      intro w hSw
      obtain ⟨c0, c1', c2'⟩ := hSw
      go_simp
      (try with_reducible rfl)
    (try simp only [Act.put, List.setIfInBounds_toArray, List.set_cons_zero, List.set_cons_succ])
    refine wpAnyH_take (i := 12) (oi := _) (v := undef) (by rw [List.getElem?_toArray]; exact rfl) (by kernel_rfl) (by kernel_rfl) (by kernel_rfl) (by intro _ _ _ h; exact h) (Or.inr ⟨by kernel_rfl, rfl⟩) hHeld ?_
    (try simp only [Act.put, List.setIfInBounds_toArray, List.set_cons_zero, List.set_cons_succ])
    refine wpAnyH_take (i := 13) (oi := _) (v := undef) (by rw [List.getElem?_toArray]; exact rfl) (by kernel_rfl) (by kernel_rfl) (by kernel_rfl) (by intro _ _ _ h; exact h) (Or.inr ⟨by kernel_rfl, rfl⟩) hHeld ?_
    (try simp only [Act.put, List.setIfInBounds_toArray, List.set_cons_zero, List.set_cons_succ])
    refine wpAnyH_take (i := 14) (oi := _) (v := undef) (by rw [List.getElem?_toArray]; exact rfl) (by kernel_rfl) (by kernel_rfl) (by kernel_rfl) (by intro _ _ _ h; exact h) (Or.inr ⟨by kernel_rfl, rfl⟩) hHeld ?_
    (try simp only [Act.put, List.setIfInBounds_toArray, List.set_cons_zero, List.set_cons_succ])
    refine wpAnyH_take (i := 15) (oi := _) (v := undef) (by rw [List.getElem?_toArray]; exact rfl) (by kernel_rfl) (by kernel_rfl) (by kernel_rfl) (by intro _ _ _ h; exact h) (Or.inr ⟨by kernel_rfl, rfl⟩) hHeld ?_
    (try simp only [Act.put, List.setIfInBounds_toArray, List.set_cons_zero, List.set_cons_succ])
    refine wpAnyH_ready (rs := [16]) (by kernel_rfl) (by simp) ?_
    refine AllReadyH.cons (o := _) (by rw [List.getElem?_toArray]; exact rfl) (fun K hK => ?_) AllReadyH.nil
    rw [if_neg (by rw [show Region.wanted _ _ = false by kernel_rfl]; decide)]
    refine hK.out _ _ hHeld (fun hHeld => ?_)
    clear hK K
    (try simp only [Act.put, List.setIfInBounds_toArray, List.set_cons_zero, List.set_cons_succ])
    refine wpAnyH_take (i := 17) (oi := _) (v := .bool false) (by rw [List.getElem?_toArray]; exact rfl) (by kernel_rfl) (by kernel_rfl) (by kernel_rfl) (by intro _ _ _ h; exact h) (Or.inl ⟨by kernel_rfl, ?y2_17⟩) hHeld ?_
    case y2_17 =>
      intro w hSw
      obtain ⟨c0, c1', c2'⟩ := hSw
      go_simp
      (try with_reducible rfl)
    (try simp only [Act.put, List.setIfInBounds_toArray, List.set_cons_zero, List.set_cons_succ])
    refine wpAnyH_take (i := 18) (oi := _) (v := .bool false) (by rw [List.getElem?_toArray]; exact rfl) (by kernel_rfl) (by kernel_rfl) (by kernel_rfl) (by intro _ _ _ h; exact h) (Or.inl ⟨by kernel_rfl, ?y2_18⟩) hHeld ?_
    case y2_18 =>
      intro w hSw
      obtain ⟨c0, c1', c2'⟩ := hSw
      go_simp
      (try with_reducible rfl)
    (try simp only [Act.put, List.setIfInBounds_toArray, List.set_cons_zero, List.set_cons_succ])
    refine wpAnyH_done (by kernel_rfl) ?_ _
    (try simp only [Exit.then])
    go_wp2
    go_ret
    exact ⟨by rw [HRV.out]; rfl, HB0.out.trans (Y3.out.mono HGS.out)⟩
  by_cases hx : IxGood n1 S.idx
  case neg =>
    have HRV : Hid (R = false) := by
      show _ = _
      rw [← HR.out]
      exact decide_eq_false fun hh => hx (by have h1 := (HSP.out.1 hh).2.2; rwa [HL1.out] at h1)
    refine wp_region_held_drew (S := fun w' => w'.cell? ⟨g, 0, none⟩ = some (.slice a1 n1 c1) ∧ w'.cell? ⟨g, 1, none⟩ = some (.slice a2 n2 c2) ∧ w'.cell? ⟨g, 2, none⟩ = some (.slice a3 n3 c3)) (by kernel_rfl) K0.out (fun hHeld => ?_)
    refine wpAnyH_take (i := 0) (oi := _) (v := ?v3_0) (by rw [List.getElem?_toArray]; exact rfl) (by kernel_rfl) (by kernel_rfl) (by kernel_rfl) (by intro _ _ _ h; exact h) (Or.inl ⟨by kernel_rfl, ?y3_0⟩) hHeld ?_
    case y3_0 =>
      intro w hSw
      obtain ⟨c0, c1', c2'⟩ := hSw
      go_simp
      (try with_reducible rfl)
    (try simp only [Act.put, List.setIfInBounds_toArray, List.set_cons_zero, List.set_cons_succ])
    refine wpAnyH_take (i := 1) (oi := _) (v := ?v3_1) (by rw [List.getElem?_toArray]; exact rfl) (by kernel_rfl) (by kernel_rfl) (by kernel_rfl) (by intro _ _ _ h; exact h) (Or.inl ⟨by kernel_rfl, ?y3_1⟩) hHeld ?_
    case y3_1 =>
      intro w hSw
      obtain ⟨c0, c1', c2'⟩ := hSw
      go_simp
      (try with_reducible rfl)
    (try simp only [Act.put, List.setIfInBounds_toArray, List.set_cons_zero, List.set_cons_succ])
    refine wpAnyH_ready (rs := [2]) (by kernel_rfl) (by simp) ?_
    refine AllReadyH.cons (o := _) (by rw [List.getElem?_toArray]; exact rfl) (fun K hK => ?_) AllReadyH.nil
    rw [if_pos (by kernel_rfl)]
    go_simp
    refine (colsOk_any a1 n1 c1 S.cols _ (HSA.out.cols.below HB00.out (Nat.le_refl _)) HCZ.out).mono ?_
    rintro e w2 ⟨rfl, hb2⟩
    rw [decide_eq_true hco]
    have Y2 : Hid (Below W.heap.size W w2) := HB00.out.trans (hb2.mono HB00.out.size)
    clear hb2
    refine hK.out _ _ (BX.out _ Y2.out) (fun hHeld => ?_)
    clear hK K
    (try simp only [Act.put, List.setIfInBounds_toArray, List.set_cons_zero, List.set_cons_succ])
    refine wpAnyH_take (i := 3) (oi := _) (v := .bool true) (by rw [List.getElem?_toArray]; exact rfl) (by kernel_rfl) (by kernel_rfl) (by kernel_rfl) (by intro _ _ _ h; exact h) (Or.inl ⟨by kernel_rfl, ?y3_3⟩) hHeld ?_
    case y3_3 =>
      intro w hSw
      obtain ⟨c0, c1', c2'⟩ := hSw
      go_simp
      (try with_reducible rfl)
    (try simp only [Act.put, List.setIfInBounds_toArray, List.set_cons_zero, List.set_cons_succ])
    refine wpAnyH_take (i := 4) (oi := _) (v := ?v3_4) (by rw [List.getElem?_toArray]; exact rfl) (by kernel_rfl) (by kernel_rfl) (by kernel_rfl) (by intro _ _ _ h; exact h) (Or.inl ⟨by kernel_rfl, ?y3_4⟩) hHeld ?_
    case y3_4 =>
      intro w hSw
      obtain ⟨c0, c1', c2'⟩ := hSw
      go_simp
      (try with_reducible rfl)
    (try simp only [Act.put, List.setIfInBounds_toArray, List.set_cons_zero, List.set_cons_succ])
    refine wpAnyH_take (i := 5) (oi := _) (v := ?v3_5) (by rw [List.getElem?_toArray]; exact rfl) (by kernel_rfl) (by kernel_rfl) (by kernel_rfl) (by intro _ _ _ h; exact h) (Or.inl ⟨by kernel_rfl, ?y3_5⟩) hHeld ?_
    case y3_5 =>
      intro w hSw
      obtain ⟨c0, c1', c2'⟩ := hSw
      go_simp
      (try with_reducible rfl)
    (try simp only [Act.put, List.setIfInBounds_toArray, List.set_cons_zero, List.set_cons_succ])
    refine wpAnyH_take (i := 6) (oi := _) (v := ?v3_6) (by rw [List.getElem?_toArray]; exact rfl) (by kernel_rfl) (by kernel_rfl) (by kernel_rfl) (by intro _ _ _ h; exact h) (Or.inl ⟨by kernel_rfl, ?y3_6⟩) hHeld ?_
    case y3_6 =>
      intro w hSw
      obtain ⟨c0, c1', c2'⟩ := hSw
      go_simp
      (try with_reducible rfl)
    (try simp only [Act.put, List.setIfInBounds_toArray, List.set_cons_zero, List.set_cons_succ])
    refine wpAnyH_take (i := 7) (oi := _) (v := ?v3_7) (by rw [List.getElem?_toArray]; exact rfl) (by kernel_rfl) (by kernel_rfl) (by kernel_rfl) (by intro _ _ _ h; exact h) (Or.inl ⟨by kernel_rfl, ?y3_7⟩) hHeld ?_
    case y3_7 =>
      intro w hSw
      obtain ⟨c0, c1', c2'⟩ := hSw
      go_simp
      (try with_reducible rfl)
    (try simp only [Act.put, List.setIfInBounds_toArray, List.set_cons_zero, List.set_cons_succ])
    refine wpAnyH_ready (rs := [8]) (by kernel_rfl) (by simp) ?_
    refine AllReadyH.cons (o := _) (by rw [List.getElem?_toArray]; exact rfl) (fun K hK => ?_) AllReadyH.nil
    rw [if_pos (by kernel_rfl)]
    go_simp
    refine (keyPlaces_any a1 n1 c1 S.cols _ (HSA.out.cols.below Y2.out (Nat.le_refl _)) H12.out HCZ.out hco.2.1.2).mono ?_
    rintro e w3 ⟨⟨v, zs, rfl, ho, hmem⟩, hb3⟩
    have Y3 : Hid (Below W.heap.size W w3) := Y2.out.trans (hb3.mono Y2.out.size)
    have HO : Hid (OrdAt w3 v zs) := ho
    have HM : Hid (∀ x, x ∈ zs ↔ 0 ≤ x ∧ x < (n1 : Int) ∧ fast S.cols x) := hmem
    clear hb3 ho hmem
    refine hK.out _ _ (BX.out _ Y3.out) (fun hHeld => ?_)
    clear hK K
    (try simp only [Act.put, List.setIfInBounds_toArray, List.set_cons_zero, List.set_cons_succ])
    refine wpAnyH_ready (rs := [9]) (by kernel_rfl) (by simp) ?_
    refine AllReadyH.cons (o := _) (by rw [List.getElem?_toArray]; exact rfl) (fun K hK => ?_) AllReadyH.nil
    rw [if_pos (by kernel_rfl)]
    go_simp
    refine (chosenOk_any a2 n2 c2 S.key 4 v zs _ (HSA.out.key.below Y3.out (Nat.le_refl _)) HSA.out.r2 HSA.out.k2 HO.out).mono ?_
    rintro e w4 ⟨rfl, rfl⟩
    rw [decide_eq_decide.2 (ch_key HM.out HL1.out), decide_eq_true hk]
    refine hK.out _ _ hHeld (fun hHeld => ?_)
    clear hK K
    (try simp only [Act.put, List.setIfInBounds_toArray, List.set_cons_zero, List.set_cons_succ])
    refine wpAnyH_take (i := 10) (oi := _) (v := .bool true) (by rw [List.getElem?_toArray]; exact rfl) (by kernel_rfl) (by kernel_rfl) (by kernel_rfl) (by intro _ _ _ h; exact h) (Or.inl ⟨by kernel_rfl, ?y3_10⟩) hHeld ?_
    case y3_10 =>
      intro w hSw
      obtain ⟨c0, c1', c2'⟩ := hSw
      go_simp
      (try with_reducible rfl)
    (try simp only [Act.put, List.setIfInBounds_toArray, List.set_cons_zero, List.set_cons_succ])
    refine wpAnyH_take (i := 11) (oi := _) (v := .bool true) (by rw [List.getElem?_toArray]; exact rfl) (by kernel_rfl) (by kernel_rfl) (by kernel_rfl) (by intro _ _ _ h; exact h) (Or.inl ⟨by kernel_rfl, ?y3_11⟩) hHeld ?_
    case y3_11 =>
      intro w hSw
      obtain ⟨c0, c1', c2'⟩ := hSw
      go_simp
      (try with_reducible rfl)
    (try simp only [Act.put, List.setIfInBounds_toArray, List.set_cons_zero, List.set_cons_succ])
    refine wpAnyH_take (i := 12) (oi := _) (v := ?v3_12) (by rw [List.getElem?_toArray]; exact rfl) (by kernel_rfl) (by kernel_rfl) (by kernel_rfl) (by intro _ _ _ h; exact h) (Or.inl ⟨by kernel_rfl, ?y3_12⟩) hHeld ?_
    case y3_12 =>
      intro w hSw
      obtain ⟨c0, c1', c2'⟩ := hSw
      go_simp
      (try with_reducible rfl)
    (try simp only [Act.put, List.setIfInBounds_toArray, List.set_cons_zero, List.set_cons_succ])
    refine wpAnyH_take (i := 13) (oi := _) (v := ?v3_13) (by rw [List.getElem?_toArray]; exact rfl) (by kernel_rfl) (by kernel_rfl) (by kernel_rfl) (by intro _ _ _ h; exact h) (Or.inl ⟨by kernel_rfl, ?y3_13⟩) hHeld ?_
    case y3_13 =>
      intro w hSw
      obtain ⟨c0, c1', c2'⟩ := hSw
      go_simp
      (try with_reducible rfl)
    (try simp only [Act.put, List.setIfInBounds_toArray, List.set_cons_zero, List.set_cons_succ])
    refine wpAnyH_take (i := 14) (oi := _) (v := ?v3_14) (by rw [List.getElem?_toArray]; exact rfl) (by kernel_rfl) (by kernel_rfl) (by kernel_rfl) (by intro _ _ _ h; exact h) (Or.inl ⟨by kernel_rfl, ?y3_14⟩) hHeld ?_
    case y3_14 =>
      intro w hSw
      obtain ⟨c0, c1', c2'⟩ := hSw
      go_simp
      (try with_reducible rfl)
    (try simp only [Act.put, List.setIfInBounds_toArray, List.set_cons_zero, List.set_cons_succ])
    refine wpAnyH_take (i := 15) (oi := _) (v := ?v3_15) (by rw [List.getElem?_toArray]; exact rfl) (by kernel_rfl) (by kernel_rfl) (by kernel_rfl) (by intro _ _ _ h; exact h) (Or.inl ⟨by kernel_rfl, ?y3_15⟩) hHeld ?_
    case y3_15 =>
      intro w hSw
      obtain ⟨c0, c1', c2'⟩ := hSw
      go_simp
      (try with_reducible rfl)
    (try simp only [Act.put, List.setIfInBounds_toArray, List.set_cons_zero, List.set_cons_succ])
    refine wpAnyH_ready (rs := [16]) (by kernel_rfl) (by simp) ?_
    refine AllReadyH.cons (o := _) (by rw [List.getElem?_toArray]; exact rfl) (fun K hK => ?_) AllReadyH.nil
    rw [if_pos (by kernel_rfl)]
    go_simp
    refine (indexesOk_any a3 n3 c3 S.idx a1 n1 c1 S.cols _ (HSA.out.idx.below Y3.out (Nat.le_refl _)) (HSA.out.cols.below Y3.out (Nat.le_refl _)) H12.out HXZ.out HCZ.out).mono ?_
    rintro e w5 ⟨rfl, hb5⟩
    rw [decide_eq_false hx]
    have Y5 : Hid (Below W.heap.size W w5) := Y3.out.trans (hb5.mono Y3.out.size)
    clear hb5
    refine hK.out _ _ (BX.out _ Y5.out) (fun hHeld => ?_)
    clear hK K
    (try simp only [Act.put, List.setIfInBounds_toArray, List.set_cons_zero, List.set_cons_succ])
    refine wpAnyH_take (i := 17) (oi := _) (v := .bool false) (by rw [List.getElem?_toArray]; exact rfl) (by kernel_rfl) (by kernel_rfl) (by kernel_rfl) (by intro _ _ _ h; exact h) (Or.inl ⟨by kernel_rfl, ?y3_17⟩) hHeld ?_
    case y3_17 =>
      intro w hSw
      obtain ⟨c0, c1', c2'⟩ := hSw
      go_simp
      (try with_reducible rfl)
    (try simp only [Act.put, List.setIfInBounds_toArray, List.set_cons_zero, List.set_cons_succ])
    refine wpAnyH_take (i := 18) (oi := _) (v := .bool false) (by rw [List.getElem?_toArray]; exact rfl) (by kernel_rfl) (by kernel_rfl) (by kernel_rfl) (by intro _ _ _ h; exact h) (Or.inl ⟨by kernel_rfl, ?y3_18⟩) hHeld ?_
    case y3_18 =>
      intro w hSw
      obtain ⟨c0, c1', c2'⟩ := hSw
      go_simp
      (try with_reducible rfl)
    (try simp only [Act.put, List.setIfInBounds_toArray, List.set_cons_zero, List.set_cons_succ])
    refine wpAnyH_done (by kernel_rfl) ?_ _
    (try simp only [Exit.then])
    go_wp2
    go_ret
    exact ⟨by rw [HRV.out]; rfl, HB0.out.trans (Y5.out.mono HGS.out)⟩
  have HRV : Hid (R = true) := by
    show _ = _
    rw [← HR.out]
    exact decide_eq_true (HSP.out.2 ⟨hco, hk, by rw [HL1.out]; exact hx⟩)
  refine wp_region_held_drew (S := fun w' => w'.cell? ⟨g, 0, none⟩ = some (.slice a1 n1 c1) ∧ w'.cell? ⟨g, 1, none⟩ = some (.slice a2 n2 c2) ∧ w'.cell? ⟨g, 2, none⟩ = some (.slice a3 n3 c3)) (by kernel_rfl) K0.out (fun hHeld => ?_)
  refine wpAnyH_take (i := 0) (oi := _) (v := ?v4_0) (by rw [List.getElem?_toArray]; exact rfl) (by kernel_rfl) (by kernel_rfl) (by kernel_rfl) (by intro _ _ _ h; exact h) (Or.inl ⟨by kernel_rfl, ?y4_0⟩) hHeld ?_
  case y4_0 =>
    intro w hSw
    obtain ⟨c0, c1', c2'⟩ := hSw
    go_simp
    (try with_reducible rfl)
  (try simp only [Act.put, List.setIfInBounds_toArray, List.set_cons_zero, List.set_cons_succ])
  refine wpAnyH_take (i := 1) (oi := _) (v := ?v4_1) (by rw [List.getElem?_toArray]; exact rfl) (by kernel_rfl) (by kernel_rfl) (by kernel_rfl) (by intro _ _ _ h; exact h) (Or.inl ⟨by kernel_rfl, ?y4_1⟩) hHeld ?_
  case y4_1 =>
    intro w hSw
    obtain ⟨c0, c1', c2'⟩ := hSw
    go_simp
    (try with_reducible rfl)
  (try simp only [Act.put, List.setIfInBounds_toArray, List.set_cons_zero, List.set_cons_succ])
  refine wpAnyH_ready (rs := [2]) (by kernel_rfl) (by simp) ?_
  refine AllReadyH.cons (o := _) (by rw [List.getElem?_toArray]; exact rfl) (fun K hK => ?_) AllReadyH.nil
  rw [if_pos (by kernel_rfl)]
  go_simp
  refine (colsOk_any a1 n1 c1 S.cols _ (HSA.out.cols.below HB00.out (Nat.le_refl _)) HCZ.out).mono ?_
  rintro e w2 ⟨rfl, hb2⟩
  rw [decide_eq_true hco]
  have Y2 : Hid (Below W.heap.size W w2) := HB00.out.trans (hb2.mono HB00.out.size)
  clear hb2
  refine hK.out _ _ (BX.out _ Y2.out) (fun hHeld => ?_)
  clear hK K
  (try simp only [Act.put, List.setIfInBounds_toArray, List.set_cons_zero, List.set_cons_succ])
  refine wpAnyH_take (i := 3) (oi := _) (v := .bool true) (by rw [List.getElem?_toArray]; exact rfl) (by kernel_rfl) (by kernel_rfl) (by kernel_rfl) (by intro _ _ _ h; exact h) (Or.inl ⟨by kernel_rfl, ?y4_3⟩) hHeld ?_
  case y4_3 =>
    intro w hSw
    obtain ⟨c0, c1', c2'⟩ := hSw
    go_simp
    (try with_reducible rfl)
  (try simp only [Act.put, List.setIfInBounds_toArray, List.set_cons_zero, List.set_cons_succ])
  refine wpAnyH_take (i := 4) (oi := _) (v := ?v4_4) (by rw [List.getElem?_toArray]; exact rfl) (by kernel_rfl) (by kernel_rfl) (by kernel_rfl) (by intro _ _ _ h; exact h) (Or.inl ⟨by kernel_rfl, ?y4_4⟩) hHeld ?_
  case y4_4 =>
    intro w hSw
    obtain ⟨c0, c1', c2'⟩ := hSw
    go_simp
    (try with_reducible rfl)
  (try simp only [Act.put, List.setIfInBounds_toArray, List.set_cons_zero, List.set_cons_succ])
  refine wpAnyH_take (i := 5) (oi := _) (v := ?v4_5) (by rw [List.getElem?_toArray]; exact rfl) (by kernel_rfl) (by kernel_rfl) (by kernel_rfl) (by intro _ _ _ h; exact h) (Or.inl ⟨by kernel_rfl, ?y4_5⟩) hHeld ?_
  case y4_5 =>
    intro w hSw
    obtain ⟨c0, c1', c2'⟩ := hSw
    go_simp
    (try with_reducible rfl)
  (try simp only [Act.put, List.setIfInBounds_toArray, List.set_cons_zero, List.set_cons_succ])
  refine wpAnyH_take (i := 6) (oi := _) (v := ?v4_6) (by rw [List.getElem?_toArray]; exact rfl) (by kernel_rfl) (by kernel_rfl) (by kernel_rfl) (by intro _ _ _ h; exact h) (Or.inl ⟨by kernel_rfl, ?y4_6⟩) hHeld ?_
  case y4_6 =>
    intro w hSw
    obtain ⟨c0, c1', c2'⟩ := hSw
    go_simp
    (try with_reducible rfl)
  (try simp only [Act.put, List.setIfInBounds_toArray, List.set_cons_zero, List.set_cons_succ])
  refine wpAnyH_take (i := 7) (oi := _) (v := ?v4_7) (by rw [List.getElem?_toArray]; exact rfl) (by kernel_rfl) (by kernel_rfl) (by kernel_rfl) (by intro _ _ _ h; exact h) (Or.inl ⟨by kernel_rfl, ?y4_7⟩) hHeld ?_
  case y4_7 =>
    intro w hSw
    obtain ⟨c0, c1', c2'⟩ := hSw
    go_simp
    (try with_reducible rfl)
  (try simp only [Act.put, List.setIfInBounds_toArray, List.set_cons_zero, List.set_cons_succ])
  refine wpAnyH_ready (rs := [8]) (by kernel_rfl) (by simp) ?_
  refine AllReadyH.cons (o := _) (by rw [List.getElem?_toArray]; exact rfl) (fun K hK => ?_) AllReadyH.nil
  rw [if_pos (by kernel_rfl)]
  go_simp
  refine (keyPlaces_any a1 n1 c1 S.cols _ (HSA.out.cols.below Y2.out (Nat.le_refl _)) H12.out HCZ.out hco.2.1.2).mono ?_
  rintro e w3 ⟨⟨v, zs, rfl, ho, hmem⟩, hb3⟩
  have Y3 : Hid (Below W.heap.size W w3) := Y2.out.trans (hb3.mono Y2.out.size)
  have HO : Hid (OrdAt w3 v zs) := ho
  have HM : Hid (∀ x, x ∈ zs ↔ 0 ≤ x ∧ x < (n1 : Int) ∧ fast S.cols x) := hmem
  clear hb3 ho hmem
  refine hK.out _ _ (BX.out _ Y3.out) (fun hHeld => ?_)
  clear hK K
  (try simp only [Act.put, List.setIfInBounds_toArray, List.set_cons_zero, List.set_cons_succ])
  refine wpAnyH_ready (rs := [9]) (by kernel_rfl) (by simp) ?_
  refine AllReadyH.cons (o := _) (by rw [List.getElem?_toArray]; exact rfl) (fun K hK => ?_) AllReadyH.nil
  rw [if_pos (by kernel_rfl)]
  go_simp
  refine (chosenOk_any a2 n2 c2 S.key 4 v zs _ (HSA.out.key.below Y3.out (Nat.le_refl _)) HSA.out.r2 HSA.out.k2 HO.out).mono ?_
  rintro e w4 ⟨rfl, rfl⟩
  rw [decide_eq_decide.2 (ch_key HM.out HL1.out), decide_eq_true hk]
  refine hK.out _ _ hHeld (fun hHeld => ?_)
  clear hK K
  (try simp only [Act.put, List.setIfInBounds_toArray, List.set_cons_zero, List.set_cons_succ])
  refine wpAnyH_take (i := 10) (oi := _) (v := .bool true) (by rw [List.getElem?_toArray]; exact rfl) (by kernel_rfl) (by kernel_rfl) (by kernel_rfl) (by intro _ _ _ h; exact h) (Or.inl ⟨by kernel_rfl, ?y4_10⟩) hHeld ?_
  case y4_10 =>
    intro w hSw
    obtain ⟨c0, c1', c2'⟩ := hSw
    go_simp
    (try with_reducible rfl)
  (try simp only [Act.put, List.setIfInBounds_toArray, List.set_cons_zero, List.set_cons_succ])
  refine wpAnyH_take (i := 11) (oi := _) (v := .bool true) (by rw [List.getElem?_toArray]; exact rfl) (by kernel_rfl) (by kernel_rfl) (by kernel_rfl) (by intro _ _ _ h; exact h) (Or.inl ⟨by kernel_rfl, ?y4_11⟩) hHeld ?_
  case y4_11 =>
    intro w hSw
    obtain ⟨c0, c1', c2'⟩ := hSw
    go_simp
    (try with_reducible rfl)
  (try simp only [Act.put, List.setIfInBounds_toArray, List.set_cons_zero, List.set_cons_succ])
  refine wpAnyH_take (i := 12) (oi := _) (v := ?v4_12) (by rw [List.getElem?_toArray]; exact rfl) (by kernel_rfl) (by kernel_rfl) (by kernel_rfl) (by intro _ _ _ h; exact h) (Or.inl ⟨by kernel_rfl, ?y4_12⟩) hHeld ?_
  case y4_12 =>
    intro w hSw
    obtain ⟨c0, c1', c2'⟩ := hSw
    go_simp
    (try with_reducible rfl)
  (try simp only [Act.put, List.setIfInBounds_toArray, List.set_cons_zero, List.set_cons_succ])
  refine wpAnyH_take (i := 13) (oi := _) (v := ?v4_13) (by rw [List.getElem?_toArray]; exact rfl) (by kernel_rfl) (by kernel_rfl) (by kernel_rfl) (by intro _ _ _ h; exact h) (Or.inl ⟨by kernel_rfl, ?y4_13⟩) hHeld ?_
  case y4_13 =>
    intro w hSw
    obtain ⟨c0, c1', c2'⟩ := hSw
    go_simp
    (try with_reducible rfl)
  (try simp only [Act.put, List.setIfInBounds_toArray, List.set_cons_zero, List.set_cons_succ])
  refine wpAnyH_take (i := 14) (oi := _) (v := ?v4_14) (by rw [List.getElem?_toArray]; exact rfl) (by kernel_rfl) (by kernel_rfl) (by kernel_rfl) (by intro _ _ _ h; exact h) (Or.inl ⟨by kernel_rfl, ?y4_14⟩) hHeld ?_
  case y4_14 =>
    intro w hSw
    obtain ⟨c0, c1', c2'⟩ := hSw
    go_simp
    (try with_reducible rfl)
  (try simp only [Act.put, List.setIfInBounds_toArray, List.set_cons_zero, List.set_cons_succ])
  refine wpAnyH_take (i := 15) (oi := _) (v := ?v4_15) (by rw [List.getElem?_toArray]; exact rfl) (by kernel_rfl) (by kernel_rfl) (by kernel_rfl) (by intro _ _ _ h; exact h) (Or.inl ⟨by kernel_rfl, ?y4_15⟩) hHeld ?_
  case y4_15 =>
    intro w hSw
    obtain ⟨c0, c1', c2'⟩ := hSw
    go_simp
    (try with_reducible rfl)
  (try simp only [Act.put, List.setIfInBounds_toArray, List.set_cons_zero, List.set_cons_succ])
  refine wpAnyH_ready (rs := [16]) (by kernel_rfl) (by simp) ?_
  refine AllReadyH.cons (o := _) (by rw [List.getElem?_toArray]; exact rfl) (fun K hK => ?_) AllReadyH.nil
  rw [if_pos (by kernel_rfl)]
  go_simp
  refine (indexesOk_any a3 n3 c3 S.idx a1 n1 c1 S.cols _ (HSA.out.idx.below Y3.out (Nat.le_refl _)) (HSA.out.cols.below Y3.out (Nat.le_refl _)) H12.out HXZ.out HCZ.out).mono ?_
  rintro e w5 ⟨rfl, hb5⟩
  rw [decide_eq_true hx]
  have Y5 : Hid (Below W.heap.size W w5) := Y3.out.trans (hb5.mono Y3.out.size)
  clear hb5
  refine hK.out _ _ (BX.out _ Y5.out) (fun hHeld => ?_)
  clear hK K
  (try simp only [Act.put, List.setIfInBounds_toArray, List.set_cons_zero, List.set_cons_succ])
  refine wpAnyH_take (i := 17) (oi := _) (v := .bool true) (by rw [List.getElem?_toArray]; exact rfl) (by kernel_rfl) (by kernel_rfl) (by kernel_rfl) (by intro _ _ _ h; exact h) (Or.inl ⟨by kernel_rfl, ?y4_17⟩) hHeld ?_
  case y4_17 =>
    intro w hSw
    obtain ⟨c0, c1', c2'⟩ := hSw
    go_simp
    (try with_reducible rfl)
  (try simp only [Act.put, List.setIfInBounds_toArray, List.set_cons_zero, List.set_cons_succ])
  refine wpAnyH_take (i := 18) (oi := _) (v := .bool true) (by rw [List.getElem?_toArray]; exact rfl) (by kernel_rfl) (by kernel_rfl) (by kernel_rfl) (by intro _ _ _ h; exact h) (Or.inl ⟨by kernel_rfl, ?y4_18⟩) hHeld ?_
  case y4_18 =>
    intro w hSw
    obtain ⟨c0, c1', c2'⟩ := hSw
    go_simp
    (try with_reducible rfl)
  (try simp only [Act.put, List.setIfInBounds_toArray, List.set_cons_zero, List.set_cons_succ])
  refine wpAnyH_done (by kernel_rfl) ?_ _
  (try simp only [Exit.then])
  go_wp2
  go_ret
  exact ⟨by rw [HRV.out]; rfl, HB0.out.trans (Y5.out.mono HGS.out)⟩
end
section
open Go.ChangeShapes Go.WideShapes Go.ChangeAt Go.RowKit
theorem str_ne {s s' : ByteArray} (h : ¬ s = s') : (s.toList == s'.toList) = false := by
  simp only [ByteArray.toList_eq]
  rw [beq_eq_false_iff_ne]
  exact fun e => h (str_eq e)
theorem equalIn_va (k n : Int) (s : ByteArray) (k' n' : Int) (s' : ByteArray) (w : World) : (Op.equalIn 10000 43 (.agg #[.int .i64 k, .int .i64 n, .string s]) (.agg #[.int .i64 k', .int .i64 n', .string s'])).run Try.prog w = .ok (sameV k n s k' n' s') w := by
  have hS : Try.prog.underlying 43 = some (.struct (Try.prog.fieldsOf 43)) := by kernel_rfl
  have hp : Try.prog.stoodInHeld 43 = false := by kernel_rfl
  have u3 := Try.underlying3
  have u9 := Try.underlying9
  rw [show (10000 : Nat) = 9999 + 1 from rfl, run_equalIn_agg w 9999 43 _ _ hS hp]
  simp only [Program.fieldsOf, Try.underlying43]
  unfold sameV
  by_cases hk : k = k'
  · subst hk
    by_cases hn : n = n'
    · subst hn
      by_cases hs : s = s'
      · subst hs
        rw [decide_eq_true ⟨rfl, rfl, rfl⟩]
        go_simp
      · have h1 := str_ne hs
        rw [decide_eq_false (fun h => hs h.2.2)]
        go_simp
    · have h1 : (n == n') = false := by simpa using hn
      rw [decide_eq_false (fun h => hn h.2.1)]
      go_simp
  · have h1 : (k == k') = false := by simpa using hk
    rw [decide_eq_false (fun h => hk h.1)]
    go_simp
theorem eql_va (k n : Int) (s : ByteArray) (k' n' : Int) (s' : ByteArray) (w : World) : (binOp .eql 43 (.agg #[.int .i64 k, .int .i64 n, .string s]) (.agg #[.int .i64 k', .int .i64 n', .string s'])).run Try.prog w = .ok (.bool (sameV k n s k' n' s')) w := by
  rw [run_eql_struct, equalIn_va]
  rfl
theorem same_yes {k n : Int} {s : ByteArray} {k' n' : Int} {s' : ByteArray} (h : k = k' ∧ n = n' ∧ s = s') : sameV k n s k' n' s' = true := decide_eq_true h
theorem same_no {k n : Int} {s : ByteArray} {k' n' : Int} {s' : ByteArray} (h : ¬ (k = k' ∧ n = n' ∧ s = s')) : sameV k n s k' n' s' = false := decide_eq_false h
theorem str_sz {s : ByteArray} (h : s = ⟨#[]⟩) : s.size = 0 := by subst h; rfl
theorem implValueOk_any (k n : Int) (s : ByteArray) (w : World) :
    Calls Try.prog 62 #[VaV k n s] w fun e w' => e = .returned (.bool (decide (VaGood k n s))) ∧ Below w.heap.size w w' := by
  obtain ⟨B, hB⟩ : ∃ B, decide (VaGood k n s) = B := ⟨_, rfl⟩
  rw [hB]
  have HB : Hid (decide (VaGood k n s) = B) := hB
  clear hB
  obtain ⟨W, hW⟩ : ∃ W, w.alloc (.cells #[.int .i64 k, .int .i64 n, .string s] 43) = W := ⟨_, rfl⟩
  have HB0 : Hid (Below w.heap.size w W) := by rw [← hW]; exact (Below.refl _ w).alloc (Nat.le_refl _) _
  have X0 : Hid (Box W w.heap.size #[.int .i64 k, .int .i64 n, .string s] 43) := by rw [← hW]; exact box_of w _ _
  have HW : Hid (w.alloc (.cells #[.int .i64 k, .int .i64 n, .string s] 43) = W) := hW
  obtain ⟨c0, c1, c2⟩ := X0.out.triV
  clear hW
  have e1 : ∀ w : World, (binOp .eql 43 (.agg #[.int .i64 k, .int .i64 n, .string s]) (.agg #[.int .i64 0, .int .i64 0, .string ⟨#[]⟩])).run Try.prog w = .ok (.bool (sameV k n s 0 0 ⟨#[]⟩)) w := eql_va k n s 0 0 ⟨#[]⟩
  have e2 : ∀ w : World, (binOp .eql 43 (.agg #[.int .i64 k, .int .i64 n, .string s]) (.agg #[.int .i64 1, .int .i64 n, .string ⟨#[]⟩])).run Try.prog w = .ok (.bool (sameV k n s 1 n ⟨#[]⟩)) w := eql_va k n s 1 n ⟨#[]⟩
  have e3 : ∀ w : World, (binOp .eql 43 (.agg #[.int .i64 k, .int .i64 n, .string s]) (.agg #[.int .i64 2, .int .i64 n, .string ⟨#[]⟩])).run Try.prog w = .ok (.bool (sameV k n s 2 n ⟨#[]⟩)) w := eql_va k n s 2 n ⟨#[]⟩
  have e4 : ∀ w : World, (binOp .eql 43 (.agg #[.int .i64 k, .int .i64 n, .string s]) (.agg #[.int .i64 3, .int .i64 0, .string s])).run Try.prog w = .ok (.bool (sameV k n s 3 0 s)) w := eql_va k n s 3 0 s
  by_cases h1 : k = 0 ∧ n = 0 ∧ s = ⟨#[]⟩
  · have HBV : Hid (B = true) := by
      show _ = _
      rw [← HB.out]
      exact decide_eq_true (by have := str_sz h1.2.2; unfold VaGood; omega)
    rw [HBV.out]
    have q1 := same_yes h1
    rw [q1] at e1
    clear e2 e3 e4 h1 q1
    go_enter Try.func62, Try.ntmps62
    go_upto_region 1 with (fail)
    rw [HW.out]
    go_wp2
    go_ret
    exact ⟨rfl, HB0.out⟩
  rw [same_no h1] at e1
  by_cases h2 : k = 1 ∧ n = n ∧ s = ⟨#[]⟩
  · have HBV : Hid (B = inB n 0 1) := by
      show _ = _
      rw [← HB.out]
      have h5 := str_sz h2.2.2
      have h6 := h2.1
      by_cases hn : 0 ≤ n ∧ n ≤ 1
      · rw [inB_yes hn]
        exact decide_eq_true (by unfold VaGood; omega)
      · rw [inB_no hn]
        exact decide_eq_false (by unfold VaGood; omega)
    rw [HBV.out]
    rw [same_yes h2] at e2
    clear e3 e4 h1 h2
    go_enter Try.func62, Try.ntmps62
    go_upto_region 1 with (fail)
    rw [HW.out]
    go_wp2_with fail
    refine (within_g n 0 1 _).mono ?_
    rintro e w1 ⟨rfl, rfl⟩
    go_wp2
    go_ret
    exact ⟨rfl, HB0.out⟩
  rw [same_no h2] at e2
  by_cases h3 : k = 2 ∧ n = n ∧ s = ⟨#[]⟩
  · have HBV : Hid (B = inB n (-1000000000000) 1000000000000) := by
      show _ = _
      rw [← HB.out]
      have h5 := str_sz h3.2.2
      have h6 := h3.1
      by_cases hn : -1000000000000 ≤ n ∧ n ≤ 1000000000000
      · rw [inB_yes hn]
        exact decide_eq_true (by unfold VaGood; omega)
      · rw [inB_no hn]
        exact decide_eq_false (by unfold VaGood; omega)
    rw [HBV.out]
    rw [same_yes h3] at e3
    clear e4 h1 h2 h3
    go_enter Try.func62, Try.ntmps62
    go_upto_region 1 with (fail)
    rw [HW.out]
    go_wp2_with fail
    refine (within_g n (-1000000000000) 1000000000000 _).mono ?_
    rintro e w1 ⟨rfl, rfl⟩
    go_wp2
    go_ret
    exact ⟨rfl, HB0.out⟩
  rw [same_no h3] at e3
  by_cases h4 : k = 3 ∧ n = 0 ∧ s = s
  · rw [same_yes h4] at e4
    by_cases hs : s.size ≤ 20
    · have HBV : Hid (B = true) := by
        show _ = _
        rw [← HB.out]
        exact decide_eq_true (by unfold VaGood; omega)
      rw [HBV.out]
      have hsz : ((s.size : Int) ≤ 20) := by omega
      clear h1 h2 h3 h4
      go_enter Try.func62, Try.ntmps62
      go_upto_region 1 with (fail)
      rw [HW.out]
      go_wp2
      go_ret
      exact ⟨rfl, HB0.out⟩
    · have HBV : Hid (B = false) := by
        show _ = _
        rw [← HB.out]
        exact decide_eq_false (by unfold VaGood; omega)
      rw [HBV.out]
      have hsz : ¬ ((s.size : Int) ≤ 20) := by omega
      clear h1 h2 h3 h4
      go_enter Try.func62, Try.ntmps62
      go_upto_region 1 with (fail)
      rw [HW.out]
      go_wp2
      go_ret
      exact ⟨rfl, HB0.out⟩
  rw [same_no h4] at e4
  have HBV : Hid (B = false) := by
    show _ = _
    rw [← HB.out]
    refine decide_eq_false ?_
    unfold VaGood
    rintro (⟨r1, r2, r3⟩ | ⟨r1, r2, r3⟩ | ⟨r1, r2, r3⟩ | ⟨r1, r2, r3⟩)
    · exact h1 ⟨r1, r2, str_nil r3⟩
    · exact h2 ⟨r1, rfl, str_nil r3⟩
    · exact h3 ⟨r1, rfl, str_nil r3⟩
    · exact h4 ⟨r1, r2, rfl⟩
  rw [HBV.out]
  clear h1 h2 h3 h4
  go_enter Try.func62, Try.ntmps62
  go_upto_region 1 with (fail)
  rw [HW.out]
  go_wp2
  go_ret
  exact ⟨rfl, HB0.out⟩
def rowFit (p : Va3 × Col3) : Prop := VaGood p.1.1 p.1.2.1 p.1.2.2 ∧ (p.1.1 = p.2.2.1 ∨ (p.2.2.2 = true ∧ p.1.1 = 0))
instance (p : Va3 × Col3) : Decidable (rowFit p) := by unfold rowFit; infer_instance
def RowGood (S : SchD) (L : List Va3) : Prop := ScGood S ∧ L.length = S.cols.length ∧ ∀ p ∈ L.zip S.cols, rowFit p
instance (S : SchD) (L : List Va3) : Decidable (RowGood S L) := by unfold RowGood; infer_instance
theorem zip_at {L : List Va3} {M : List Col3} {j : Nat} {x : Va3} {y : Col3} (h : L[j]? = some x) (h' : M[j]? = some y) : (L.zip M)[j]? = some (x, y) := by
  rw [List.getElem?_zip_eq_some]
  exact ⟨h, h'⟩
end
end Go.Proofs.Ytmgofehafjogfaa
