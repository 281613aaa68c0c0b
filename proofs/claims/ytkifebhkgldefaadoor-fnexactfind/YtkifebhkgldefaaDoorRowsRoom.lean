/- impl.holdersOf and impl.RowsOk at lists that have more room than they are long, walked. -/
import Derived.Test.YtkifebhkgldefaaDoorImplRows
namespace Go.Proofs.YtkifebhkgldefaaDoor
open Go.ChangeShapes Go.WideShapes Go.ChangeAt Go.RowKit Go.Maps

set_option maxHeartbeats 1000000 in
set_option maxRecDepth 100000 in
theorem holdersOf_cap (H : Type) (a : Option Addr) (cp : Nat) (hcp : 4 ≤ cp) (st : Int) (xs : List Int) (w : World) (hA : IntAt w a 4 xs) (hi : ∀ x ∈ xs, (Lit.int .i64 x).wf = true) :
    Calls Tryd.prog 49 #[.agg #[.slice a 4 cp, .int .i64 st]] w fun e w' =>
      e = .returned (.map (some (w.heap.size + 1))) ∧ Below w.heap.size w w' ∧ ∃ (R : Value → Option (DataW H × List MemPlace)) (D : DataW H), w'.ownsMap Tryd.prog 3 R (w.heap.size + 1) 4 D ∧ RowsIn R w' (w.heap.size + 2) ∧ HD xs D := by
  obtain ⟨hl, _, h0 | ⟨b, o, rfl, hc⟩⟩ := hA
  · omega
  have hmm := @run_makeMap Tryd.prog
  have HC : Hid (∀ i, i < 4 → w.cell? ⟨b, o + i, none⟩ = some (I (xs.getD i 0))) := hc
  have HI : Hid (∀ x ∈ xs, (Lit.int .i64 x).wf = true) := hi
  have HL : Hid (xs.length = 4) := hl
  have hblt : b < w.heap.size := World.block_lt_of_cell? w _ (hc 0 (by omega))
  clear hc hi hl
  have hcp1 : (4 : Int) ≤ (cp : Int) := by omega
  obtain ⟨i0, hin, hz0, hz1, hz2⟩ := info_parts infoInt
  go_enter Tryd.func49, Tryd.ntmps49
  go_wp2
  go_loopw [15] (fun i wr => ∃ k : Nat, k ≤ 4 ∧ i = .int .i64 (k : Int) ∧ ∃ D : DataW H, wr.ownsGroups Tryd.prog 3 (w.heap.size + 2) 3 .i64 (w.heap.size + 1) k D ∧ GD xs k D ∧ Below w.heap.size w wr ∧ w.heap.size + 2 ≤ wr.heap.size)
    (fun i _ => 4 - (intOf i).toNat)
  case atStart =>
    refine ⟨0, Nat.zero_le _, rfl, .map [], ?_, GD_zero _, ((Below.refl _ _).alloc (Nat.le_refl _) _).alloc (by simp) _, by simp⟩
    have := World.ownsGroups_made (H := H) (w.alloc (Obj.cells #[Value.slice (some { block := b, off := o }) 4 cp, Value.int IntKind.i64 st] 24)) Tryd.prog 3 3 .i64
    simpa using this
  case round =>
    obtain ⟨k, hk, rfl, D, hown, hgd, hnx, hws⟩ := hrel
    obtain ⟨x, hx⟩ : ∃ x, xs.getD k 0 = x := ⟨_, rfl⟩
    have HX : Hid (xs.getD k 0 = x) := hx
    have HGD : Hid (GD xs k D) := hgd
    by_cases hlt : k < 4
    · have hcx : wr.cell? ⟨b, o + k, none⟩ = some (I x) := by rw [← hx]; exact (hnx.cell (by exact hblt)).trans (HC.out k hlt)
      have hwx : (Lit.int .i64 x).wf = true := HI.out x (by
        have hk4 : k < xs.length := by have := HL.out; omega
        rw [← hx, show xs.getD k 0 = xs[k] by simp [List.getD, hk4]]
        exact List.getElem_mem _)
      have hkey := keyOf_int_mk Tryd.underlying3 hwx
      clear hx hgd
      go_wp2_with (first
        | (at_lookup; refine wpList_lookup_groups _ rfl _ _ 46 rfl 3 22 3 .i64 mapLaw Tryd.underlying46 (zeroInts _) (w.heap.size + 2) (w.heap.size + 1) k _ rfl hown (by unfold maxLen; omega) _ _ rfl hkey ?_; intro v zs hat hoi hzl hback)
        | (at_builtin; refine wpList_append_own_at _ rfl _ _ 22 rfl (w.heap.size + 2) 3 i0 (.int .i64 0) 1 8 Tryd.underlying22 hin hz0 hz1 hz2 rfl (by decide) _ _ _ rfl (hoi.1.alloc _) ⟨wr.heap.size, 0, none⟩ 1 1 [.int .i64 k] rfl rfl (cell_one_new _ _ _) (ints_oneCell .i64 [(k : Int)]) (by unfold maxLen; omega) (by omega) (by simp; omega) ?_; intro v' w1 hown' hgrow hnil hloc)
        | (at_mapUpdate; refine wpList_mapUpdate_back _ rfl _ _ _ 46 rfl hback rfl rfl rfl ((World.grownBy_alloc _ _ _).trans hgrow) (hoi.appended hown' (WalkArith.wf_i64 (by omega))) (by simp; omega) (hloc.imp id (fun h => ⟨_, h, by simp⟩)) ?_; intro w2 hown2 hgrow2)
        | go_in)
      have hall := (World.grownBy_alloc wr _ _).trans hgrow
      go_roundw
      case rel =>
        refine ⟨k + 1, by omega, by go_num, _, hown2, ?_, hnx.groups hoi hall hgrow2 hnx.size (by omega) (by omega), Nat.le_trans hws (Nat.le_trans hall.size hgrow2.size)⟩
        show GD xs (k + 1) (D.put (.int .i64 x) (rowDatum .i64 v' (zs ++ [(k : Int)])))
        rw [(hoi.appended hown' (WalkArith.wf_i64 (by omega))).datum_pos (by simp), GD_zs HGD.out hat hoi]
        exact GD_step HGD.out HX.out hwx
      case measure => simp [intOf]; omega
    · obtain rfl : k = 4 := by omega
      have hkey0 : keyOf Tryd.prog 3 (.int .i64 0) = some (.int .i64 0) := keyOf_int_mk Tryd.underlying3 (by decide)
      go_wp2_with (first
        | (at_delete; refine wpList_delete_own _ rfl _ _ 46 3 rfl 22 mapLaw Tryd.underlying46 _ (w.heap.size + 1) 4 D rfl (groups_map hown) _ _ rfl hkey0 ?_; intro w1 hown1 hturn1)
        | go_in)
      go_ret
      have hg1 := hturn1.grown
      refine ⟨rfl, hnx.grown hg1 hnx.size (fun j hj => by cases hj; omega), _, _, hown1, ?_, ?_⟩
      · intro v y hy
        obtain ⟨zs, ho, rfl⟩ := rowElem_inv hy
        refine ⟨zs, ho.kept hg1 ?_, rfl⟩
        cases hv : v.ownBlock with
        | none => exact .inl rfl
        | some g =>
          refine .inr fun e1 => ?_
          have := (ho.1.lt g hv).1
          cases e1
          omega
      · intro x
        have hg := HGD.out.2 x
        by_cases h0 : x = 0
        · subst h0
          refine ⟨by rw [has_del_same]; simp, fun h => absurd rfl h⟩
        · have hne : Lit.int .i64 x ≠ .int .i64 0 := fun e => h0 (by cases e; rfl)
          rw [has_del_other hne, hg.1]
          refine ⟨by simp [h0], fun _ zd hp => ?_⟩
          rw [atKey_del_other hne, atKey_has (by rw [hg.1]; simpa using hp) zd .nil, hg.2, rowOf_pos hp]

set_option maxHeartbeats 1000000 in
set_option maxRecDepth 100000 in
theorem implRowsOk_room (a : Option Addr) (n cp : Nat) (hcp : n ≤ cp) (st : Int) (xs : List Int) (w : World) (hA : IntAt w a n xs) (hi : ∀ x ∈ xs, (Lit.int .i64 x).wf = true) :
    Calls Tryd.prog 31 #[.agg #[.slice a n cp, .int .i64 st]] w fun e w' => Says e (OkRows xs st) ∧ Below w.heap.size w w' := by
  have hl := hA.1
  by_cases hn : n = 4
  · subst hn
    by_cases hs0 : st < 0
    · have h1 : Hid (¬ OkRows xs st) := fun h => by have := h.2.1; omega
      go_enter Tryd.func31, Tryd.ntmps31
      go_wp2
      go_ret
      exact ⟨⟨false, rfl, by simp [h1.out]⟩, (Below.refl _ _).alloc (Nat.le_refl _) _⟩
    by_cases hs1 : 5 < st
    · have h1 : Hid (¬ OkRows xs st) := fun h => by have := h.2.2.1; omega
      go_enter Tryd.func31, Tryd.ntmps31
      go_wp2
      go_ret
      exact ⟨⟨false, rfl, by simp [h1.out]⟩, (Below.refl _ _).alloc (Nat.le_refl _) _⟩
    have HA : Hid (IntAt w a 4 xs) := hA
    have HI : Hid (∀ x ∈ xs, (Lit.int .i64 x).wf = true) := hi
    have HL : Hid (xs.length = 4) := hl
    clear hA hi hl
    go_enter Tryd.func31, Tryd.ntmps31
    go_wp2_with fail
    refine (holdersOf_cap Unit a cp hcp st xs _ (HA.out.below ((Below.refl _ w).alloc (Nat.le_refl _) _) (Nat.le_refl _)) HI.out).mono ?_
    rintro e w1 ⟨rfl, hb1, R, D, hown, hR, hD⟩
    have hbw : Below w.heap.size w w1 := ((Below.refl _ w).alloc (Nat.le_refl _) _).trans (hb1.mono (by simp))
    have hsz1 := hown.lt
    simp only [World.size_alloc] at hown hR hsz1
    have HR : Hid (RowsIn R w1 (w.heap.size + 1 + 2)) := hR
    have HD1 : Hid (HD xs D) := hD
    clear hb1 hR hD
    go_wp2_with (first | (at_range; refine wpList_range_own _ rfl _ 46 rfl 3 22 mapLaw Tryd.underlying46 R (w.heap.size + 1 + 1) 4 D rfl hown ?_; intro w2 hrg0 hg0 hs2) | fail)
    go_frame
    have hb2 : Below w1.heap.size w1 w2 := (Below.refl _ _).grown hg0 (Nat.le_refl _) (fun k e => by cases e)
    clear hown hg0
    go_loopw [3] (fun _ wr => ∃ left cnt, wr.ranges Tryd.prog 3 R (w.heap.size + 1 + 1) w1.heap.size 4 D left cnt ∧ Below w1.heap.size w1 wr ∧ ∀ x : Int, x ≠ 0 → posK xs 4 x ≠ [] → left (.int .i64 x) = false → Good xs x) (fun _ wr => wr.rangeLeft (w.heap.size + 1 + 1) w1.heap.size)
    case atStart =>
      refine ⟨_, _, hrg0, hb2, fun x h0 hp hf => ?_⟩
      rw [(HD1.out x).1] at hf
      exact absurd ⟨h0, hp⟩ (of_decide_eq_false hf)
    case round =>
      obtain ⟨left, cnt, hrg, hbr, hgood⟩ := hrel
      have HG : Hid (∀ x : Int, x ≠ 0 → posK xs 4 x ≠ [] → left (.int .i64 x) = false → Good xs x) := hgood
      clear hgood hrg0 hb2
      go_wp2_with (first | (at_next; refine wpList_next_rows _ rfl _ rfl R HR.out (w.heap.size + 1 + 1) w1.heap.size 4 D HD1.out left cnt rfl hrg ?_ ?_) | fail)
      · intro _ hl0
        go_wp2
        go_ret
        exact ⟨⟨true, rfl, by simpa using ⟨HL.out, hs0, hs1, fun x h0 hp => HG.out x h0 hp (hl0 _)⟩⟩, hbw.trans (hbr.mono hbw.size)⟩
      · intro x p l c w3 cnt3 hlx hx0 hpx hrow hrg3 hlt hg3 hs3 hen
        have hb3 : Below w1.heap.size w1 w3 := hbr.grown hg3 hbr.size (fun k e => by cases e; exact Nat.le_refl _)
        have hb03 := hbw.trans (hb3.mono hbw.size)
        obtain rfl := row_len hrow
        have HP : Hid (posK xs 4 x ≠ []) := hpx
        clear hrow hg3 hpx
        go_wp2_with fail
        refine (implValOk_any x _).mono ?_
        rintro e w4 ⟨rfl, rfl⟩
        by_cases hv : 1 ≤ x ∧ x ≤ 6
        · rw [show decide (1 ≤ x ∧ x ≤ 6) = true from decide_eq_true hv]
          by_cases hln : 1 < (posK xs 4 x).length
          · have h1 : Hid (¬ OkRows xs st) := fun h => by have := (h.2.2.2 x hx0 HP.out).2; omega
            go_wp2
            go_ret
            exact ⟨⟨false, rfl, by simp [h1.out]⟩, hb03⟩
          · have hG : Hid (Good xs x) := ⟨hv, by omega⟩
            go_wp2
            refine ⟨⟨_, _, hrg3, hb3, fun y h0 hp hf => ?_⟩, by rw [hrg3.left_eq, hrg.left_eq]; omega⟩
            rw [sameKey_int] at hf
            by_cases hy : y = x
            · subst hy
              exact hG.out
            · exact HG.out y h0 hp (by simpa [hy] using hf)
        · rw [show decide (1 ≤ x ∧ x ≤ 6) = false from decide_eq_false hv]
          have h1 : Hid (¬ OkRows xs st) := fun h => hv (h.2.2.2 x hx0 HP.out).1
          go_wp2
          go_ret
          exact ⟨⟨false, rfl, by simp [h1.out]⟩, hb03⟩
  · have h1 : Hid (¬ OkRows xs st) := fun h => by have := h.1; omega
    have h2 : ((n : Int) != 4) = true := by simp; omega
    go_enter Tryd.func31, Tryd.ntmps31
    go_wp2
    go_ret
    exact ⟨⟨false, rfl, by simp [h1.out]⟩, (Below.refl _ _).alloc (Nat.le_refl _) _⟩
end Go.Proofs.YtkifebhkgldefaaDoor
