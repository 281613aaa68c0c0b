/- Texts joined: RowsRoom, KeyRoom, HowR, ComR1, ComR2. -/
import Derived.Test.YtecheopkfhfgkaaGreatLN03
import Derived.Test.YtecheopkfhfgkaaGreatLN04
import Derived.Test.YtecheopkfhfgkaaGreatLN10
import Derived.Test.YtecheopkfhfgkaaGreatLN11
import Derived.Deep.RegionHeld3
set_option maxHeartbeats 4000000
set_option maxRecDepth 100000
namespace Go.Proofs.YtecheopkfhfgkaaGreat
section
open Go.ChangeShapes Go.WideShapes Go.ChangeAt Go.RowKit Go.Maps
theorem holdersOf_cap (H : Type) (a : Option Addr) (cp : Nat) (hcp : 4 ≤ cp) (st : Int) (xs : List Int) (w : World) (hA : IntAt w a 4 xs) (hi : ∀ x ∈ xs, (Lit.int .i64 x).wf = true) :
    Calls Tryz.prog 40 #[.agg #[.slice a 4 cp, .int .i64 st]] w fun e w' =>
      e = .returned (.map (some (w.heap.size + 1))) ∧ Below w.heap.size w w' ∧ ∃ (R : Value → Option (DataW H × List MemPlace)) (D : DataW H), w'.ownsMap Tryz.prog 3 R (w.heap.size + 1) 4 D ∧ RowsIn R w' (w.heap.size + 2) ∧ HD xs D := by
  obtain ⟨hl, _, h0 | ⟨b, o, rfl, hc⟩⟩ := hA
  · omega
  have hmm := @run_makeMap Tryz.prog
  have HC : Hid (∀ i, i < 4 → w.cell? ⟨b, o + i, none⟩ = some (I (xs.getD i 0))) := hc
  have HI : Hid (∀ x ∈ xs, (Lit.int .i64 x).wf = true) := hi
  have HL : Hid (xs.length = 4) := hl
  have hblt : b < w.heap.size := World.block_lt_of_cell? w _ (hc 0 (by omega))
  clear hc hi hl
  have hcp1 : (4 : Int) ≤ (cp : Int) := by omega
  obtain ⟨i0, hin, hz0, hz1, hz2⟩ := info_parts infoInt
  go_enter Tryz.func40, Tryz.ntmps40
  go_wp2
  go_loopw [15] (fun i wr => ∃ k : Nat, k ≤ 4 ∧ i = .int .i64 (k : Int) ∧ ∃ D : DataW H, wr.ownsGroups Tryz.prog 3 (w.heap.size + 2) 3 .i64 (w.heap.size + 1) k D ∧ GD xs k D ∧ Below w.heap.size w wr ∧ w.heap.size + 2 ≤ wr.heap.size)
    (fun i _ => 4 - (intOf i).toNat)
  case atStart =>
    refine ⟨0, Nat.zero_le _, rfl, .map [], ?_, GD_zero _, ((Below.refl _ _).alloc (Nat.le_refl _) _).alloc (by simp) _, by simp⟩
    have := World.ownsGroups_made (H := H) (w.alloc (Obj.cells #[Value.slice (some { block := b, off := o }) 4 cp, Value.int IntKind.i64 st] 29)) Tryz.prog 3 3 .i64
    simpa using this
  case round =>
    obtain ⟨k, hk, rfl, D, hown, hgd, hnx, hws⟩ := hrel
    obtain ⟨x, hx⟩ : ∃ x, xs.getD k 0 = x := ⟨_, rfl⟩
    have HX : Hid (xs.getD k 0 = x) := hx
    have HGD : Hid (GD xs k D) := hgd
    by_cases hlt : k < 4
    · have hcx : wr.cell? ⟨b, o + k, none⟩ = some (I x) := by rw [← hx]; exact (hnx.cell (by exact hblt)).trans (HC.out k hlt)
      have hwx : (Lit.int .i64 x).wf = true := HI.out x (by
        have hk4 : k < xs.length := by have := HL.out; omega
        rw [← hx, show xs.getD k 0 = xs[k] by simp [List.getD, hk4]]
        exact List.getElem_mem _)
      have hkey := keyOf_int_mk Tryz.underlying3 hwx
      clear hx hgd
      go_wp2_with (first
        | (at_lookup; refine wpList_lookup_groups _ rfl _ _ 79 rfl 3 22 3 .i64 mapLaw Tryz.underlying79 (zeroInts _) (w.heap.size + 2) (w.heap.size + 1) k _ rfl hown (by unfold maxLen; omega) _ _ rfl hkey ?_; intro v zs hat hoi hzl hback)
        | (at_builtin; refine wpList_append_own_at _ rfl _ _ 22 rfl (w.heap.size + 2) 3 i0 (.int .i64 0) 1 8 Tryz.underlying22 hin hz0 hz1 hz2 rfl (by decide) _ _ _ rfl (hoi.1.alloc _) ⟨wr.heap.size, 0, none⟩ 1 1 [.int .i64 k] rfl rfl (cell_one_new _ _ _) (ints_oneCell .i64 [(k : Int)]) (by unfold maxLen; omega) (by omega) (by simp; omega) ?_; intro v' w1 hown' hgrow hnil hloc)
        | (at_mapUpdate; refine wpList_mapUpdate_back _ rfl _ _ _ 79 rfl hback rfl rfl rfl ((World.grownBy_alloc _ _ _).trans hgrow) (hoi.appended hown' (WalkArith.wf_i64 (by omega))) (by simp; omega) (hloc.imp id (fun h => ⟨_, h, by simp⟩)) ?_; intro w2 hown2 hgrow2)
        | go_in)
      have hall := (World.grownBy_alloc wr _ _).trans hgrow
      go_roundw
      case rel =>
        refine ⟨k + 1, by omega, by go_num, _, hown2, ?_, hnx.groups hoi hall hgrow2 hnx.size (by omega) (by omega), Nat.le_trans hws (Nat.le_trans hall.size hgrow2.size)⟩
        show GD xs (k + 1) (D.put (.int .i64 x) (rowDatum .i64 v' (zs ++ [(k : Int)])))
        rw [(hoi.appended hown' (WalkArith.wf_i64 (by omega))).datum_pos (by simp), GD_zs HGD.out hat hoi]
        exact GD_step HGD.out HX.out hwx
      case measure => simp [intOf]; omega
    · obtain rfl : k = 4 := by omega
      have hkey0 : keyOf Tryz.prog 3 (.int .i64 0) = some (.int .i64 0) := keyOf_int_mk Tryz.underlying3 (by decide)
      go_wp2_with (first
        | (at_delete; refine wpList_delete_own _ rfl _ _ 79 3 rfl 22 mapLaw Tryz.underlying79 _ (w.heap.size + 1) 4 D rfl (groups_map hown) _ _ rfl hkey0 ?_; intro w1 hown1 hturn1)
        | go_in)
      go_ret
      have hg1 := hturn1.grown
      refine ⟨rfl, hnx.grown hg1 hnx.size (fun j hj => by cases hj; omega), _, _, hown1, ?_, ?_⟩
      · intro v y hy
        obtain ⟨zs, ho, rfl⟩ := rowElem_inv hy
        refine ⟨zs, ho.kept hg1 ?_, rfl⟩
        cases hv : v.ownBlock with
        | none => exact .inl rfl
        | some g =>
          refine .inr fun e1 => ?_
          have := (ho.1.lt g hv).1
          cases e1
          omega
      · intro x
        have hg := HGD.out.2 x
        by_cases h0 : x = 0
        · subst h0
          refine ⟨by rw [has_del_same]; simp, fun h => absurd rfl h⟩
        · have hne : Lit.int .i64 x ≠ .int .i64 0 := fun e => h0 (by cases e; rfl)
          rw [has_del_other hne, hg.1]
          refine ⟨by simp [h0], fun _ zd hp => ?_⟩
          rw [atKey_del_other hne, atKey_has (by rw [hg.1]; simpa using hp) zd .nil, hg.2, rowOf_pos hp]

theorem implRowsOk_room (a : Option Addr) (n cp : Nat) (hcp : n ≤ cp) (st : Int) (xs : List Int) (w : World) (hA : IntAt w a n xs) (hi : ∀ x ∈ xs, (Lit.int .i64 x).wf = true) :
    Calls Tryz.prog 19 #[.agg #[.slice a n cp, .int .i64 st]] w fun e w' => Says e (OkRows xs st) ∧ Below w.heap.size w w' := by
  have hl := hA.1
  by_cases hn : n = 4
  · subst hn
    by_cases hs0 : st < 0
    · have h1 : Hid (¬ OkRows xs st) := fun h => by have := h.2.1; omega
      go_enter Tryz.func19, Tryz.ntmps19
      go_wp2
      go_ret
      exact ⟨⟨false, rfl, by simp [h1.out]⟩, (Below.refl _ _).alloc (Nat.le_refl _) _⟩
    by_cases hs1 : 5 < st
    · have h1 : Hid (¬ OkRows xs st) := fun h => by have := h.2.2.1; omega
      go_enter Tryz.func19, Tryz.ntmps19
      go_wp2
      go_ret
      exact ⟨⟨false, rfl, by simp [h1.out]⟩, (Below.refl _ _).alloc (Nat.le_refl _) _⟩
    have HA : Hid (IntAt w a 4 xs) := hA
    have HI : Hid (∀ x ∈ xs, (Lit.int .i64 x).wf = true) := hi
    have HL : Hid (xs.length = 4) := hl
    clear hA hi hl
    go_enter Tryz.func19, Tryz.ntmps19
    go_wp2_with fail
    refine (holdersOf_cap Unit a cp hcp st xs _ (HA.out.below ((Below.refl _ w).alloc (Nat.le_refl _) _) (Nat.le_refl _)) HI.out).mono ?_
    rintro e w1 ⟨rfl, hb1, R, D, hown, hR, hD⟩
    have hbw : Below w.heap.size w w1 := ((Below.refl _ w).alloc (Nat.le_refl _) _).trans (hb1.mono (by simp))
    have hsz1 := hown.lt
    simp only [World.size_alloc] at hown hR hsz1
    have HR : Hid (RowsIn R w1 (w.heap.size + 1 + 2)) := hR
    have HD1 : Hid (HD xs D) := hD
    clear hb1 hR hD
    go_wp2_with (first | (at_range; refine wpList_range_own _ rfl _ 79 rfl 3 22 mapLaw Tryz.underlying79 R (w.heap.size + 1 + 1) 4 D rfl hown ?_; intro w2 hrg0 hg0 hs2) | fail)
    go_frame
    have hb2 : Below w1.heap.size w1 w2 := (Below.refl _ _).grown hg0 (Nat.le_refl _) (fun k e => by cases e)
    clear hown hg0
    go_loopw [3] (fun _ wr => ∃ left cnt, wr.ranges Tryz.prog 3 R (w.heap.size + 1 + 1) w1.heap.size 4 D left cnt ∧ Below w1.heap.size w1 wr ∧ ∀ x : Int, x ≠ 0 → posK xs 4 x ≠ [] → left (.int .i64 x) = false → Good xs x) (fun _ wr => wr.rangeLeft (w.heap.size + 1 + 1) w1.heap.size)
    case atStart =>
      refine ⟨_, _, hrg0, hb2, fun x h0 hp hf => ?_⟩
      rw [(HD1.out x).1] at hf
      exact absurd ⟨h0, hp⟩ (of_decide_eq_false hf)
    case round =>
      obtain ⟨left, cnt, hrg, hbr, hgood⟩ := hrel
      have HG : Hid (∀ x : Int, x ≠ 0 → posK xs 4 x ≠ [] → left (.int .i64 x) = false → Good xs x) := hgood
      clear hgood hrg0 hb2
      go_wp2_with (first | (at_next; refine wpList_next_rows _ rfl _ rfl R HR.out (w.heap.size + 1 + 1) w1.heap.size 4 D HD1.out left cnt rfl hrg ?_ ?_) | fail)
      · intro _ hl0
        go_wp2
        go_ret
        exact ⟨⟨true, rfl, by simpa using ⟨HL.out, hs0, hs1, fun x h0 hp => HG.out x h0 hp (hl0 _)⟩⟩, hbw.trans (hbr.mono hbw.size)⟩
      · intro x p l c w3 cnt3 hlx hx0 hpx hrow hrg3 hlt hg3 hs3 hen
        have hb3 : Below w1.heap.size w1 w3 := hbr.grown hg3 hbr.size (fun k e => by cases e; exact Nat.le_refl _)
        have hb03 := hbw.trans (hb3.mono hbw.size)
        obtain rfl := row_len hrow
        have HP : Hid (posK xs 4 x ≠ []) := hpx
        clear hrow hg3 hpx
        go_wp2_with fail
        refine (implValOk_any x _).mono ?_
        rintro e w4 ⟨rfl, rfl⟩
        by_cases hv : 1 ≤ x ∧ x ≤ 6
        · rw [show decide (1 ≤ x ∧ x ≤ 6) = true from decide_eq_true hv]
          by_cases hln : 1 < (posK xs 4 x).length
          · have h1 : Hid (¬ OkRows xs st) := fun h => by have := (h.2.2.2 x hx0 HP.out).2; omega
            go_wp2
            go_ret
            exact ⟨⟨false, rfl, by simp [h1.out]⟩, hb03⟩
          · have hG : Hid (Good xs x) := ⟨hv, by omega⟩
            go_wp2
            refine ⟨⟨_, _, hrg3, hb3, fun y h0 hp hf => ?_⟩, by rw [hrg3.left_eq, hrg.left_eq]; omega⟩
            rw [sameKey_int] at hf
            by_cases hy : y = x
            · subst hy
              exact hG.out
            · exact HG.out y h0 hp (by simpa [hy] using hf)
        · rw [show decide (1 ≤ x ∧ x ≤ 6) = false from decide_eq_false hv]
          have h1 : Hid (¬ OkRows xs st) := fun h => hv (h.2.2.2 x hx0 HP.out).1
          go_wp2
          go_ret
          exact ⟨⟨false, rfl, by simp [h1.out]⟩, hb03⟩
  · have h1 : Hid (¬ OkRows xs st) := fun h => by have := h.1; omega
    have h2 : ((n : Int) != 4) = true := by simp; omega
    go_enter Tryz.func19, Tryz.ntmps19
    go_wp2
    go_ret
    exact ⟨⟨false, rfl, by simp [h1.out]⟩, (Below.refl _ _).alloc (Nat.le_refl _) _⟩
theorem implKeyOf_room (a : Option Addr) (cp : Nat) (hcp : 4 ≤ cp) (st v : Int) (xs : List Int) (w : World) (hA : IntAt w a 4 xs) (hi : ∀ x ∈ xs, (Lit.int .i64 x).wf = true) (hv : 1 ≤ v ∧ v ≤ 6) :
    Calls Tryz.prog 71 #[.agg #[.slice a 4 cp, .int .i64 st], .int .i64 v] w fun e w' => e = .returned (.int .i64 (keyN xs v)) ∧ Below w.heap.size w w' := by
  have HA : Hid (IntAt w a 4 xs) := hA
  have HI : Hid (∀ x ∈ xs, (Lit.int .i64 x).wf = true) := hi
  obtain ⟨B, hB⟩ : ∃ B, keyN xs v = B := ⟨_, rfl⟩
  rw [hB]
  have HB : Hid (keyN xs v = B) := hB
  clear hA hi hB
  go_enter Tryz.func71, Tryz.ntmps71
  go_wp2_with fail
  refine (holdersOf_cap Unit a cp hcp st xs _ (HA.out.below ((Below.refl _ w).alloc (Nat.le_refl _) _) (Nat.le_refl _)) HI.out).mono ?_
  rintro e w1 ⟨rfl, hb0, R, D, hown, hR, hD⟩
  have hb1 : Below w.heap.size w w1 := ((Below.refl _ w).alloc (Nat.le_refl _) _).trans (hb0.mono (by simp))
  clear hb0
  simp only [World.size_alloc] at hown hR
  obtain ⟨p, l, c, hrun, hc⟩ := look_row hown hR hD v (by omega) (WalkArith.wf_i64 (by omega))
  clear hown hR hD
  rcases hc with ⟨hp, rfl⟩ | ⟨hp, ho⟩
  · have HP : Hid (posK xs 4 v = []) := hp
    clear hp
    go_wp2
    go_ret
    exact ⟨by rw [← HB.out, keyN_none HP.out]; rfl, hb1⟩
  · obtain rfl := row_len ho
    obtain ⟨g, rfl, hg, _⟩ := row_intAt ho hp (posK_le xs v)
    rw [keyN_some hp, HB.out] at hg
    have h4 := posK_le xs v
    have h5 : 0 < (posK xs 4 v).length := List.length_pos_iff.2 hp
    obtain ⟨q, hq⟩ : ∃ q, (posK xs 4 v).length = q := ⟨_, rfl⟩
    rw [hq] at hrun h4 h5
    clear hp ho hq
    by_cases h1 : q = 1
    · subst h1
      go_wp2
      go_ret
      exact ⟨rfl, hb1⟩
    · have h6 : ((q : Int) == 1) = false := by simp; omega
      have h7 : 1 < q := by omega
      go_wp2_with fail
      refine (implValOk_any v _).mono ?_
      rintro e w2 ⟨rfl, rfl⟩
      rw [show decide (1 ≤ v ∧ v ≤ 6) = true from decide_eq_true hv]
      go_wp2
      go_ret
      exact ⟨rfl, hb1⟩
theorem own_room {w : World} {base : Nat} {a : Option Addr} {c : Nat} {xs : List Value} (h : w.ownsRow base 3 1 (.slice a 4 c) 4 xs) : 4 ≤ c ∧ ∃ g, a = some ⟨g, 0, none⟩ := by
  rcases h.2 with ⟨_, h0⟩ | ⟨g, cap, cur, hv, _, _, hle, _⟩
  · omega
  · cases hv
    exact ⟨hle, _, rfl⟩
theorem implHowMany_room (a : Option Addr) (cp : Nat) (hcp : 4 ≤ cp) (st c : Int) (xs : List Int) (w : World) (hA : IntAt w a 4 xs) (hi : ∀ x ∈ xs, (Lit.int .i64 x).wf = true) :
    Calls Tryz.prog 73 #[.agg #[.slice a 4 cp, .int .i64 st], .int .i64 c] w fun e w' => e = .returned (.int .i64 (cntK xs c 4)) ∧ Below w.heap.size w w' := by
  have HA : Hid (IntAt w a 4 xs) := hA
  have HI : Hid (∀ x ∈ xs, (Lit.int .i64 x).wf = true) := hi
  have HCP : Hid (4 ≤ cp) := hcp
  clear hA hi hcp
  go_enter Tryz.func73, Tryz.ntmps73
  go_wp2_with fail
  refine (holdersOf_cap Unit a cp HCP.out st xs _ (HA.out.below ((Below.refl _ w).alloc (Nat.le_refl _) _) (Nat.le_refl _)) HI.out).mono ?_
  rintro e w1 ⟨rfl, hb1, R, D, hown, hR, hD⟩
  have hbw : Below w.heap.size w w1 := ((Below.refl _ w).alloc (Nat.le_refl _) _).trans (hb1.mono (by simp))
  have hsz1 := hown.lt
  simp only [World.size_alloc] at hown hR hsz1
  have HR : Hid (RowsIn R w1 (w.heap.size + 1 + 2)) := hR
  have HD1 : Hid (HD xs D) := hD
  clear hb1 hR hD
  go_wp2_with (first | (at_range; refine wpList_range_own _ rfl _ 79 rfl 3 22 mapLaw Tryz.underlying79 R (w.heap.size + 1 + 1) 4 D rfl hown ?_; intro w2 hrg0 hg0 hs2) | fail)
  go_frame
  have hb2 : Below w1.heap.size w1 w2 := (Below.refl _ _).grown hg0 (Nat.le_refl _) (fun k e => by cases e)
  clear hown hg0
  go_loopw [5] (fun q wr => ∃ left cnt, q = .int .i64 (cntH xs left c) ∧ wr.ranges Tryz.prog 3 R (w.heap.size + 1 + 1) w1.heap.size 4 D left cnt ∧ Below w1.heap.size w1 wr) (fun _ wr => wr.rangeLeft (w.heap.size + 1 + 1) w1.heap.size)
  case atStart =>
    refine ⟨_, _, ?_, hrg0, hb2⟩
    rw [cntH_none c]
    intro i hi h0
    show Maps.has D _ = true
    rw [(HD1.out _).1]
    refine decide_eq_true ⟨h0, ?_⟩
    have hm : ((i : Nat) : Int) ∈ posK xs 4 (xs.getD i 0) := List.mem_map.2 ⟨i, List.mem_filter.2 ⟨List.mem_range.2 hi, by simp⟩, rfl⟩
    exact List.ne_nil_of_mem hm
  case round =>
    obtain ⟨left, cnt, rfl, hrg, hbr⟩ := hrel
    clear hrg0 hb2
    go_wp2_with (first | (at_next; refine wpList_next_rows _ rfl _ rfl R HR.out (w.heap.size + 1 + 1) w1.heap.size 4 D HD1.out left cnt rfl hrg ?_ ?_) | fail)
    · intro _ hl0
      go_wp2
      go_ret
      exact ⟨by rw [cntH_all c hl0]; rfl, hbw.trans (hbr.mono hbw.size)⟩
    · intro x p l c' w3 cnt3 hlx hx0 hpx hrow hrg3 hlt hg3 hs3 hen
      have hb3 : Below w1.heap.size w1 w3 := hbr.grown hg3 hbr.size (fun k e => by cases e; exact Nat.le_refl _)
      have hb03 := hbw.trans (hb3.mono hbw.size)
      obtain rfl := row_len hrow
      have hq := cntH_le xs left c
      have h4 := posK_le xs x
      have hst := cntH_step (xs := xs) c hlx
      obtain ⟨q, hq1⟩ : ∃ q, cntH xs left c = q := ⟨_, rfl⟩
      obtain ⟨m, hm1⟩ : ∃ m, (posK xs 4 x).length = m := ⟨_, rfl⟩
      rw [hq1, hm1] at hst
      rw [hq1] at hq ⊢
      rw [hm1] at h4 hen ⊢
      have HS : Hid (cntH xs (fun z => left z && !z.sameKey (.int .i64 x)) c = q + if bitW x c = 1 then (m : Int) else 0) := hst
      clear hrow hg3 hpx hst hq1 hm1
      go_wp2_with fail
      refine (implValOk_any x _).mono ?_
      rintro e w4 ⟨rfl, rfl⟩
      by_cases hv : 1 ≤ x ∧ x ≤ 6
      · rw [show decide (1 ≤ x ∧ x ≤ 6) = true from decide_eq_true hv]
        go_wp2_with fail
        refine (implClassOf_any x _).mono ?_
        rintro e w5 ⟨rfl, rfl⟩
        rcases eqb (classN x) c with ⟨g0, g1⟩ | ⟨g0, g1⟩
        · have hbit : Hid (bitW x c = 1) := by unfold bitW; exact if_pos ⟨hv, g0⟩
          go_wp2
          refine ⟨⟨_, _, ?_, hrg3, hb3⟩, by rw [hrg3.left_eq, hrg.left_eq]; omega⟩
          rw [HS.out, if_pos hbit.out]
        · have hbit : Hid (bitW x c = 0) := by unfold bitW; exact if_neg (fun h => g0 h.2)
          go_wp2
          refine ⟨⟨_, _, ?_, hrg3, hb3⟩, by rw [hrg3.left_eq, hrg.left_eq]; omega⟩
          rw [HS.out, hbit.out]
          simp
      · rw [show decide (1 ≤ x ∧ x ≤ 6) = false from decide_eq_false hv]
        have hbit : Hid (bitW x c = 0) := by unfold bitW; exact if_neg (fun h => hv h.1)
        go_wp2
        refine ⟨⟨_, _, ?_, hrg3, hb3⟩, by rw [hrg3.left_eq, hrg.left_eq]; omega⟩
        rw [HS.out, hbit.out]
        simp
theorem com_boxesR {w : World} {p o cp j : Nat} {st n k v x : Int} {T : TypeId} (hc : w.cell? ⟨p, o + j, none⟩ = some (I x)) {W0 w' : World} (hW : W0 = (w.alloc (.cells #[.slice (some ⟨p, o, none⟩) 4 cp, .int .i64 st] 29)).alloc (.cells #[.int .i64 n, .int .i64 k, .int .i64 v] T)) (hb : Below (w.heap.size + 1 + 1) W0 w') :
    (w'.cell? ⟨w.heap.size, 0, none⟩ = some (.slice (some ⟨p, o, none⟩) 4 cp) ∧ w'.cell? ⟨w.heap.size, 1, none⟩ = some (.int .i64 st) ∧ w'.cell? ⟨w.heap.size + 1, 1, none⟩ = some (.int .i64 k) ∧ w'.cell? ⟨w.heap.size + 1, 2, none⟩ = some (.int .i64 v) ∧ w'.cell? ⟨p, o + j, none⟩ = some (I x)) ∧ Below w.heap.size w w' := by
  have hp : p < w.heap.size := World.block_lt_of_cell? w _ hc
  subst hW
  refine ⟨⟨?_, ?_, ?_, ?_, ?_⟩, (((Below.refl _ w).alloc (Nat.le_refl _) _).alloc (by simp) _).trans (hb.mono (by omega))⟩
  · rw [hb.cell (show w.heap.size < _ by omega)]; simp
  · rw [hb.cell (show w.heap.size < _ by omega)]; simp
  · rw [hb.cell (show w.heap.size + 1 < _ by omega)]; simp
  · rw [hb.cell (show w.heap.size + 1 < _ by omega)]; simp
  · rw [hb.cell (show p < _ by omega), World.cell?_alloc_past _ _ _ (show p < _ by simp; omega), World.cell?_alloc_past _ _ _ (show p < _ from hp), hc]
theorem comR_3_0 (p o cp : Nat) (hcp : 4 ≤ cp) (j : Nat) (st x : Int) (xs : List Int) (w : World) (hA : IntAt w (some ⟨p, o, none⟩) 4 xs) (hi : ∀ x ∈ xs, (Lit.int .i64 x).wf = true) (hj : j < 4) (hx : xs.getD j 0 = x) (h0 : x = 0) :
    Calls Tryz.prog 50 #[.agg #[.slice (some ⟨p, o, none⟩) 4 cp, .int .i64 st], .iface 107 (OpV 3 ((j : Int)) (0))] w fun e w' => ComSays e w w' [(3, [])] ∧ Below w.heap.size w w' := by
  have hc : w.cell? ⟨p, o + j, none⟩ = some (I x) := by have h := hA.cells j hj; rwa [hx] at h
  have hp : p < w.heap.size := World.block_lt_of_cell? w _ hc
  have hj0 : (0 : Int) ≤ (j : Int) := by omega
  have hj1 : (j : Int) < 4 := by omega
  have HA : Hid (IntAt w (some ⟨p, o, none⟩) 4 xs) := hA
  have HI : Hid (∀ x ∈ xs, (Lit.int .i64 x).wf = true) := hi
  have HCP : Hid (4 ≤ cp) := hcp
  clear hA hi hx hcp
  have h0' : (x != 0) = false := by simpa using h0
  obtain ⟨W0, hW0⟩ : ∃ W0, W0 = (w.alloc (.cells #[.slice (some ⟨p, o, none⟩) 4 cp, .int .i64 st] 29)).alloc (.cells #[.int .i64 3, .int .i64 (j : Int), .int .i64 0] 107) := ⟨_, rfl⟩
  have hs0 : W0.heap.size = w.heap.size + 1 + 1 := by rw [hW0]; simp
  have HBX : Hid (∀ w', Below (w.heap.size + 1 + 1) W0 w' → (w'.cell? ⟨w.heap.size, 0, none⟩ = some (.slice (some ⟨p, o, none⟩) 4 cp) ∧ w'.cell? ⟨w.heap.size, 1, none⟩ = some (.int .i64 st) ∧ w'.cell? ⟨w.heap.size + 1, 1, none⟩ = some (.int .i64 (j : Int)) ∧ w'.cell? ⟨w.heap.size + 1, 2, none⟩ = some (.int .i64 0) ∧ w'.cell? ⟨p, o + j, none⟩ = some (I x)) ∧ Below w.heap.size w w') := fun w' hb => com_boxesR hc hW0 hb
  have t1 : ∀ w : World, (Instr.typeAssert (.iface 107 (OpV 3 ((j : Int)) (0))) 92 104 true).run Tryz.prog w = .ok (.tuple #[OpV 0 0 0, .bool false]) w := fun _ => by kernel_rfl
  have t2 : ∀ w : World, (Instr.typeAssert (.iface 107 (OpV 3 ((j : Int)) (0))) 92 106 true).run Tryz.prog w = .ok (.tuple #[OpV 0 0 0, .bool false]) w := fun _ => by kernel_rfl
  have t3 : ∀ w : World, (Instr.typeAssert (.iface 107 (OpV 3 ((j : Int)) (0))) 92 107 true).run Tryz.prog w = .ok (.tuple #[OpV 3 ((j : Int)) (0), .bool true]) w := fun _ => by kernel_rfl
  go_enter Tryz.func50, Tryz.ntmps50
  go_wp2_with fail
  rw [← hW0]
  clear hW0
  have hb9 : Below (w.heap.size + 1 + 1) W0 W0 := Below.refl _ _
  refine (or_on (w.heap.size + 1 + 1) W0 _ _ _ _ _ _ _ (by first | exact hc9 | exact hc9.alloc _ | exact com_empty_drew (by simp [hs0]) (by omega) | exact com_empty_at (by simp [hs0]) (by omega) | exact (com_empty_drew (by simp [hs0]) (by omega)).alloc _ | exact (com_empty_at (by simp [hs0]) (by omega)).alloc _ | exact com_empty_drew (by simp) (by omega) | exact com_empty_at (by simp) (by omega) | exact (com_empty_drew (by simp) (by omega)).alloc _ | exact (com_empty_at (by simp) (by omega)).alloc _) (by simp) (by repeat first | exact hb9 | apply Below.drew | apply Below.alloc | omega | (simp; omega) | simp) (by omega)).mono ?_
  rintro e w9 ⟨v9, rfl, hc9, hg9, hb9⟩
  have hs9 : w.heap.size + 1 + 1 ≤ w9.heap.size := by have h := hb9.size; omega
  go_wp2_with fail
  refine (or_no _ _ _ _ _ _).mono ?_
  rintro e w8 ⟨rfl, rfl⟩
  go_wp2
  go_ret
  first | exact ⟨com_done (by omega) hc9 (tells_1 _ _), (HBX.out _ hb9).2⟩ | exact ⟨com_done (by omega) (hc9.alloc _) (tells_1 _ _), (HBX.out _ (hb9.alloc (by omega) _)).2⟩

theorem comR_3_1 (p o cp : Nat) (hcp : 4 ≤ cp) (j : Nat) (st x : Int) (xs : List Int) (w : World) (hA : IntAt w (some ⟨p, o, none⟩) 4 xs) (hi : ∀ x ∈ xs, (Lit.int .i64 x).wf = true) (hj : j < 4) (hx : xs.getD j 0 = x) (h0 : x ≠ 0) :
    Calls Tryz.prog 50 #[.agg #[.slice (some ⟨p, o, none⟩) 4 cp, .int .i64 st], .iface 107 (OpV 3 ((j : Int)) (0))] w fun e w' => ComSays e w w' [(0, [])] ∧ Below w.heap.size w w' := by
  have hc : w.cell? ⟨p, o + j, none⟩ = some (I x) := by have h := hA.cells j hj; rwa [hx] at h
  have hp : p < w.heap.size := World.block_lt_of_cell? w _ hc
  have hj0 : (0 : Int) ≤ (j : Int) := by omega
  have hj1 : (j : Int) < 4 := by omega
  have HA : Hid (IntAt w (some ⟨p, o, none⟩) 4 xs) := hA
  have HI : Hid (∀ x ∈ xs, (Lit.int .i64 x).wf = true) := hi
  have HCP : Hid (4 ≤ cp) := hcp
  clear hA hi hx hcp
  have h0' : (x != 0) = true := by simpa using h0
  obtain ⟨W0, hW0⟩ : ∃ W0, W0 = (w.alloc (.cells #[.slice (some ⟨p, o, none⟩) 4 cp, .int .i64 st] 29)).alloc (.cells #[.int .i64 3, .int .i64 (j : Int), .int .i64 0] 107) := ⟨_, rfl⟩
  have hs0 : W0.heap.size = w.heap.size + 1 + 1 := by rw [hW0]; simp
  have HBX : Hid (∀ w', Below (w.heap.size + 1 + 1) W0 w' → (w'.cell? ⟨w.heap.size, 0, none⟩ = some (.slice (some ⟨p, o, none⟩) 4 cp) ∧ w'.cell? ⟨w.heap.size, 1, none⟩ = some (.int .i64 st) ∧ w'.cell? ⟨w.heap.size + 1, 1, none⟩ = some (.int .i64 (j : Int)) ∧ w'.cell? ⟨w.heap.size + 1, 2, none⟩ = some (.int .i64 0) ∧ w'.cell? ⟨p, o + j, none⟩ = some (I x)) ∧ Below w.heap.size w w') := fun w' hb => com_boxesR hc hW0 hb
  have t1 : ∀ w : World, (Instr.typeAssert (.iface 107 (OpV 3 ((j : Int)) (0))) 92 104 true).run Tryz.prog w = .ok (.tuple #[OpV 0 0 0, .bool false]) w := fun _ => by kernel_rfl
  have t2 : ∀ w : World, (Instr.typeAssert (.iface 107 (OpV 3 ((j : Int)) (0))) 92 106 true).run Tryz.prog w = .ok (.tuple #[OpV 0 0 0, .bool false]) w := fun _ => by kernel_rfl
  have t3 : ∀ w : World, (Instr.typeAssert (.iface 107 (OpV 3 ((j : Int)) (0))) 92 107 true).run Tryz.prog w = .ok (.tuple #[OpV 3 ((j : Int)) (0), .bool true]) w := fun _ => by kernel_rfl
  go_enter Tryz.func50, Tryz.ntmps50
  go_wp2_with fail
  rw [← hW0]
  clear hW0
  have hb9 : Below (w.heap.size + 1 + 1) W0 W0 := Below.refl _ _
  refine (or_no _ _ _ _ _ _).mono ?_
  rintro e w8 ⟨rfl, rfl⟩
  go_wp2_with fail
  refine (or_on (w.heap.size + 1 + 1) W0 _ _ _ _ _ _ _ (by first | exact hc9 | exact hc9.alloc _ | exact com_empty_drew (by simp [hs0]) (by omega) | exact com_empty_at (by simp [hs0]) (by omega) | exact (com_empty_drew (by simp [hs0]) (by omega)).alloc _ | exact (com_empty_at (by simp [hs0]) (by omega)).alloc _ | exact com_empty_drew (by simp) (by omega) | exact com_empty_at (by simp) (by omega) | exact (com_empty_drew (by simp) (by omega)).alloc _ | exact (com_empty_at (by simp) (by omega)).alloc _) (by simp) (by repeat first | exact hb9 | apply Below.drew | apply Below.alloc | omega | (simp; omega) | simp) (by omega)).mono ?_
  rintro e w9 ⟨v9, rfl, hc9, hg9, hb9⟩
  have hs9 : w.heap.size + 1 + 1 ≤ w9.heap.size := by have h := hb9.size; omega
  go_wp2
  go_ret
  first | exact ⟨com_done (by omega) hc9 (tells_1 _ _), (HBX.out _ hb9).2⟩ | exact ⟨com_done (by omega) (hc9.alloc _) (tells_1 _ _), (HBX.out _ (hb9.alloc (by omega) _)).2⟩

theorem comR_4_0 (p o cp : Nat) (hcp : 4 ≤ cp) (j : Nat) (st x : Int) (xs : List Int) (w : World) (hA : IntAt w (some ⟨p, o, none⟩) 4 xs) (hi : ∀ x ∈ xs, (Lit.int .i64 x).wf = true) (hj : j < 4) (hx : xs.getD j 0 = x) (h0 : x = 0) :
    Calls Tryz.prog 50 #[.agg #[.slice (some ⟨p, o, none⟩) 4 cp, .int .i64 st], .iface 108 (OpV 4 ((j : Int)) (0))] w fun e w' => ComSays e w w' [(3, [])] ∧ Below w.heap.size w w' := by
  have hc : w.cell? ⟨p, o + j, none⟩ = some (I x) := by have h := hA.cells j hj; rwa [hx] at h
  have hp : p < w.heap.size := World.block_lt_of_cell? w _ hc
  have hj0 : (0 : Int) ≤ (j : Int) := by omega
  have hj1 : (j : Int) < 4 := by omega
  have HA : Hid (IntAt w (some ⟨p, o, none⟩) 4 xs) := hA
  have HI : Hid (∀ x ∈ xs, (Lit.int .i64 x).wf = true) := hi
  have HCP : Hid (4 ≤ cp) := hcp
  clear hA hi hx hcp
  have h0' : (x != 0) = false := by simpa using h0
  obtain ⟨W0, hW0⟩ : ∃ W0, W0 = (w.alloc (.cells #[.slice (some ⟨p, o, none⟩) 4 cp, .int .i64 st] 29)).alloc (.cells #[.int .i64 4, .int .i64 (j : Int), .int .i64 0] 108) := ⟨_, rfl⟩
  have hs0 : W0.heap.size = w.heap.size + 1 + 1 := by rw [hW0]; simp
  have HBX : Hid (∀ w', Below (w.heap.size + 1 + 1) W0 w' → (w'.cell? ⟨w.heap.size, 0, none⟩ = some (.slice (some ⟨p, o, none⟩) 4 cp) ∧ w'.cell? ⟨w.heap.size, 1, none⟩ = some (.int .i64 st) ∧ w'.cell? ⟨w.heap.size + 1, 1, none⟩ = some (.int .i64 (j : Int)) ∧ w'.cell? ⟨w.heap.size + 1, 2, none⟩ = some (.int .i64 0) ∧ w'.cell? ⟨p, o + j, none⟩ = some (I x)) ∧ Below w.heap.size w w') := fun w' hb => com_boxesR hc hW0 hb
  have t1 : ∀ w : World, (Instr.typeAssert (.iface 108 (OpV 4 ((j : Int)) (0))) 92 104 true).run Tryz.prog w = .ok (.tuple #[OpV 0 0 0, .bool false]) w := fun _ => by kernel_rfl
  have t2 : ∀ w : World, (Instr.typeAssert (.iface 108 (OpV 4 ((j : Int)) (0))) 92 106 true).run Tryz.prog w = .ok (.tuple #[OpV 0 0 0, .bool false]) w := fun _ => by kernel_rfl
  have t3 : ∀ w : World, (Instr.typeAssert (.iface 108 (OpV 4 ((j : Int)) (0))) 92 107 true).run Tryz.prog w = .ok (.tuple #[OpV 0 0 0, .bool false]) w := fun _ => by kernel_rfl
  have t4 : ∀ w : World, (Instr.typeAssert (.iface 108 (OpV 4 ((j : Int)) (0))) 92 108 true).run Tryz.prog w = .ok (.tuple #[OpV 4 ((j : Int)) (0), .bool true]) w := fun _ => by kernel_rfl
  go_enter Tryz.func50, Tryz.ntmps50
  go_wp2_with fail
  rw [← hW0]
  clear hW0
  have hb9 : Below (w.heap.size + 1 + 1) W0 W0 := Below.refl _ _
  go_region_held3 (fun w' => w'.cell? ⟨w.heap.size, 0, none⟩ = some (.slice (some ⟨p, o, none⟩) 4 cp) ∧ w'.cell? ⟨w.heap.size, 1, none⟩ = some (.int .i64 st) ∧ w'.cell? ⟨w.heap.size + 1, 1, none⟩ = some (.int .i64 (j : Int)) ∧ w'.cell? ⟨w.heap.size + 1, 2, none⟩ = some (.int .i64 0) ∧ w'.cell? ⟨p, o + j, none⟩ = some (I x))
      (first | (exact (HBX.out _ (by repeat first | exact hb9 | apply Below.drew | apply Below.alloc | omega | (simp; omega) | simp)).1) | go_keep)
      (first
      | (have _m := m1
         go_at_call 72
         refine (or_no _ _ _ _ _ _).mono ?_
         rintro e w8 ⟨rfl, rfl⟩
         have m2 : True := trivial)
      | (skip
         go_at_call 72
         refine (or_on (w.heap.size + 1 + 1) W0 _ _ _ _ _ _ _ (by first | exact hc9 | exact hc9.alloc _ | exact com_empty_drew (by simp [hs0]) (by omega) | exact com_empty_at (by simp [hs0]) (by omega) | exact (com_empty_drew (by simp [hs0]) (by omega)).alloc _ | exact (com_empty_at (by simp [hs0]) (by omega)).alloc _ | exact com_empty_drew (by simp) (by omega) | exact com_empty_at (by simp) (by omega) | exact (com_empty_drew (by simp) (by omega)).alloc _ | exact (com_empty_at (by simp) (by omega)).alloc _) (by simp) (by repeat first | exact hb9 | apply Below.drew | apply Below.alloc | omega | (simp; omega) | simp) (by omega)).mono ?_
         rintro e w9 ⟨v9, rfl, hc9, hg9, hb9⟩
         have hs9 : w.heap.size + 1 + 1 ≤ w9.heap.size := by have h := hb9.size; omega
         have m1 : True := trivial))
  all_goals
    go_wp2
    go_ret
    first | exact ⟨com_done (by omega) hc9 (tells_1 _ _), (HBX.out _ hb9).2⟩ | exact ⟨com_done (by omega) (hc9.alloc _) (tells_1 _ _), (HBX.out _ (hb9.alloc (by omega) _)).2⟩

theorem comR_4_1 (p o cp : Nat) (hcp : 4 ≤ cp) (j : Nat) (st x : Int) (xs : List Int) (w : World) (hA : IntAt w (some ⟨p, o, none⟩) 4 xs) (hi : ∀ x ∈ xs, (Lit.int .i64 x).wf = true) (hj : j < 4) (hx : xs.getD j 0 = x) (h0 : x ≠ 0) :
    Calls Tryz.prog 50 #[.agg #[.slice (some ⟨p, o, none⟩) 4 cp, .int .i64 st], .iface 108 (OpV 4 ((j : Int)) (0))] w fun e w' => ComSays e w w' [(0, [x])] ∧ Below w.heap.size w w' := by
  have hc : w.cell? ⟨p, o + j, none⟩ = some (I x) := by have h := hA.cells j hj; rwa [hx] at h
  have hp : p < w.heap.size := World.block_lt_of_cell? w _ hc
  have hj0 : (0 : Int) ≤ (j : Int) := by omega
  have hj1 : (j : Int) < 4 := by omega
  have HA : Hid (IntAt w (some ⟨p, o, none⟩) 4 xs) := hA
  have HI : Hid (∀ x ∈ xs, (Lit.int .i64 x).wf = true) := hi
  have HCP : Hid (4 ≤ cp) := hcp
  clear hA hi hx hcp
  have h0' : (x != 0) = true := by simpa using h0
  obtain ⟨W0, hW0⟩ : ∃ W0, W0 = (w.alloc (.cells #[.slice (some ⟨p, o, none⟩) 4 cp, .int .i64 st] 29)).alloc (.cells #[.int .i64 4, .int .i64 (j : Int), .int .i64 0] 108) := ⟨_, rfl⟩
  have hs0 : W0.heap.size = w.heap.size + 1 + 1 := by rw [hW0]; simp
  have HBX : Hid (∀ w', Below (w.heap.size + 1 + 1) W0 w' → (w'.cell? ⟨w.heap.size, 0, none⟩ = some (.slice (some ⟨p, o, none⟩) 4 cp) ∧ w'.cell? ⟨w.heap.size, 1, none⟩ = some (.int .i64 st) ∧ w'.cell? ⟨w.heap.size + 1, 1, none⟩ = some (.int .i64 (j : Int)) ∧ w'.cell? ⟨w.heap.size + 1, 2, none⟩ = some (.int .i64 0) ∧ w'.cell? ⟨p, o + j, none⟩ = some (I x)) ∧ Below w.heap.size w w') := fun w' hb => com_boxesR hc hW0 hb
  have t1 : ∀ w : World, (Instr.typeAssert (.iface 108 (OpV 4 ((j : Int)) (0))) 92 104 true).run Tryz.prog w = .ok (.tuple #[OpV 0 0 0, .bool false]) w := fun _ => by kernel_rfl
  have t2 : ∀ w : World, (Instr.typeAssert (.iface 108 (OpV 4 ((j : Int)) (0))) 92 106 true).run Tryz.prog w = .ok (.tuple #[OpV 0 0 0, .bool false]) w := fun _ => by kernel_rfl
  have t3 : ∀ w : World, (Instr.typeAssert (.iface 108 (OpV 4 ((j : Int)) (0))) 92 107 true).run Tryz.prog w = .ok (.tuple #[OpV 0 0 0, .bool false]) w := fun _ => by kernel_rfl
  have t4 : ∀ w : World, (Instr.typeAssert (.iface 108 (OpV 4 ((j : Int)) (0))) 92 108 true).run Tryz.prog w = .ok (.tuple #[OpV 4 ((j : Int)) (0), .bool true]) w := fun _ => by kernel_rfl
  go_enter Tryz.func50, Tryz.ntmps50
  go_wp2_with fail
  rw [← hW0]
  clear hW0
  have hb9 : Below (w.heap.size + 1 + 1) W0 W0 := Below.refl _ _
  go_region_held3 (fun w' => w'.cell? ⟨w.heap.size, 0, none⟩ = some (.slice (some ⟨p, o, none⟩) 4 cp) ∧ w'.cell? ⟨w.heap.size, 1, none⟩ = some (.int .i64 st) ∧ w'.cell? ⟨w.heap.size + 1, 1, none⟩ = some (.int .i64 (j : Int)) ∧ w'.cell? ⟨w.heap.size + 1, 2, none⟩ = some (.int .i64 0) ∧ w'.cell? ⟨p, o + j, none⟩ = some (I x))
      (first | (exact (HBX.out _ (by repeat first | exact hb9 | apply Below.drew | apply Below.alloc | omega | (simp; omega) | simp)).1) | go_keep)
      (first
      | (have _m := m1
         go_at_call 72
         refine (or_on (w.heap.size + 1 + 1) W0 _ _ _ _ _ _ _ (by first | exact hc9 | exact hc9.alloc _ | exact com_empty_drew (by simp [hs0]) (by omega) | exact com_empty_at (by simp [hs0]) (by omega) | exact (com_empty_drew (by simp [hs0]) (by omega)).alloc _ | exact (com_empty_at (by simp [hs0]) (by omega)).alloc _ | exact com_empty_drew (by simp) (by omega) | exact com_empty_at (by simp) (by omega) | exact (com_empty_drew (by simp) (by omega)).alloc _ | exact (com_empty_at (by simp) (by omega)).alloc _) (by simp) (by repeat first | exact hb9 | apply Below.drew | apply Below.alloc | omega | (simp; omega) | simp) (by omega)).mono ?_
         rintro e w9 ⟨v9, rfl, hc9, hg9, hb9⟩
         have hs9 : w.heap.size + 1 + 1 ≤ w9.heap.size := by have h := hb9.size; omega
         have m2 : True := trivial)
      | (skip
         go_at_call 72
         refine (or_no _ _ _ _ _ _).mono ?_
         rintro e w8 ⟨rfl, rfl⟩
         have m1 : True := trivial))
  all_goals
    go_wp2
    go_ret
    exact ⟨com_done (by omega) hc9 (tells_l (one_at (hg9.cell (by first | exact told_first_drew hs0 | exact told_second_drew hs0) (by simp [Value.ownBlock]))) _), (HBX.out _ hb9).2⟩
theorem comR_1_00 (p o cp : Nat) (hcp : 4 ≤ cp) (j : Nat) (st x : Int) (xs : List Int) (w : World) (hA : IntAt w (some ⟨p, o, none⟩) 4 xs) (hi : ∀ x ∈ xs, (Lit.int .i64 x).wf = true) (hj : j < 4) (hx : xs.getD j 0 = x) (v q : Int) (hv : 1 ≤ v ∧ v ≤ 6) (hq : keyN xs v = q) (h0 : x = 0) (hq0 : q < 0) :
    Calls Tryz.prog 50 #[.agg #[.slice (some ⟨p, o, none⟩) 4 cp, .int .i64 st], .iface 104 (OpV 1 ((j : Int)) (v))] w fun e w' => ComSays e w w' [(0, [])] ∧ Below w.heap.size w w' := by
  have hc : w.cell? ⟨p, o + j, none⟩ = some (I x) := by have h := hA.cells j hj; rwa [hx] at h
  have hp : p < w.heap.size := World.block_lt_of_cell? w _ hc
  have hj0 : (0 : Int) ≤ (j : Int) := by omega
  have hj1 : (j : Int) < 4 := by omega
  have HA : Hid (IntAt w (some ⟨p, o, none⟩) 4 xs) := hA
  have HI : Hid (∀ x ∈ xs, (Lit.int .i64 x).wf = true) := hi
  have HCP : Hid (4 ≤ cp) := hcp
  clear hA hi hx hcp
  have HQ : Hid (keyN xs v = q) := hq
  clear hq
  have h0' : (x != 0) = false := by simpa using h0
  clear h0
  have hq1 : ¬ 0 ≤ q := by omega
  have HD1 : Hid (decide (0 ≤ q) = false) := decide_eq_false hq1
  have HD2 : Hid (decide (q < 0) = true) := decide_eq_true hq0
  obtain ⟨W0, hW0⟩ : ∃ W0, W0 = (w.alloc (.cells #[.slice (some ⟨p, o, none⟩) 4 cp, .int .i64 st] 29)).alloc (.cells #[.int .i64 1, .int .i64 (j : Int), .int .i64 v] 104) := ⟨_, rfl⟩
  have hs0 : W0.heap.size = w.heap.size + 1 + 1 := by rw [hW0]; simp
  have HBX : Hid (∀ w', Below (w.heap.size + 1 + 1) W0 w' → (w'.cell? ⟨w.heap.size, 0, none⟩ = some (.slice (some ⟨p, o, none⟩) 4 cp) ∧ w'.cell? ⟨w.heap.size, 1, none⟩ = some (.int .i64 st) ∧ w'.cell? ⟨w.heap.size + 1, 1, none⟩ = some (.int .i64 (j : Int)) ∧ w'.cell? ⟨w.heap.size + 1, 2, none⟩ = some (.int .i64 v) ∧ w'.cell? ⟨p, o + j, none⟩ = some (I x)) ∧ Below w.heap.size w w') := fun w' hb => com_boxesR hc hW0 hb
  have t1 : ∀ w : World, (Instr.typeAssert (.iface 104 (OpV 1 ((j : Int)) (v))) 92 104 true).run Tryz.prog w = .ok (.tuple #[OpV 1 ((j : Int)) (v), .bool true]) w := fun _ => by kernel_rfl
  go_enter Tryz.func50, Tryz.ntmps50
  go_wp2_with fail
  rw [← hW0]
  clear hW0
  have hb9 : Below (w.heap.size + 1 + 1) W0 W0 := Below.refl _ _
  go_region_held3 (fun w' => w'.cell? ⟨w.heap.size, 0, none⟩ = some (.slice (some ⟨p, o, none⟩) 4 cp) ∧ w'.cell? ⟨w.heap.size, 1, none⟩ = some (.int .i64 st) ∧ w'.cell? ⟨w.heap.size + 1, 1, none⟩ = some (.int .i64 (j : Int)) ∧ w'.cell? ⟨w.heap.size + 1, 2, none⟩ = some (.int .i64 v) ∧ w'.cell? ⟨p, o + j, none⟩ = some (I x))
      (first | (exact (HBX.out _ (by repeat first | exact hb9 | apply Below.drew | apply Below.alloc | omega | (simp; omega) | simp)).1) | go_keep)
      (first
      | (go_at_call 71
         refine (implKeyOf_room _ cp HCP.out st v xs _ (HA.out.below (HBX.out _ (by repeat first | exact hb9 | apply Below.drew | apply Below.alloc | omega | (simp; omega) | simp)).2 (Nat.le_refl _)) HI.out hv).mono ?_
         rintro e w1 ⟨rfl, hb1⟩
         rw [HQ.out]
         have hb9 : Below (w.heap.size + 1 + 1) W0 w1 := (show Below (w.heap.size + 1 + 1) W0 _ from (by repeat first | exact hb9 | apply Below.drew | apply Below.alloc | omega | (simp; omega) | simp)).trans (hb1.mono (by simp [hs0]))
         have hs1 : w.heap.size + 1 + 1 ≤ w1.heap.size := by have h := hb9.size; omega))
  go_wp2_with fail
  try rw [HD1.out]
  try rw [HD2.out]
  refine (or_no _ _ _ _ _ _).mono ?_
  rintro e w8 ⟨rfl, rfl⟩
  go_wp2_with fail
  try rw [HD1.out]
  try rw [HD2.out]
  refine (or_no _ _ _ _ _ _).mono ?_
  rintro e w8 ⟨rfl, rfl⟩
  go_wp2_with fail
  try rw [HD1.out]
  try rw [HD2.out]
  refine (or_on (w.heap.size + 1 + 1) W0 _ _ _ _ _ _ _ (by repeat first | exact hc9 | exact com_empty_at rfl (by omega) | exact com_empty_drew rfl (by omega) | exact com_empty_drew (by simp [hs0]) (by omega) | exact com_empty_at (by simp [hs0]) (by omega) | apply World.ownsRow.alloc) (by simp) (by repeat first | exact hb9 | apply Below.drew | apply Below.alloc | omega | (simp; omega) | simp) (by omega)).mono ?_
  rintro e w9 ⟨v9, rfl, hc9, hg9, hb9⟩
  have hs9 : w.heap.size + 1 + 1 ≤ w9.heap.size := by have h := hb9.size; omega
  go_wp2
  go_ret
  first | exact ⟨com_done (by omega) hc9 (tells_1 _ _), (HBX.out _ hb9).2⟩ | exact ⟨com_done (by omega) (hc9.alloc _) (tells_1 _ _), (HBX.out _ (hb9.alloc (by omega) _)).2⟩

theorem comR_1_01 (p o cp : Nat) (hcp : 4 ≤ cp) (j : Nat) (st x : Int) (xs : List Int) (w : World) (hA : IntAt w (some ⟨p, o, none⟩) 4 xs) (hi : ∀ x ∈ xs, (Lit.int .i64 x).wf = true) (hj : j < 4) (hx : xs.getD j 0 = x) (v q : Int) (hv : 1 ≤ v ∧ v ≤ 6) (hq : keyN xs v = q) (h0 : x = 0) (hq0 : 0 ≤ q) :
    Calls Tryz.prog 50 #[.agg #[.slice (some ⟨p, o, none⟩) 4 cp, .int .i64 st], .iface 104 (OpV 1 ((j : Int)) (v))] w fun e w' => ComSays e w w' [(2, [])] ∧ Below w.heap.size w w' := by
  have hc : w.cell? ⟨p, o + j, none⟩ = some (I x) := by have h := hA.cells j hj; rwa [hx] at h
  have hp : p < w.heap.size := World.block_lt_of_cell? w _ hc
  have hj0 : (0 : Int) ≤ (j : Int) := by omega
  have hj1 : (j : Int) < 4 := by omega
  have HA : Hid (IntAt w (some ⟨p, o, none⟩) 4 xs) := hA
  have HI : Hid (∀ x ∈ xs, (Lit.int .i64 x).wf = true) := hi
  have HCP : Hid (4 ≤ cp) := hcp
  clear hA hi hx hcp
  have HQ : Hid (keyN xs v = q) := hq
  clear hq
  have h0' : (x != 0) = false := by simpa using h0
  clear h0
  have hq1 : ¬ q < 0 := by omega
  have HD1 : Hid (decide (0 ≤ q) = true) := decide_eq_true hq0
  have HD2 : Hid (decide (q < 0) = false) := decide_eq_false hq1
  obtain ⟨W0, hW0⟩ : ∃ W0, W0 = (w.alloc (.cells #[.slice (some ⟨p, o, none⟩) 4 cp, .int .i64 st] 29)).alloc (.cells #[.int .i64 1, .int .i64 (j : Int), .int .i64 v] 104) := ⟨_, rfl⟩
  have hs0 : W0.heap.size = w.heap.size + 1 + 1 := by rw [hW0]; simp
  have HBX : Hid (∀ w', Below (w.heap.size + 1 + 1) W0 w' → (w'.cell? ⟨w.heap.size, 0, none⟩ = some (.slice (some ⟨p, o, none⟩) 4 cp) ∧ w'.cell? ⟨w.heap.size, 1, none⟩ = some (.int .i64 st) ∧ w'.cell? ⟨w.heap.size + 1, 1, none⟩ = some (.int .i64 (j : Int)) ∧ w'.cell? ⟨w.heap.size + 1, 2, none⟩ = some (.int .i64 v) ∧ w'.cell? ⟨p, o + j, none⟩ = some (I x)) ∧ Below w.heap.size w w') := fun w' hb => com_boxesR hc hW0 hb
  have t1 : ∀ w : World, (Instr.typeAssert (.iface 104 (OpV 1 ((j : Int)) (v))) 92 104 true).run Tryz.prog w = .ok (.tuple #[OpV 1 ((j : Int)) (v), .bool true]) w := fun _ => by kernel_rfl
  go_enter Tryz.func50, Tryz.ntmps50
  go_wp2_with fail
  rw [← hW0]
  clear hW0
  have hb9 : Below (w.heap.size + 1 + 1) W0 W0 := Below.refl _ _
  go_region_held3 (fun w' => w'.cell? ⟨w.heap.size, 0, none⟩ = some (.slice (some ⟨p, o, none⟩) 4 cp) ∧ w'.cell? ⟨w.heap.size, 1, none⟩ = some (.int .i64 st) ∧ w'.cell? ⟨w.heap.size + 1, 1, none⟩ = some (.int .i64 (j : Int)) ∧ w'.cell? ⟨w.heap.size + 1, 2, none⟩ = some (.int .i64 v) ∧ w'.cell? ⟨p, o + j, none⟩ = some (I x))
      (first | (exact (HBX.out _ (by repeat first | exact hb9 | apply Below.drew | apply Below.alloc | omega | (simp; omega) | simp)).1) | go_keep)
      (first
      | (go_at_call 71
         refine (implKeyOf_room _ cp HCP.out st v xs _ (HA.out.below (HBX.out _ (by repeat first | exact hb9 | apply Below.drew | apply Below.alloc | omega | (simp; omega) | simp)).2 (Nat.le_refl _)) HI.out hv).mono ?_
         rintro e w1 ⟨rfl, hb1⟩
         rw [HQ.out]
         have hb9 : Below (w.heap.size + 1 + 1) W0 w1 := (show Below (w.heap.size + 1 + 1) W0 _ from (by repeat first | exact hb9 | apply Below.drew | apply Below.alloc | omega | (simp; omega) | simp)).trans (hb1.mono (by simp [hs0]))
         have hs1 : w.heap.size + 1 + 1 ≤ w1.heap.size := by have h := hb9.size; omega))
  go_wp2_with fail
  try rw [HD1.out]
  try rw [HD2.out]
  refine (or_no _ _ _ _ _ _).mono ?_
  rintro e w8 ⟨rfl, rfl⟩
  go_wp2_with fail
  try rw [HD1.out]
  try rw [HD2.out]
  refine (or_on (w.heap.size + 1 + 1) W0 _ _ _ _ _ _ _ (by repeat first | exact hc9 | exact com_empty_at rfl (by omega) | exact com_empty_drew rfl (by omega) | exact com_empty_drew (by simp [hs0]) (by omega) | exact com_empty_at (by simp [hs0]) (by omega) | apply World.ownsRow.alloc) (by simp) (by repeat first | exact hb9 | apply Below.drew | apply Below.alloc | omega | (simp; omega) | simp) (by omega)).mono ?_
  rintro e w9 ⟨v9, rfl, hc9, hg9, hb9⟩
  have hs9 : w.heap.size + 1 + 1 ≤ w9.heap.size := by have h := hb9.size; omega
  go_wp2_with fail
  try rw [HD1.out]
  try rw [HD2.out]
  refine (or_no _ _ _ _ _ _).mono ?_
  rintro e w8 ⟨rfl, rfl⟩
  go_wp2
  go_ret
  first | exact ⟨com_done (by omega) hc9 (tells_1 _ _), (HBX.out _ hb9).2⟩ | exact ⟨com_done (by omega) (hc9.alloc _) (tells_1 _ _), (HBX.out _ (hb9.alloc (by omega) _)).2⟩

theorem comR_1_10 (p o cp : Nat) (hcp : 4 ≤ cp) (j : Nat) (st x : Int) (xs : List Int) (w : World) (hA : IntAt w (some ⟨p, o, none⟩) 4 xs) (hi : ∀ x ∈ xs, (Lit.int .i64 x).wf = true) (hj : j < 4) (hx : xs.getD j 0 = x) (v q : Int) (hv : 1 ≤ v ∧ v ≤ 6) (hq : keyN xs v = q) (h0 : x ≠ 0) (hq0 : q < 0) :
    Calls Tryz.prog 50 #[.agg #[.slice (some ⟨p, o, none⟩) 4 cp, .int .i64 st], .iface 104 (OpV 1 ((j : Int)) (v))] w fun e w' => ComSays e w w' [(1, [])] ∧ Below w.heap.size w w' := by
  have hc : w.cell? ⟨p, o + j, none⟩ = some (I x) := by have h := hA.cells j hj; rwa [hx] at h
  have hp : p < w.heap.size := World.block_lt_of_cell? w _ hc
  have hj0 : (0 : Int) ≤ (j : Int) := by omega
  have hj1 : (j : Int) < 4 := by omega
  have HA : Hid (IntAt w (some ⟨p, o, none⟩) 4 xs) := hA
  have HI : Hid (∀ x ∈ xs, (Lit.int .i64 x).wf = true) := hi
  have HCP : Hid (4 ≤ cp) := hcp
  clear hA hi hx hcp
  have HQ : Hid (keyN xs v = q) := hq
  clear hq
  have h0' : (x != 0) = true := by simpa using h0
  clear h0
  have hq1 : ¬ 0 ≤ q := by omega
  have HD1 : Hid (decide (0 ≤ q) = false) := decide_eq_false hq1
  have HD2 : Hid (decide (q < 0) = true) := decide_eq_true hq0
  obtain ⟨W0, hW0⟩ : ∃ W0, W0 = (w.alloc (.cells #[.slice (some ⟨p, o, none⟩) 4 cp, .int .i64 st] 29)).alloc (.cells #[.int .i64 1, .int .i64 (j : Int), .int .i64 v] 104) := ⟨_, rfl⟩
  have hs0 : W0.heap.size = w.heap.size + 1 + 1 := by rw [hW0]; simp
  have HBX : Hid (∀ w', Below (w.heap.size + 1 + 1) W0 w' → (w'.cell? ⟨w.heap.size, 0, none⟩ = some (.slice (some ⟨p, o, none⟩) 4 cp) ∧ w'.cell? ⟨w.heap.size, 1, none⟩ = some (.int .i64 st) ∧ w'.cell? ⟨w.heap.size + 1, 1, none⟩ = some (.int .i64 (j : Int)) ∧ w'.cell? ⟨w.heap.size + 1, 2, none⟩ = some (.int .i64 v) ∧ w'.cell? ⟨p, o + j, none⟩ = some (I x)) ∧ Below w.heap.size w w') := fun w' hb => com_boxesR hc hW0 hb
  have t1 : ∀ w : World, (Instr.typeAssert (.iface 104 (OpV 1 ((j : Int)) (v))) 92 104 true).run Tryz.prog w = .ok (.tuple #[OpV 1 ((j : Int)) (v), .bool true]) w := fun _ => by kernel_rfl
  go_enter Tryz.func50, Tryz.ntmps50
  go_wp2_with fail
  rw [← hW0]
  clear hW0
  have hb9 : Below (w.heap.size + 1 + 1) W0 W0 := Below.refl _ _
  go_region_held3 (fun w' => w'.cell? ⟨w.heap.size, 0, none⟩ = some (.slice (some ⟨p, o, none⟩) 4 cp) ∧ w'.cell? ⟨w.heap.size, 1, none⟩ = some (.int .i64 st) ∧ w'.cell? ⟨w.heap.size + 1, 1, none⟩ = some (.int .i64 (j : Int)) ∧ w'.cell? ⟨w.heap.size + 1, 2, none⟩ = some (.int .i64 v) ∧ w'.cell? ⟨p, o + j, none⟩ = some (I x))
      (first | (exact (HBX.out _ (by repeat first | exact hb9 | apply Below.drew | apply Below.alloc | omega | (simp; omega) | simp)).1) | go_keep)
      (first
      | (go_at_call 71
         refine (implKeyOf_room _ cp HCP.out st v xs _ (HA.out.below (HBX.out _ (by repeat first | exact hb9 | apply Below.drew | apply Below.alloc | omega | (simp; omega) | simp)).2 (Nat.le_refl _)) HI.out hv).mono ?_
         rintro e w1 ⟨rfl, hb1⟩
         rw [HQ.out]
         have hb9 : Below (w.heap.size + 1 + 1) W0 w1 := (show Below (w.heap.size + 1 + 1) W0 _ from (by repeat first | exact hb9 | apply Below.drew | apply Below.alloc | omega | (simp; omega) | simp)).trans (hb1.mono (by simp [hs0]))
         have hs1 : w.heap.size + 1 + 1 ≤ w1.heap.size := by have h := hb9.size; omega))
  go_wp2_with fail
  try rw [HD1.out]
  try rw [HD2.out]
  refine (or_on (w.heap.size + 1 + 1) W0 _ _ _ _ _ _ _ (by repeat first | exact hc9 | exact com_empty_at rfl (by omega) | exact com_empty_drew rfl (by omega) | exact com_empty_drew (by simp [hs0]) (by omega) | exact com_empty_at (by simp [hs0]) (by omega) | apply World.ownsRow.alloc) (by simp) (by repeat first | exact hb9 | apply Below.drew | apply Below.alloc | omega | (simp; omega) | simp) (by omega)).mono ?_
  rintro e w9 ⟨v9, rfl, hc9, hg9, hb9⟩
  have hs9 : w.heap.size + 1 + 1 ≤ w9.heap.size := by have h := hb9.size; omega
  go_wp2_with fail
  try rw [HD1.out]
  try rw [HD2.out]
  refine (or_no _ _ _ _ _ _).mono ?_
  rintro e w8 ⟨rfl, rfl⟩
  go_wp2_with fail
  try rw [HD1.out]
  try rw [HD2.out]
  refine (or_no _ _ _ _ _ _).mono ?_
  rintro e w8 ⟨rfl, rfl⟩
  go_wp2
  go_ret
  first | exact ⟨com_done (by omega) hc9 (tells_1 _ _), (HBX.out _ hb9).2⟩ | exact ⟨com_done (by omega) (hc9.alloc _) (tells_1 _ _), (HBX.out _ (hb9.alloc (by omega) _)).2⟩

theorem comR_1_11 (p o cp : Nat) (hcp : 4 ≤ cp) (j : Nat) (st x : Int) (xs : List Int) (w : World) (hA : IntAt w (some ⟨p, o, none⟩) 4 xs) (hi : ∀ x ∈ xs, (Lit.int .i64 x).wf = true) (hj : j < 4) (hx : xs.getD j 0 = x) (v q : Int) (hv : 1 ≤ v ∧ v ≤ 6) (hq : keyN xs v = q) (h0 : x ≠ 0) (hq0 : 0 ≤ q) :
    Calls Tryz.prog 50 #[.agg #[.slice (some ⟨p, o, none⟩) 4 cp, .int .i64 st], .iface 104 (OpV 1 ((j : Int)) (v))] w fun e w' => ComSays e w w' [(1, []), (2, [])] ∧ Below w.heap.size w w' := by
  have hc : w.cell? ⟨p, o + j, none⟩ = some (I x) := by have h := hA.cells j hj; rwa [hx] at h
  have hp : p < w.heap.size := World.block_lt_of_cell? w _ hc
  have hj0 : (0 : Int) ≤ (j : Int) := by omega
  have hj1 : (j : Int) < 4 := by omega
  have HA : Hid (IntAt w (some ⟨p, o, none⟩) 4 xs) := hA
  have HI : Hid (∀ x ∈ xs, (Lit.int .i64 x).wf = true) := hi
  have HCP : Hid (4 ≤ cp) := hcp
  clear hA hi hx hcp
  have HQ : Hid (keyN xs v = q) := hq
  clear hq
  have h0' : (x != 0) = true := by simpa using h0
  clear h0
  have hq1 : ¬ q < 0 := by omega
  have HD1 : Hid (decide (0 ≤ q) = true) := decide_eq_true hq0
  have HD2 : Hid (decide (q < 0) = false) := decide_eq_false hq1
  obtain ⟨W0, hW0⟩ : ∃ W0, W0 = (w.alloc (.cells #[.slice (some ⟨p, o, none⟩) 4 cp, .int .i64 st] 29)).alloc (.cells #[.int .i64 1, .int .i64 (j : Int), .int .i64 v] 104) := ⟨_, rfl⟩
  have hs0 : W0.heap.size = w.heap.size + 1 + 1 := by rw [hW0]; simp
  have HBX : Hid (∀ w', Below (w.heap.size + 1 + 1) W0 w' → (w'.cell? ⟨w.heap.size, 0, none⟩ = some (.slice (some ⟨p, o, none⟩) 4 cp) ∧ w'.cell? ⟨w.heap.size, 1, none⟩ = some (.int .i64 st) ∧ w'.cell? ⟨w.heap.size + 1, 1, none⟩ = some (.int .i64 (j : Int)) ∧ w'.cell? ⟨w.heap.size + 1, 2, none⟩ = some (.int .i64 v) ∧ w'.cell? ⟨p, o + j, none⟩ = some (I x)) ∧ Below w.heap.size w w') := fun w' hb => com_boxesR hc hW0 hb
  have t1 : ∀ w : World, (Instr.typeAssert (.iface 104 (OpV 1 ((j : Int)) (v))) 92 104 true).run Tryz.prog w = .ok (.tuple #[OpV 1 ((j : Int)) (v), .bool true]) w := fun _ => by kernel_rfl
  go_enter Tryz.func50, Tryz.ntmps50
  go_wp2_with fail
  rw [← hW0]
  clear hW0
  have hb9 : Below (w.heap.size + 1 + 1) W0 W0 := Below.refl _ _
  go_region_held3 (fun w' => w'.cell? ⟨w.heap.size, 0, none⟩ = some (.slice (some ⟨p, o, none⟩) 4 cp) ∧ w'.cell? ⟨w.heap.size, 1, none⟩ = some (.int .i64 st) ∧ w'.cell? ⟨w.heap.size + 1, 1, none⟩ = some (.int .i64 (j : Int)) ∧ w'.cell? ⟨w.heap.size + 1, 2, none⟩ = some (.int .i64 v) ∧ w'.cell? ⟨p, o + j, none⟩ = some (I x))
      (first | (exact (HBX.out _ (by repeat first | exact hb9 | apply Below.drew | apply Below.alloc | omega | (simp; omega) | simp)).1) | go_keep)
      (first
      | (go_at_call 71
         refine (implKeyOf_room _ cp HCP.out st v xs _ (HA.out.below (HBX.out _ (by repeat first | exact hb9 | apply Below.drew | apply Below.alloc | omega | (simp; omega) | simp)).2 (Nat.le_refl _)) HI.out hv).mono ?_
         rintro e w1 ⟨rfl, hb1⟩
         rw [HQ.out]
         have hb9 : Below (w.heap.size + 1 + 1) W0 w1 := (show Below (w.heap.size + 1 + 1) W0 _ from (by repeat first | exact hb9 | apply Below.drew | apply Below.alloc | omega | (simp; omega) | simp)).trans (hb1.mono (by simp [hs0]))
         have hs1 : w.heap.size + 1 + 1 ≤ w1.heap.size := by have h := hb9.size; omega))
  go_wp2_with fail
  try rw [HD1.out]
  try rw [HD2.out]
  refine (or_on (w.heap.size + 1 + 1) W0 _ _ _ _ _ _ _ (by repeat first | exact hc9 | exact com_empty_at rfl (by omega) | exact com_empty_drew rfl (by omega) | exact com_empty_drew (by simp [hs0]) (by omega) | exact com_empty_at (by simp [hs0]) (by omega) | apply World.ownsRow.alloc) (by simp) (by repeat first | exact hb9 | apply Below.drew | apply Below.alloc | omega | (simp; omega) | simp) (by omega)).mono ?_
  rintro e w9 ⟨v9, rfl, hc9, hg9, hb9⟩
  have hs9 : w.heap.size + 1 + 1 ≤ w9.heap.size := by have h := hb9.size; omega
  go_wp2_with fail
  try rw [HD1.out]
  try rw [HD2.out]
  refine (or_on (w.heap.size + 1 + 1) W0 _ _ _ _ _ _ _ (by repeat first | exact hc9 | exact com_empty_at rfl (by omega) | exact com_empty_drew rfl (by omega) | exact com_empty_drew (by simp [hs0]) (by omega) | exact com_empty_at (by simp [hs0]) (by omega) | apply World.ownsRow.alloc) (by simp) (by repeat first | exact hb9 | apply Below.drew | apply Below.alloc | omega | (simp; omega) | simp) (by omega)).mono ?_
  rintro e w9 ⟨v9, rfl, hc9, hg9, hb9⟩
  have hs9 : w.heap.size + 1 + 1 ≤ w9.heap.size := by have h := hb9.size; omega
  go_wp2_with fail
  try rw [HD1.out]
  try rw [HD2.out]
  refine (or_no _ _ _ _ _ _).mono ?_
  rintro e w8 ⟨rfl, rfl⟩
  go_wp2
  go_ret
  exact ⟨com_done (by omega) hc9 (tells_2 _ _ _), (HBX.out _ hb9).2⟩
end
end Go.Proofs.YtecheopkfhfgkaaGreat
