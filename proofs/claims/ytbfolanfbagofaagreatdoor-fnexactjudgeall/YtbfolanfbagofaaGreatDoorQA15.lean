/- Texts joined: RowsRoom, ImplMa, SpecTk. -/
import Derived.Test.YtbfolanfbagofaaGreatDoorQA11
import Derived.Test.YtbfolanfbagofaaGreatDoorQA09
import Derived.Test.YtbfolanfbagofaaGreatDoorQA10
import Derived.Test.YtbfolanfbagofaaGreatDoorQA13
import Derived.Test.YtbfolanfbagofaaGreatDoorQA14
set_option maxHeartbeats 16000000
set_option maxRecDepth 100000
namespace Go.Proofs.YtbfolanfbagofaaGreatDoor
section
open Go.ChangeShapes Go.WideShapes Go.ChangeAt Go.RowKit Go.Maps
theorem holdersOf_cap (H : Type) (a : Option Addr) (cp : Nat) (hcp : 4 ≤ cp) (st : Int) (xs : List Int) (w : World) (hA : IntAt w a 4 xs) (hi : ∀ x ∈ xs, (Lit.int .i64 x).wf = true) :
   Calls Tryz.prog 92 #[.agg #[.slice a 4 cp, .int .i64 st]] w fun e w' =>
     e = .returned (.map (some (w.heap.size + 1))) ∧ Below w.heap.size w w' ∧ ∃ (R : Value → Option (DataW H × List MemPlace)) (D : DataW H), w'.ownsMap Tryz.prog 3 R (w.heap.size + 1) 4 D ∧ RowsIn R w' (w.heap.size + 2) ∧ HD xs D := by
 obtain ⟨hl, _, h0 | ⟨b, o, rfl, hc⟩⟩ := hA
 · omega
 have hmm := @run_makeMap Tryz.prog
 have HC : Hid (∀ i, i < 4 → w.cell? ⟨b, o + i, none⟩ = some (I (xs.getD i 0))) := hc
 have HI : Hid (∀ x ∈ xs, (Lit.int .i64 x).wf = true) := hi
 have HL : Hid (xs.length = 4) := hl
 have hblt : b < w.heap.size := World.block_lt_of_cell? w _ (hc 0 (by omega))
 clear hc hi hl
 have hcp1 : (4 : Int) ≤ (cp : Int) := by omega
 obtain ⟨i0, hin, hz0, hz1, hz2⟩ := info_parts infoInt
 go_enter Tryz.func92, Tryz.ntmps92
 go_wp2
 go_loopw [15] (fun i wr => ∃ k : Nat, k ≤ 4 ∧ i = .int .i64 (k : Int) ∧ ∃ D : DataW H, wr.ownsGroups Tryz.prog 3 (w.heap.size + 2) 3 .i64 (w.heap.size + 1) k D ∧ GD xs k D ∧ Below w.heap.size w wr ∧ w.heap.size + 2 ≤ wr.heap.size)
   (fun i _ => 4 - (intOf i).toNat)
 case atStart =>
   refine ⟨0, Nat.zero_le _, rfl, .map [], ?_, GD_zero _, ((Below.refl _ _).alloc (Nat.le_refl _) _).alloc (by simp) _, by simp⟩
   have := World.ownsGroups_made (H := H) (w.alloc (Obj.cells #[Value.slice (some { block := b, off := o }) 4 cp, Value.int IntKind.i64 st] 41)) Tryz.prog 3 3 .i64
   simpa using this
 case round =>
   obtain ⟨k, hk, rfl, D, hown, hgd, hnx, hws⟩ := hrel
   obtain ⟨x, hx⟩ : ∃ x, xs.getD k 0 = x := ⟨_, rfl⟩
   have HX : Hid (xs.getD k 0 = x) := hx
   have HGD : Hid (GD xs k D) := hgd
   by_cases hlt : k < 4
   · have hcx : wr.cell? ⟨b, o + k, none⟩ = some (I x) := by rw [← hx]; exact (hnx.cell (by exact hblt)).trans (HC.out k hlt)
     have hwx : (Lit.int .i64 x).wf = true := HI.out x (by
       have hk4 : k < xs.length := by have := HL.out; omega
       rw [← hx, show xs.getD k 0 = xs[k] by simp [List.getD, hk4]]
       exact List.getElem_mem _)
     have hkey := keyOf_int_mk Tryz.underlying3 hwx
     clear hx hgd
     go_wp2_with (first
       | (at_lookup; refine wpList_lookup_groups _ rfl _ _ 142 rfl 3 28 3 .i64 mapLaw Tryz.underlying142 (zeroInts _) (w.heap.size + 2) (w.heap.size + 1) k _ rfl hown (by unfold maxLen; omega) _ _ rfl hkey ?_; intro v zs hat hoi hzl hback)
       | (at_builtin; refine wpList_append_own_at _ rfl _ _ 28 rfl (w.heap.size + 2) 3 i0 (.int .i64 0) 1 8 Tryz.underlying28 hin hz0 hz1 hz2 rfl (by decide) _ _ _ rfl (hoi.1.alloc _) ⟨wr.heap.size, 0, none⟩ 1 1 [.int .i64 k] rfl rfl (cell_one_new _ _ _) (ints_oneCell .i64 [(k : Int)]) (by unfold maxLen; omega) (by omega) (by simp; omega) ?_; intro v' w1 hown' hgrow hnil hloc)
       | (at_mapUpdate; refine wpList_mapUpdate_back _ rfl _ _ _ 142 rfl hback rfl rfl rfl ((World.grownBy_alloc _ _ _).trans hgrow) (hoi.appended hown' (WalkArith.wf_i64 (by omega))) (by simp; omega) (hloc.imp id (fun h => ⟨_, h, by simp⟩)) ?_; intro w2 hown2 hgrow2)
       | go_in)
     have hall := (World.grownBy_alloc wr _ _).trans hgrow
     go_roundw
     case rel =>
       refine ⟨k + 1, by omega, by go_num, _, hown2, ?_, hnx.groups hoi hall hgrow2 hnx.size (by omega) (by omega), Nat.le_trans hws (Nat.le_trans hall.size hgrow2.size)⟩
       show GD xs (k + 1) (D.put (.int .i64 x) (rowDatum .i64 v' (zs ++ [(k : Int)])))
       rw [(hoi.appended hown' (WalkArith.wf_i64 (by omega))).datum_pos (by simp), GD_zs HGD.out hat hoi]
       exact GD_step HGD.out HX.out hwx
     case measure => simp [intOf]; omega
   · obtain rfl : k = 4 := by omega
     have hkey0 : keyOf Tryz.prog 3 (.int .i64 0) = some (.int .i64 0) := keyOf_int_mk Tryz.underlying3 (by decide)
     go_wp2_with (first
       | (at_delete; refine wpList_delete_own _ rfl _ _ 142 3 rfl 28 mapLaw Tryz.underlying142 _ (w.heap.size + 1) 4 D rfl (groups_map hown) _ _ rfl hkey0 ?_; intro w1 hown1 hturn1)
       | go_in)
     go_ret
     have hg1 := hturn1.grown
     refine ⟨rfl, hnx.grown hg1 hnx.size (fun j hj => by cases hj; omega), _, _, hown1, ?_, ?_⟩
     · intro v y hy
       obtain ⟨zs, ho, rfl⟩ := rowElem_inv hy
       refine ⟨zs, ho.kept hg1 ?_, rfl⟩
       cases hv : v.ownBlock with
       | none => exact .inl rfl
       | some g =>
         refine .inr fun e1 => ?_
         have := (ho.1.lt g hv).1
         cases e1
         omega
     · intro x
       have hg := HGD.out.2 x
       by_cases h0 : x = 0
       · subst h0
         refine ⟨by rw [has_del_same]; simp, fun h => absurd rfl h⟩
       · have hne : Lit.int .i64 x ≠ .int .i64 0 := fun e => h0 (by cases e; rfl)
         rw [has_del_other hne, hg.1]
         refine ⟨by simp [h0], fun _ zd hp => ?_⟩
         rw [atKey_del_other hne, atKey_has (by rw [hg.1]; simpa using hp) zd .nil, hg.2, rowOf_pos hp]
theorem implRowsOk_room (a : Option Addr) (n cp : Nat) (hcp : n ≤ cp) (st : Int) (xs : List Int) (w : World) (hA : IntAt w a n xs) (hi : ∀ x ∈ xs, (Lit.int .i64 x).wf = true) :
   Calls Tryz.prog 90 #[.agg #[.slice a n cp, .int .i64 st]] w fun e w' => Says e (OkRows xs st) ∧ Below w.heap.size w w' := by
 have hl := hA.1
 by_cases hn : n = 4
 · subst hn
   by_cases hs0 : st < 0
   · have h1 : Hid (¬ OkRows xs st) := fun h => by have := h.2.1; omega
     go_enter Tryz.func90, Tryz.ntmps90
     go_wp2
     go_ret
     exact ⟨⟨false, rfl, by simp [h1.out]⟩, (Below.refl _ _).alloc (Nat.le_refl _) _⟩
   by_cases hs1 : 5 < st
   · have h1 : Hid (¬ OkRows xs st) := fun h => by have := h.2.2.1; omega
     go_enter Tryz.func90, Tryz.ntmps90
     go_wp2
     go_ret
     exact ⟨⟨false, rfl, by simp [h1.out]⟩, (Below.refl _ _).alloc (Nat.le_refl _) _⟩
   have HA : Hid (IntAt w a 4 xs) := hA
   have HI : Hid (∀ x ∈ xs, (Lit.int .i64 x).wf = true) := hi
   have HL : Hid (xs.length = 4) := hl
   clear hA hi hl
   go_enter Tryz.func90, Tryz.ntmps90
   go_wp2_with fail
   refine (holdersOf_cap Unit a cp hcp st xs _ (HA.out.below ((Below.refl _ w).alloc (Nat.le_refl _) _) (Nat.le_refl _)) HI.out).mono ?_
   rintro e w1 ⟨rfl, hb1, R, D, hown, hR, hD⟩
   have hbw : Below w.heap.size w w1 := ((Below.refl _ w).alloc (Nat.le_refl _) _).trans (hb1.mono (by simp))
   have hsz1 := hown.lt
   simp only [World.size_alloc] at hown hR hsz1
   have HR : Hid (RowsIn R w1 (w.heap.size + 1 + 2)) := hR
   have HD1 : Hid (HD xs D) := hD
   clear hb1 hR hD
   go_wp2_with (first | (at_range; refine wpList_range_own _ rfl _ 142 rfl 3 28 mapLaw Tryz.underlying142 R (w.heap.size + 1 + 1) 4 D rfl hown ?_; intro w2 hrg0 hg0 hs2) | fail)
   go_frame
   have hb2 : Below w1.heap.size w1 w2 := (Below.refl _ _).grown hg0 (Nat.le_refl _) (fun k e => by cases e)
   clear hown hg0
   go_loopw [3] (fun _ wr => ∃ left cnt, wr.ranges Tryz.prog 3 R (w.heap.size + 1 + 1) w1.heap.size 4 D left cnt ∧ Below w1.heap.size w1 wr ∧ ∀ x : Int, x ≠ 0 → posK xs 4 x ≠ [] → left (.int .i64 x) = false → Good xs x) (fun _ wr => wr.rangeLeft (w.heap.size + 1 + 1) w1.heap.size)
   case atStart =>
     refine ⟨_, _, hrg0, hb2, fun x h0 hp hf => ?_⟩
     rw [(HD1.out x).1] at hf
     exact absurd ⟨h0, hp⟩ (of_decide_eq_false hf)
   case round =>
     obtain ⟨left, cnt, hrg, hbr, hgood⟩ := hrel
     have HG : Hid (∀ x : Int, x ≠ 0 → posK xs 4 x ≠ [] → left (.int .i64 x) = false → Good xs x) := hgood
     clear hgood hrg0 hb2
     go_wp2_with (first | (at_next; refine wpList_next_rows _ rfl _ rfl R HR.out (w.heap.size + 1 + 1) w1.heap.size 4 D HD1.out left cnt rfl hrg ?_ ?_) | fail)
     · intro _ hl0
       go_wp2
       go_ret
       exact ⟨⟨true, rfl, by simpa using ⟨HL.out, hs0, hs1, fun x h0 hp => HG.out x h0 hp (hl0 _)⟩⟩, hbw.trans (hbr.mono hbw.size)⟩
     · intro x p l c w3 cnt3 hlx hx0 hpx hrow hrg3 hlt hg3 hs3 hen
       have hb3 : Below w1.heap.size w1 w3 := hbr.grown hg3 hbr.size (fun k e => by cases e; exact Nat.le_refl _)
       have hb03 := hbw.trans (hb3.mono hbw.size)
       obtain rfl := row_len hrow
       have HP : Hid (posK xs 4 x ≠ []) := hpx
       clear hrow hg3 hpx
       go_wp2_with fail
       refine (implValOk_any x _).mono ?_
       rintro e w4 ⟨rfl, rfl⟩
       by_cases hv : 1 ≤ x ∧ x ≤ 6
       · rw [show decide (1 ≤ x ∧ x ≤ 6) = true from decide_eq_true hv]
         by_cases hln : 1 < (posK xs 4 x).length
         · have h1 : Hid (¬ OkRows xs st) := fun h => by have := (h.2.2.2 x hx0 HP.out).2; omega
           go_wp2
           go_ret
           exact ⟨⟨false, rfl, by simp [h1.out]⟩, hb03⟩
         · have hG : Hid (Good xs x) := ⟨hv, by omega⟩
           go_wp2
           refine ⟨⟨_, _, hrg3, hb3, fun y h0 hp hf => ?_⟩, by rw [hrg3.left_eq, hrg.left_eq]; omega⟩
           rw [sameKey_int] at hf
           by_cases hy : y = x
           · subst hy
             exact hG.out
           · exact HG.out y h0 hp (by simpa [hy] using hf)
       · rw [show decide (1 ≤ x ∧ x ≤ 6) = false from decide_eq_false hv]
         have h1 : Hid (¬ OkRows xs st) := fun h => hv (h.2.2.2 x hx0 HP.out).1
         go_wp2
         go_ret
         exact ⟨⟨false, rfl, by simp [h1.out]⟩, hb03⟩
 · have h1 : Hid (¬ OkRows xs st) := fun h => by have := h.1; omega
   have h2 : ((n : Int) != 4) = true := by simp; omega
   go_enter Tryz.func90, Tryz.ntmps90
   go_wp2
   go_ret
   exact ⟨⟨false, rfl, by simp [h1.out]⟩, (Below.refl _ _).alloc (Nat.le_refl _) _⟩
end
section
open Go.ChangeShapes Go.WideShapes Go.ChangeAt Go.RowKit
theorem impl_tasksOk (v0 v1 v3 v5 v6 v7 : Value) (ta : Option Addr) (nt tc : Nat) (ts : Nat → ThD) (ca : Option Addr) (nc cc : Nat) (f : Nat → CaD) (w : World) (h1 : ThsAt w ta nt ts) (h2 : CasAt w ca nc f) (hpc : ∀ i, i < nt → (ts i).on = true → 0 ≤ (ts i).pc ∧ (ts i).pc < ((ts i).n0 : Int)) :
   Calls Tryz.prog 129 #[.agg #[v0, v1, .slice ta nt tc, v3, .slice ca nc cc, v5, v6, v7]] w fun e w' => ∃ ok, (e = .returned (.bool ok) ∧ (ok = true ↔ ∀ i, i < nt → TaskGood (ts i) (callsL f (i : Int) nc))) ∧ Below w.heap.size w w' := by
 have hnt := h1.1
 have hnc := h2.1
 have H1 : Hid (ThsAt w ta nt ts) := h1
 have H2 : Hid (CasAt w ca nc f) := h2
 have HPC : Hid (∀ i, i < nt → (ts i).on = true → 0 ≤ (ts i).pc ∧ (ts i).pc < ((ts i).n0 : Int)) := hpc
 obtain ⟨G, hG⟩ : ∃ G : Prop, (∀ i, i < nt → TaskGood (ts i) (callsL f (i : Int) nc)) = G := ⟨_, rfl⟩
 have HG : Hid (G ↔ (∀ i, i < nt → TaskGood (ts i) (callsL f (i : Int) nc))) := by show _ ↔ _; rw [hG]
 rw [hG]
 obtain ⟨W, hW⟩ : ∃ W, w.alloc (.cells #[v0, v1, .slice ta nt tc, v3, .slice ca nc cc, v5, v6, v7] 43) = W := ⟨_, rfl⟩
 have hb0 : Below w.heap.size w W := by rw [← hW]; exact (Below.refl _ w).alloc (Nat.le_refl _) _
 have BX : Hid (Box W w.heap.size #[v0, v1, .slice ta nt tc, v3, .slice ca nc cc, v5, v6, v7] 43) := by rw [← hW]; exact box_of w _ _
 have HB0 : Hid (Below w.heap.size w W) := hb0
 have HW : Hid (w.alloc (.cells #[v0, v1, .slice ta nt tc, v3, .slice ca nc cc, v5, v6, v7] 43) = W) := hW
 clear h1 h2 hb0 hW hG hpc
 go_enter Tryz.func129, Tryz.ntmps129
 go_wp2
 rw [HW.out]
 go_loopw [7] (fun i wr => ∃ k : Nat, k ≤ nt ∧ i = .int .i64 (k : Int) ∧ (∀ j, j < k → TaskGood (ts j) (callsL f (j : Int) nc)) ∧ Below W.heap.size W wr) (fun i _ => nt - (intOf i).toNat)
 case atStart => exact ⟨0, Nat.zero_le _, rfl, (fun j h => by omega), Below.refl _ _⟩
 case round =>
   obtain ⟨k, hk, rfl, hall, hb⟩ := hrel
   have HALL : Hid (∀ j, j < k → TaskGood (ts j) (callsL f (j : Int) nc)) := hall
   have HB : Hid (Below W.heap.size W wr) := hb
   have HBW : Hid (Below w.heap.size w wr) := HB0.out.trans (hb.mono HB0.out.size)
   have BR : Hid (Box wr w.heap.size #[v0, v1, .slice ta nt tc, v3, .slice ca nc cc, v5, v6, v7] 43) := BX.out.below hb BX.out.lt
   have L1 : w.heap.size < wr.heap.size := BR.out.lt
   obtain ⟨z0, z1, z2, z3, z4, z5, z6, z7⟩ := eight_of BR.out
   clear hall hb
   by_cases hlt : k < nt
   · have hk0 : (0 : Int) ≤ (k : Int) := by omega
     have hk1 : (k : Int) < (nt : Int) := by omega
     rcases (H1.out.below HBW.out (Nat.le_refl _)).2 with h0 | ⟨p1, o1, rfl, g1⟩
     · omega
     obtain ⟨a0, c0, a1, c1, a2, c2, hTC, hTL, _⟩ := g1 k hlt
     have hpk := HPC.out k hlt
     obtain ⟨X, hX⟩ : ∃ X, ts k = X := ⟨_, rfl⟩
     have HX : Hid (ts k = X) := hX
     rw [hX] at hTC hTL hpk
     obtain ⟨n0, fs, pc, on, n1, gs, n2, hs2⟩ := X
     obtain ⟨e0, e1, e2, e3, e4⟩ := hTC
     dsimp only at e0 e1 e2 e3 e4 hpk
     have HTL : Hid (ThL wr a0 a1 a2 ⟨n0, fs, pc, on, n1, gs, n2, hs2⟩) := hTL
     have HPK : Hid (on = true → 0 ≤ pc ∧ pc < (n0 : Int)) := hpk
     have q1 : p1 < wr.heap.size := World.block_lt_of_cell? wr _ e0
     clear g1 hX hTL hpk
     by_cases htk : TaskGood ⟨n0, fs, pc, on, n1, gs, n2, hs2⟩ (callsL f (k : Int) nc)
     · have HTK : Hid (TaskGood ⟨n0, fs, pc, on, n1, gs, n2, hs2⟩ (callsL f (k : Int) nc)) := htk
       have HTT : Hid (TaskGood (ts k) (callsL f (k : Int) nc)) := by show TaskGood _ _; rw [HX.out]; exact htk
       clear htk
       go_wp2_with fail
       have KF : ∀ y, Below wr.heap.size wr y → Hid (y.cell? ⟨w.heap.size, 0, none⟩ = some v0 ∧ y.cell? ⟨w.heap.size, 1, none⟩ = some v1 ∧ y.cell? ⟨w.heap.size, 2, none⟩ = some (.slice (some ⟨p1, o1, none⟩) nt tc) ∧ y.cell? ⟨w.heap.size, 3, none⟩ = some v3 ∧ y.cell? ⟨w.heap.size, 4, none⟩ = some (.slice ca nc cc) ∧ y.cell? ⟨w.heap.size, 5, none⟩ = some v5 ∧ y.cell? ⟨w.heap.size, 6, none⟩ = some v6 ∧ y.cell? ⟨w.heap.size, 7, none⟩ = some v7 ∧ y.cell? ⟨p1, o1 + k * 5, none⟩ = some (.slice a0 n0 c0) ∧ y.cell? ⟨p1, o1 + k * 5 + 1, none⟩ = some (.int .i64 pc) ∧ y.cell? ⟨p1, o1 + k * 5 + 2, none⟩ = some (.bool on) ∧ y.cell? ⟨p1, o1 + k * 5 + 3, none⟩ = some (.slice a1 n1 c1) ∧ y.cell? ⟨p1, o1 + k * 5 + 4, none⟩ = some (.slice a2 n2 c2)) := fun y hb => ⟨(hb.cell (show w.heap.size < _ from L1)).trans z0, (hb.cell (show w.heap.size < _ from L1)).trans z1, (hb.cell (show w.heap.size < _ from L1)).trans z2, (hb.cell (show w.heap.size < _ from L1)).trans z3, (hb.cell (show w.heap.size < _ from L1)).trans z4, (hb.cell (show w.heap.size < _ from L1)).trans z5, (hb.cell (show w.heap.size < _ from L1)).trans z6, (hb.cell (show w.heap.size < _ from L1)).trans z7, (hb.cell (show p1 < _ from q1)).trans e0, (hb.cell (show p1 < _ from q1)).trans e1, (hb.cell (show p1 < _ from q1)).trans e2, (hb.cell (show p1 < _ from q1)).trans e3, (hb.cell (show p1 < _ from q1)).trans e4⟩
       go_region_held3 (fun w' => w'.cell? ⟨w.heap.size, 0, none⟩ = some v0 ∧ w'.cell? ⟨w.heap.size, 1, none⟩ = some v1 ∧ w'.cell? ⟨w.heap.size, 2, none⟩ = some (.slice (some ⟨p1, o1, none⟩) nt tc) ∧ w'.cell? ⟨w.heap.size, 3, none⟩ = some v3 ∧ w'.cell? ⟨w.heap.size, 4, none⟩ = some (.slice ca nc cc) ∧ w'.cell? ⟨w.heap.size, 5, none⟩ = some v5 ∧ w'.cell? ⟨w.heap.size, 6, none⟩ = some v6 ∧ w'.cell? ⟨w.heap.size, 7, none⟩ = some v7 ∧ w'.cell? ⟨p1, o1 + k * 5, none⟩ = some (.slice a0 n0 c0) ∧ w'.cell? ⟨p1, o1 + k * 5 + 1, none⟩ = some (.int .i64 pc) ∧ w'.cell? ⟨p1, o1 + k * 5 + 2, none⟩ = some (.bool on) ∧ w'.cell? ⟨p1, o1 + k * 5 + 3, none⟩ = some (.slice a1 n1 c1) ∧ w'.cell? ⟨p1, o1 + k * 5 + 4, none⟩ = some (.slice a2 n2 c2))
         (first | (with_reducible exact K3.out) | (with_reducible exact K2.out) | go_keep)
         (first
         | (go_at_call 161
            refine (impl_callsOf v0 v1 (.slice (some ⟨p1, o1, none⟩) nt tc) v3 v5 v6 v7 ca nc cc f (k : Int) _ (H2.out.below (HBW.out.drew) (Nat.le_refl _))).mono ?_
            rintro e w4 ⟨⟨la, lc, rfl, hlc, hat⟩, hb4⟩
            have hb4' : Below wr.heap.size wr w4 := (Below.refl _ wr).drew.trans hb4
            have K2 := KF w4 hb4'
            have HB4 : Hid (Below w.heap.size w w4) := HBW.out.trans (hb4'.mono HBW.out.size)
            have HB4' : Hid (Below wr.heap.size wr w4) := hb4'
            have HAT : Hid (CasAt w4 la (callsL f (k : Int) nc).length (fun j => (callsL f (k : Int) nc).getD j default)) := hat
            have HLC : Hid ((callsL f (k : Int) nc).length ≤ lc) := hlc
            clear hb4 hb4' hat hlc)
         | (go_at_call 160
            refine (impl_taskOk a0 c0 a1 c1 a2 c2 ⟨n0, fs, pc, on, n1, gs, n2, hs2⟩ la lc (callsL f (k : Int) nc) _ (HTL.out.below HB4'.out (Nat.le_refl _)) HAT.out HLC.out HPK.out).mono ?_
            rintro e w5 ⟨ok5, ⟨rfl, hk5⟩, hb5⟩
            have hb5' : Below wr.heap.size wr w5 := HB4'.out.trans (hb5.mono HB4'.out.size)
            have K3 := KF w5 hb5'
            have HB5 : Hid (Below w.heap.size w w5) := HBW.out.trans (hb5'.mono HBW.out.size)
            have HB5' : Hid (Below W.heap.size W w5) := HB.out.trans (hb5'.mono HB.out.size)
            obtain rfl : ok5 = true := by
              exact hk5.2 HTK.out
            clear hb5 hb5' hk5))
       go_wp2
       exact ⟨⟨k + 1, by omega, by go_num, all_next HALL.out HTT.out, HB5'.out⟩, by simp [intOf]; omega⟩
     · have HTK : Hid (¬ TaskGood ⟨n0, fs, pc, on, n1, gs, n2, hs2⟩ (callsL f (k : Int) nc)) := htk
       have HNO : Hid (¬ G) := fun hg => htk (by have := HG.out.1 hg k hlt; rw [HX.out] at this; exact this)
       clear htk
       go_wp2_with fail
       have KF : ∀ y, Below wr.heap.size wr y → Hid (y.cell? ⟨w.heap.size, 0, none⟩ = some v0 ∧ y.cell? ⟨w.heap.size, 1, none⟩ = some v1 ∧ y.cell? ⟨w.heap.size, 2, none⟩ = some (.slice (some ⟨p1, o1, none⟩) nt tc) ∧ y.cell? ⟨w.heap.size, 3, none⟩ = some v3 ∧ y.cell? ⟨w.heap.size, 4, none⟩ = some (.slice ca nc cc) ∧ y.cell? ⟨w.heap.size, 5, none⟩ = some v5 ∧ y.cell? ⟨w.heap.size, 6, none⟩ = some v6 ∧ y.cell? ⟨w.heap.size, 7, none⟩ = some v7 ∧ y.cell? ⟨p1, o1 + k * 5, none⟩ = some (.slice a0 n0 c0) ∧ y.cell? ⟨p1, o1 + k * 5 + 1, none⟩ = some (.int .i64 pc) ∧ y.cell? ⟨p1, o1 + k * 5 + 2, none⟩ = some (.bool on) ∧ y.cell? ⟨p1, o1 + k * 5 + 3, none⟩ = some (.slice a1 n1 c1) ∧ y.cell? ⟨p1, o1 + k * 5 + 4, none⟩ = some (.slice a2 n2 c2)) := fun y hb => ⟨(hb.cell (show w.heap.size < _ from L1)).trans z0, (hb.cell (show w.heap.size < _ from L1)).trans z1, (hb.cell (show w.heap.size < _ from L1)).trans z2, (hb.cell (show w.heap.size < _ from L1)).trans z3, (hb.cell (show w.heap.size < _ from L1)).trans z4, (hb.cell (show w.heap.size < _ from L1)).trans z5, (hb.cell (show w.heap.size < _ from L1)).trans z6, (hb.cell (show w.heap.size < _ from L1)).trans z7, (hb.cell (show p1 < _ from q1)).trans e0, (hb.cell (show p1 < _ from q1)).trans e1, (hb.cell (show p1 < _ from q1)).trans e2, (hb.cell (show p1 < _ from q1)).trans e3, (hb.cell (show p1 < _ from q1)).trans e4⟩
       go_region_held3 (fun w' => w'.cell? ⟨w.heap.size, 0, none⟩ = some v0 ∧ w'.cell? ⟨w.heap.size, 1, none⟩ = some v1 ∧ w'.cell? ⟨w.heap.size, 2, none⟩ = some (.slice (some ⟨p1, o1, none⟩) nt tc) ∧ w'.cell? ⟨w.heap.size, 3, none⟩ = some v3 ∧ w'.cell? ⟨w.heap.size, 4, none⟩ = some (.slice ca nc cc) ∧ w'.cell? ⟨w.heap.size, 5, none⟩ = some v5 ∧ w'.cell? ⟨w.heap.size, 6, none⟩ = some v6 ∧ w'.cell? ⟨w.heap.size, 7, none⟩ = some v7 ∧ w'.cell? ⟨p1, o1 + k * 5, none⟩ = some (.slice a0 n0 c0) ∧ w'.cell? ⟨p1, o1 + k * 5 + 1, none⟩ = some (.int .i64 pc) ∧ w'.cell? ⟨p1, o1 + k * 5 + 2, none⟩ = some (.bool on) ∧ w'.cell? ⟨p1, o1 + k * 5 + 3, none⟩ = some (.slice a1 n1 c1) ∧ w'.cell? ⟨p1, o1 + k * 5 + 4, none⟩ = some (.slice a2 n2 c2))
         (first | (with_reducible exact K3.out) | (with_reducible exact K2.out) | go_keep)
         (first
         | (go_at_call 161
            refine (impl_callsOf v0 v1 (.slice (some ⟨p1, o1, none⟩) nt tc) v3 v5 v6 v7 ca nc cc f (k : Int) _ (H2.out.below (HBW.out.drew) (Nat.le_refl _))).mono ?_
            rintro e w4 ⟨⟨la, lc, rfl, hlc, hat⟩, hb4⟩
            have hb4' : Below wr.heap.size wr w4 := (Below.refl _ wr).drew.trans hb4
            have K2 := KF w4 hb4'
            have HB4 : Hid (Below w.heap.size w w4) := HBW.out.trans (hb4'.mono HBW.out.size)
            have HB4' : Hid (Below wr.heap.size wr w4) := hb4'
            have HAT : Hid (CasAt w4 la (callsL f (k : Int) nc).length (fun j => (callsL f (k : Int) nc).getD j default)) := hat
            have HLC : Hid ((callsL f (k : Int) nc).length ≤ lc) := hlc
            clear hb4 hb4' hat hlc)
         | (go_at_call 160
            refine (impl_taskOk a0 c0 a1 c1 a2 c2 ⟨n0, fs, pc, on, n1, gs, n2, hs2⟩ la lc (callsL f (k : Int) nc) _ (HTL.out.below HB4'.out (Nat.le_refl _)) HAT.out HLC.out HPK.out).mono ?_
            rintro e w5 ⟨ok5, ⟨rfl, hk5⟩, hb5⟩
            have hb5' : Below wr.heap.size wr w5 := HB4'.out.trans (hb5.mono HB4'.out.size)
            have K3 := KF w5 hb5'
            have HB5 : Hid (Below w.heap.size w w5) := HBW.out.trans (hb5'.mono HBW.out.size)
            have HB5' : Hid (Below W.heap.size W w5) := HB.out.trans (hb5'.mono HB.out.size)
            obtain rfl : ok5 = false := by
              cases ok5
              · rfl
              · exact absurd (hk5.1 rfl) HTK.out
            clear hb5 hb5' hk5))
       go_wp2
       go_ret
       exact ⟨false, ⟨rfl, by simp [HNO.out]⟩, HB5.out⟩
   · obtain rfl : nt = k := by omega
     have HYES : Hid G := HG.out.2 HALL.out
     go_wp2
     go_ret
     exact ⟨true, ⟨rfl, by simp [HYES.out]⟩, HBW.out⟩
def MachImpl (M : MaD) : Prop := MemGood M.ws M.nw M.ds ∧ (M.nd = M.nt ∧ ∀ i, i < M.nt → ThGood (M.ts i) M.nt) ∧ inB M.tm 0 100000 = true ∧ (M.nc ≤ 40 ∧ ∀ i, i < M.nc → CaGood M.nt M.tm (M.f i) = true) ∧ ((∀ i, i < M.no → OrdAt M.f M.nc M.os i) ∧ soN M.f M.nc = M.no) ∧ OkRows M.hs M.st ∧ ∀ i, i < M.nt → TaskGood (M.ts i) (callsL M.f (i : Int) M.nc)
theorem mach_iff (M : MaD) : MachGood M ↔ MachImpl M :=
 ⟨fun h => ⟨h.mem, ⟨h.many, fun i hi => (h.ths i hi).1⟩, h.time, ⟨h.calls.few, h.calls.each⟩, ⟨h.calls.ord, h.calls.all⟩, h.first, fun i hi => task_iff.1 (h.ths i hi).2⟩,
   fun ⟨h1, ⟨h2, h3⟩, h4, ⟨h5, h6⟩, ⟨h7, h8⟩, h9, h10⟩ => ⟨h1, h2, h4, h9, ⟨h6, h7, h5, h8⟩, fun i hi => ⟨h3 i hi, task_iff.2 (h10 i hi)⟩⟩⟩
theorem implMachineOk_any (wa : Option Addr) (wc : Nat) (da : Option Addr) (dc : Nat) (ta : Option Addr) (tc : Nat) (ca : Option Addr) (cc : Nat) (oa : Option Addr) (oc : Nat) (ha : Option Addr) (hc : Nat) (M : MaD) (w : World) (h : MaAt w wa da ta ca oa ha M) (hcap : CapAt w da M.nd M.ds) (hwf : ∀ x ∈ M.hs, (Lit.int .i64 x).wf = true) (hhc : M.nh ≤ hc) :
   Calls Tryz.prog 82 #[MaV wa wc da dc ta tc ca cc oa oc ha hc M] w fun e w' => ∃ ok, (e = .returned (.bool ok) ∧ (ok = true ↔ MachGood M)) ∧ Below w.heap.size w w' := by
 obtain ⟨G, hG⟩ : ∃ G : Prop, MachGood M = G := ⟨_, rfl⟩
 rw [hG]
 have HG : Hid (G ↔ MachImpl M) := by show _ ↔ _; rw [← hG]; exact mach_iff M
 obtain ⟨nw, ws, nd, ds, nt, ts, tm, nc, f, no, os, nh, hs, st⟩ := M
 dsimp only at HG hcap hwf hhc
 have H1 : Hid (TripAt w wa nw ws) := h.words
 have H2 : Hid (DescAt w da nd ds) := h.descs
 have H3 : Hid (ThsAt w ta nt ts) := h.ths
 have H4 : Hid (CasAt w ca nc f) := h.calls
 have H5 : Hid (IntAt w oa no os) := h.ord
 have H6 : Hid (IntAt w ha nh hs) := h.held
 have HC : Hid (CapAt w da nd ds) := hcap
 have HWF : Hid (∀ x ∈ hs, (Lit.int .i64 x).wf = true) := hwf
 have hnt := h.ths.1
 dsimp only at hnt
 show Calls Tryz.prog 82 #[.agg #[.slice wa nw wc, .slice da nd dc, .slice ta nt tc, .int .i64 tm, .slice ca nc cc, .slice oa no oc, .slice ha nh hc, .int .i64 st]] w fun e w' => ∃ ok, (e = .returned (.bool ok) ∧ (ok = true ↔ G)) ∧ Below w.heap.size w w'
 obtain ⟨w0, hW⟩ : ∃ W, w.alloc (.cells #[.slice wa nw wc, .slice da nd dc, .slice ta nt tc, .int .i64 tm, .slice ca nc cc, .slice oa no oc, .slice ha nh hc, .int .i64 st] 43) = W := ⟨_, rfl⟩
 have hb0 : Below w.heap.size w w0 := by rw [← hW]; exact (Below.refl _ w).alloc (Nat.le_refl _) _
 have BX0 : Hid (Box w0 w.heap.size #[.slice wa nw wc, .slice da nd dc, .slice ta nt tc, .int .i64 tm, .slice ca nc cc, .slice oa no oc, .slice ha nh hc, .int .i64 st] 43) := by rw [← hW]; exact box_of w _ _
 have HB0 : Hid (Below w.heap.size w w0) := hb0
 have HW : Hid (w.alloc (.cells #[.slice wa nw wc, .slice da nd dc, .slice ta nt tc, .int .i64 tm, .slice ca nc cc, .slice oa no oc, .slice ha nh hc, .int .i64 st] 43) = w0) := hW
 clear h hb0 hW hG hcap hwf
 go_enter Tryz.func82, Tryz.ntmps82
 go_wp2_with fail
 rw [HW.out]
 refine (implMemOk_any wa nw wc ws da nd dc ds w0 (H1.out.below HB0.out (Nat.le_refl _)) (H2.out.below HB0.out (Nat.le_refl _)) (HC.out.below HB0.out (Nat.le_refl _))).mono ?_
 rintro e w1 ⟨r1, ⟨rfl, hr1⟩, hb1⟩
 have HR1 : Hid (r1 = true ↔ MemGood ws nw ds) := hr1
 have BX1 : Hid (Box w1 w.heap.size #[.slice wa nw wc, .slice da nd dc, .slice ta nt tc, .int .i64 tm, .slice ca nc cc, .slice oa no oc, .slice ha nh hc, .int .i64 st] 43) := BX0.out.below hb1 BX0.out.lt
 have HB1 : Hid (Below w.heap.size w w1) := HB0.out.trans (hb1.mono HB0.out.size)
 clear hr1 hb1
 obtain ⟨z0, z1, z2, z3, z4, z5, z6, z7⟩ := eight_of BX1.out
 have L1 : w.heap.size < w1.heap.size := BX1.out.lt
 rcases r1 with _ | _
 · have HNO : Hid (¬ G) := fun hg => by have := HR1.out.2 (HG.out.1 hg).1; cases this
   go_wp2
   go_ret
   exact ⟨false, ⟨rfl, by simp [HNO.out]⟩, HB1.out⟩
 go_wp2_with fail
 refine (impl_threadsOk (.slice wa nw wc) (.int .i64 tm) (.slice ca nc cc) (.slice oa no oc) (.slice ha nh hc) (.int .i64 st) da nd dc ta nt tc ts _ (H3.out.below HB1.out (Nat.le_refl _))).mono ?_
 rintro e w2 ⟨r2, ⟨rfl, hr2⟩, hb2⟩
 have HR2 : Hid (r2 = true ↔ (nd = nt ∧ ∀ i, i < nt → ThGood (ts i) nt)) := hr2
 have BX2 : Hid (Box w2 w.heap.size #[.slice wa nw wc, .slice da nd dc, .slice ta nt tc, .int .i64 tm, .slice ca nc cc, .slice oa no oc, .slice ha nh hc, .int .i64 st] 43) := BX1.out.below hb2 BX1.out.lt
 have HB2 : Hid (Below w.heap.size w w2) := HB1.out.trans (hb2.mono HB1.out.size)
 clear hr2 hb2
 clear z0 z1 z2 z3 z4 z5 z6 z7 L1
 obtain ⟨z0, z1, z2, z3, z4, z5, z6, z7⟩ := eight_of BX2.out
 have L1 : w.heap.size < w2.heap.size := BX2.out.lt
 rcases r2 with _ | _
 · have HNO : Hid (¬ G) := fun hg => by have := HR2.out.2 (HG.out.1 hg).2.1; cases this
   go_wp2
   go_ret
   exact ⟨false, ⟨rfl, by simp [HNO.out]⟩, HB2.out⟩
 go_wp2_with fail
 refine (within_g _ _ _ _).mono ?_
 rintro e w2' ⟨rfl, rfl⟩
 rcases hI : inB tm 0 100000 with _ | _
 · have HNO : Hid (¬ G) := fun hg => by have := (HG.out.1 hg).2.2.1; rw [hI] at this; cases this
   go_wp2
   go_ret
   exact ⟨false, ⟨rfl, by simp [HNO.out]⟩, HB2.out⟩
 have HI : Hid (inB tm 0 100000 = true) := hI
 clear hI
 go_wp2_with fail
 refine (impl_callsOk (.slice wa nw wc) (.slice oa no oc) (.slice ha nh hc) (.int .i64 st) da nd dc ta nt tc hnt tm ca nc cc f _ (H4.out.below HB2.out (Nat.le_refl _))).mono ?_
 rintro e w3 ⟨r3, ⟨rfl, hr3⟩, hb3⟩
 have HR3 : Hid (r3 = true ↔ (nc ≤ 40 ∧ ∀ i, i < nc → CaGood nt tm (f i) = true)) := hr3
 have BX3 : Hid (Box w3 w.heap.size #[.slice wa nw wc, .slice da nd dc, .slice ta nt tc, .int .i64 tm, .slice ca nc cc, .slice oa no oc, .slice ha nh hc, .int .i64 st] 43) := BX2.out.below hb3 BX2.out.lt
 have HB3 : Hid (Below w.heap.size w w3) := HB2.out.trans (hb3.mono HB2.out.size)
 clear hr3 hb3
 clear z0 z1 z2 z3 z4 z5 z6 z7 L1
 obtain ⟨z0, z1, z2, z3, z4, z5, z6, z7⟩ := eight_of BX3.out
 have L1 : w.heap.size < w3.heap.size := BX3.out.lt
 rcases r3 with _ | _
 · have HNO : Hid (¬ G) := fun hg => by have := HR3.out.2 (HG.out.1 hg).2.2.2.1; cases this
   go_wp2
   go_ret
   exact ⟨false, ⟨rfl, by simp [HNO.out]⟩, HB3.out⟩
 go_wp2_with fail
 refine (impl_orderOk (.slice wa nw wc) (.slice da nd dc) (.slice ta nt tc) (.int .i64 tm) (.slice ha nh hc) (.int .i64 st) ca nc cc f oa no oc os _ (H4.out.below HB3.out (Nat.le_refl _)) (H5.out.below HB3.out (Nat.le_refl _))).mono ?_
 rintro e w4 ⟨r4, ⟨rfl, hr4⟩, hb4⟩
 have HR4 : Hid (r4 = true ↔ ((∀ i, i < no → OrdAt f nc os i) ∧ soN f nc = no)) := hr4
 have BX4 : Hid (Box w4 w.heap.size #[.slice wa nw wc, .slice da nd dc, .slice ta nt tc, .int .i64 tm, .slice ca nc cc, .slice oa no oc, .slice ha nh hc, .int .i64 st] 43) := BX3.out.below hb4 BX3.out.lt
 have HB4 : Hid (Below w.heap.size w w4) := HB3.out.trans (hb4.mono HB3.out.size)
 clear hr4 hb4
 clear z0 z1 z2 z3 z4 z5 z6 z7 L1
 obtain ⟨z0, z1, z2, z3, z4, z5, z6, z7⟩ := eight_of BX4.out
 have L1 : w.heap.size < w4.heap.size := BX4.out.lt
 rcases r4 with _ | _
 · have HNO : Hid (¬ G) := fun hg => by have := HR4.out.2 (HG.out.1 hg).2.2.2.2.1; cases this
   go_wp2
   go_ret
   exact ⟨false, ⟨rfl, by simp [HNO.out]⟩, HB4.out⟩
 go_wp2_with fail
 refine (implRowsOk_room ha nh hc hhc st hs _ (H6.out.below HB4.out (Nat.le_refl _)) HWF.out).mono ?_
 rintro e w5 ⟨⟨r5, rfl, hr5⟩, hb5⟩
 have HR5 : Hid (r5 = true ↔ OkRows hs st) := hr5
 have BX5 : Hid (Box w5 w.heap.size #[.slice wa nw wc, .slice da nd dc, .slice ta nt tc, .int .i64 tm, .slice ca nc cc, .slice oa no oc, .slice ha nh hc, .int .i64 st] 43) := BX4.out.below hb5 BX4.out.lt
 have HB5 : Hid (Below w.heap.size w w5) := HB4.out.trans (hb5.mono HB4.out.size)
 clear hr5 hb5
 clear z0 z1 z2 z3 z4 z5 z6 z7 L1
 obtain ⟨z0, z1, z2, z3, z4, z5, z6, z7⟩ := eight_of BX5.out
 have L1 : w.heap.size < w5.heap.size := BX5.out.lt
 rcases r5 with _ | _
 · have HNO : Hid (¬ G) := fun hg => by have := HR5.out.2 (HG.out.1 hg).2.2.2.2.2.1; cases this
   go_wp2
   go_ret
   exact ⟨false, ⟨rfl, by simp [HNO.out]⟩, HB5.out⟩
 have HTH : Hid (∀ i, i < nt → ThGood (ts i) nt) := (HR2.out.1 (by first | rfl | trivial)).2
 go_wp2_with fail
 refine (impl_tasksOk (.slice wa nw wc) (.slice da nd dc) (.int .i64 tm) (.slice oa no oc) (.slice ha nh hc) (.int .i64 st) ta nt tc ts ca nc cc f _ (H3.out.below HB5.out (Nat.le_refl _)) (H4.out.below HB5.out (Nat.le_refl _)) (fun i hi hon => ⟨(HTH.out i hi).pc.1, (HTH.out i hi).on hon⟩)).mono ?_
 rintro e w6 ⟨r6, ⟨rfl, hr6⟩, hb6⟩
 have HR6 : Hid (r6 = true ↔ ∀ i, i < nt → TaskGood (ts i) (callsL f (i : Int) nc)) := hr6
 have HB6 : Hid (Below w.heap.size w w6) := HB5.out.trans (hb6.mono HB5.out.size)
 clear hr6 hb6
 rcases r6 with _ | _
 · have HNO : Hid (¬ G) := fun hg => by have := HR6.out.2 (HG.out.1 hg).2.2.2.2.2.2; cases this
   go_wp2
   go_ret
   exact ⟨false, ⟨rfl, by simp [HNO.out]⟩, HB6.out⟩
 have HY : Hid G := HG.out.2 ⟨HR1.out.1 (by first | rfl | trivial), HR2.out.1 (by first | rfl | trivial), HI.out, HR3.out.1 (by first | rfl | trivial), HR4.out.1 (by first | rfl | trivial), HR5.out.1 (by first | rfl | trivial), HR6.out.1 (by first | rfl | trivial)⟩
 go_wp2
 go_ret
 exact ⟨true, ⟨rfl, by simp [HY.out]⟩, HB6.out⟩
theorem endN_succ (f : Nat → CaD) (t : Int) (k : Nat) : endN f t (k + 1) = endN f t k + if (f k).t = t ∧ 0 ≤ (f k).en then 1 else 0 := rfl
def EndsUpto (f : Nat → CaD) (t : Int) (on : Bool) (l : Int) (k : Nat) : Prop := ∀ j, j < k → (f j).t = t → 0 ≤ (f j).en ∨ (on = true ∧ (j : Int) = l)
theorem EndsUpto.next {f : Nat → CaD} {t : Int} {on : Bool} {l : Int} {k : Nat} (h : EndsUpto f t on l k) (h1 : (f k).t = t → 0 ≤ (f k).en ∨ (on = true ∧ (k : Int) = l)) : EndsUpto f t on l (k + 1) := fun j hj => by
 by_cases e : j = k
 · rw [e]; exact h1
 · exact h j (by omega)
theorem specTask_any (v0 v1 v3 v5 v6 v7 : Value) (ta : Option Addr) (nt tc : Nat) (ts : Nat → ThD) (ca : Option Addr) (nc cc : Nat) (f : Nat → CaD) (i : Nat) (hi : i < nt) (w : World) (h1 : ThsAt w ta nt ts) (h2 : CasAt w ca nc f)
   (hpc : (ts i).on = true → 0 ≤ (ts i).pc ∧ (ts i).pc < (ts i).n0) :
   Calls Tryz.prog 67 #[.agg #[v0, v1, .slice ta nt tc, v3, .slice ca nc cc, v5, v6, v7], .int .i64 (i : Int)] w fun e w' => ∃ ok, (e = .returned (.bool ok) ∧ (ok = true ↔ TaskSpec f nc (i : Int) (ts i))) ∧ Below w.heap.size w w' := by
 have hnt := h1.1
 have hnc := h2.1
 obtain ⟨G, hG⟩ : ∃ G : Prop, TaskSpec f nc (i : Int) (ts i) = G := ⟨_, rfl⟩
 have HG : Hid (G ↔ TaskSpec f nc (i : Int) (ts i)) := by show _ ↔ _; rw [hG]
 rw [hG]
 have H2 : Hid (CasAt w ca nc f) := h2
 rcases h1.2 with h0 | ⟨p0, o0, rfl, g0⟩
 · omega
 obtain ⟨a0, c0, a1, c1, a2, c2, hTC, hTL, _⟩ := g0 i hi
 have hi0 : (0 : Int) ≤ (i : Int) := by omega
 have hi1 : (i : Int) < (nt : Int) := by omega
 obtain ⟨X, hX⟩ : ∃ X, ts i = X := ⟨_, rfl⟩
 rw [hX] at HG hTC hTL hpc
 obtain ⟨n0, fs, pc, on, n1, gs, n2, hs⟩ := X
 obtain ⟨e0, e1, e2, e3, e4⟩ := hTC
 have HOPS : Hid (KAt 3 w a0 n0 fs) := hTL.ops
 have hm0 := hTL.ops.2.1
 dsimp only at e0 e1 e2 e3 e4 hpc hm0
 have q0 : p0 < w.heap.size := World.block_lt_of_cell? w _ e0
 have HPC : Hid (on = true → 0 ≤ pc ∧ pc < (n0 : Int)) := hpc
 have hl := lastN_lt f (i : Int) nc
 obtain ⟨l, hll⟩ : ∃ l, lastN f (i : Int) nc = l := ⟨_, rfl⟩
 have HL : Hid (lastN f (i : Int) nc = l) := hll
 rw [hll] at hl
 clear h1 h2 g0 hX hpc hTL hG hll
 rcases on with _ | _
 · obtain ⟨W, hW⟩ : ∃ W, (w.alloc (.cells #[v0, v1, .slice (some ⟨p0, o0, none⟩) nt tc, v3, .slice ca nc cc, v5, v6, v7] 43)).alloc (.cells #[.slice a0 n0 c0, .int .i64 pc, .bool false, .slice a1 n1 c1, .slice a2 n2 c2] 92) = W := ⟨_, rfl⟩
   have hb1 : Below w.heap.size w (w.alloc (.cells #[v0, v1, .slice (some ⟨p0, o0, none⟩) nt tc, v3, .slice ca nc cc, v5, v6, v7] 43)) := (Below.refl _ w).alloc (Nat.le_refl _) _
   have hb0 : Below w.heap.size w W := by rw [← hW]; exact hb1.alloc (by simp) _
   have BM : Hid (Box W w.heap.size #[v0, v1, .slice (some ⟨p0, o0, none⟩) nt tc, v3, .slice ca nc cc, v5, v6, v7] 43) := by rw [← hW]; exact (box_of w _ _).alloc _
   have BT : Hid (Box W (w.heap.size + 1) #[.slice a0 n0 c0, .int .i64 pc, .bool false, .slice a1 n1 c1, .slice a2 n2 c2] 92) := by
     rw [← hW]
     have := box_of (w.alloc (.cells #[v0, v1, .slice (some ⟨p0, o0, none⟩) nt tc, v3, .slice ca nc cc, v5, v6, v7] 43)) #[.slice a0 n0 c0, .int .i64 pc, .bool false, .slice a1 n1 c1, .slice a2 n2 c2] 92
     rwa [World.size_alloc] at this
   have HB0 : Hid (Below w.heap.size w W) := hb0
   have HW : Hid ((w.alloc (.cells #[v0, v1, .slice (some ⟨p0, o0, none⟩) nt tc, v3, .slice ca nc cc, v5, v6, v7] 43)).alloc (.cells #[.slice a0 n0 c0, .int .i64 pc, .bool false, .slice a1 n1 c1, .slice a2 n2 c2] 92) = W) := hW
   clear hb0 hb1 hW
   go_enter Tryz.func67, Tryz.ntmps67
   go_wp2_with fail
   rw [HW.out]
   refine (specLast_any v0 v1 (.slice (some ⟨p0, o0, none⟩) nt tc) v3 v5 v6 v7 ca nc cc f (i : Int) W (H2.out.below HB0.out (Nat.le_refl _))).mono ?_
   rintro e w2 ⟨rfl, hb2⟩
   rw [HL.out]
   have HB2 : Hid (Below w.heap.size w w2) := HB0.out.trans (hb2.mono HB0.out.size)
   have BM2 : Hid (Box w2 w.heap.size #[v0, v1, .slice (some ⟨p0, o0, none⟩) nt tc, v3, .slice ca nc cc, v5, v6, v7] 43) := BM.out.below hb2 BM.out.lt
   have BT2 : Hid (Box w2 (w.heap.size + 1) #[.slice a0 n0 c0, .int .i64 pc, .bool false, .slice a1 n1 c1, .slice a2 n2 c2] 92) := BT.out.below hb2 BT.out.lt
   clear e0 e1 e2 e3 e4 hb2
   obtain ⟨z0, z1, z2, z3, z4, z5, z6, z7⟩ := eight_of BM2.out
   obtain ⟨y0, y1, y2, y3, y4⟩ := five_of BT2.out
   have L0 : w.heap.size < w2.heap.size := BM2.out.lt
   have L1 : w.heap.size + 1 < w2.heap.size := BT2.out.lt
   go_wp2
   go_loopw [7, 8] (fun q ix wr => ∃ k : Nat, k ≤ nc ∧ q = .int .i64 ((endN f (i : Int) k : Nat) : Int) ∧ ix = .int .i64 (k : Int) ∧ EndsUpto f (i : Int) false l k ∧ wr = w2) (fun _ ix _ => nc - (intOf ix).toNat)
   case atStart => exact ⟨0, Nat.zero_le _, rfl, rfl, (fun j h => by omega), rfl⟩
   case round =>
     obtain ⟨k, hk, rfl, rfl, hall, rfl⟩ := hrel
     have HALL : Hid (EndsUpto f (i : Int) false l k) := hall
     have hen := endN_le f (i : Int) k
     obtain ⟨s, hs'⟩ : ∃ s, endN f (i : Int) k = s := ⟨_, rfl⟩
     have HS : Hid (endN f (i : Int) k = s) := hs'
     rw [hs'] at hen ⊢
     clear hall hs'
     by_cases hlt : k < nc
     · have hk0 : (0 : Int) ≤ (k : Int) := by omega
       have hk1 : (k : Int) < (nc : Int) := by omega
       rcases (H2.out.below HB2.out (Nat.le_refl _)).2 with h0 | ⟨p1, o1, rfl, g1⟩
       · omega
       obtain ⟨ra, rn, rc, d0, _, _, _, _, _, d6, _, _⟩ := g1 k hlt
       obtain ⟨x0, hx0⟩ : ∃ x, (f k).t = x := ⟨_, rfl⟩
       obtain ⟨x6, hx6⟩ : ∃ x, (f k).en = x := ⟨_, rfl⟩
       have HX0 : Hid ((f k).t = x0) := hx0
       have HX6 : Hid ((f k).en = x6) := hx6
       rw [hx0] at d0
       rw [hx6] at d6
       clear g1 hx0 hx6
       by_cases hxt : x0 = (i : Int)
       case neg =>
         have hxt' : (x0 != (i : Int)) = true := by simpa using hxt
         have HSN : Hid (endN f (i : Int) (k + 1) = s) := by show _ = _; rw [endN_succ, HX0.out, if_neg (fun h => hxt h.1), HS.out]; rfl
         have HN : Hid (EndsUpto f (i : Int) false l (k + 1)) := HALL.out.next (fun h => absurd (HX0.out.symm.trans h) hxt)
         clear hxt
         go_wp2
         exact ⟨⟨k + 1, by omega, by rw [HSN.out], by go_num, HN.out, by first | trivial | rfl⟩, by simp [intOf]; omega⟩
       have hxt' : (x0 != (i : Int)) = false := by simp [hxt]
       by_cases hx6 : 0 ≤ x6
       · have hx6' : decide (0 ≤ x6) = true := decide_eq_true hx6
         have HSN : Hid (endN f (i : Int) (k + 1) = s + 1) := by show _ = _; rw [endN_succ, HX0.out, HX6.out, if_pos ⟨hxt, hx6⟩, HS.out]
         have HN : Hid (EndsUpto f (i : Int) false l (k + 1)) := HALL.out.next (fun _ => .inl (by rw [HX6.out]; exact hx6))
         clear hxt hx6
         go_wp2
         exact ⟨⟨k + 1, by omega, by rw [HSN.out]; go_num, by go_num, HN.out, by first | trivial | rfl⟩, by simp [intOf]; omega⟩
       have hx6' : decide (0 ≤ x6) = false := decide_eq_false hx6
       have HNO : Hid (¬ G) := fun hg => by
         rcases (HG.out.1 hg).ends k hlt (by rw [HX0.out]; exact hxt) with h | h
         · rw [HX6.out] at h; exact hx6 h
         · cases h.1
       clear hxt hx6
       go_wp2
       go_ret
       first | exact ⟨false, ⟨rfl, by simp [HNO.out]⟩, HB2.out⟩ | exact ⟨.inl ⟨rfl, HNO.out⟩, HB2.out⟩
     · obtain rfl : nc = k := by omega
       have HE : Hid (∀ i_1, i_1 < nc → (f i_1).t = (i : Int) → 0 ≤ (f i_1).en ∨ (false = true ∧ (i_1 : Int) = lastN f (i : Int) nc)) := by
         show ∀ i_1, _
         rw [HL.out]
         exact HALL.out
       by_cases hsp : (s : Int) = pc
       case neg =>
         have hsp' : ((s : Int) != pc) = true := by simpa using hsp
         have HNO : Hid (¬ G) := fun hg => hsp (by have := (HG.out.1 hg).pc; rw [HS.out] at this; exact this)
         clear hsp
         go_wp2
         go_ret
         first | exact ⟨false, ⟨rfl, by simp [HNO.out]⟩, HB2.out⟩ | exact ⟨.inl ⟨rfl, HNO.out⟩, HB2.out⟩
       have hsp' : ((s : Int) != pc) = false := by simp [hsp]
       have HSP : Hid ((endN f (i : Int) nc : Int) = pc) := by show _ = _; rw [HS.out]; exact hsp
       clear hsp
       have HYES : Hid G := HG.out.2 ⟨HE.out, HSP.out, fun h => by cases h⟩
       go_wp2
       go_quiet (fail)
       go_wp2
       go_ret
       exact ⟨true, ⟨rfl, by simp [HYES.out]⟩, below_drewN6 HB2.out nq⟩
 · obtain ⟨W, hW⟩ : ∃ W, (w.alloc (.cells #[v0, v1, .slice (some ⟨p0, o0, none⟩) nt tc, v3, .slice ca nc cc, v5, v6, v7] 43)).alloc (.cells #[.slice a0 n0 c0, .int .i64 pc, .bool true, .slice a1 n1 c1, .slice a2 n2 c2] 92) = W := ⟨_, rfl⟩
   have hb1 : Below w.heap.size w (w.alloc (.cells #[v0, v1, .slice (some ⟨p0, o0, none⟩) nt tc, v3, .slice ca nc cc, v5, v6, v7] 43)) := (Below.refl _ w).alloc (Nat.le_refl _) _
   have hb0 : Below w.heap.size w W := by rw [← hW]; exact hb1.alloc (by simp) _
   have BM : Hid (Box W w.heap.size #[v0, v1, .slice (some ⟨p0, o0, none⟩) nt tc, v3, .slice ca nc cc, v5, v6, v7] 43) := by rw [← hW]; exact (box_of w _ _).alloc _
   have BT : Hid (Box W (w.heap.size + 1) #[.slice a0 n0 c0, .int .i64 pc, .bool true, .slice a1 n1 c1, .slice a2 n2 c2] 92) := by
     rw [← hW]
     have := box_of (w.alloc (.cells #[v0, v1, .slice (some ⟨p0, o0, none⟩) nt tc, v3, .slice ca nc cc, v5, v6, v7] 43)) #[.slice a0 n0 c0, .int .i64 pc, .bool true, .slice a1 n1 c1, .slice a2 n2 c2] 92
     rwa [World.size_alloc] at this
   have HB0 : Hid (Below w.heap.size w W) := hb0
   have HW : Hid ((w.alloc (.cells #[v0, v1, .slice (some ⟨p0, o0, none⟩) nt tc, v3, .slice ca nc cc, v5, v6, v7] 43)).alloc (.cells #[.slice a0 n0 c0, .int .i64 pc, .bool true, .slice a1 n1 c1, .slice a2 n2 c2] 92) = W) := hW
   clear hb0 hb1 hW
   go_enter Tryz.func67, Tryz.ntmps67
   go_wp2_with fail
   rw [HW.out]
   refine (specLast_any v0 v1 (.slice (some ⟨p0, o0, none⟩) nt tc) v3 v5 v6 v7 ca nc cc f (i : Int) W (H2.out.below HB0.out (Nat.le_refl _))).mono ?_
   rintro e w2 ⟨rfl, hb2⟩
   rw [HL.out]
   have HB2 : Hid (Below w.heap.size w w2) := HB0.out.trans (hb2.mono HB0.out.size)
   have BM2 : Hid (Box w2 w.heap.size #[v0, v1, .slice (some ⟨p0, o0, none⟩) nt tc, v3, .slice ca nc cc, v5, v6, v7] 43) := BM.out.below hb2 BM.out.lt
   have BT2 : Hid (Box w2 (w.heap.size + 1) #[.slice a0 n0 c0, .int .i64 pc, .bool true, .slice a1 n1 c1, .slice a2 n2 c2] 92) := BT.out.below hb2 BT.out.lt
   clear e0 e1 e2 e3 e4 hb2
   obtain ⟨z0, z1, z2, z3, z4, z5, z6, z7⟩ := eight_of BM2.out
   obtain ⟨y0, y1, y2, y3, y4⟩ := five_of BT2.out
   have L0 : w.heap.size < w2.heap.size := BM2.out.lt
   have L1 : w.heap.size + 1 < w2.heap.size := BT2.out.lt
   go_wp2
   go_loopw [7, 8] (fun q ix wr => ∃ k : Nat, k ≤ nc ∧ q = .int .i64 ((endN f (i : Int) k : Nat) : Int) ∧ ix = .int .i64 (k : Int) ∧ EndsUpto f (i : Int) true l k ∧ wr = w2) (fun _ ix _ => nc - (intOf ix).toNat)
   case atStart => exact ⟨0, Nat.zero_le _, rfl, rfl, (fun j h => by omega), rfl⟩
   case round =>
     obtain ⟨k, hk, rfl, rfl, hall, rfl⟩ := hrel
     have HALL : Hid (EndsUpto f (i : Int) true l k) := hall
     have hen := endN_le f (i : Int) k
     obtain ⟨s, hs'⟩ : ∃ s, endN f (i : Int) k = s := ⟨_, rfl⟩
     have HS : Hid (endN f (i : Int) k = s) := hs'
     rw [hs'] at hen ⊢
     clear hall hs'
     by_cases hlt : k < nc
     · have hk0 : (0 : Int) ≤ (k : Int) := by omega
       have hk1 : (k : Int) < (nc : Int) := by omega
       rcases (H2.out.below HB2.out (Nat.le_refl _)).2 with h0 | ⟨p1, o1, rfl, g1⟩
       · omega
       obtain ⟨ra, rn, rc, d0, _, _, _, _, _, d6, _, _⟩ := g1 k hlt
       obtain ⟨x0, hx0⟩ : ∃ x, (f k).t = x := ⟨_, rfl⟩
       obtain ⟨x6, hx6⟩ : ∃ x, (f k).en = x := ⟨_, rfl⟩
       have HX0 : Hid ((f k).t = x0) := hx0
       have HX6 : Hid ((f k).en = x6) := hx6
       rw [hx0] at d0
       rw [hx6] at d6
       clear g1 hx0 hx6
       by_cases hxt : x0 = (i : Int)
       case neg =>
         have hxt' : (x0 != (i : Int)) = true := by simpa using hxt
         have HSN : Hid (endN f (i : Int) (k + 1) = s) := by show _ = _; rw [endN_succ, HX0.out, if_neg (fun h => hxt h.1), HS.out]; rfl
         have HN : Hid (EndsUpto f (i : Int) true l (k + 1)) := HALL.out.next (fun h => absurd (HX0.out.symm.trans h) hxt)
         clear hxt
         go_wp2
         exact ⟨⟨k + 1, by omega, by rw [HSN.out], by go_num, HN.out, by first | trivial | rfl⟩, by simp [intOf]; omega⟩
       have hxt' : (x0 != (i : Int)) = false := by simp [hxt]
       by_cases hx6 : 0 ≤ x6
       · have hx6' : decide (0 ≤ x6) = true := decide_eq_true hx6
         have HSN : Hid (endN f (i : Int) (k + 1) = s + 1) := by show _ = _; rw [endN_succ, HX0.out, HX6.out, if_pos ⟨hxt, hx6⟩, HS.out]
         have HN : Hid (EndsUpto f (i : Int) true l (k + 1)) := HALL.out.next (fun _ => .inl (by rw [HX6.out]; exact hx6))
         clear hxt hx6
         go_wp2
         exact ⟨⟨k + 1, by omega, by rw [HSN.out]; go_num, by go_num, HN.out, by first | trivial | rfl⟩, by simp [intOf]; omega⟩
       have hx6' : decide (0 ≤ x6) = false := decide_eq_false hx6
       by_cases hkl : (k : Int) = l
       case neg =>
         have hkl' : ((k : Int) != l) = true := by simpa using hkl
         have HNO : Hid (¬ G) := fun hg => by
           rcases (HG.out.1 hg).ends k hlt (by rw [HX0.out]; exact hxt) with h | h
           · rw [HX6.out] at h; exact hx6 h
           · exact hkl (h.2.trans HL.out)
         clear hxt hx6
         go_wp2
         go_ret
         first | exact ⟨false, ⟨rfl, by simp [HNO.out]⟩, HB2.out⟩ | exact ⟨.inl ⟨rfl, HNO.out⟩, HB2.out⟩
       have hkl' : ((k : Int) != l) = false := by simp [hkl]
       have HSN : Hid (endN f (i : Int) (k + 1) = s) := by show _ = _; rw [endN_succ, HX6.out, if_neg (fun h => hx6 h.2), HS.out]; rfl
       have HN : Hid (EndsUpto f (i : Int) true l (k + 1)) := HALL.out.next (fun _ => .inr ⟨rfl, hkl⟩)
       clear hxt hx6 hkl
       go_wp2
       exact ⟨⟨k + 1, by omega, by rw [HSN.out], by go_num, HN.out, by first | trivial | rfl⟩, by simp [intOf]; omega⟩
     · obtain rfl : nc = k := by omega
       have HE : Hid (∀ i_1, i_1 < nc → (f i_1).t = (i : Int) → 0 ≤ (f i_1).en ∨ (true = true ∧ (i_1 : Int) = lastN f (i : Int) nc)) := by
         show ∀ i_1, _
         rw [HL.out]
         exact HALL.out
       by_cases hsp : (s : Int) = pc
       case neg =>
         have hsp' : ((s : Int) != pc) = true := by simpa using hsp
         have HNO : Hid (¬ G) := fun hg => hsp (by have := (HG.out.1 hg).pc; rw [HS.out] at this; exact this)
         clear hsp
         go_wp2
         go_ret
         first | exact ⟨false, ⟨rfl, by simp [HNO.out]⟩, HB2.out⟩ | exact ⟨.inl ⟨rfl, HNO.out⟩, HB2.out⟩
       have hsp' : ((s : Int) != pc) = false := by simp [hsp]
       have HSP : Hid ((endN f (i : Int) nc : Int) = pc) := by show _ = _; rw [HS.out]; exact hsp
       clear hsp
       obtain ⟨hp0, hp1⟩ := HPC.out (by first | rfl | trivial)
       obtain ⟨pn, rfl⟩ : ∃ m : Nat, pc = (m : Int) := ⟨pc.toNat, by omega⟩
       by_cases hl0 : 0 ≤ l
       case neg =>
         have hl' : decide (0 ≤ l) = false := decide_eq_false hl0
         have HNO : Hid (¬ G) := fun hg => hl0 (by have := ((HG.out.1 hg).last rfl).1; rw [HL.out] at this; exact this)
         clear hl0
         go_wp2
         go_quiet (fail)
         go_wp2
         go_ret
         first | exact ⟨false, ⟨rfl, by simp [HNO.out]⟩, below_drewN6 HB2.out nq⟩ | exact ⟨.inl ⟨rfl, HNO.out⟩, below_drewN6 HB2.out nq⟩
       obtain ⟨m, rfl⟩ : ∃ m : Nat, l = (m : Int) := ⟨l.toNat, by omega⟩
       have hl' : decide ((0 : Int) ≤ (m : Int)) = true := decide_eq_true hl0
       have hm1 : (m : Int) < (nc : Int) := hl.2
       rcases (H2.out.below HB2.out (Nat.le_refl _)).2 with h0 | ⟨p1, o1, rfl, g1⟩
       · omega
       obtain ⟨ra, rn, rc, _, d1, d2, d3, _, _, d6, _, _⟩ := g1 m (by omega)
       rcases (HOPS.out.below HB2.out (Nat.le_refl _)).2.2 with h0 | ⟨p3, o3, rfl, g3⟩
       · omega
       have c1 := g3 (pn * 3) (by omega)
       have c2 := g3 (pn * 3 + 1) (by omega)
       have c3 := g3 (pn * 3 + 2) (by omega)
       obtain ⟨x1, hx1⟩ : ∃ x, (f m).kd = x := ⟨_, rfl⟩
       obtain ⟨x2, hx2⟩ : ∃ x, (f m).k = x := ⟨_, rfl⟩
       obtain ⟨x3, hx3⟩ : ∃ x, (f m).v = x := ⟨_, rfl⟩
       obtain ⟨x6, hx6⟩ : ∃ x, (f m).en = x := ⟨_, rfl⟩
       obtain ⟨u1, hu1⟩ : ∃ x, fs.getD (pn * 3) 0 = x := ⟨_, rfl⟩
       obtain ⟨u2, hu2⟩ : ∃ x, fs.getD (pn * 3 + 1) 0 = x := ⟨_, rfl⟩
       obtain ⟨u3, hu3⟩ : ∃ x, fs.getD (pn * 3 + 2) 0 = x := ⟨_, rfl⟩
       have HLAST : Hid (∀ b1 b2 : Prop, ((f (lastN f (i : Int) nc).toNat).en = -1 ↔ b1) → (((f (lastN f (i : Int) nc).toNat).kd = fs.getD ((pn : Int).toNat * 3) 0 ∧ (f (lastN f (i : Int) nc).toNat).k = fs.getD ((pn : Int).toNat * 3 + 1) 0 ∧ (f (lastN f (i : Int) nc).toNat).v = fs.getD ((pn : Int).toNat * 3 + 2) 0) ↔ b2) → (G ↔ b1 ∧ b2)) := fun b1 b2 h1 h2 =>
         ⟨fun hg => ⟨h1.1 ((HG.out.1 hg).last rfl).2.1, h2.1 ((HG.out.1 hg).last rfl).2.2⟩, fun hg => HG.out.2 ⟨HE.out, HSP.out, fun _ => ⟨by rw [HL.out]; exact hl0, h1.2 hg.1, h2.2 hg.2⟩⟩⟩
       have HGG : Hid (G ↔ (x6 = -1 ∧ (x1 = u1 ∧ x2 = u2 ∧ x3 = u3))) := HLAST.out _ _ (by rw [HL.out, Int.toNat_natCast, hx6]) (by rw [HL.out, Int.toNat_natCast, Int.toNat_natCast, hx1, hx2, hx3, hu1, hu2, hu3])
       rw [hx1] at d1
       rw [hx2] at d2
       rw [hx3] at d3
       rw [hx6] at d6
       rw [hu1] at c1
       rw [hu2, ← Nat.add_assoc] at c2
       rw [hu3, ← Nat.add_assoc] at c3
       clear g1 g3 hx1 hx2 hx3 hx6 hu1 hu2 hu3 HLAST HE
       by_cases h6 : x6 = -1
       case neg =>
         have h6' : (x6 == -1) = false := by simpa using h6
         have HNO : Hid (¬ G) := fun hg => h6 (HGG.out.1 hg).1
         clear h6 HGG
         go_wp2
         go_quiet (fail)
         go_wp2
         go_ret
         first | exact ⟨false, ⟨rfl, by simp [HNO.out]⟩, below_drewN6 HB2.out nq⟩ | exact ⟨.inl ⟨rfl, HNO.out⟩, below_drewN6 HB2.out nq⟩
       have h6' : (x6 == -1) = true := by simp [h6]
       by_cases hop : x1 = u1 ∧ x2 = u2 ∧ x3 = u3
       · have HYES : Hid G := HGG.out.2 ⟨h6, hop⟩
         have hq := fun w => eql_op x1 x2 x3 u1 u2 u3 w true (ops_eq hop)
         clear hop h6 HGG
         go_wp2
         go_quiet (fail)
         go_wp2
         go_ret
         exact ⟨true, ⟨rfl, by simp [HYES.out]⟩, below_drewN6 HB2.out nq⟩
       · have HNO : Hid (¬ G) := fun hg => hop (HGG.out.1 hg).2
         have hq := fun w => eql_op x1 x2 x3 u1 u2 u3 w false (ops_ne hop)
         clear hop h6 HGG
         go_wp2
         go_quiet (fail)
         go_wp2
         go_ret
         first | exact ⟨false, ⟨rfl, by simp [HNO.out]⟩, below_drewN6 HB2.out nq⟩ | exact ⟨.inl ⟨rfl, HNO.out⟩, below_drewN6 HB2.out nq⟩
end
end Go.Proofs.YtbfolanfbagofaaGreatDoor
