/- Texts joined: RowsRoom, ImplWords, Ints, LawRows, WordsL, In13, Clone. -/
import Derived.Test.YtfanppifelajnaaDoorTB01
import Derived.Test.YtfanppifelajnaaDoorTB02
import Derived.Test.YtfanppifelajnaaDoorRows
import Derived.WalkKit
import Derived.ProofKit
import Derived.WalkSmall
import Derived.OpenShut
import Derived.Handy
import Derived.Laws.AppendOwn
import Derived.Deep.RegionLaw
set_option maxHeartbeats 4000000
set_option maxRecDepth 100000
namespace Go.Proofs.YtfanppifelajnaaDoor
section
open Go.ChangeShapes Go.WideShapes Go.ChangeAt Go.RowKit Go.Maps
theorem holdersOf_cap (H : Type) (a : Option Addr) (cp : Nat) (hcp : 4 ≤ cp) (st : Int) (xs : List Int) (w : World) (hA : IntAt w a 4 xs) (hi : ∀ x ∈ xs, (Lit.int .i64 x).wf = true) :
   Calls Tryd.prog 41 #[.agg #[.slice a 4 cp, .int .i64 st]] w fun e w' =>
     e = .returned (.map (some (w.heap.size + 1))) ∧ Below w.heap.size w w' ∧ ∃ (R : Value → Option (DataW H × List MemPlace)) (D : DataW H), w'.ownsMap Tryd.prog 3 R (w.heap.size + 1) 4 D ∧ RowsIn R w' (w.heap.size + 2) ∧ HD xs D := by
 obtain ⟨hl, _, h0 | ⟨b, o, rfl, hc⟩⟩ := hA
 · omega
 have hmm := @run_makeMap Tryd.prog
 have HC : Hid (∀ i, i < 4 → w.cell? ⟨b, o + i, none⟩ = some (I (xs.getD i 0))) := hc
 have HI : Hid (∀ x ∈ xs, (Lit.int .i64 x).wf = true) := hi
 have HL : Hid (xs.length = 4) := hl
 have hblt : b < w.heap.size := World.block_lt_of_cell? w _ (hc 0 (by omega))
 clear hc hi hl
 have hcp1 : (4 : Int) ≤ (cp : Int) := by omega
 obtain ⟨i0, hin, hz0, hz1, hz2⟩ := info_parts infoInt
 go_enter Tryd.func41, Tryd.ntmps41
 go_wp2
 go_loopw [15] (fun i wr => ∃ k : Nat, k ≤ 4 ∧ i = .int .i64 (k : Int) ∧ ∃ D : DataW H, wr.ownsGroups Tryd.prog 3 (w.heap.size + 2) 3 .i64 (w.heap.size + 1) k D ∧ GD xs k D ∧ Below w.heap.size w wr ∧ w.heap.size + 2 ≤ wr.heap.size)
   (fun i _ => 4 - (intOf i).toNat)
 case atStart =>
   refine ⟨0, Nat.zero_le _, rfl, .map [], ?_, GD_zero _, ((Below.refl _ _).alloc (Nat.le_refl _) _).alloc (by simp) _, by simp⟩
   have := World.ownsGroups_made (H := H) (w.alloc (Obj.cells #[Value.slice (some { block := b, off := o }) 4 cp, Value.int IntKind.i64 st] 32)) Tryd.prog 3 3 .i64
   simpa using this
 case round =>
   obtain ⟨k, hk, rfl, D, hown, hgd, hnx, hws⟩ := hrel
   obtain ⟨x, hx⟩ : ∃ x, xs.getD k 0 = x := ⟨_, rfl⟩
   have HX : Hid (xs.getD k 0 = x) := hx
   have HGD : Hid (GD xs k D) := hgd
   by_cases hlt : k < 4
   · have hcx : wr.cell? ⟨b, o + k, none⟩ = some (I x) := by rw [← hx]; exact (hnx.cell (by exact hblt)).trans (HC.out k hlt)
     have hwx : (Lit.int .i64 x).wf = true := HI.out x (by
       have hk4 : k < xs.length := by have := HL.out; omega
       rw [← hx, show xs.getD k 0 = xs[k] by simp [List.getD, hk4]]
       exact List.getElem_mem _)
     have hkey := keyOf_int_mk Tryd.underlying3 hwx
     clear hx hgd
     go_wp2_with (first
       | (at_lookup; refine wpList_lookup_groups _ rfl _ _ 47 rfl 3 24 3 .i64 mapLaw Tryd.underlying47 (zeroInts _) (w.heap.size + 2) (w.heap.size + 1) k _ rfl hown (by unfold maxLen; omega) _ _ rfl hkey ?_; intro v zs hat hoi hzl hback)
       | (at_builtin; refine wpList_append_own_at _ rfl _ _ 24 rfl (w.heap.size + 2) 3 i0 (.int .i64 0) 1 8 Tryd.underlying24 hin hz0 hz1 hz2 rfl (by decide) _ _ _ rfl (hoi.1.alloc _) ⟨wr.heap.size, 0, none⟩ 1 1 [.int .i64 k] rfl rfl (cell_one_new _ _ _) (ints_oneCell .i64 [(k : Int)]) (by unfold maxLen; omega) (by omega) (by simp; omega) ?_; intro v' w1 hown' hgrow hnil hloc)
       | (at_mapUpdate; refine wpList_mapUpdate_back _ rfl _ _ _ 47 rfl hback rfl rfl rfl ((World.grownBy_alloc _ _ _).trans hgrow) (hoi.appended hown' (WalkArith.wf_i64 (by omega))) (by simp; omega) (hloc.imp id (fun h => ⟨_, h, by simp⟩)) ?_; intro w2 hown2 hgrow2)
       | go_in)
     have hall := (World.grownBy_alloc wr _ _).trans hgrow
     go_roundw
     case rel =>
       refine ⟨k + 1, by omega, by go_num, _, hown2, ?_, hnx.groups hoi hall hgrow2 hnx.size (by omega) (by omega), Nat.le_trans hws (Nat.le_trans hall.size hgrow2.size)⟩
       show GD xs (k + 1) (D.put (.int .i64 x) (rowDatum .i64 v' (zs ++ [(k : Int)])))
       rw [(hoi.appended hown' (WalkArith.wf_i64 (by omega))).datum_pos (by simp), GD_zs HGD.out hat hoi]
       exact GD_step HGD.out HX.out hwx
     case measure => simp [intOf]; omega
   · obtain rfl : k = 4 := by omega
     have hkey0 : keyOf Tryd.prog 3 (.int .i64 0) = some (.int .i64 0) := keyOf_int_mk Tryd.underlying3 (by decide)
     go_wp2_with (first
       | (at_delete; refine wpList_delete_own _ rfl _ _ 47 3 rfl 24 mapLaw Tryd.underlying47 _ (w.heap.size + 1) 4 D rfl (groups_map hown) _ _ rfl hkey0 ?_; intro w1 hown1 hturn1)
       | go_in)
     go_ret
     have hg1 := hturn1.grown
     refine ⟨rfl, hnx.grown hg1 hnx.size (fun j hj => by cases hj; omega), _, _, hown1, ?_, ?_⟩
     · intro v y hy
       obtain ⟨zs, ho, rfl⟩ := rowElem_inv hy
       refine ⟨zs, ho.kept hg1 ?_, rfl⟩
       cases hv : v.ownBlock with
       | none => exact .inl rfl
       | some g =>
         refine .inr fun e1 => ?_
         have := (ho.1.lt g hv).1
         cases e1
         omega
     · intro x
       have hg := HGD.out.2 x
       by_cases h0 : x = 0
       · subst h0
         refine ⟨by rw [has_del_same]; simp, fun h => absurd rfl h⟩
       · have hne : Lit.int .i64 x ≠ .int .i64 0 := fun e => h0 (by cases e; rfl)
         rw [has_del_other hne, hg.1]
         refine ⟨by simp [h0], fun _ zd hp => ?_⟩
         rw [atKey_del_other hne, atKey_has (by rw [hg.1]; simpa using hp) zd .nil, hg.2, rowOf_pos hp]
theorem implRowsOk_room (a : Option Addr) (n cp : Nat) (hcp : n ≤ cp) (st : Int) (xs : List Int) (w : World) (hA : IntAt w a n xs) (hi : ∀ x ∈ xs, (Lit.int .i64 x).wf = true) :
   Calls Tryd.prog 21 #[.agg #[.slice a n cp, .int .i64 st]] w fun e w' => Says e (OkRows xs st) ∧ Below w.heap.size w w' := by
 have hl := hA.1
 by_cases hn : n = 4
 · subst hn
   by_cases hs0 : st < 0
   · have h1 : Hid (¬ OkRows xs st) := fun h => by have := h.2.1; omega
     go_enter Tryd.func21, Tryd.ntmps21
     go_wp2
     go_ret
     exact ⟨⟨false, rfl, by simp [h1.out]⟩, (Below.refl _ _).alloc (Nat.le_refl _) _⟩
   by_cases hs1 : 5 < st
   · have h1 : Hid (¬ OkRows xs st) := fun h => by have := h.2.2.1; omega
     go_enter Tryd.func21, Tryd.ntmps21
     go_wp2
     go_ret
     exact ⟨⟨false, rfl, by simp [h1.out]⟩, (Below.refl _ _).alloc (Nat.le_refl _) _⟩
   have HA : Hid (IntAt w a 4 xs) := hA
   have HI : Hid (∀ x ∈ xs, (Lit.int .i64 x).wf = true) := hi
   have HL : Hid (xs.length = 4) := hl
   clear hA hi hl
   go_enter Tryd.func21, Tryd.ntmps21
   go_wp2_with fail
   refine (holdersOf_cap Unit a cp hcp st xs _ (HA.out.below ((Below.refl _ w).alloc (Nat.le_refl _) _) (Nat.le_refl _)) HI.out).mono ?_
   rintro e w1 ⟨rfl, hb1, R, D, hown, hR, hD⟩
   have hbw : Below w.heap.size w w1 := ((Below.refl _ w).alloc (Nat.le_refl _) _).trans (hb1.mono (by simp))
   have hsz1 := hown.lt
   simp only [World.size_alloc] at hown hR hsz1
   have HR : Hid (RowsIn R w1 (w.heap.size + 1 + 2)) := hR
   have HD1 : Hid (HD xs D) := hD
   clear hb1 hR hD
   go_wp2_with (first | (at_range; refine wpList_range_own _ rfl _ 47 rfl 3 24 mapLaw Tryd.underlying47 R (w.heap.size + 1 + 1) 4 D rfl hown ?_; intro w2 hrg0 hg0 hs2) | fail)
   go_frame
   have hb2 : Below w1.heap.size w1 w2 := (Below.refl _ _).grown hg0 (Nat.le_refl _) (fun k e => by cases e)
   clear hown hg0
   go_loopw [3] (fun _ wr => ∃ left cnt, wr.ranges Tryd.prog 3 R (w.heap.size + 1 + 1) w1.heap.size 4 D left cnt ∧ Below w1.heap.size w1 wr ∧ ∀ x : Int, x ≠ 0 → posK xs 4 x ≠ [] → left (.int .i64 x) = false → Good xs x) (fun _ wr => wr.rangeLeft (w.heap.size + 1 + 1) w1.heap.size)
   case atStart =>
     refine ⟨_, _, hrg0, hb2, fun x h0 hp hf => ?_⟩
     rw [(HD1.out x).1] at hf
     exact absurd ⟨h0, hp⟩ (of_decide_eq_false hf)
   case round =>
     obtain ⟨left, cnt, hrg, hbr, hgood⟩ := hrel
     have HG : Hid (∀ x : Int, x ≠ 0 → posK xs 4 x ≠ [] → left (.int .i64 x) = false → Good xs x) := hgood
     clear hgood hrg0 hb2
     go_wp2_with (first | (at_next; refine wpList_next_rows _ rfl _ rfl R HR.out (w.heap.size + 1 + 1) w1.heap.size 4 D HD1.out left cnt rfl hrg ?_ ?_) | fail)
     · intro _ hl0
       go_wp2
       go_ret
       exact ⟨⟨true, rfl, by simpa using ⟨HL.out, hs0, hs1, fun x h0 hp => HG.out x h0 hp (hl0 _)⟩⟩, hbw.trans (hbr.mono hbw.size)⟩
     · intro x p l c w3 cnt3 hlx hx0 hpx hrow hrg3 hlt hg3 hs3 hen
       have hb3 : Below w1.heap.size w1 w3 := hbr.grown hg3 hbr.size (fun k e => by cases e; exact Nat.le_refl _)
       have hb03 := hbw.trans (hb3.mono hbw.size)
       obtain rfl := row_len hrow
       have HP : Hid (posK xs 4 x ≠ []) := hpx
       clear hrow hg3 hpx
       go_wp2_with fail
       refine (implValOk_any x _).mono ?_
       rintro e w4 ⟨rfl, rfl⟩
       by_cases hv : 1 ≤ x ∧ x ≤ 6
       · rw [show decide (1 ≤ x ∧ x ≤ 6) = true from decide_eq_true hv]
         by_cases hln : 1 < (posK xs 4 x).length
         · have h1 : Hid (¬ OkRows xs st) := fun h => by have := (h.2.2.2 x hx0 HP.out).2; omega
           go_wp2
           go_ret
           exact ⟨⟨false, rfl, by simp [h1.out]⟩, hb03⟩
         · have hG : Hid (Good xs x) := ⟨hv, by omega⟩
           go_wp2
           refine ⟨⟨_, _, hrg3, hb3, fun y h0 hp hf => ?_⟩, by rw [hrg3.left_eq, hrg.left_eq]; omega⟩
           rw [sameKey_int] at hf
           by_cases hy : y = x
           · subst hy
             exact hG.out
           · exact HG.out y h0 hp (by simpa [hy] using hf)
       · rw [show decide (1 ≤ x ∧ x ≤ 6) = false from decide_eq_false hv]
         have h1 : Hid (¬ OkRows xs st) := fun h => hv (h.2.2.2 x hx0 HP.out).1
         go_wp2
         go_ret
         exact ⟨⟨false, rfl, by simp [h1.out]⟩, hb03⟩
 · have h1 : Hid (¬ OkRows xs st) := fun h => by have := h.1; omega
   have h2 : ((n : Int) != 4) = true := by simp; omega
   go_enter Tryd.func21, Tryd.ntmps21
   go_wp2
   go_ret
   exact ⟨⟨false, rfl, by simp [h1.out]⟩, (Below.refl _ _).alloc (Nat.le_refl _) _⟩
theorem below_grown {w w' : World} (h : Below w.heap.size w w') : w.grownBy w' none := ⟨h.os, h.tape, h.output, h.size, fun i hi _ => h.block i hi⟩
theorem setCell_grown (w : World) (a : Addr) (u : Value) : w.grownBy (w.setCell a u) (some a.block) := ⟨rfl, rfl, rfl, by simp [World.setCell], fun i _ hne => Below.heap_setCell _ _ _ _ (fun e => hne (by rw [e]))⟩
theorem iat_row (k : Nat) (hk : k < 4) (w : World) (hN : Names w) : Calls Tryd.prog 45 #[.int .i64 (k : Int)] w fun e w' => e = .returned (.int .i64 (k : Int)) ∧ Below w.heap.size w w' := by
 have := implRowAt_any (k : Int) w hN
 rwa [show placeN 1 (k : Int) = (k : Int) by unfold placeN; repeat' split <;> omega] at this
theorem iat_owner (x : Int) (m : Nat) (hx : 1 ≤ x ∧ x ≤ 6) (hm : m = (x + 3).toNat) (w : World) (hN : Names w) : Calls Tryd.prog 22 #[.int .i64 x] w fun e w' => e = .returned (.int .i64 (m : Int)) ∧ Below w.heap.size w w' := by
 have := implOwnerAt_any x w hN
 rwa [show placeN 2 x = (m : Int) by unfold placeN; repeat' split <;> omega] at this
theorem iat_via (x : Int) (m : Nat) (hx : 1 ≤ x ∧ x ≤ 6) (hm : m = (x + 13).toNat) (w : World) (hN : Names w) : Calls Tryd.prog 32 #[.int .i64 x] w fun e w' => e = .returned (.int .i64 (m : Int)) ∧ Below w.heap.size w w' := by
 have := implViaAt_any x w hN
 rwa [show placeN 5 x = (m : Int) by unfold placeN; repeat' split <;> omega] at this
theorem iat_count (x : Int) (m : Nat) (hx : 1 ≤ x ∧ x ≤ 6) (hm : m = (10 + x % 3).toNat) (w : World) (hN : Names w) : Calls Tryd.prog 46 #[.int .i64 (classN x)] w fun e w' => e = .returned (.int .i64 (m : Int)) ∧ Below w.heap.size w w' := by
 have := implCountAt_any (classN x) w hN
 rwa [show placeN 3 (classN x) = (m : Int) by rw [classN, if_pos hx]; unfold placeN; repeat' split <;> omega] at this
def mkL (left : Lit → Bool) (x : Int) : Int := if left (.int .i64 x) = true then 0 else x
def wordsM (xs : List Int) (left : Lit → Bool) (st : Int) : List Int := wordsL (mkL left (xs.getD 0 0)) (mkL left (xs.getD 1 0)) (mkL left (xs.getD 2 0)) (mkL left (xs.getD 3 0)) st
theorem mkL_ne {left : Lit → Bool} {y x : Int} (h : y ≠ x) (h0 : x ≠ 0) : mkL left y ≠ x := by
 unfold mkL
 split
 · exact fun e => h0 e.symm
 · exact h
theorem mkL_other {left : Lit → Bool} {y x : Int} (h : y ≠ x) : mkL (fun z => left z && !z.sameKey (.int .i64 x)) y = mkL left y := by
 unfold mkL
 simp only [sameKey_int, h, decide_false, Bool.not_false, Bool.and_true]
theorem mkL_same {left : Lit → Bool} {x : Int} : mkL (fun z => left z && !z.sameKey (.int .i64 x)) x = x := by
 unfold mkL
 simp [sameKey_int]
theorem mkL_left {left : Lit → Bool} {x : Int} (h : left (.int .i64 x) = true) : mkL left x = 0 := by
 unfold mkL
 rw [if_pos h]
theorem wordsM_step {xs : List Int} {left : Lit → Bool} {k : Nat} {x st : Int} (hk : k < 4) (hx : xs.getD k 0 = x) (hv : 1 ≤ x ∧ x ≤ 6) (hne : ∀ j, j < 4 → j ≠ k → xs.getD j 0 ≠ x) (hl : left (.int .i64 x) = true) :
   istepW (wordsM xs left st) k x st = wordsM xs (fun z => left z && !z.sameKey (.int .i64 x)) st := by
 have h : k = 0 ∨ k = 1 ∨ k = 2 ∨ k = 3 := by omega
 have h0 : x ≠ 0 := by omega
 rcases h with rfl | rfl | rfl | rfl
 · have n1 := hne 1 (by omega) (by omega)
   have n2 := hne 2 (by omega) (by omega)
   have n3 := hne 3 (by omega) (by omega)
   rw [wordsM, wordsM, hx, mkL_left hl, mkL_same, mkL_other n1, mkL_other n2, mkL_other n3]
   exact istep0 _ _ _ st x hv (mkL_ne n1 h0) (mkL_ne n2 h0) (mkL_ne n3 h0)
 · have n1 := hne 0 (by omega) (by omega)
   have n2 := hne 2 (by omega) (by omega)
   have n3 := hne 3 (by omega) (by omega)
   rw [wordsM, wordsM, hx, mkL_left hl, mkL_same, mkL_other n1, mkL_other n2, mkL_other n3]
   exact istep1 _ _ _ st x hv (mkL_ne n1 h0) (mkL_ne n2 h0) (mkL_ne n3 h0)
 · have n1 := hne 0 (by omega) (by omega)
   have n2 := hne 1 (by omega) (by omega)
   have n3 := hne 3 (by omega) (by omega)
   rw [wordsM, wordsM, hx, mkL_left hl, mkL_same, mkL_other n1, mkL_other n2, mkL_other n3]
   exact istep2 _ _ _ st x hv (mkL_ne n1 h0) (mkL_ne n2 h0) (mkL_ne n3 h0)
 · have n1 := hne 0 (by omega) (by omega)
   have n2 := hne 1 (by omega) (by omega)
   have n3 := hne 2 (by omega) (by omega)
   rw [wordsM, wordsM, hx, mkL_left hl, mkL_same, mkL_other n1, mkL_other n2, mkL_other n3]
   exact istep3 _ _ _ st x hv (mkL_ne n1 h0) (mkL_ne n2 h0) (mkL_ne n3 h0)
theorem wordsM_start {H : Type} {xs : List Int} {D : DataW H} (hD : HD xs D) (st : Int) : wordsM xs (Maps.has D) st = wordsL 0 0 0 0 st := by
 have h : ∀ j, j < 4 → mkL (Maps.has D) (xs.getD j 0) = 0 := fun j hj => by
   by_cases h0 : xs.getD j 0 = 0
   · rw [h0]
     unfold mkL
     split <;> rfl
   · refine mkL_left ?_
     rw [(hD _).1]
     exact decide_eq_true ⟨h0, List.ne_nil_of_mem (mem_posK.2 ⟨j, hj, rfl, rfl⟩)⟩
 rw [wordsM, h 0 (by omega), h 1 (by omega), h 2 (by omega), h 3 (by omega)]
theorem wordsM_end {xs : List Int} {left : Lit → Bool} (h : ∀ kl, left kl = false) (st : Int) : wordsM xs left st = specL xs st := by
 simp only [wordsM, specL, mkL, h]
 simp
theorem getL_set_ne {L : List Int} {i j : Nat} {u : Int} (h : i ≠ j) : (L.set i u).getD j 0 = L.getD j 0 := by
 simp [List.getD, List.getElem?_set_ne h]
theorem count_le (xs : List Int) (left : Lit → Bool) (st u v : Int) (k m2 m3 : Nat) (hk : k < 4) (h2 : m2 < 10) (h3 : 10 ≤ m3) (h4 : m3 < 13) : 0 ≤ (((wordsM xs left st).set k u).set m2 v).getD m3 0 ∧ (((wordsM xs left st).set k u).set m2 v).getD m3 0 ≤ 4 := by
 rw [getL_set_ne (by omega), getL_set_ne (by omega)]
 have h : m3 = 10 ∨ m3 = 11 ∨ m3 = 12 := by omega
 have e : ∀ c : Int, 0 ≤ clsW (mkL left (xs.getD 0 0)) (mkL left (xs.getD 1 0)) (mkL left (xs.getD 2 0)) (mkL left (xs.getD 3 0)) c ∧ clsW (mkL left (xs.getD 0 0)) (mkL left (xs.getD 1 0)) (mkL left (xs.getD 2 0)) (mkL left (xs.getD 3 0)) c ≤ 4 := fun c => by
   unfold clsW
   have b0 := bitW_le (mkL left (xs.getD 0 0)) c
   have b1 := bitW_le (mkL left (xs.getD 1 0)) c
   have b2 := bitW_le (mkL left (xs.getD 2 0)) c
   have b3 := bitW_le (mkL left (xs.getD 3 0)) c
   omega
 rcases h with rfl | rfl | rfl
 · exact e 0
 · exact e 1
 · exact e 2
theorem pos_one {xs : List Int} {x : Int} (h0 : posK xs 4 x ≠ []) (h1 : (posK xs 4 x).length ≤ 1) : ∃ k : Nat, k < 4 ∧ xs.getD k 0 = x ∧ posK xs 4 x = [(k : Int)] ∧ ∀ j, j < 4 → j ≠ k → xs.getD j 0 ≠ x := by
 obtain ⟨i, hi⟩ := List.exists_mem_of_ne_nil _ h0
 obtain ⟨k, hk, hkx, rfl⟩ := mem_posK.1 hi
 refine ⟨k, hk, hkx, ?_, fun j hj hjk e => ?_⟩
 · match hp : posK xs 4 x with
   | [] => exact absurd hp h0
   | [a] =>
     rw [hp] at hi
     simp at hi
     rw [hi]
   | _ :: _ :: _ => rw [hp] at h1; simp at h1
 · have := one_of h1 hi (mem_posK.2 ⟨j, hj, e, rfl⟩)
   omega
structure St {H : Type} (R : Value → Option (DataW H × List MemPlace)) (b r : Nat) (D : DataW H) (g : Nat) (w6 : World) (left : Lit → Bool) (cnt : Nat) (L : List Int) (v : World) : Prop where
 rg : v.ranges Tryd.prog 3 R b r 4 D left cnt
 gr : w6.grownBy v (some g)
 ow : v.ownsRow g 3 1 (.slice (some ⟨g, 0, none⟩) 20 20) 20 (L.map I)
section
variable {H : Type} {R : Value → Option (DataW H × List MemPlace)} {b r : Nat} {D : DataW H} {g : Nat} {w6 v v' : World} {left : Lit → Bool} {cnt : Nat} {L : List Int}
theorem St.call (h : St R b r D g w6 left cnt L v) (hb : Below v.heap.size v v') : St R b r D g w6 left cnt L v' :=
 ⟨h.rg.kept (below_grown hb) (by simp) (by simp), h.gr.andThen (below_grown hb) (fun j e => by cases e), owns_below h.ow hb (Nat.le_refl _)⟩
theorem St.store (h : St R b r D g w6 left cnt L v) (hbg : b ≠ g) (hrg : r ≠ g) (m : Nat) (y : Int) : St R b r D g w6 left cnt (L.set m y) (v.setCell ⟨g, m, none⟩ (I y)) := by
 refine ⟨h.rg.kept (setCell_grown v ⟨g, m, none⟩ (I y)) (fun e => hbg (by cases e; rfl)) (fun e => hrg (by cases e; rfl)), h.gr.andThen (setCell_grown v ⟨g, m, none⟩ (I y)) (fun j e => .inr e), ?_⟩
 have := (h.ow.stored m (I y)).1
 rwa [← List.map_set] at this
theorem St.cell (h : St R b r D g w6 left cnt L v) {p : Addr} (h1 : p.block < w6.heap.size) (h2 : p.block ≠ g) : v.cell? p = w6.cell? p := World.cell?_of_block (w := w6) (h.gr.block p.block h1 (fun e => h2 (by cases e; rfl)))
theorem St.below (h : St R b r D g w6 left cnt L v) {B : Nat} {w : World} (hb : Below B w w6) (h1 : B ≤ w6.heap.size) (h2 : B ≤ g) : Below B w v := hb.grown h.gr h1 (fun k e => by cases e; exact h2)
theorem St.at (h : St R b r D g w6 left cnt L v) {m : Nat} (hm : m < 20) (hl : L.length = 20) : v.cell? ⟨g, m, none⟩ = some (I (L.getD m 0)) ∧ v.frozen? ⟨g, m, none⟩ = false := by
 refine ⟨?_, h.ow.frozenAt m⟩
 rw [h.ow.cellAt m (by omega), List.getElem?_map, List.getElem?_eq_getElem (by omega)]
 simp [List.getD, show m < L.length by omega]
end
theorem implWordsOf_room (a : Option Addr) (cp : Nat) (hcp : 4 ≤ cp) (st : Int) (xs : List Int) (w : World) (hA : IntAt w a 4 xs) (hi : ∀ x ∈ xs, (Lit.int .i64 x).wf = true) (hyes : OkRows xs st) (hN : Names w) :
   Calls Tryd.prog 26 #[.agg #[.slice a 4 cp, .int .i64 st]] w fun e w' => OwnSays e w w' (specL xs st) ∧ Below w.heap.size w w' := by
 have HA : Hid (IntAt w a 4 xs) := hA
 have HI : Hid (∀ x ∈ xs, (Lit.int .i64 x).wf = true) := hi
 have HY : Hid (OkRows xs st) := hyes
 have HN : Hid (Names w) := hN
 have hst0 : 0 ≤ st := hyes.2.1
 have hst5 : st ≤ 5 := hyes.2.2.1
 have nlt := hN.lt
 clear hA hyes hi hN
 obtain ⟨i0, hi, hz0, hz1, hz2⟩ := info_parts infoInt
 go_enter Tryd.func26, Tryd.ntmps26
 go_wp2_with fail
 refine (implRowsOk_room a 4 cp hcp st xs _ (HA.out.below ((Below.refl _ w).alloc (Nat.le_refl _) _) (Nat.le_refl _)) HI.out).mono ?_
 rintro e w1 ⟨⟨ok, rfl, hok⟩, hb1⟩
 obtain rfl : ok = true := hok.2 HY.out
 simp only [World.size_alloc] at hb1
 have hs1 : w.heap.size < w1.heap.size := Nat.lt_of_succ_le (by simpa using hb1.size)
 have hbw1 : Below w.heap.size w w1 := ((Below.refl _ w).alloc (Nat.le_refl _) _).trans (hb1.mono (Nat.le_succ _))
 have c0 : w1.cell? ⟨w.heap.size, 0, none⟩ = some (.slice a 4 cp) := by rw [hb1.cell (by simp)]; simp
 have c1 : w1.cell? ⟨w.heap.size, 1, none⟩ = some (.int .i64 st) := by rw [hb1.cell (by simp)]; simp
 have HC0 : Hid (w1.cell? ⟨w.heap.size, 0, none⟩ = some (.slice a 4 cp)) := c0
 have HC1 : Hid (w1.cell? ⟨w.heap.size, 1, none⟩ = some (.int .i64 st)) := c1
 clear hok hb1 c0 c1
 go_wp2_with (first | (at_make; refine wpList_make_full _ rfl _ _ 24 rfl w1.heap.size 3 i0 (.int .i64 0) 1 Tryd.underlying24 hi hz0 hz1 .i64 .i64 _ _ 20 rfl rfl rfl rfl (by rw [hz2]; omega) (by unfold maxLen; omega) (Nat.le_refl _) ?_; intro w2 own2 grow2) | fail)
 rw [show (madeCells (Value.int .i64 0).cells (20 * 1)).toList = (List.replicate 20 (0 : Int)).map I from (toList_madeCells_one _ _).trans (by rfl)] at own2
 have hb2 : Below w1.heap.size w1 w2 := (Below.refl _ _).grown grow2 (Nat.le_refl _) (fun k e => by cases e)
 have hs2 := (own_base own2).2
 have d1 : w2.cell? ⟨w.heap.size, 1, none⟩ = some (.int .i64 st) := (hb2.cell (p := ⟨w.heap.size, 1, none⟩) hs1).trans HC1.out
 have HN2 : Hid (Names w2) := HN.out.below (hbw1.trans (hb2.mono hbw1.size)) nlt
 have HO2 : Hid (w2.ownsRow w1.heap.size 3 1 (.slice (some ⟨w1.heap.size, 0, none⟩) 20 20) 20 ((List.replicate 20 (0 : Int)).map I)) := own2
 clear grow2 own2
 go_region_with (first
   | (go_at_call 36; refine (implStateAt_any _ (HN2.out.below (Below.refl w2.heap.size w2).drew HN2.out.lt)).mono ?_; rintro e w3 ⟨rfl, hb3⟩
      have ho3 := owns_below HO2.out ((Below.refl w2.heap.size w2).drew.trans hb3) (Nat.le_refl _)
      have hf3 := ho3.frozenAt 13
      obtain ⟨u3, hc3⟩ := own_cell ho3 (show 13 < 20 by omega)
      have e1 : w3.cell? ⟨w.heap.size, 1, none⟩ = some (.int .i64 st) := (hb3.cell (p := ⟨w.heap.size, 1, none⟩) (Nat.lt_trans hs1 hs2)).trans d1))
 all_goals
   obtain ⟨w5, hw5⟩ : ∃ w5, w5 = w3.setCell ⟨w1.heap.size, 13, none⟩ (.int .i64 st) := ⟨_, rfl⟩
   rw [← hw5]
   have ho5 := (ho3.stored 13 (I st)).1
   rw [← List.map_set, ← hw5, ← wordsL_new] at ho5
   have hb5 : Below w1.heap.size w1 w5 := by rw [hw5]; exact (hb2.drew.trans (hb3.mono (Nat.le_of_lt hs2))).setCell (Nat.le_refl _) _
   have hs5 := (own_base ho5).2
   have hbw5 : Below w.heap.size w w5 := hbw1.trans (hb5.mono hbw1.size)
   have f0 : w5.cell? ⟨w.heap.size, 0, none⟩ = some (.slice a 4 cp) := (hb5.cell (p := ⟨w.heap.size, 0, none⟩) hs1).trans HC0.out
   have f1 : w5.cell? ⟨w.heap.size, 1, none⟩ = some (.int .i64 st) := (hb5.cell (p := ⟨w.heap.size, 1, none⟩) hs1).trans HC1.out
   have HO5 : Hid (w5.ownsRow w1.heap.size 3 1 (.slice (some ⟨w1.heap.size, 0, none⟩) 20 20) 20 ((wordsL 0 0 0 0 st).map I)) := ho5
   clear hw5 ho5 ho3 hf3 hc3 e1 hb3 HO2 HN2 d1 hb2 hs2
   go_wp2_with fail
   refine (holdersOf_cap Unit a cp hcp st xs _ (HA.out.below hbw5 (Nat.le_refl _)) HI.out).mono ?_
   rintro e w6 ⟨rfl, hb6, R, D, hown, hR, hD⟩
   have hbw6 : Below w.heap.size w w6 := hbw5.trans (hb6.mono hbw5.size)
   have hs6 : w5.heap.size + 1 < w6.heap.size := hown.lt
   have HO6 : Hid (w6.ownsRow w1.heap.size 3 1 (.slice (some ⟨w1.heap.size, 0, none⟩) 20 20) 20 ((wordsL 0 0 0 0 st).map I)) := owns_below HO5.out hb6 (Nat.le_refl _)
   have HF1 : Hid (w6.cell? ⟨w.heap.size, 1, none⟩ = some (.int .i64 st)) := (hb6.cell (p := ⟨w.heap.size, 1, none⟩) (Nat.lt_trans hs1 hs5)).trans f1
   have HN6 : Hid (Names w6) := HN.out.below hbw6 nlt
   have HR : Hid (RowsIn R w6 (w5.heap.size + 2)) := hR
   have HD1 : Hid (HD xs D) := hD
   clear hR hD hb6 f0 f1 HO5
   go_wp2_with (first | (at_range; refine wpList_range_own _ rfl _ 47 rfl 3 24 mapLaw Tryd.underlying47 R (w5.heap.size + 1) 4 D rfl hown ?_; intro w7 hrg7 hg7 hs7) | fail)
   go_frame
   have hbg : w5.heap.size + 1 ≠ w1.heap.size := by omega
   have hrg : w6.heap.size ≠ w1.heap.size := by omega
   have S7 : St R (w5.heap.size + 1) w6.heap.size D w1.heap.size w6 (Maps.has D) (Maps.size D) (wordsM xs (Maps.has D) st) w7 := by
     rw [wordsM_start HD1.out]
     exact ⟨hrg7, hg7.but _, HO6.out.kept hg7 (.inr (fun e => by simp [Value.ownBlock] at e))⟩
   clear hown hrg7 hg7
   go_loopw [4] (fun _ wr => ∃ left cnt, St R (w5.heap.size + 1) w6.heap.size D w1.heap.size w6 left cnt (wordsM xs left st) wr) (fun _ wr => wr.rangeLeft (w5.heap.size + 1) w6.heap.size)
   case atStart => exact ⟨_, _, S7⟩
   case round =>
     obtain ⟨left, cnt, hS⟩ := hrel
     clear S7
     have hrgS := hS.rg
     go_wp2_with (first | (at_next; refine wpList_next_rows _ rfl _ rfl R HR.out (w5.heap.size + 1) w6.heap.size 4 D HD1.out left cnt rfl hrgS ?_ ?_) | fail)
     · intro _ hl0
       go_wp2
       go_ret
       refine ⟨⟨_, Nat.le_of_lt hs1, rfl, ?_⟩, hS.below hbw6 hbw6.size (Nat.le_of_lt hs1)⟩
       rw [← wordsM_end hl0]
       exact hS.ow
     · intro x p l cp w8 cnt8 hlx hx0 hpx hrow hrg8 hlt8 hg8 hs8 hen
       obtain ⟨hv, hlen⟩ := HY.out.2.2.2 x hx0 hpx
       obtain ⟨k, hk4, hkx, hpk, hne⟩ := pos_one hpx hlen
       rw [hpk] at hrow
       obtain ⟨gk, rfl, hcell, hgk1, hgk2⟩ := row_intAt hrow (by simp) (by simp)
       obtain rfl : l = 1 := row_len hrow
       have S8 : St R (w5.heap.size + 1) w6.heap.size D w1.heap.size w6 (fun z => left z && !z.sameKey (.int .i64 x)) cnt8 (wordsM xs left st) w8 :=
         ⟨hrg8, hS.gr.andThen hg8 (fun j e => by cases e; exact .inl (Nat.le_refl _)), hS.ow.kept hg8 (.inr (fun e => hrg (by simpa [Value.ownBlock] using e.symm)))⟩
       have kc : w8.cell? ⟨gk, 0, none⟩ = some (I (k : Int)) := (S8.cell (p := ⟨gk, 0, none⟩) hgk1 (show gk ≠ w1.heap.size by omega)).trans hcell
       have names : ∀ {L : List Int} {v : World}, St R (w5.heap.size + 1) w6.heap.size D w1.heap.size w6 (fun z => left z && !z.sameKey (.int .i64 x)) cnt8 L v → Names v := fun h => HN.out.below (h.below hbw6 hbw6.size (Nat.le_of_lt hs1)) nlt
       have NAMES : Hid (∀ {L : List Int} {v : World}, St R (w5.heap.size + 1) w6.heap.size D w1.heap.size w6 (fun z => left z && !z.sameKey (.int .i64 x)) cnt8 L v → Names v) := names
       have HSTEP : Hid (istepW (wordsM xs left st) k x st = wordsM xs (fun z => left z && !z.sameKey (.int .i64 x)) st) := wordsM_step hk4 hkx hv hne hlx
       have hcnt : wr.rangeLeft (w5.heap.size + 1) w6.heap.size = cnt := hS.rg.left_eq
       obtain ⟨m2, hm2⟩ : ∃ m : Nat, m = (x + 3).toNat := ⟨_, rfl⟩
       obtain ⟨m3, hm3⟩ : ∃ m : Nat, m = (10 + x % 3).toNat := ⟨_, rfl⟩
       obtain ⟨m5, hm5⟩ : ∃ m : Nat, m = (x + 13).toNat := ⟨_, rfl⟩
       have lt2 : m2 < 10 := by omega
       have ge3 : 10 ≤ m3 := by omega
       have lt3 : m3 < 13 := by omega
       have lt5 : m5 < 20 := by omega
       have HM2 : Hid (m2 = (x + 3).toNat) := hm2
       have HM3 : Hid (m3 = (10 + x % 3).toNat) := hm3
       have HM5 : Hid (m5 = (x + 13).toNat) := hm5
       have hsg : w.heap.size ≠ w1.heap.size := by omega
       have hgs : w1.heap.size ≠ w.heap.size := by omega
       clear hm2 hm3 hm5 names hne hkx hpk hlen hrow hcell hrg8 hg8 hpx hS hrgS
       go_wp2_with fail
       refine (iat_row k hk4 _ (NAMES.out S8)).mono ?_
       rintro e w9 ⟨rfl, hb9⟩
       have S9 := S8.call hb9
       obtain ⟨c9, z9⟩ := S9.at (show k < 20 by omega) rfl
       have T9 := S9.store hbg hrg k x
       have HT9 : Hid (St R (w5.heap.size + 1) w6.heap.size D w1.heap.size w6 (fun z => left z && !z.sameKey (.int .i64 x)) cnt8 ((wordsM xs left st).set k x) (w9.setCell ⟨w1.heap.size, k, none⟩ (I x))) := T9
       clear S8 S9 T9 hb9 kc hen
       go_wp2_with fail
       refine (iat_owner x m2 hv HM2.out _ (NAMES.out HT9.out)).mono ?_
       rintro e w10 ⟨rfl, hb10⟩
       have S10 := HT9.out.call hb10
       obtain ⟨c10, z10⟩ := S10.at (show m2 < 20 by omega) (by simp [wordsM, wordsL, wordsG])
       have HT10 : Hid (St R (w5.heap.size + 1) w6.heap.size D w1.heap.size w6 (fun z => left z && !z.sameKey (.int .i64 x)) cnt8 (((wordsM xs left st).set k x).set m2 ((k : Int) + 1)) (w10.setCell ⟨w1.heap.size, m2, none⟩ (I ((k : Int) + 1)))) := S10.store hbg hrg m2 ((k : Int) + 1)
       clear S10 HT9 hb10 c9 z9
       go_wp2_with fail
       refine (implClassOf_any x _).mono ?_
       rintro e w11 ⟨rfl, rfl⟩
       go_wp2_with fail
       refine (iat_count x m3 hv HM3.out _ (NAMES.out HT10.out)).mono ?_
       rintro e w12 ⟨rfl, hb12⟩
       have S12 := HT10.out.call hb12
       have hq4 := count_le xs left st x ((k : Int) + 1) k m2 m3 hk4 lt2 ge3 lt3
       obtain ⟨c12, z12⟩ := S12.at (show m3 < 20 by omega) (by simp [wordsM, wordsL, wordsG])
       obtain ⟨q, hq⟩ : ∃ q, (((wordsM xs left st).set k x).set m2 ((k : Int) + 1)).getD m3 0 = q := ⟨_, rfl⟩
       rw [hq] at hq4 c12
       have s12 : w12.cell? ⟨w.heap.size, 1, none⟩ = some (.int .i64 st) := (S12.cell (p := ⟨w.heap.size, 1, none⟩) (show w.heap.size < w6.heap.size by omega) hsg).trans HF1.out
       have HQ : Hid ((((wordsM xs left st).set k x).set m2 ((k : Int) + 1)).getD m3 0 = q) := hq
       have HT12 : Hid (St R (w5.heap.size + 1) w6.heap.size D w1.heap.size w6 (fun z => left z && !z.sameKey (.int .i64 x)) cnt8 ((((wordsM xs left st).set k x).set m2 ((k : Int) + 1)).set m3 (q + 1)) (w12.setCell ⟨w1.heap.size, m3, none⟩ (I (q + 1)))) := S12.store hbg hrg m3 (q + 1)
       clear S12 HT10 hb12 c10 z10 hq
       by_cases hvia : (k : Int) + 1 < st
       · have hvia' : (k : Int) < st - 1 := by omega
         have HV : Hid ((k : Int) + 1 < st) := hvia
         go_wp2_with fail
         refine (iat_via x m5 hv HM5.out _ (NAMES.out HT12.out)).mono ?_
         rintro e w13 ⟨rfl, hb13⟩
         have S13 := HT12.out.call hb13
         obtain ⟨c13, z13⟩ := S13.at (show m5 < 20 by omega) (by simp [wordsM, wordsL, wordsG])
         have T13 := S13.store hbg hrg m5 ((k : Int) + 1)
         have HT13 : Hid (St R (w5.heap.size + 1) w6.heap.size D w1.heap.size w6 (fun z => left z && !z.sameKey (.int .i64 x)) cnt8 (wordsM xs (fun z => left z && !z.sameKey (.int .i64 x)) st) (w13.setCell ⟨w1.heap.size, m5, none⟩ (I ((k : Int) + 1)))) := by
           rw [← HSTEP.out, istepW, if_pos HV.out, ← HM2.out, ← HM3.out, ← HM5.out, HQ.out]
           exact T13
         clear S13 T13 HT12 hb13 c12 z12 s12
         go_wp2
         refine ⟨⟨_, _, HT13.out⟩, ?_⟩
         rw [hcnt]
         exact Nat.lt_of_le_of_lt (Nat.le_of_eq HT13.out.rg.left_eq) hlt8
       · have hvia' : ¬ ((k : Int) < st - 1) := by omega
         have HT13 : Hid (St R (w5.heap.size + 1) w6.heap.size D w1.heap.size w6 (fun z => left z && !z.sameKey (.int .i64 x)) cnt8 (wordsM xs (fun z => left z && !z.sameKey (.int .i64 x)) st) (w12.setCell ⟨w1.heap.size, m3, none⟩ (I (q + 1)))) := by
           rw [← HSTEP.out, istepW, if_neg hvia, ← HM2.out, ← HM3.out, HQ.out]
           exact HT12.out
         go_wp2
         refine ⟨⟨_, _, HT13.out⟩, ?_⟩
         rw [hcnt]
         exact Nat.lt_of_le_of_lt (Nat.le_of_eq HT13.out.rg.left_eq) hlt8
end
section
open Go.ChangeShapes Go.WideShapes Go.ChangeAt Go.RowKit
def upto (xs : List Int) (k n : Nat) : List Int := xs.take k ++ List.replicate (n - k) 0
abbrev RowsV (a : Option Addr) (n c : Nat) (st : Int) : Value := .agg #[.slice a n c, .int .i64 st]
def TellsL (xs : List Int) (st : Int) (L : List Int) : Prop := (OkRows xs st ∧ L = specL xs st) ∨ (¬ OkRows xs st ∧ L = [])
theorem tellsL (xs : List Int) (st : Int) : ∃ L, TellsL xs st L := by
 by_cases h : OkRows xs st
 · exact ⟨_, .inl ⟨h, rfl⟩⟩
 · exact ⟨_, .inr ⟨h, rfl⟩⟩
theorem TellsL.len {xs : List Int} {st : Int} {L : List Int} (h : TellsL xs st L) : L.length ≤ 20 := by
 rcases h with ⟨_, rfl⟩ | ⟨_, rfl⟩
 · exact Nat.le_of_eq rfl
 · simp
theorem specWordsT (a : Option Addr) (n c : Nat) (st : Int) (xs L : List Int) (w : World) (hA : IntAt w a n xs) (hL : TellsL xs st L) :
   Calls Tryd.prog 37 #[RowsV a n c st] w fun e w' => ListSays e w' L ∧ Below w.heap.size w w' := by
 rcases hL with ⟨h, rfl⟩ | ⟨h, rfl⟩
 · obtain rfl : n = 4 := hA.1.symm.trans h.1
   exact specWordsOf_yes a c st xs w hA ((ok_iff hA.1).2 h)
 · exact specWordsOf_not a n c st xs w hA (fun h' => h ((ok_iff hA.1).1 h'))
theorem implWordsOf_notR (a : Option Addr) (n c : Nat) (hc : n ≤ c) (st : Int) (xs : List Int) (w : World) (hA : IntAt w a n xs) (hi : ∀ x ∈ xs, (Lit.int .i64 x).wf = true) (hno : ¬ OkRows xs st) :
   Calls Tryd.prog 26 #[.agg #[.slice a n c, .int .i64 st]] w fun e w' => e = .returned (.slice none 0 0) ∧ Below w.heap.size w w' := by
 have HA : Hid (IntAt w a n xs) := hA
 have HI : Hid (∀ x ∈ xs, (Lit.int .i64 x).wf = true) := hi
 have HN : Hid (¬ OkRows xs st) := hno
 clear hA hno hi
 go_enter Tryd.func26, Tryd.ntmps26
 go_wp2_with fail
 refine (implRowsOk_room a n c hc st xs _ (HA.out.below ((Below.refl _ w).alloc (Nat.le_refl _) _) (Nat.le_refl _)) HI.out).mono ?_
 rintro e w1 ⟨⟨ok, rfl, hok⟩, hb1⟩
 obtain rfl : ok = false := by
   cases ok
   · rfl
   · exact absurd (hok.1 rfl) HN.out
 have hbw : Below w.heap.size w w1 := ((Below.refl _ w).alloc (Nat.le_refl _) _).trans (hb1.mono (by simp))
 clear hok hb1
 go_wp2
 go_ret
 exact ⟨rfl, hbw⟩
theorem implWordsR (a : Option Addr) (n c : Nat) (hc : n ≤ c) (st : Int) (xs L : List Int) (w : World) (hA : IntAt w a n xs) (hi : ∀ x ∈ xs, (Lit.int .i64 x).wf = true) (hN : Names w) (hL : TellsL xs st L) :
   Calls Tryd.prog 26 #[.agg #[.slice a n c, .int .i64 st]] w fun e w' => ListSays e w' L ∧ Below w.heap.size w w' := by
 rcases hL with ⟨h, rfl⟩ | ⟨h, rfl⟩
 · obtain rfl : n = 4 := hA.1.symm.trans h.1
   refine (implWordsOf_room a c hc st xs w hA hi h hN).mono ?_
   rintro e w' ⟨⟨g, _, rfl, ho⟩, hb⟩
   exact ⟨⟨_, _, _, rfl, own_intAt ho (by omega)⟩, hb⟩
 · refine (implWordsOf_notR a n c hc st xs w hA hi h).mono ?_
   rintro e w' ⟨rfl, hb⟩
   exact ⟨⟨_, _, _, rfl, rfl, by omega, .inl rfl⟩, hb⟩
def inX (ws : List Int) : List Int := if ws.length = 20 then ws.take 4 else []
def inS (ws : List Int) : Int := if ws.length = 20 then ws.getD 13 0 else 0
theorem inX_yes {ws : List Int} (h : ws.length = 20) : inX ws = ws.take 4 := if_pos h
theorem inS_yes {ws : List Int} (h : ws.length = 20) : inS ws = ws.getD 13 0 := if_pos h
theorem inX_no {ws : List Int} (h : ¬ ws.length = 20) : inX ws = [] := if_neg h
theorem inS_no {ws : List Int} (h : ¬ ws.length = 20) : inS ws = 0 := if_neg h
theorem inX_len {ws : List Int} : (inX ws).length ≤ 4 := by
 unfold inX
 split
 · simp; omega
 · simp
theorem inX_wf {ws : List Int} (h : ∀ x ∈ ws, (Lit.int .i64 x).wf = true) : ∀ x ∈ inX ws, (Lit.int .i64 x).wf = true := by
 unfold inX
 split
 · exact fun x hx => h x (List.mem_of_mem_take hx)
 · exact fun x hx => by cases hx
def WholeM (ws : List Int) : Prop := OkRows (inX ws) (inS ws) ∧ ws = specL (inX ws) (inS ws)
theorem ok_twenty {ws : List Int} (h : OkRows (inX ws) (inS ws)) : ws.length = 20 := by
 by_cases h0 : ws.length = 20
 · exact h0
 · have := h.1
   rw [inX_no h0] at this
   cases this
theorem WholeM.len {ws : List Int} (h : WholeM ws) : ws.length = 20 := ok_twenty h.1
theorem ownW_in (y0 y1 y2 y3 v : Int) : 0 ≤ ownW y0 y1 y2 y3 v ∧ ownW y0 y1 y2 y3 v ≤ 4 := by
 unfold ownW
 repeat' split
 all_goals omega
theorem viaW_in (y0 y1 y2 y3 st v : Int) : 0 ≤ viaW y0 y1 y2 y3 st v ∧ viaW y0 y1 y2 y3 st v ≤ 4 := by
 unfold viaW
 have := ownW_in y0 y1 y2 y3 v
 split <;> omega
def WayAt (q : Int) : Prop := q = -1 ∨ (4 ≤ q ∧ q ≤ 9) ∨ (14 ≤ q ∧ q ≤ 19)
theorem way_owner (v : Int) : WayAt (placeN 2 v) := by
 unfold placeN WayAt
 repeat' split
 all_goals omega
theorem way_via (v : Int) : WayAt (placeN 5 v) := by
 unfold placeN WayAt
 repeat' split
 all_goals omega
theorem WholeM.small {ws : List Int} (h : WholeM ws) {q : Nat} (hq : WayAt (q : Int)) : 0 ≤ ws.getD q 0 ∧ ws.getD q 0 ≤ 4 := by
 rw [h.2]
 have hq' : q = 4 ∨ q = 5 ∨ q = 6 ∨ q = 7 ∨ q = 8 ∨ q = 9 ∨ q = 14 ∨ q = 15 ∨ q = 16 ∨ q = 17 ∨ q = 18 ∨ q = 19 := by unfold WayAt at hq; omega
 rcases hq' with rfl | rfl | rfl | rfl | rfl | rfl | rfl | rfl | rfl | rfl | rfl | rfl
 · exact ownW_in _ _ _ _ _
 · exact ownW_in _ _ _ _ _
 · exact ownW_in _ _ _ _ _
 · exact ownW_in _ _ _ _ _
 · exact ownW_in _ _ _ _ _
 · exact ownW_in _ _ _ _ _
 · exact viaW_in _ _ _ _ _ _
 · exact viaW_in _ _ _ _ _ _
 · exact viaW_in _ _ _ _ _ _
 · exact viaW_in _ _ _ _ _ _
 · exact viaW_in _ _ _ _ _ _
 · exact viaW_in _ _ _ _ _ _
def strayL (ws L : List Int) : Nat → List Int
 | 0 => []
 | k + 1 => if ws.getD k 0 = L.getD k 0 then strayL ws L k else strayL ws L k ++ [(k : Int)]
theorem strayL_len (ws L : List Int) (k : Nat) : (strayL ws L k).length ≤ k := by
 induction k with
 | zero => simp [strayL]
 | succ k ih =>
   unfold strayL
   split
   · omega
   · simp; omega
def KeyM (ws : List Int) (q k : Int) (ok : Bool) : Prop :=
 (ok = true ∧ WholeM ws ∧ 0 ≤ q ∧ ws.getD q.toNat 0 ≠ 0 ∧ k = ws.getD q.toNat 0 - 1) ∨ (ok = false ∧ k = 0 ∧ ¬ (WholeM ws ∧ 0 ≤ q ∧ ws.getD q.toNat 0 ≠ 0))
theorem KeyM.one {ws : List Int} {q k k' : Int} {ok ok' : Bool} (h : KeyM ws q k ok) (h' : KeyM ws q k' ok') : k = k' ∧ ok = ok' := by
 rcases h with ⟨rfl, h1, h2, h3, rfl⟩ | ⟨rfl, rfl, h1⟩ <;> rcases h' with ⟨rfl, k1, k2, k3, rfl⟩ | ⟨rfl, rfl, k1⟩
 · exact ⟨rfl, rfl⟩
 · exact absurd ⟨h1, h2, h3⟩ k1
 · exact absurd ⟨k1, k2, k3⟩ h1
 · exact ⟨rfl, rfl⟩
def ViaM (ws : List Int) (q k : Int) (ok : Bool) : Prop := (inS ws = 5 ∧ KeyM ws q k ok) ∨ (¬ inS ws = 5 ∧ ok = false ∧ k = 0)
theorem ViaM.one {ws : List Int} {q k k' : Int} {ok ok' : Bool} (h : ViaM ws q k ok) (h' : ViaM ws q k' ok') : k = k' ∧ ok = ok' := by
 rcases h with ⟨h1, h2⟩ | ⟨h1, rfl, rfl⟩ <;> rcases h' with ⟨k1, k2⟩ | ⟨k1, rfl, rfl⟩
 · exact h2.one k2
 · exact absurd h1 k1
 · exact absurd k1 h1
 · exact ⟨rfl, rfl⟩
theorem own_empty {w : World} {base : Nat} (hb : base ≤ w.heap.size) : (w.alloc (.cells #[] 3)).ownsRow base 3 1 (.slice (some ⟨w.heap.size, 0, none⟩) 0 0) 0 [] :=
 ⟨rfl, .inr ⟨w.heap.size, 0, #[], rfl, hb, (by show (w.heap.push _)[w.heap.size]? = _; simp), Nat.le_refl _, by unfold maxLen; omega, rfl, rfl⟩⟩
theorem own_weaken {w : World} {base base' : Nat} {e : TypeId} {size : Nat} {v : Value} {n : Nat} {xs : List Value} (h : w.ownsRow base e size v n xs) (hb : base' ≤ base) : w.ownsRow base' e size v n xs := by
 refine ⟨h.1, ?_⟩
 rcases h.2 with h2 | ⟨g, cap, cur, hv, hg, r⟩
 · exact .inl h2
 · exact .inr ⟨g, cap, cur, hv, Nat.le_trans hb hg, r⟩
theorem own_setCell_far {w : World} {base : Nat} {e : TypeId} {size : Nat} {v : Value} {n : Nat} {xs : List Value} (h : w.ownsRow base e size v n xs) {a : Addr} (ha : v.ownBlock ≠ some a.block) (u : Value) : (w.setCell a u).ownsRow base e size v n xs := by
 refine ⟨h.1, ?_⟩
 rcases h.2 with h2 | ⟨g, cap, cur, rfl, hg, hh, r⟩
 · exact .inl h2
 · exact .inr ⟨g, cap, cur, rfl, hg, by rw [Below.heap_setCell _ _ _ _ (fun e => ha (by simp [Value.ownBlock, e]))]; exact hh, r⟩
theorem own_at {w : World} {base : Nat} {e : TypeId} {v : Value} {n : Nat} {xs : List Int} (h : w.ownsRow base e 1 v n (xs.map I)) (hn : n ≤ 1099511627776) : ∃ a c, v = .slice a n c ∧ IntAt w a n xs := by
 have hl : xs.length = n := by have := h.1; simpa using this
 rcases h.2 with ⟨rfl, h0⟩ | ⟨g, cap, cur, rfl, _⟩
 · exact ⟨none, 0, by rw [h0], hl, hn, .inl h0⟩
 · exact ⟨_, cap, rfl, own_intAt h hn⟩
theorem news_len {xs : List Int} {n : Nat} (h : xs.length = n) : (xs.map I).length = n * 1 := by simp [h]
theorem news_at {w : World} {p o n : Nat} {xs : List Int} {ob : Obj} (hl : xs.length = n) (h : ∀ i, i < n → w.cell? ⟨p, o + i, none⟩ = some (I (xs.getD i 0))) :
   ∀ (j : Nat) (u : Value), (xs.map I)[j]? = some u → (w.alloc ob).cell? ((⟨p, o, none⟩ : Addr).add j) = some u := by
 intro j u hj
 have hj' : j < n := by
   rcases Nat.lt_or_ge j n with h1 | h1
   · exact h1
   · rw [List.getElem?_eq_none (by simp; omega)] at hj; cases hj
 have h1 := h j hj'
 have h2 := World.block_lt_of_cell? w _ h1
 have e : (⟨p, o, none⟩ : Addr).add j = ⟨p, o + j, none⟩ := by simp [Addr.add]
 rw [e, World.cell?_alloc_past _ _ _ (show p < w.heap.size from h2), h1]
 rw [List.getElem?_map, List.getElem?_eq_getElem (by omega)] at hj
 simpa [List.getD, show j < xs.length by omega] using hj
theorem IntAt.cells {w : World} {p o n : Nat} {xs : List Int} (h : IntAt w (some ⟨p, o, none⟩) n xs) : ∀ i, i < n → w.cell? ⟨p, o + i, none⟩ = some (I (xs.getD i 0)) := by
 intro i hi
 rcases h.2.2 with h0 | ⟨b, c, e, g⟩
 · omega
 · cases e
   exact g i hi
theorem news_one {xs : List Int} : ∀ u ∈ xs.map I, u.oneCell' = true := by
 intro u hu
 simp at hu
 obtain ⟨x, _, rfl⟩ := hu
 rfl
end
end Go.Proofs.YtfanppifelajnaaDoor
