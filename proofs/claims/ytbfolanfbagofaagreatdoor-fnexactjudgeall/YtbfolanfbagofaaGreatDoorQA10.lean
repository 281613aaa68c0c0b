/- Texts joined: ImplOr, EntriesM, ValM, Wrd1, Wrds, SpecEntries, SpecWord. -/
import Derived.Test.YtbfolanfbagofaaGreatDoorQA07
import Derived.Test.YtbfolanfbagofaaGreatDoorQA09
import Derived.Laws.MakeOwn
import Derived.Test.YtbfolanfbagofaaGreatDoorQA01
import Derived.Deep.RegionHeld3
import Derived.Test.YtbfolanfbagofaaGreatDoorQA08
set_option maxHeartbeats 16000000
set_option maxRecDepth 100000
namespace Go.Proofs.YtbfolanfbagofaaGreatDoor
section
open Go.ChangeShapes Go.WideShapes Go.ChangeAt Go.RowKit
def seenB (os : List Int) (k j : Nat) : Bool := (List.range k).any fun i => os.getD i 0 == (j : Int)
theorem seenB_succ (os : List Int) (k j : Nat) : seenB os (k + 1) j = (seenB os k j || os.getD k 0 == (j : Int)) := by
 unfold seenB
 rw [List.range_succ, List.any_append]
 simp
theorem seenB_iff {os : List Int} {k j : Nat} : seenB os k j = true ↔ ∃ i, i < k ∧ os.getD i 0 = (j : Int) := by
 unfold seenB
 rw [List.any_eq_true]
 constructor
 · rintro ⟨i, hi, h⟩
   exact ⟨i, List.mem_range.1 hi, by simpa using h⟩
 · rintro ⟨i, hi, h⟩
   exact ⟨i, List.mem_range.2 hi, by simpa using h⟩
def SeenAt (w : World) (g nc : Nat) (os : List Int) (k : Nat) : Prop := ∃ A : Array Value, Box w g A 4 ∧ A.size = nc ∧ ∀ j, j < nc → A[j]? = some (.bool (seenB os k j))
theorem SeenAt.lt {w : World} {g nc : Nat} {os : List Int} {k : Nat} (h : SeenAt w g nc os k) : g < w.heap.size := let ⟨_, h, _⟩ := h; h.lt
theorem SeenAt.at_ {w : World} {g nc : Nat} {os : List Int} {k : Nat} (h : SeenAt w g nc os k) {j : Nat} (hj : j < nc) : w.cell? ⟨g, j, none⟩ = some (.bool (seenB os k j)) := let ⟨_, h, _, h2⟩ := h; (h.cell j).trans (h2 j hj)
theorem SeenAt.fr {w : World} {g nc : Nat} {os : List Int} {k : Nat} (h : SeenAt w g nc os k) (j : Nat) : w.frozen? ⟨g, j, none⟩ = false := let ⟨_, h, _⟩ := h; h.frozen j
theorem SeenAt.below {w w' : World} {g nc : Nat} {os : List Int} {k : Nat} (h : SeenAt w g nc os k) {B : Nat} (hb : Below B w w') (hB : w.heap.size ≤ B) : SeenAt w' g nc os k := let ⟨A, h, h2⟩ := h; ⟨A, h.below hb (Nat.lt_of_lt_of_le h.lt hB), h2⟩
theorem SeenAt.mark {w : World} {g nc : Nat} {os : List Int} {k y : Nat} (h : SeenAt w g nc os k) (hy : os.getD k 0 = (y : Int)) : SeenAt (w.setCell ⟨g, y, none⟩ (.bool true)) g nc os (k + 1) := by
 obtain ⟨A, h, h1, h2⟩ := h
 refine ⟨_, h.put y (.bool true), by simpa using h1, fun j hj => ?_⟩
 rw [seenB_succ, hy]
 by_cases e : y = j
 · subst e
   rw [Array.getElem?_setIfInBounds_self_of_lt (by omega)]
   simp
 · rw [Array.getElem?_setIfInBounds_ne e, h2 j hj]
   have : ((y : Int) == (j : Int)) = false := by simp; omega
   rw [this, Bool.or_false]
def momN (f : Nat → CaD) (os : List Int) : Nat → Int
 | 0 => 0
 | k + 1 => linAt f os k
def OrdImpl (f : Nat → CaD) (nc : Nat) (os : List Int) (i : Nat) : Prop := inB (os.getD i 0) 0 ((nc : Int) - 1) = true ∧ (∀ j, j < i → os.getD j 0 ≠ os.getD i 0) ∧ momN f os i ≤ linAt f os i
theorem ord_pos {f : Nat → CaD} {nc : Nat} {os : List Int} {no : Nat} (h : ∀ i, i < no → OrdImpl f nc os i) : ∀ i, i < no → 0 ≤ linAt f os i
 | 0, hi => (h 0 hi).2.2
 | i + 1, hi => Int.le_trans (ord_pos h i (by omega)) (h (i + 1) hi).2.2
theorem ord_iff {f : Nat → CaD} {nc : Nat} {os : List Int} {no : Nat} : (∀ i, i < no → OrdAt f nc os i) ↔ ∀ i, i < no → OrdImpl f nc os i := by
 constructor
 · intro h i hi
   refine ⟨(h i hi).1, (h i hi).2.2.2, ?_⟩
   cases i with
   | zero => exact (h 0 hi).2.1
   | succ i => exact (h (i + 1) hi).2.2.1 (by omega)
 · intro h i hi
   refine ⟨(h i hi).1, ord_pos h i hi, fun hp => ?_, (h i hi).2.1⟩
   cases i with
   | zero => omega
   | succ i => exact (h (i + 1) hi).2.2
theorem infoBool : (Tryz.prog.info? 4).map (fun i => (i.zero, i.size)) = some (some (.bool false), 1) := by kernel_rfl
theorem bytesBool : (Tryz.prog.info? 4).map (fun i => decide (i.bytes ≤ 1024)) = some true := by kernel_rfl
theorem make_bools (n : Nat) (hn : n ≤ 2097152) (W : World) : (Instr.makeSlice 217 (.int .i64 (n : Int)) (.int .i64 (n : Int))).run Tryz.prog W = .ok (.slice (some ⟨W.heap.size, 0, none⟩) n n) (W.alloc (.cells (madeCells #[.bool false] n) 4)) := by
 obtain ⟨i0, hi, hz⟩ := Option.map_eq_some_iff.1 infoBool
 obtain ⟨i1, hi', hb1⟩ := Option.map_eq_some_iff.1 bytesBool
 obtain rfl : i0 = i1 := Option.some.inj (hi.symm.trans hi')
 have hz0 : i0.zero = some (.bool false) := congrArg Prod.fst hz
 have hz1 : i0.size = 1 := congrArg Prod.snd hz
 have hz2 : i0.bytes ≤ 1024 := of_decide_eq_true hb1
 have hby : i0.bytes * n ≤ 1024 * 2097152 := Nat.mul_le_mul hz2 hn
 have h : ((i0.bytes * n : Nat) : Int) ≤ 281474976710656 := by omega
 have hr := run_make (P := Tryz.prog) W 217 4 i0 (.bool false) Tryz.underlying217 hi hz0 .i64 .i64 (n : Int) (n : Int) (by omega) (Int.le_refl _) (by rwa [Int.natCast_mul] at h) (by omega)
 simp only [Int.toNat_natCast, hz1, Nat.mul_one] at hr
 exact hr
theorem seen_new (W : World) (n : Nat) (os : List Int) : SeenAt (W.alloc (.cells (madeCells #[.bool false] n) 4)) W.heap.size n os 0 :=
 ⟨_, box_of W _ _, by simp [madeCells], fun j hj => by simp [madeCells, hj, seenB, Nat.mod_one]⟩
theorem impl_orderOk (v0 v1 v2 v3 v6 v7 : Value) (ca : Option Addr) (nc cc : Nat) (f : Nat → CaD) (oa : Option Addr) (no oc : Nat) (os : List Int) (w : World) (h1 : CasAt w ca nc f) (h2 : IntAt w oa no os) :
   Calls Tryz.prog 128 #[.agg #[v0, v1, v2, v3, .slice ca nc cc, .slice oa no oc, v6, v7]] w fun e w' => ∃ ok, (e = .returned (.bool ok) ∧ (ok = true ↔ ((∀ i, i < no → OrdAt f nc os i) ∧ soN f nc = no))) ∧ Below w.heap.size w w' := by
 have hnc := h1.1
 have hno := h2.2.1
 have H1 : Hid (CasAt w ca nc f) := h1
 have H2 : Hid (IntAt w oa no os) := h2
 obtain ⟨G, hG⟩ : ∃ G : Prop, ((∀ i, i < no → OrdAt f nc os i) ∧ soN f nc = no) = G := ⟨_, rfl⟩
 have HG : Hid (G ↔ ((∀ i, i < no → OrdImpl f nc os i) ∧ soN f nc = no)) := by show _ ↔ _; rw [← hG, ord_iff]
 rw [hG]
 obtain ⟨W, hW⟩ : ∃ W, w.alloc (.cells #[v0, v1, v2, v3, .slice ca nc cc, .slice oa no oc, v6, v7] 43) = W := ⟨_, rfl⟩
 have hb0 : Below w.heap.size w W := by rw [← hW]; exact (Below.refl _ w).alloc (Nat.le_refl _) _
 have BX : Hid (Box W w.heap.size #[v0, v1, v2, v3, .slice ca nc cc, .slice oa no oc, v6, v7] 43) := by rw [← hW]; exact box_of w _ _
 have HB0 : Hid (Below w.heap.size w W) := hb0
 have HW : Hid (w.alloc (.cells #[v0, v1, v2, v3, .slice ca nc cc, .slice oa no oc, v6, v7] 43) = W) := hW
 have hmk := make_bools nc hnc
 clear h1 h2 hb0 hW hG
 go_enter Tryz.func128, Tryz.ntmps128
 go_wp2
 rw [HW.out]
 go_loopw [3, 13] (fun q i wr => ∃ k : Nat, k ≤ nc ∧ q = .int .i64 ((soN f k : Nat) : Int) ∧ i = .int .i64 (k : Int) ∧ Below W.heap.size W wr) (fun _ i _ => nc - (intOf i).toNat)
 case atStart => exact ⟨0, Nat.zero_le _, rfl, rfl, Below.refl _ _⟩
 case round =>
   obtain ⟨k, hk, rfl, rfl, hb⟩ := hrel
   have HB : Hid (Below W.heap.size W wr) := hb
   have HBW : Hid (Below w.heap.size w wr) := HB0.out.trans (hb.mono HB0.out.size)
   have hso := soN_le f k
   obtain ⟨s, hs⟩ : ∃ s, soN f k = s := ⟨_, rfl⟩
   have HS : Hid (soN f k = s) := hs
   rw [hs] at hso ⊢
   clear hb hs
   by_cases hlt : k < nc
   · have hk0 : (0 : Int) ≤ (k : Int) := by omega
     have hk1 : (k : Int) < (nc : Int) := by omega
     rcases (H1.out.below HBW.out (Nat.le_refl _)).2 with h0 | ⟨p1, o1, rfl, g1⟩
     · omega
     obtain ⟨ra, rn, rc, e0, e1, e2, e3, e4, e5, e6, e7, e8⟩ := g1 k hlt
     obtain ⟨C, hC⟩ : ∃ C, f k = C := ⟨_, rfl⟩
     have HC : Hid (f k = C) := hC
     rw [hC] at e0 e1 e2 e3 e4 e5 e6 e7
     obtain ⟨x0, x1, x2, x3, x4, x5, x6, x7⟩ := C
     dsimp only at e0 e1 e2 e3 e4 e5 e6 e7
     clear g1 hC
     go_wp2_with fail
     refine (impl_wasSo ⟨x0, x1, x2, x3, x4, x5, x6, x7⟩ (.slice ra rn rc) _).mono ?_
     rintro e w2 ⟨rfl, hb2⟩
     dsimp only
     have hbx : Below wr.heap.size wr (wr.alloc (.cells (CaA ⟨x0, x1, x2, x3, x4, x5, x6, x7⟩ (.slice ra rn rc)) 84)) := (Below.refl _ wr).alloc (Nat.le_refl _) _
     have hbr : Below wr.heap.size wr w2 := hbx.trans (hb2.mono hbx.size)
     have HB2 : Hid (Below W.heap.size W w2) := HB.out.trans (hbr.mono HB.out.size)
     have HSN : Hid (soN f (k + 1) = s + if 0 ≤ x5 then 1 else 0) := by show _ = _; rw [soN_succ, HC.out, HS.out]
     clear hb2 hbx hbr e0 e1 e2 e3 e4 e5 e6 e7 e8
     by_cases hx5 : 0 ≤ x5
     · rw [show decide (0 ≤ x5) = true from decide_eq_true hx5]
       have HSN : Hid (soN f (k + 1) = s + 1) := by show _ = _; rw [HSN.out, if_pos hx5]
       clear hx5
       go_wp2
       exact ⟨⟨k + 1, by omega, by first | (rw [HSN.out]; done) | (rw [HSN.out]; go_num), by go_num, HB2.out⟩, by simp [intOf]; omega⟩
     · rw [show decide (0 ≤ x5) = false from decide_eq_false hx5]
       have HSN : Hid (soN f (k + 1) = s) := by show _ = _; rw [HSN.out, if_neg hx5]; rfl
       clear hx5
       go_wp2
       exact ⟨⟨k + 1, by omega, by first | (rw [HSN.out]; done) | (rw [HSN.out]; go_num), by go_num, HB2.out⟩, by simp [intOf]; omega⟩
   · obtain rfl : nc = k := by omega
     have BR : Hid (Box wr w.heap.size #[v0, v1, v2, v3, .slice ca nc cc, .slice oa no oc, v6, v7] 43) := BX.out.below HB.out BX.out.lt
     have L1 : w.heap.size < wr.heap.size := BR.out.lt
     obtain ⟨z0, z1, z2, z3, z4, z5, z6, z7⟩ := eight_of BR.out
     go_wp2_with fail
     go_region_held3 (fun w' => w'.cell? ⟨w.heap.size, 4, none⟩ = some (.slice ca nc cc))
       (first | (with_reducible exact K2.out) | go_keep)
       (fail)
     obtain ⟨WS, hWS⟩ : ∃ WS, (wr.alloc (.cells (madeCells #[.bool false] nc) 4)).drew = WS := ⟨_, rfl⟩
     have hbs : Below wr.heap.size wr WS := by rw [← hWS]; exact ((Below.refl _ wr).alloc (Nat.le_refl _) _).drew
     have SE0 : Hid (SeenAt WS wr.heap.size nc os 0) := by rw [← hWS]; exact (seen_new wr nc os).below (Below.refl _ _).drew (Nat.le_refl _)
     have HBS : Hid (Below w.heap.size w WS) := HBW.out.trans (hbs.mono HBW.out.size)
     have BS : Hid (Box WS w.heap.size #[v0, v1, v2, v3, .slice ca nc cc, .slice oa no oc, v6, v7] 43) := BR.out.below hbs BR.out.lt
     obtain ⟨g, hg⟩ : ∃ g, wr.heap.size = g := ⟨_, rfl⟩
     have LG : w.heap.size < g := by rw [← hg]; exact L1
     rw [hWS]
     rw [hg] at SE0 ⊢
     clear z0 z1 z2 z3 z4 z5 z6 z7 L1 hbs hWS hg hmk HB HBW BR
     have hsw : ((s : Nat) : Int) ≤ (nc : Int) := by omega
     obtain ⟨z0, z1, z2, z3, z4, z5, z6, z7⟩ := eight_of BS.out
     go_wp2
     go_loopw [3, 6, 29] (fun q m i wr' => ∃ k : Nat, k ≤ no ∧ q = .int .i64 ((s : Int) - (k : Int)) ∧ m = .int .i64 (momN f os k) ∧ i = .int .i64 (k : Int) ∧ (∀ j, j < k → OrdImpl f nc os j) ∧ SeenAt wr' g nc os k ∧ Below g WS wr') (fun _ _ i _ => no - (intOf i).toNat)
     case atStart => exact ⟨0, Nat.zero_le _, by simp, rfl, rfl, (fun j h => by omega), SE0.out, Below.refl _ _⟩
     case round =>
       clear z0 z1 z2 z3 z4 z5 z6 z7
       obtain ⟨i, hi, rfl, rfl, rfl, hall, hse, hb⟩ := hrel
       have HALL : Hid (∀ j, j < i → OrdImpl f nc os j) := hall
       have HSE : Hid (SeenAt wr g nc os i) := hse
       have HB : Hid (Below g WS wr) := hb
       have HBW : Hid (Below w.heap.size w wr) := HBS.out.trans (hb.mono (Nat.le_of_lt LG))
       have BR : Hid (Box wr w.heap.size #[v0, v1, v2, v3, .slice ca nc cc, .slice oa no oc, v6, v7] 43) := BS.out.below hb LG
       have L1 : w.heap.size < wr.heap.size := BR.out.lt
       obtain ⟨z0, z1, z2, z3, z4, z5, z6, z7⟩ := eight_of BR.out
       clear hall hse hb
       by_cases hlt : i < no
       · have hi0 : (0 : Int) ≤ (i : Int) := by omega
         have hi1 : (i : Int) < (no : Int) := by omega
         rcases (H2.out.below HBW.out (Nat.le_refl _)).2.2 with h0 | ⟨p2, o2, rfl, g2⟩
         · omega
         have e0 := g2 i hlt
         obtain ⟨y, hy⟩ : ∃ y, os.getD i 0 = y := ⟨_, rfl⟩
         have HY : Hid (os.getD i 0 = y) := hy
         obtain ⟨mm, hmm⟩ : ∃ mm, momN f os i = mm := ⟨_, rfl⟩
         have HM : Hid (momN f os i = mm) := hmm
         rw [hy] at e0
         rw [hmm]
         clear g2 hy hmm
         rcases hI : inB y 0 ((nc : Int) - 1) with _ | _
         · have HI : Hid (inB y 0 ((nc : Int) - 1) = false) := hI
           have HNO : Hid (¬ G) := fun hg => by
             have h3 := ((HG.out.1 hg).1 i hlt).1
             rw [HY.out, hI] at h3
             cases h3
           clear hI
           go_wp2_with fail
           refine (within_g _ _ _ _).mono ?_
           rintro e w1 ⟨rfl, rfl⟩
           rw [HI.out]
           go_wp2
           go_ret
           exact ⟨false, ⟨rfl, by simp [HNO.out]⟩, HBW.out⟩
         have HI : Hid (inB y 0 ((nc : Int) - 1) = true) := hI
         obtain ⟨yn, rfl⟩ : ∃ m : Nat, y = (m : Int) := ⟨y.toNat, by have := inB_val hI; omega⟩
         have hyn : yn < nc := by have := inB_val hI; omega
         have hy0 : (0 : Int) ≤ (yn : Int) := by omega
         have hy1 : (yn : Int) < (nc : Int) := by omega
         clear hI
         rcases (H1.out.below HBW.out (Nat.le_refl _)).2 with h0 | ⟨p1, o1, rfl, g1⟩
         · omega
         obtain ⟨ra, rn, rc, _, _, _, _, _, e5, _, _, _⟩ := g1 yn hyn
         obtain ⟨lx, hlx⟩ : ∃ lx, (f yn).ln = lx := ⟨_, rfl⟩
         have HLX : Hid (linAt f os i = lx) := by show _ = _; unfold linAt; rw [HY.out]; simpa using hlx
         rw [hlx] at e5
         clear g1 hlx
         have s0 := HSE.out.at_ hyn
         have s1 := HSE.out.fr yn
         have LS : g < wr.heap.size := HSE.out.lt
         obtain ⟨b, hbb⟩ : ∃ b, seenB os i yn = b := ⟨_, rfl⟩
         have HBB : Hid (seenB os i yn = b) := hbb
         rw [hbb] at s0
         clear hbb
         rcases b with _ | _
         case true =>
           have HNO : Hid (¬ G) := fun hg => by
             obtain ⟨j, hj, hjy⟩ := seenB_iff.1 HBB.out
             have h3 := ((HG.out.1 hg).1 i hlt).2.1 j hj
             rw [HY.out] at h3
             exact h3 hjy
           go_wp2_with fail
           refine (within_g _ _ _ _).mono ?_
           rintro e w1 ⟨rfl, rfl⟩
           rw [HI.out]
           go_wp2
           go_ret
           exact ⟨false, ⟨rfl, by simp [HNO.out]⟩, HBW.out⟩
         by_cases hneg : lx < mm
         · have hn' : decide (lx < mm) = true := decide_eq_true hneg
           have HNO : Hid (¬ G) := fun hg => by
             have h3 := ((HG.out.1 hg).1 i hlt).2.2
             rw [HLX.out, HM.out] at h3
             omega
           clear hneg
           go_wp2_with fail
           refine (within_g _ _ _ _).mono ?_
           rintro e w1 ⟨rfl, rfl⟩
           rw [HI.out]
           go_wp2
           go_ret
           exact ⟨false, ⟨rfl, by simp [HNO.out]⟩, HBW.out⟩
         have hn' : decide (lx < mm) = false := decide_eq_false hneg
         have HNE : Hid (∀ j, j < i → os.getD j 0 ≠ os.getD i 0) := fun j hj e => by
           have := (seenB_iff (os := os) (k := i) (j := yn)).2 ⟨j, hj, e.trans HY.out⟩
           rw [HBB.out] at this
           cases this
         have HOI : Hid (OrdImpl f nc os i) := ⟨by rw [HY.out]; exact HI.out, HNE.out, by rw [HLX.out, HM.out]; omega⟩
         have HMN : Hid (lx = momN f os (i + 1)) := HLX.out.symm
         have HSE2 : Hid (SeenAt (wr.setCell ⟨g, yn, none⟩ (.bool true)) g nc os (i + 1)) := HSE.out.mark HY.out
         have HB2 : Hid (Below g WS (wr.setCell ⟨g, yn, none⟩ (.bool true))) := HB.out.setCell (by simp) _
         clear hneg
         go_wp2_with fail
         refine (within_g _ _ _ _).mono ?_
         rintro e w1 ⟨rfl, rfl⟩
         rw [HI.out]
         go_wp2
         exact ⟨⟨i + 1, by omega, by go_num, by rw [HMN.out], by go_num, all_next HALL.out HOI.out, HSE2.out, HB2.out⟩, by simp [intOf]; omega⟩
       · obtain rfl : no = i := by omega
         by_cases hsn : s = no
         · have hs' : (((s : Int) - (no : Int)) == 0) = true := by simp; omega
           have HYES : Hid G := HG.out.2 ⟨HALL.out, by rw [HS.out]; exact hsn⟩
           clear hsn
           go_wp2
           go_ret
           first | exact ⟨true, ⟨rfl, by simp [HYES.out]⟩, HBW.out⟩ | exact ⟨.inr ⟨rfl, HYES.out⟩, HBW.out⟩
         · have hs' : (((s : Int) - (no : Int)) == 0) = false := by simp; omega
           have HNO : Hid (¬ G) := fun hg => hsn (by rw [← HS.out]; exact (HG.out.1 hg).2)
           clear hsn
           go_wp2
           go_ret
           first | exact ⟨false, ⟨rfl, by simp [HNO.out]⟩, HBW.out⟩ | exact ⟨.inl ⟨rfl, HNO.out⟩, HBW.out⟩
end
def idxF (es : List Int) (at_ : Int) : Nat → Nat → Nat
 | 0, k => k
 | f + 1, k => if es.getD (k * 3) 0 = at_ then k else idxF es at_ f (k + 1)
theorem idxF_eq {es : List Int} {at_ : Int} : ∀ {f k K : Nat}, k ≤ K → K ≤ k + f → (∀ i, k ≤ i → i < K → es.getD (i * 3) 0 ≠ at_) → (K < k + f → es.getD (K * 3) 0 = at_) → idxF es at_ f k = K
 | 0, k, K, h1, h2, _, _ => by unfold idxF; omega
 | f + 1, k, K, h1, h2, h3, h4 => by
   unfold idxF
   by_cases e : k = K
   · subst e
     rw [if_pos (h4 (by omega))]
   · rw [if_neg (h3 k (Nat.le_refl _) (by omega))]
     exact idxF_eq (by omega) (by omega) (fun i hi => h3 i (by omega)) (fun h => h4 (by omega))
def idxE (es : List Int) (n : Nat) (at_ : Int) : Nat := idxF es at_ n 0
theorem idxE_eq {es : List Int} {at_ : Int} {n k : Nat} (h1 : k ≤ n) (h2 : ∀ i, i < k → es.getD (i * 3) 0 ≠ at_) (h3 : k < n → es.getD (k * 3) 0 = at_) : idxE es n at_ = k :=
 idxF_eq (Nat.zero_le _) (by omega) (fun i _ hi => h2 i hi) (fun h => h3 (by omega))
def entM (es : List Int) (n : Nat) (at_ : Int) : Int × Int × Int × Bool :=
 if idxE es n at_ < n then (es.getD (idxE es n at_ * 3) 0, es.getD (idxE es n at_ * 3 + 1) 0, es.getD (idxE es n at_ * 3 + 2) 0, true) else (0, 0, 0, false)
theorem entM_yes {es : List Int} {at_ : Int} {n k : Nat} (h : idxE es n at_ = k) (hk : k < n) : entM es n at_ = (es.getD (k * 3) 0, es.getD (k * 3 + 1) 0, es.getD (k * 3 + 2) 0, true) := by
 unfold entM; rw [h, if_pos hk]
theorem entM_no {es : List Int} {at_ : Int} {n : Nat} (h : idxE es n at_ = n) : entM es n at_ = (0, 0, 0, false) := by
 unfold entM; rw [h, if_neg (by omega)]
section
open Go.RowKit
structure DK where
 sq : Int
 st : Int
 en : Nat
 es : List Int
 cd : Int
 rn : Nat
 rs : List Int
instance : Inhabited DK := ⟨⟨0, 0, 0, [], 0, 0, []⟩⟩
def dk (ds : List DK) (i : Nat) : DK := ds.getD i default
def wordM (x t s : Int) (ds : List DK) (at_ : Int) : Int :=
 if t = 0 then x else if inB t 1 ds.length = true then
   (if (dk ds (t - 1).toNat).sq = s ∧ (dk ds (t - 1).toNat).st = 2 then (entM (dk ds (t - 1).toNat).es (dk ds (t - 1).toNat).en at_).2.2.1 else (entM (dk ds (t - 1).toNat).es (dk ds (t - 1).toNat).en at_).2.1) else 0
def valM (fs : List Int) (m : Nat) (ds : List DK) (at_ : Int) : Int :=
 if 0 ≤ at_ ∧ at_ < (m : Int) then wordM (fs.getD (at_.toNat * 3) 0) (fs.getD (at_.toNat * 3 + 1) 0) (fs.getD (at_.toNat * 3 + 2) 0) ds at_ else 0
def Five (w : World) (b p : Nat) (d : DK) (ea : Option Addr) (ec : Nat) (ra : Option Addr) (rc : Nat) : Prop :=
 w.cell? ⟨b, p, none⟩ = some (I d.sq) ∧ w.cell? ⟨b, p + 1, none⟩ = some (I d.st) ∧ w.cell? ⟨b, p + 2, none⟩ = some (.slice ea d.en ec) ∧ w.cell? ⟨b, p + 3, none⟩ = some (I d.cd) ∧ w.cell? ⟨b, p + 4, none⟩ = some (.slice ra d.rn rc)
theorem Five.below {w w' : World} {b p : Nat} {d : DK} {ea : Option Addr} {ec : Nat} {ra : Option Addr} {rc : Nat} (h : Five w b p d ea ec ra rc) {B : Nat} (hb : Below B w w') (hB : w.heap.size ≤ B) : Five w' b p d ea ec ra rc := by
 have hlt : b < B := Nat.lt_of_lt_of_le (World.block_lt_of_cell? w _ h.1) hB
 obtain ⟨h0, h1, h2, h3, h4⟩ := h
 exact ⟨(hb.cell hlt).trans h0, (hb.cell hlt).trans h1, (hb.cell hlt).trans h2, (hb.cell hlt).trans h3, (hb.cell hlt).trans h4⟩
def DescAt (w : World) (a : Option Addr) (n : Nat) (ds : List DK) : Prop :=
 ds.length = n ∧ n ≤ 1048576 ∧ (n = 0 ∨ ∃ b o, a = some ⟨b, o, none⟩ ∧ ∀ i, i < n → ∃ ea ec ra rc, Five w b (o + i * 5) (dk ds i) ea ec ra rc ∧ TripAt w ea (dk ds i).en (dk ds i).es ∧ IntAt w ra (dk ds i).rn (dk ds i).rs)
theorem DescAt.below {w w' : World} {a : Option Addr} {n : Nat} {ds : List DK} (h : DescAt w a n ds) {B : Nat} (hb : Below B w w') (hB : w.heap.size ≤ B) : DescAt w' a n ds := by
 obtain ⟨h1, h2, h3 | ⟨b, o, h3, h4⟩⟩ := h
 · exact ⟨h1, h2, .inl h3⟩
 · refine ⟨h1, h2, .inr ⟨b, o, h3, fun i hi => ?_⟩⟩
   obtain ⟨ea, ec, ra, rc, h5, h6, h7⟩ := h4 i hi
   exact ⟨ea, ec, ra, rc, h5.below hb hB, h6.below hb hB, h7.below hb hB⟩
end
section
open Go.ChangeShapes Go.WideShapes Go.ChangeAt Go.RowKit
abbrev WordV (x y z : Int) : Value := .agg #[.int .i64 x, .int .i64 y, .int .i64 z]

theorem Box.three {w : World} {b : Nat} {T : TypeId} {x y z : Value} (h : Box w b #[x, y, z] T) :
   w.cell? ⟨b, 0, none⟩ = some x ∧ w.cell? ⟨b, 1, none⟩ = some y ∧ w.cell? ⟨b, 2, none⟩ = some z ∧ w.frozen? ⟨b, 0, none⟩ = false ∧ w.frozen? ⟨b, 1, none⟩ = false ∧ w.frozen? ⟨b, 2, none⟩ = false :=
 ⟨h.cell 0, h.cell 1, h.cell 2, h.frozen 0, h.frozen 1, h.frozen 2⟩
theorem specEntries_any (sq st : Int) (ea : Option Addr) (en ec : Nat) (es : List Int) (cd : Int) (ra : Option Addr) (rn rc : Nat) (at_ : Int) (w : World) (h1 : TripAt w ea en es) :
   Calls Tryz.prog 114 #[DescV sq st ea en ec cd ra rn rc, .int .i64 at_] w fun e w' => e = .returned (.tuple #[EntryV (entM es en at_).1 (entM es en at_).2.1 (entM es en at_).2.2.1, .bool (entM es en at_).2.2.2]) ∧ Below w.heap.size w w' := by
 have H1 : Hid (TripAt w ea en es) := h1
 have hn := h1.2.1
 obtain ⟨r, hr⟩ : ∃ r, entM es en at_ = r := ⟨_, rfl⟩
 rw [hr]
 have HR : Hid (entM es en at_ = r) := hr
 have HB0 : Hid (Below w.heap.size w ((w.alloc (.cells (DescC sq st ea en ec cd ra rn rc) 130)).alloc (.cells #[.int .i64 0, .int .i64 0, .int .i64 0] 161))) := ((Below.refl _ w).alloc (Nat.le_refl _) _).alloc (by simp) _
 have B1 : Hid (Box ((w.alloc (.cells (DescC sq st ea en ec cd ra rn rc) 130)).alloc (.cells #[.int .i64 0, .int .i64 0, .int .i64 0] 161)) (w.heap.size + 1) #[.int .i64 0, .int .i64 0, .int .i64 0] 161) := by
   have := box_of (w.alloc (.cells (DescC sq st ea en ec cd ra rn rc) 130)) #[.int .i64 0, .int .i64 0, .int .i64 0] 161
   simp at this
   exact this
 clear h1 hr
 go_enter Tryz.func114, Tryz.ntmps114
 go_wp2
 go_loopw [6] (fun i wr => ∃ k : Nat, k ≤ en ∧ i = .int .i64 (k : Int) ∧ (∀ i, i < k → es.getD (i * 3) 0 ≠ at_) ∧ Box wr w.heap.size (DescC sq st ea en ec cd ra rn rc) 130 ∧ Box wr (w.heap.size + 1) #[.int .i64 0, .int .i64 0, .int .i64 0] 161 ∧ Below w.heap.size w wr) (fun i _ => en - (intOf i).toNat)
 case atStart => exact ⟨0, Nat.zero_le _, rfl, fun i hi => by omega, (box_of w _ _).alloc _, B1.out, HB0.out⟩
 case round =>
   obtain ⟨k, hk, rfl, hno, hbox, hbox2, hb⟩ := hrel
   have HNO : Hid (∀ i, i < k → es.getD (i * 3) 0 ≠ at_) := hno
   have HBX : Hid (Box wr w.heap.size (DescC sq st ea en ec cd ra rn rc) 130 ∧ Box wr (w.heap.size + 1) #[.int .i64 0, .int .i64 0, .int .i64 0] 161) := ⟨hbox, hbox2⟩
   obtain ⟨_, _, x2, _, _, _, _, _, _, _⟩ := hbox.desc
   obtain ⟨y0, y1, y2, f0, f1, f2⟩ := hbox2.three
   clear hno hbox hbox2 B1 HB0
   by_cases hlt : k < en
   · rcases (H1.out.below hb (Nat.le_refl _)).2.2 with h0 | ⟨p1, o1, rfl, g1⟩
     · omega
     have hk0 : (0 : Int) ≤ (k : Int) := by omega
     have hk1 : (k : Int) < (en : Int) := by omega
     have e1 := g1 (k * 3) (by omega)
     have e2 := g1 (k * 3 + 1) (by omega)
     have e3 := g1 (k * 3 + 2) (by omega)
     obtain ⟨x, hx⟩ : ∃ x, es.getD (k * 3) 0 = x := ⟨_, rfl⟩
     obtain ⟨y, hy⟩ : ∃ y, es.getD (k * 3 + 1) 0 = y := ⟨_, rfl⟩
     obtain ⟨z, hz⟩ : ∃ z, es.getD (k * 3 + 2) 0 = z := ⟨_, rfl⟩
     have HX : Hid (es.getD (k * 3) 0 = x ∧ es.getD (k * 3 + 1) 0 = y ∧ es.getD (k * 3 + 2) 0 = z) := ⟨hx, hy, hz⟩
     rw [hx] at e1
     rw [hy, ← Nat.add_assoc] at e2
     rw [hz, ← Nat.add_assoc] at e3
     clear g1 hx hy hz
     by_cases hxa : x = at_
     · have hxb : (x == at_) = true := by simpa using hxa
       have HV : Hid (r = (x, y, z, true)) := by
         show _ = _
         obtain ⟨q1, q2, q3⟩ := HX.out
         rw [← HR.out, entM_yes (idxE_eq (Nat.le_of_lt hlt) HNO.out fun _ => q1.trans hxa) hlt, q1, q2, q3]
       clear hxa
       go_wp2
       (try simp only [Exit.inBlock, Exit.then])
       refine bodyPost_ret (v := .tuple #[EntryV x y z, .bool true]) (by simp [results, Tryz.results114, go_sem, y0, y1, y2]; try rfl) rfl ?_
       refine ⟨by rw [HV.out], ((hb.setCell (by simp) _).setCell (by simp) _).setCell (by simp) _⟩
     · have hxb : (x == at_) = false := by simpa using hxa
       have HN : Hid (∀ i, i < k + 1 → es.getD (i * 3) 0 ≠ at_) := fun i hi => by
         by_cases e : i = k
         · rw [e, HX.out.1]; exact hxa
         · exact HNO.out i (by omega)
       clear hxa
       go_wp2
       exact ⟨⟨k + 1, by omega, by go_num, HN.out, HBX.out.1, HBX.out.2, hb⟩, by simp [intOf]; omega⟩
   · obtain rfl : k = en := by omega
     have HV : Hid (r = (0, 0, 0, false)) := by show _ = _; rw [← HR.out, entM_no (idxE_eq (Nat.le_refl _) HNO.out fun h => by omega)]
     go_wp2
     (try simp only [Exit.inBlock, Exit.then])
     refine bodyPost_ret (v := .tuple #[EntryV 0 0 0, .bool false]) (by simp [results, Tryz.results114, go_sem, y0, y1, y2]; try rfl) rfl ?_
     refine ⟨by rw [HV.out], ?_⟩
     first
       | exact ((hb.setCell (by simp) _).setCell (by simp) _).setCell (by simp) _
       | exact hb
end
section
open Go.ChangeShapes Go.WideShapes Go.ChangeAt Go.RowKit Go.Joins
def wordOkM (n t s th : Int) : Bool := if t = 0 then (decide (s = 0) && inB n 0 1000) else (decide (n = 0) && (inB t 1 th && inB s 1 1000000))
theorem specWordOk_any (n t s th : Int) (w : World) : Calls Tryz.prog 113 #[WordV n t s, .int .i64 th] w fun e w' => e = .returned (.bool (wordOkM n t s th)) ∧ Below w.heap.size w w' := by
 have hb0 : Below w.heap.size w (w.alloc (.cells #[.int .i64 n, .int .i64 t, .int .i64 s] 125)) := (Below.refl _ w).alloc (Nat.le_refl _) _
 have HB : Hid _ := hb0
 clear hb0
 obtain ⟨B, hB⟩ : ∃ B, wordOkM n t s th = B := ⟨_, rfl⟩
 rw [hB]
 have HM : Hid (wordOkM n t s th = B) := hB
 clear hB
 by_cases ht : t = 0
 · subst ht
   by_cases hs : s = 0
   · subst hs
     go_enter Tryz.func113, Tryz.ntmps113
     go_wp2_with fail
     refine (l1In_g n 0 1000 _).mono ?_
     rintro e w1 ⟨rfl, rfl⟩
     rw [show inB n 0 1000 = B from by rw [← HM.out]; simp [wordOkM]]
     go_wp2
     go_ret
     exact ⟨rfl, HB.out⟩
   · have hs' : (s == 0) = false := by simpa using hs
     obtain rfl : B = false := by rw [← HM.out]; simp [wordOkM, hs]
     clear HM hs
     go_enter Tryz.func113, Tryz.ntmps113
     go_wp2
     go_ret
     exact ⟨rfl, HB.out⟩
 · have ht' : (t == 0) = false := by simpa using ht
   by_cases hn : n = 0
   · subst hn
     rcases hi : inB t 1 th with _ | _
     · obtain rfl : B = false := by rw [← HM.out]; simp [wordOkM, ht, hi]
       have HI : Hid (inB t 1 th = false) := hi
       clear HM ht hi
       go_enter Tryz.func113, Tryz.ntmps113
       go_wp2_with fail
       refine (l1In_g t 1 th _).mono ?_
       rintro e w1 ⟨rfl, rfl⟩
       rw [HI.out]
       go_wp2
       go_ret
       exact ⟨rfl, HB.out⟩
     · have HI : Hid (inB t 1 th = true) := hi
       have HS : Hid (inB s 1 1000000 = B) := by show _ = _; rw [← HM.out]; simp [wordOkM, ht, hi]
       clear HM ht hi
       go_enter Tryz.func113, Tryz.ntmps113
       go_wp2_with fail
       refine (l1In_g t 1 th _).mono ?_
       rintro e w1 ⟨rfl, rfl⟩
       rw [HI.out]
       go_wp2_with fail
       refine (l1In_g s 1 1000000 _).mono ?_
       rintro e w2 ⟨rfl, rfl⟩
       rw [HS.out]
       go_wp2
       go_ret
       exact ⟨rfl, HB.out⟩
   · have hn' : (n == 0) = false := by simpa using hn
     obtain rfl : B = false := by rw [← HM.out]; simp [wordOkM, ht, hn]
     clear HM hn ht
     go_enter Tryz.func113, Tryz.ntmps113
     go_wp2
     go_ret
     exact ⟨rfl, HB.out⟩
end
end Go.Proofs.YtbfolanfbagofaaGreatDoor
