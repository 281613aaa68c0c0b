/- Texts joined: MchG, IsMark, WordOk, EqualI, ImplDesc, CutAt. -/
import Derived.Test.YtbfolanfbagofaaGreatDoorQA01
import Derived.Test.YtbfolanfbagofaaGreatDoorQA11
import Derived.Test.YtbfolanfbagofaaGreatDoorQA12
import Derived.Test.YtbfolanfbagofaaGreatDoorQA10
import Derived.Test.YtbfolanfbagofaaGreatDoorQA04
import Derived.OpenShut
import Derived.ChangeOld
import Derived.Test.YtbfolanfbagofaaGreatDoorQA07
import Derived.Handy
import Derived.Test.YtbfolanfbagofaaGreatDoorQA08
set_option maxHeartbeats 1000000
set_option maxRecDepth 100000
namespace Go.Proofs.YtbfolanfbagofaaGreatDoor
section
open Go.ChangeShapes Go.WideShapes Go.ChangeAt Go.RowKit
structure MaD where
 nw : Nat
 ws : List Int
 nd : Nat
 ds : List DK
 nt : Nat
 ts : Nat → ThD
 tm : Int
 nc : Nat
 f : Nat → CaD
 no : Nat
 os : List Int
 nh : Nat
 hs : List Int
 st : Int
structure MaAt (w : World) (wa da ta ca oa ha : Option Addr) (M : MaD) : Prop where
 words : TripAt w wa M.nw M.ws
 descs : DescAt w da M.nd M.ds
 ths : ThsAt w ta M.nt M.ts
 calls : CasAt w ca M.nc M.f
 ord : IntAt w oa M.no M.os
 held : IntAt w ha M.nh M.hs
theorem MaAt.below {w w' : World} {wa da ta ca oa ha : Option Addr} {M : MaD} (h : MaAt w wa da ta ca oa ha M) {B : Nat} (hb : Below B w w') (hB : w.heap.size ≤ B) : MaAt w' wa da ta ca oa ha M :=
 ⟨h.words.below hb hB, h.descs.below hb hB, h.ths.below hb hB, h.calls.below hb hB, h.ord.below hb hB, h.held.below hb hB⟩
structure MachGood (M : MaD) : Prop where
 mem : MemGood M.ws M.nw M.ds
 many : M.nd = M.nt
 time : inB M.tm 0 100000 = true
 first : OkRows M.hs M.st
 calls : CallsGood M.f M.nc M.os M.no M.nt M.tm
 ths : ∀ i, i < M.nt → ThGood (M.ts i) M.nt ∧ TaskSpec M.f M.nc (i : Int) (M.ts i)
abbrev MaV (wa : Option Addr) (wc : Nat) (da : Option Addr) (dc : Nat) (ta : Option Addr) (tc : Nat) (ca : Option Addr) (cc : Nat) (oa : Option Addr) (oc : Nat) (ha : Option Addr) (hc : Nat) (M : MaD) : Value := .agg #[.slice wa M.nw wc, .slice da M.nd dc, .slice ta M.nt tc, .int .i64 M.tm, .slice ca M.nc cc, .slice oa M.no oc, .slice ha M.nh hc, .int .i64 M.st]
theorem isMark_any (n t s : Int) (w : World) : Calls Tryz.prog 138 #[WordV n t s] w fun e w' => e = .returned (.bool (t != 0)) ∧ Below w.heap.size w w' := by
 go_enter Tryz.func138, Tryz.ntmps138
 go_wp2
 go_ret
 exact ⟨rfl, (Below.refl _ w).alloc (Nat.le_refl _) _⟩
end
section
open Go.ChangeShapes Go.WideShapes Go.ChangeAt Go.RowKit Go.Joins
theorem implWordOk_any (n t s th : Int) (w : World) : Calls Tryz.prog 151 #[WordV n t s, .int .i64 th] w fun e w' => e = .returned (.bool (wordOkM n t s th)) ∧ Below w.heap.size w w' := by
 have hb0 : Below w.heap.size w (w.alloc (.cells #[.int .i64 n, .int .i64 t, .int .i64 s] 125)) := (Below.refl _ w).alloc (Nat.le_refl _) _
 have HB : Hid _ := hb0
 clear hb0
 obtain ⟨B, hB⟩ : ∃ B, wordOkM n t s th = B := ⟨_, rfl⟩
 rw [hB]
 have HM : Hid (wordOkM n t s th = B) := hB
 clear hB
 have HW : Hid (∀ w1, Below (w.heap.size + 1) (w.alloc (.cells #[.int .i64 n, .int .i64 t, .int .i64 s] 125)) w1 → w1.cell? ⟨w.heap.size, 0, none⟩ = some (.int .i64 n) ∧ w1.cell? ⟨w.heap.size, 1, none⟩ = some (.int .i64 t) ∧ w1.cell? ⟨w.heap.size, 2, none⟩ = some (.int .i64 s) ∧ Below w.heap.size w w1) := fun w1 h =>
   ⟨by rw [h.cell (by simp)]; simp, by rw [h.cell (by simp)]; simp, by rw [h.cell (by simp)]; simp, HB.out.trans (h.mono (by simp))⟩
 clear HB
 by_cases ht : t = 0
 · subst ht
   go_enter Tryz.func151, Tryz.ntmps151
   go_wp2_with fail
   refine (isMark_any n 0 s _).mono ?_
   rintro e w1 ⟨rfl, hb1⟩
   obtain ⟨c0, c1, c2, hb⟩ := HW.out w1 (by simpa using hb1)
   rw [show ((0 : Int) != 0) = false from rfl]
   clear hb1 HW
   rcases hi : inB n 0 1000 with _ | _
   · obtain rfl : B = false := by rw [← HM.out]; simp [wordOkM, hi]
     have HI : Hid (inB n 0 1000 = false) := hi
     clear HM hi
     go_wp2_with fail
     refine (within_g n 0 1000 _).mono ?_
     rintro e w2 ⟨rfl, rfl⟩
     rw [HI.out]
     go_wp2
     go_ret
     exact ⟨rfl, hb⟩
   · have HI : Hid (inB n 0 1000 = true) := hi
     have HS : Hid ((s == 0) = B) := by show _ = _; rw [← HM.out, Bool.eq_iff_iff]; simp [wordOkM, hi]
     clear HM hi
     go_wp2_with fail
     refine (within_g n 0 1000 _).mono ?_
     rintro e w2 ⟨rfl, rfl⟩
     rw [HI.out]
     go_wp2
     go_ret
     exact ⟨by rw [HS.out]; rfl, hb⟩
 · have ht' : (t != 0) = true := by simpa using ht
   go_enter Tryz.func151, Tryz.ntmps151
   go_wp2_with fail
   refine (isMark_any n t s _).mono ?_
   rintro e w1 ⟨rfl, hb1⟩
   obtain ⟨c0, c1, c2, hb⟩ := HW.out w1 (by simpa using hb1)
   rw [ht']
   clear hb1 HW ht'
   by_cases hn : n = 0
   · subst hn
     rcases hi : inB t 1 th with _ | _
     · obtain rfl : B = false := by rw [← HM.out]; simp [wordOkM, ht, hi]
       have HI : Hid (inB t 1 th = false) := hi
       clear HM ht hi
       go_wp2_with fail
       refine (within_g t 1 th _).mono ?_
       rintro e w2 ⟨rfl, rfl⟩
       rw [HI.out]
       go_wp2
       go_ret
       exact ⟨rfl, hb⟩
     · have HI : Hid (inB t 1 th = true) := hi
       have HS : Hid (inB s 1 1000000 = B) := by show _ = _; rw [← HM.out]; simp [wordOkM, ht, hi]
       clear HM ht hi
       go_wp2_with fail
       refine (within_g t 1 th _).mono ?_
       rintro e w2 ⟨rfl, rfl⟩
       rw [HI.out]
       go_wp2_with fail
       refine (within_g s 1 1000000 _).mono ?_
       rintro e w3 ⟨rfl, rfl⟩
       rw [HS.out]
       go_wp2
       go_ret
       exact ⟨rfl, hb⟩
   · have hn' : (n == 0) = false := by simpa using hn
     obtain rfl : B = false := by rw [← HM.out]; simp [wordOkM, ht, hn]
     clear HM hn ht
     go_wp2
     go_ret
     exact ⟨rfl, hb⟩
end
section
open Go.ChangeShapes Go.WideShapes Go.ChangeAt Go.RowKit
theorem equalI_any (a1 a2 : Option Addr) (n1 n2 c1 c2 : Nat) (xs ys : List Int) (w : World) (h1 : IntAt w a1 n1 xs) (h2 : IntAt w a2 n2 ys) :
   Calls Tryz.prog 47 #[.slice a1 n1 c1, .slice a2 n2 c2] w fun e w' => e = .returned (.bool (decide (xs = ys))) ∧ Below w.heap.size w w' := by
 have H1 : Hid (IntAt w a1 n1 xs) := h1
 have H2 : Hid (IntAt w a2 n2 ys) := h2
 have L1 : Hid (xs.length = n1) := h1.1
 have L2 : Hid (ys.length = n2) := h2.1
 have b1 := h1.2.1
 have b2 := h2.2.1
 obtain ⟨B, hB⟩ : ∃ B, decide (xs = ys) = B := ⟨_, rfl⟩
 rw [hB]
 have HB : Hid (decide (xs = ys) = B) := hB
 clear h1 h2 hB
 by_cases hn : n1 = n2
 · subst hn
   go_enter Tryz.func47, Tryz.ntmps47
   go_wp2
   go_loopw [13] (fun i wr => ∃ k : Nat, k ≤ n1 ∧ i = .int .i64 k ∧ xs.take k = ys.take k ∧ Below w.heap.size w wr) (fun i _ => n1 - (intOf i).toNat)
   case atStart => exact ⟨0, Nat.zero_le _, rfl, rfl, Below.refl _ _⟩
   case round =>
     obtain ⟨k, hk1, rfl, ht, hb⟩ := hrel
     have HT : Hid (xs.take k = ys.take k) := ht
     clear ht
     by_cases hlt1 : k < n1
     · rcases (H1.out.below hb (Nat.le_refl _)).2.2 with h | ⟨p1, o1, rfl, g1⟩
       · omega
       rcases (H2.out.below hb (Nat.le_refl _)).2.2 with h | ⟨p2, o2, rfl, g2⟩
       · omega
       obtain ⟨x, hx⟩ : ∃ x, xs.getD k 0 = x := ⟨_, rfl⟩
       obtain ⟨y, hy⟩ : ∃ y, ys.getD k 0 = y := ⟨_, rfl⟩
       have e1 := g1 k hlt1
       have e2 := g2 k hlt1
       rw [hx] at e1
       rw [hy] at e2
       have HX : Hid (xs.getD k 0 = x) := hx
       have HY : Hid (ys.getD k 0 = y) := hy
       clear g1 g2 hx hy
       go_wp2
       go_region
       go_wp2
       · have hd : (x != y) = true := by assumption
         go_ret
         refine ⟨?_, hb.drew⟩
         have e : xs ≠ ys := fun e => by rw [← HX.out, ← HY.out, e] at hd; simp at hd
         rw [← HB.out]
         simp [e]
       · have hd : (x != y) = false := by assumption
         have l1 := L1.out
         have l2 := L2.out
         exact ⟨⟨k + 1, by omega, by go_num, take_nextI (by omega) (by omega) HT.out (by rw [HX.out, HY.out]; simpa using hd), hb.drew⟩, by simp [intOf]; omega⟩
     · obtain rfl : k = n1 := by omega
       go_wp2
       go_ret
       refine ⟨?_, hb⟩
       have l1 := L1.out
       have l2 := L2.out
       have e : xs = ys := by
         have e0 := HT.out
         rwa [List.take_of_length_le (by omega), List.take_of_length_le (by omega)] at e0
       rw [← HB.out]
       simp [e]
 · have hne : ((n1 : Int) != (n2 : Int)) = true := by simp; omega
   have hxy : xs ≠ ys := fun e => by have l1 := L1.out; have l2 := L2.out; rw [e] at l1; omega
   have HX : Hid (xs ≠ ys) := hxy
   clear hxy
   go_enter Tryz.func47, Tryz.ntmps47
   go_wp2
   go_ret
   refine ⟨?_, Below.refl _ _⟩
   rw [← HB.out]
   simp [HX.out]
theorem implResSame_any (a1 a2 : Option Addr) (n1 n2 c1 c2 : Nat) (k1 k2 : Int) (xs ys : List Int) (w : World) (h1 : IntAt w a1 n1 xs) (h2 : IntAt w a2 n2 ys) :
   Calls Tryz.prog 136 #[ResV k1 a1 n1 c1, ResV k2 a2 n2 c2] w fun e w' => e = .returned (.bool (decide (k1 = k2 ∧ xs = ys))) ∧ Below w.heap.size w w' := by
 have H1 : Hid (IntAt w a1 n1 xs) := h1
 have H2 : Hid (IntAt w a2 n2 ys) := h2
 obtain ⟨B, hB⟩ : ∃ B, decide (k1 = k2 ∧ xs = ys) = B := ⟨_, rfl⟩
 rw [hB]
 have HB : Hid (decide (k1 = k2 ∧ xs = ys) = B) := hB
 clear h1 h2 hB
 by_cases hk : k1 = k2
 · subst hk
   go_enter Tryz.func136, Tryz.ntmps136
   go_wp2_with fail
   have hb0 : Below w.heap.size w ((w.alloc (.cells #[.int .i64 k1, .slice a1 n1 c1] 82)).alloc (.cells #[.int .i64 k1, .slice a2 n2 c2] 82)) := ((Below.refl _ w).alloc (Nat.le_refl _) _).alloc (by simp) _
   refine (equalI_any a1 a2 n1 n2 c1 c2 xs ys _ (H1.out.below hb0 (Nat.le_refl _)) (H2.out.below hb0 (Nat.le_refl _))).mono ?_
   rintro e w1 ⟨rfl, hb1⟩
   have hb2 := hb0.trans (hb1.mono (by simp; omega))
   clear hb0 hb1
   by_cases hx : xs = ys
   · rw [show decide (xs = ys) = true from decide_eq_true hx]
     have HX : Hid (xs = ys) := hx
     clear hx
     go_wp2
     go_ret
     exact ⟨by rw [← HB.out]; simp [HX.out], hb2⟩
   · rw [show decide (xs = ys) = false from decide_eq_false hx]
     have HX : Hid (¬ xs = ys) := hx
     clear hx
     go_wp2
     go_ret
     exact ⟨by rw [← HB.out]; simp [HX.out], hb2⟩
 · have hk' : (k1 == k2) = false := by simpa using hk
   have HK : Hid (¬ k1 = k2) := hk
   clear hk
   go_enter Tryz.func136, Tryz.ntmps136
   go_wp2
   go_ret
   refine ⟨?_, ((Below.refl _ _).alloc (Nat.le_refl _) _).alloc (by simp) _⟩
   rw [← HB.out]
   simp [HK.out]
theorem entriesOk_any (a : Option Addr) (n c : Nat) (es : List Int) (w : World) (h : TripAt w a n es) :
   Calls Tryz.prog 170 #[.slice a n c] w fun e w' => e = .returned (.bool (decide (∀ i, i < n → entOk es i))) ∧ Below w.heap.size w w' := by
 have HH : Hid (TripAt w a n es) := h
 have hn := h.2.1
 obtain ⟨B, hB⟩ : ∃ B, decide (∀ i, i < n → entOk es i) = B := ⟨_, rfl⟩
 rw [hB]
 have HB : Hid (decide (∀ i, i < n → entOk es i) = B) := hB
 clear h hB
 go_enter Tryz.func170, Tryz.ntmps170
 go_wp2
 go_loopw [3, 8] (fun l i wr => ∃ k : Nat, k ≤ n ∧ l = .int .i64 (leastE es k) ∧ i = .int .i64 (k : Int) ∧ (∀ i, i < k → entOk es i) ∧ Below w.heap.size w wr) (fun _ i _ => n - (intOf i).toNat)
 case atStart => exact ⟨0, Nat.zero_le _, rfl, rfl, fun i hi => by omega, Below.refl _ _⟩
 case round =>
   obtain ⟨k, hk, rfl, rfl, hok, hb⟩ := hrel
   have HOK : Hid (∀ i, i < k → entOk es i) := hok
   clear hok
   by_cases hlt : k < n
   · rcases (HH.out.below hb (Nat.le_refl _)).2.2 with h0 | ⟨p1, o1, rfl, g1⟩
     · omega
     have hk0 : (0 : Int) ≤ (k : Int) := by omega
     have hk1 : (k : Int) < (n : Int) := by omega
     have e1 := g1 (k * 3) (by omega)
     have e2 := g1 (k * 3 + 1) (by omega)
     have e3 := g1 (k * 3 + 2) (by omega)
     have HI : Hid (entOk es k ↔ (inB (es.getD (k * 3) 0) (leastE es k) 19 = true ∧ inB (es.getD (k * 3 + 1) 0) 0 1000 = true ∧ inB (es.getD (k * 3 + 2) 0) 0 1000 = true)) := entOk_iff HOK.out
     have hlo := leastE_ok HOK.out
     have HN : Hid (leastE es (k + 1) = es.getD (k * 3) 0 + 1) := by unfold leastE; rw [if_neg (by omega), Nat.add_sub_cancel]; exact rfl
     obtain ⟨x, hx⟩ : ∃ x, es.getD (k * 3) 0 = x := ⟨_, rfl⟩
     obtain ⟨y, hy⟩ : ∃ y, es.getD (k * 3 + 1) 0 = y := ⟨_, rfl⟩
     obtain ⟨z, hz⟩ : ∃ z, es.getD (k * 3 + 2) 0 = z := ⟨_, rfl⟩
     obtain ⟨l, hl⟩ : ∃ l, leastE es k = l := ⟨_, rfl⟩
     rw [hl] at hlo HI ⊢
     rw [hx] at e1 HI HN
     rw [hy, ← Nat.add_assoc] at e2
     rw [hy] at HI
     rw [hz, ← Nat.add_assoc] at e3
     rw [hz] at HI
     clear g1 hx hy hz hl
     have hbx : Below w.heap.size w (wr.alloc (.cells #[.int .i64 x, .int .i64 y, .int .i64 z] 161)) := hb.alloc hb.size _
     have HBX : Hid _ := hbx
     have NO : Hid (¬ entOk es k → B = false) := fun hno => by rw [← HB.out]; exact decide_eq_false fun hall => hno (hall k hlt)
     clear hbx
     rcases hA : inB x l 19 with _ | _
     · obtain rfl : B = false := NO.out fun h => by have := (HI.out.1 h).1; rw [hA] at this; cases this
       have HA : Hid (inB x l 19 = false) := hA
       clear hA HI NO HB
       go_wp2_with fail
       refine (within_g x l 19 _).mono ?_
       rintro e w1 ⟨rfl, rfl⟩
       rw [HA.out]
       go_wp2
       go_ret
       exact ⟨rfl, HBX.out⟩
     · have hx2 : l ≤ x ∧ x ≤ 19 := by unfold inB at hA; simpa using hA
       have HA : Hid (inB x l 19 = true) := hA
       rcases hO : inB y 0 1000 with _ | _
       · obtain rfl : B = false := NO.out fun h => by have := (HI.out.1 h).2.1; rw [hO] at this; cases this
         have HO : Hid (inB y 0 1000 = false) := hO
         clear hA hO HI NO HB
         go_wp2_with fail
         refine (within_g x l 19 _).mono ?_
         rintro e w1 ⟨rfl, rfl⟩
         rw [HA.out]
         go_wp2_with fail
         refine (within_g y 0 1000 _).mono ?_
         rintro e w2 ⟨rfl, rfl⟩
         rw [HO.out]
         go_wp2
         go_ret
         exact ⟨rfl, HBX.out⟩
       · have HO : Hid (inB y 0 1000 = true) := hO
         rcases hW : inB z 0 1000 with _ | _
         · obtain rfl : B = false := NO.out fun h => by have := (HI.out.1 h).2.2; rw [hW] at this; cases this
           have HW : Hid (inB z 0 1000 = false) := hW
           clear hA hO hW HI NO HB
           go_wp2_with fail
           refine (within_g x l 19 _).mono ?_
           rintro e w1 ⟨rfl, rfl⟩
           rw [HA.out]
           go_wp2_with fail
           refine (within_g y 0 1000 _).mono ?_
           rintro e w2 ⟨rfl, rfl⟩
           rw [HO.out]
           go_wp2_with fail
           refine (within_g z 0 1000 _).mono ?_
           rintro e w3 ⟨rfl, rfl⟩
           rw [HW.out]
           go_wp2
           go_ret
           exact ⟨rfl, HBX.out⟩
         · have HW : Hid (inB z 0 1000 = true) := hW
           have YES : Hid (entOk es k) := HI.out.2 ⟨hA, hO, hW⟩
           clear hA hO hW HI NO
           go_wp2_with fail
           refine (within_g x l 19 _).mono ?_
           rintro e w1 ⟨rfl, rfl⟩
           rw [HA.out]
           go_wp2_with fail
           refine (within_g y 0 1000 _).mono ?_
           rintro e w2 ⟨rfl, rfl⟩
           rw [HO.out]
           go_wp2_with fail
           refine (within_g z 0 1000 _).mono ?_
           rintro e w3 ⟨rfl, rfl⟩
           rw [HW.out]
           go_wp2
           exact ⟨⟨k + 1, by omega, by rw [HN.out], by go_num, fun i hi => by
             by_cases e : i = k
             · rw [e]; exact YES.out
             · exact HOK.out i (by omega), HBX.out⟩, by simp [intOf]; omega⟩
   · obtain rfl : k = n := by omega
     obtain rfl : B = true := by rw [← HB.out]; exact decide_eq_true HOK.out
     go_wp2
     go_ret
     exact ⟨rfl, hb⟩
theorem implDescOk_any (sq st : Int) (ea : Option Addr) (en ec : Nat) (es : List Int) (cd : Int) (ra : Option Addr) (rn rc : Nat) (rs : List Int) (w : World) (h1 : TripAt w ea en es) (h2 : IntAt w ra rn rs) :
   Calls Tryz.prog 150 #[DescV sq st ea en ec cd ra rn rc] w fun e w' => e = .returned (.bool (descOkM sq st en es cd rn)) ∧ Below w.heap.size w w' := by
 have H1 : Hid (TripAt w ea en es) := h1
 have H2 : Hid (IntAt w ra rn rs) := h2
 have HL : Hid (rs.length = rn) := h2.1
 have hb0 : Below w.heap.size w (w.alloc (.cells (DescC sq st ea en ec cd ra rn rc) 130)) := (Below.refl _ w).alloc (Nat.le_refl _) _
 have HB0 : Hid _ := hb0
 obtain ⟨B, hB⟩ : ∃ B, descOkM sq st en es cd rn = B := ⟨_, rfl⟩
 rw [hB]
 have HM : Hid (descOkM sq st en es cd rn = B) := hB
 clear h1 h2 hb0 hB
 by_cases hq : sq = 0
 · subst hq
   by_cases hs : st = 0
   · subst hs
     by_cases he : en = 0
     · subst he
       have HR : Hid (decide (cd = 0 ∧ rs = []) = B) := by
         show _ = _
         rw [← HM.out]
         unfold descOkM
         rw [if_pos rfl, decide_eq_decide, ← HL.out]
         simp
       clear HM
       go_enter Tryz.func150, Tryz.ntmps150
       go_wp2_with fail
       refine (implResSame_any ra none rn 0 rc 0 cd 0 rs [] _ (H2.out.below HB0.out (Nat.le_refl _)) ⟨rfl, by omega, .inl rfl⟩).mono ?_
       rintro e w1 ⟨rfl, hb1⟩
       rw [HR.out]
       have hb : Below w.heap.size w w1 := HB0.out.trans (hb1.mono (by simp))
       clear hb1
       go_wp2
       go_ret
       exact ⟨rfl, hb⟩
     · have he' : ((en : Int) == 0) = false := by simpa using he
       obtain rfl : B = false := by rw [← HM.out]; simp [descOkM, he]
       clear HM he
       go_enter Tryz.func150, Tryz.ntmps150
       go_wp2
       go_ret
       exact ⟨rfl, HB0.out⟩
   · have hs' : (st == 0) = false := by simpa using hs
     obtain rfl : B = false := by rw [← HM.out]; simp [descOkM, hs]
     clear HM hs
     go_enter Tryz.func150, Tryz.ntmps150
     go_wp2
     go_ret
     exact ⟨rfl, HB0.out⟩
 · have hq' : (sq == 0) = false := by simpa using hq
   rcases hA : inB sq 1 1000000 with _ | _
   · obtain rfl : B = false := by rw [← HM.out]; simp [descOkM, hq, hA]
     have HA : Hid (inB sq 1 1000000 = false) := hA
     clear HM hA hq
     go_enter Tryz.func150, Tryz.ntmps150
     go_wp2_with fail
     refine (within_g sq 1 1000000 _).mono ?_
     rintro e w1 ⟨rfl, rfl⟩
     rw [HA.out]
     go_wp2
     go_ret
     exact ⟨rfl, HB0.out⟩
   · have HA : Hid (inB sq 1 1000000 = true) := hA
     rcases hS : inB st 1 3 with _ | _
     · obtain rfl : B = false := by rw [← HM.out]; simp [descOkM, hq, hS]
       have HS : Hid (inB st 1 3 = false) := hS
       clear HM hA hS hq
       go_enter Tryz.func150, Tryz.ntmps150
       go_wp2_with fail
       refine (within_g sq 1 1000000 _).mono ?_
       rintro e w1 ⟨rfl, rfl⟩
       rw [HA.out]
       go_wp2_with fail
       refine (within_g st 1 3 _).mono ?_
       rintro e w2 ⟨rfl, rfl⟩
       rw [HS.out]
       go_wp2
       go_ret
       exact ⟨rfl, HB0.out⟩
     · have HS : Hid (inB st 1 3 = true) := hS
       have HE : Hid (decide (∀ i, i < en → entOk es i) = B) := by show _ = _; rw [← HM.out]; simp [descOkM, hq, hA, hS]
       clear HM hA hS hq
       go_enter Tryz.func150, Tryz.ntmps150
       go_wp2_with fail
       refine (within_g sq 1 1000000 _).mono ?_
       rintro e w1 ⟨rfl, rfl⟩
       rw [HA.out]
       go_wp2_with fail
       refine (within_g st 1 3 _).mono ?_
       rintro e w2 ⟨rfl, rfl⟩
       rw [HS.out]
       go_wp2_with fail
       refine (entriesOk_any ea en ec es _ (H1.out.below HB0.out (Nat.le_refl _))).mono ?_
       rintro e w3 ⟨rfl, hb3⟩
       rw [HE.out]
       have hb : Below w.heap.size w w3 := HB0.out.trans (hb3.mono (by simp))
       clear hb3
       go_wp2
       go_ret
       exact ⟨rfl, hb⟩
theorem atClos_any (b : Nat) (x y z at_ : Int) (w : World) (hb : b < w.heap.size) (h1 : w.cell? ⟨b, 0, none⟩ = some (.int .i64 at_)) :
   Calls Tryz.prog 181 #[EntryV x y z, .pointer (some ⟨b, 0, none⟩)] w fun e w' => e = .returned (.bool (x == at_)) ∧ Below w.heap.size w w' := by
 go_enter Tryz.func181, Tryz.ntmps181
 go_wp2
 go_ret
 exact ⟨rfl, (Below.refl _ w).alloc (Nat.le_refl _) _⟩
abbrev AtClos (b : Nat) : Value := .func (.func 181) #[] #[.pointer (some ⟨b, 0, none⟩)]
theorem indexAt_any (b : Nat) (at_ : Int) (a : Option Addr) (n c : Nat) (es : List Int) (w : World) (h : TripAt w a n es) (hb : b < w.heap.size) (h1 : w.cell? ⟨b, 0, none⟩ = some (.int .i64 at_)) :
   Calls Tryz.prog 180 #[.slice a n c, AtClos b] w fun e w' => e = .returned (.int .i64 (if idxE es n at_ < n then (idxE es n at_ : Int) else -1)) ∧ Below w.heap.size w w' := by
 have H : Hid (TripAt w a n es) := h
 have H1 : Hid (w.cell? ⟨b, 0, none⟩ = some (.int .i64 at_)) := h1
 have hn := h.2.1
 obtain ⟨r, hr⟩ : ∃ r : Int, (if idxE es n at_ < n then (idxE es n at_ : Int) else -1) = r := ⟨_, rfl⟩
 rw [hr]
 have HR : Hid ((if idxE es n at_ < n then (idxE es n at_ : Int) else -1) = r) := hr
 clear h h1 hr
 go_enter Tryz.func180, Tryz.ntmps180
 go_wp2
 go_loopw [8] (fun i wr => ∃ k : Nat, k ≤ n ∧ i = .int .i64 k ∧ (∀ i, i < k → es.getD (i * 3) 0 ≠ at_) ∧ Below w.heap.size w wr) (fun i _ => n - (intOf i).toNat)
 case atStart => exact ⟨0, Nat.zero_le _, rfl, fun i hi => by omega, Below.refl _ _⟩
 case round =>
   obtain ⟨k, hk, rfl, hno, hbr⟩ := hrel
   have HNO : Hid (∀ i, i < k → es.getD (i * 3) 0 ≠ at_) := hno
   clear hno
   by_cases hlt : k < n
   · rcases (H.out.below hbr (Nat.le_refl _)).2.2 with h0 | ⟨p1, o1, rfl, g1⟩
     · omega
     have hk0 : (0 : Int) ≤ (k : Int) := by omega
     have hk1 : (k : Int) < (n : Int) := by omega
     have e1 := g1 (k * 3) (by omega)
     have e2 := g1 (k * 3 + 1) (by omega)
     have e3 := g1 (k * 3 + 2) (by omega)
     obtain ⟨x, hx⟩ : ∃ x, es.getD (k * 3) 0 = x := ⟨_, rfl⟩
     obtain ⟨y, hy⟩ : ∃ y, es.getD (k * 3 + 1) 0 = y := ⟨_, rfl⟩
     obtain ⟨z, hz⟩ : ∃ z, es.getD (k * 3 + 2) 0 = z := ⟨_, rfl⟩
     have HX : Hid (es.getD (k * 3) 0 = x) := hx
     rw [hx] at e1
     rw [hy, ← Nat.add_assoc] at e2
     rw [hz, ← Nat.add_assoc] at e3
     clear g1 hx hy hz
     go_wp2_with fail
     have hlb : b < wr.heap.size := Nat.lt_of_lt_of_le hb hbr.size
     refine (atClos_any b x y z at_ _ hlb ((hbr.cell (show b < w.heap.size from hb)).trans H1.out)).mono ?_
     rintro e w1 ⟨rfl, hb1⟩
     have hb2 := hbr.trans (hb1.mono hbr.size)
     clear hb1 e1 e2 e3
     by_cases hxa : x = at_
     · rw [show (x == at_) = true by simpa using hxa]
       have HV : Hid ((k : Int) = r) := by
         show _ = _
         rw [← HR.out, idxE_eq (Nat.le_of_lt hlt) HNO.out fun _ => HX.out.trans hxa, if_pos hlt]
       clear hxa
       go_wp2
       go_ret
       exact ⟨by rw [← HV.out]; rfl, hb2⟩
     · rw [show (x == at_) = false by simpa using hxa]
       have HN : Hid (∀ i, i < k + 1 → es.getD (i * 3) 0 ≠ at_) := fun i hi => by
         by_cases e : i = k
         · rw [e, HX.out]; exact hxa
         · exact HNO.out i (by omega)
       clear hxa
       go_wp2
       exact ⟨⟨k + 1, by omega, by go_num, HN.out, hb2⟩, by simp [intOf]; omega⟩
   · obtain rfl : k = n := by omega
     have HV : Hid ((-1 : Int) = r) := by show _ = _; rw [← HR.out, idxE_eq (Nat.le_refl _) HNO.out fun h => by omega, if_neg (by omega)]
     go_wp2
     go_ret
     exact ⟨by rw [← HV.out]; rfl, hbr⟩
theorem cutAt_none (at_ : Int) (a : Option Addr) (n c : Nat) (es : List Int) (w : World) (h : TripAt w a n es) (hk : ¬ idxE es n at_ < n) :
   Calls Tryz.prog 166 #[.slice a n c, .int .i64 at_] w fun e w' => e = .returned (.slice none 0 0) ∧ Below w.heap.size w w' := by
 have H : Hid (TripAt w a n es) := h
 have hb0 : Below w.heap.size w (w.alloc (.cells #[.int .i64 at_] 3)) := (Below.refl _ w).alloc (Nat.le_refl _) _
 have HB0 : Hid _ := hb0
 have HK : Hid (¬ idxE es n at_ < n) := hk
 clear h hb0 hk
 go_enter Tryz.func166, Tryz.ntmps166
 go_wp2_with fail
 refine (indexAt_any _ at_ a n c es _ (H.out.below HB0.out (Nat.le_refl _)) (by simp) (by simp)).mono ?_
 rintro e w1 ⟨rfl, hb1⟩
 rw [if_neg HK.out]
 have hb : Below w.heap.size w w1 := HB0.out.trans (hb1.mono (by simp))
 clear hb1
 go_wp2
 go_ret
 exact ⟨rfl, hb⟩
theorem cutAt_some (at_ : Int) (b o : Nat) (n c k : Nat) (es : List Int) (w : World) (h : TripAt w (some ⟨b, o, none⟩) n es) (hc : n ≤ c) (hk : idxE es n at_ = k) (hlt : k < n) :
   Calls Tryz.prog 166 #[.slice (some ⟨b, o, none⟩) n c, .int .i64 at_] w fun e w' => e = .returned (.slice (some ⟨b, o + k * 3, none⟩) 1 1) ∧ Below w.heap.size w w' := by
 have H : Hid (TripAt w (some ⟨b, o, none⟩) n es) := h
 have hn := h.2.1
 have hb0 : Below w.heap.size w (w.alloc (.cells #[.int .i64 at_] 3)) := (Below.refl _ w).alloc (Nat.le_refl _) _
 have HB0 : Hid _ := hb0
 have HK : Hid (idxE es n at_ = k) := hk
 clear h hb0 hk
 go_enter Tryz.func166, Tryz.ntmps166
 go_wp2_with fail
 refine (indexAt_any _ at_ _ n c es _ (H.out.below HB0.out (Nat.le_refl _)) (by simp) (by simp)).mono ?_
 rintro e w1 ⟨rfl, hb1⟩
 rw [HK.out, if_pos hlt]
 have hb : Below w.heap.size w w1 := HB0.out.trans (hb1.mono (by simp))
 have k0 : (0 : Int) ≤ (k : Int) := by omega
 have k1 : ¬ (k : Int) < 0 := by omega
 have k2 : (k : Int) + 1 ≤ (c : Int) := by omega
 have k3 : (k : Int) < (c : Int) := by omega
 clear hb1
 go_wp2
 go_ret
 refine ⟨?_, hb⟩
 rfl
end
end Go.Proofs.YtbfolanfbagofaaGreatDoor
