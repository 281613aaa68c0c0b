/- Texts joined: ImplDesc, CutAt, ImplEntries, LaidBy, RegTail. -/
import Derived.Test.YtlkdjeneggfhgaaGreatDoorQW08
import Derived.Test.YtlkdjeneggfhgaaGreatDoorQW05
import Derived.Test.YtlkdjeneggfhgaaGreatDoorQW13
import Derived.Test.YtlkdjeneggfhgaaGreatDoorQW11
import Derived.Deep.RegionHeld3
set_option maxHeartbeats 1000000
set_option maxRecDepth 100000
namespace Go.Proofs.YtlkdjeneggfhgaaGreatDoor
section
open Go.ChangeShapes Go.WideShapes Go.ChangeAt Go.RowKit
theorem entriesOk_any (a : Option Addr) (n c : Nat) (es : List Int) (w : World) (h : TripAt w a n es) :
   Calls Tryz.prog 187 #[.slice a n c] w fun e w' => e = .returned (.bool (decide (∀ i, i < n → entOk es i))) ∧ Below w.heap.size w w' := by
 have HH : Hid (TripAt w a n es) := h
 have hn := h.2.1
 obtain ⟨B, hB⟩ : ∃ B, decide (∀ i, i < n → entOk es i) = B := ⟨_, rfl⟩
 rw [hB]
 have HB : Hid (decide (∀ i, i < n → entOk es i) = B) := hB
 clear h hB
 go_enter Tryz.func187, Tryz.ntmps187
 go_wp2
 go_loopw [3, 8] (fun l i wr => ∃ k : Nat, k ≤ n ∧ l = .int .i64 (leastE es k) ∧ i = .int .i64 (k : Int) ∧ (∀ i, i < k → entOk es i) ∧ Below w.heap.size w wr) (fun _ i _ => n - (intOf i).toNat)
 case atStart => exact ⟨0, Nat.zero_le _, rfl, rfl, fun i hi => by omega, Below.refl _ _⟩
 case round =>
   obtain ⟨k, hk, rfl, rfl, hok, hb⟩ := hrel
   have HOK : Hid (∀ i, i < k → entOk es i) := hok
   clear hok
   by_cases hlt : k < n
   · rcases (HH.out.below hb (Nat.le_refl _)).2.2 with h0 | ⟨p1, o1, rfl, g1⟩
     · omega
     have hk0 : (0 : Int) ≤ (k : Int) := by omega
     have hk1 : (k : Int) < (n : Int) := by omega
     have e1 := g1 (k * 3) (by omega)
     have e2 := g1 (k * 3 + 1) (by omega)
     have e3 := g1 (k * 3 + 2) (by omega)
     have HI : Hid (entOk es k ↔ (inB (es.getD (k * 3) 0) (leastE es k) 19 = true ∧ inB (es.getD (k * 3 + 1) 0) 0 1000 = true ∧ inB (es.getD (k * 3 + 2) 0) 0 1000 = true)) := entOk_iff HOK.out
     have hlo := leastE_ok HOK.out
     have HN : Hid (leastE es (k + 1) = es.getD (k * 3) 0 + 1) := by unfold leastE; rw [if_neg (by omega), Nat.add_sub_cancel]; exact rfl
     obtain ⟨x, hx⟩ : ∃ x, es.getD (k * 3) 0 = x := ⟨_, rfl⟩
     obtain ⟨y, hy⟩ : ∃ y, es.getD (k * 3 + 1) 0 = y := ⟨_, rfl⟩
     obtain ⟨z, hz⟩ : ∃ z, es.getD (k * 3 + 2) 0 = z := ⟨_, rfl⟩
     obtain ⟨l, hl⟩ : ∃ l, leastE es k = l := ⟨_, rfl⟩
     rw [hl] at hlo HI ⊢
     rw [hx] at e1 HI HN
     rw [hy, ← Nat.add_assoc] at e2
     rw [hy] at HI
     rw [hz, ← Nat.add_assoc] at e3
     rw [hz] at HI
     clear g1 hx hy hz hl
     have hbx : Below w.heap.size w (wr.alloc (.cells #[.int .i64 x, .int .i64 y, .int .i64 z] 154)) := hb.alloc hb.size _
     have HBX : Hid _ := hbx
     have NO : Hid (¬ entOk es k → B = false) := fun hno => by rw [← HB.out]; exact decide_eq_false fun hall => hno (hall k hlt)
     clear hbx
     rcases hA : inB x l 19 with _ | _
     · obtain rfl : B = false := NO.out fun h => by have := (HI.out.1 h).1; rw [hA] at this; cases this
       have HA : Hid (inB x l 19 = false) := hA
       clear hA HI NO HB
       go_wp2_with fail
       refine (within_g x l 19 _).mono ?_
       rintro e w1 ⟨rfl, rfl⟩
       rw [HA.out]
       go_wp2
       go_ret
       exact ⟨rfl, HBX.out⟩
     · have hx2 : l ≤ x ∧ x ≤ 19 := by unfold inB at hA; simpa using hA
       have HA : Hid (inB x l 19 = true) := hA
       rcases hO : inB y 0 1000 with _ | _
       · obtain rfl : B = false := NO.out fun h => by have := (HI.out.1 h).2.1; rw [hO] at this; cases this
         have HO : Hid (inB y 0 1000 = false) := hO
         clear hA hO HI NO HB
         go_wp2_with fail
         refine (within_g x l 19 _).mono ?_
         rintro e w1 ⟨rfl, rfl⟩
         rw [HA.out]
         go_wp2_with fail
         refine (within_g y 0 1000 _).mono ?_
         rintro e w2 ⟨rfl, rfl⟩
         rw [HO.out]
         go_wp2
         go_ret
         exact ⟨rfl, HBX.out⟩
       · have HO : Hid (inB y 0 1000 = true) := hO
         rcases hW : inB z 0 1000 with _ | _
         · obtain rfl : B = false := NO.out fun h => by have := (HI.out.1 h).2.2; rw [hW] at this; cases this
           have HW : Hid (inB z 0 1000 = false) := hW
           clear hA hO hW HI NO HB
           go_wp2_with fail
           refine (within_g x l 19 _).mono ?_
           rintro e w1 ⟨rfl, rfl⟩
           rw [HA.out]
           go_wp2_with fail
           refine (within_g y 0 1000 _).mono ?_
           rintro e w2 ⟨rfl, rfl⟩
           rw [HO.out]
           go_wp2_with fail
           refine (within_g z 0 1000 _).mono ?_
           rintro e w3 ⟨rfl, rfl⟩
           rw [HW.out]
           go_wp2
           go_ret
           exact ⟨rfl, HBX.out⟩
         · have HW : Hid (inB z 0 1000 = true) := hW
           have YES : Hid (entOk es k) := HI.out.2 ⟨hA, hO, hW⟩
           clear hA hO hW HI NO
           go_wp2_with fail
           refine (within_g x l 19 _).mono ?_
           rintro e w1 ⟨rfl, rfl⟩
           rw [HA.out]
           go_wp2_with fail
           refine (within_g y 0 1000 _).mono ?_
           rintro e w2 ⟨rfl, rfl⟩
           rw [HO.out]
           go_wp2_with fail
           refine (within_g z 0 1000 _).mono ?_
           rintro e w3 ⟨rfl, rfl⟩
           rw [HW.out]
           go_wp2
           exact ⟨⟨k + 1, by omega, by rw [HN.out], by go_num, fun i hi => by
             by_cases e : i = k
             · rw [e]; exact YES.out
             · exact HOK.out i (by omega), HBX.out⟩, by simp [intOf]; omega⟩
   · obtain rfl : k = n := by omega
     obtain rfl : B = true := by rw [← HB.out]; exact decide_eq_true HOK.out
     go_wp2
     go_ret
     exact ⟨rfl, hb⟩
theorem implDescOk_any (sq st : Int) (ea : Option Addr) (en ec : Nat) (es : List Int) (cd : Int) (ra : Option Addr) (rn rc : Nat) (rs : List Int) (w : World) (h1 : TripAt w ea en es) (h2 : IntAt w ra rn rs) :
   Calls Tryz.prog 164 #[DescV sq st ea en ec cd ra rn rc] w fun e w' => e = .returned (.bool (descOkM sq st en es cd rn)) ∧ Below w.heap.size w w' := by
 have H1 : Hid (TripAt w ea en es) := h1
 have H2 : Hid (IntAt w ra rn rs) := h2
 have HL : Hid (rs.length = rn) := h2.1
 have hb0 : Below w.heap.size w (w.alloc (.cells (DescC sq st ea en ec cd ra rn rc) 149)) := (Below.refl _ w).alloc (Nat.le_refl _) _
 have HB0 : Hid _ := hb0
 obtain ⟨B, hB⟩ : ∃ B, descOkM sq st en es cd rn = B := ⟨_, rfl⟩
 rw [hB]
 have HM : Hid (descOkM sq st en es cd rn = B) := hB
 clear h1 h2 hb0 hB
 by_cases hq : sq = 0
 · subst hq
   by_cases hs : st = 0
   · subst hs
     by_cases he : en = 0
     · subst he
       have HR : Hid (decide (cd = 0 ∧ rs = []) = B) := by
         show _ = _
         rw [← HM.out]
         unfold descOkM
         rw [if_pos rfl, decide_eq_decide, ← HL.out]
         simp
       clear HM
       go_enter Tryz.func164, Tryz.ntmps164
       go_wp2_with fail
       refine (implResSame_any ra none rn 0 rc 0 cd 0 rs [] _ (H2.out.below HB0.out (Nat.le_refl _)) ⟨rfl, by omega, .inl rfl⟩).mono ?_
       rintro e w1 ⟨rfl, hb1⟩
       rw [HR.out]
       have hb : Below w.heap.size w w1 := HB0.out.trans (hb1.mono (by simp))
       clear hb1
       go_wp2
       go_ret
       exact ⟨rfl, hb⟩
     · have he' : ((en : Int) == 0) = false := by simpa using he
       obtain rfl : B = false := by rw [← HM.out]; simp [descOkM, he]
       clear HM he
       go_enter Tryz.func164, Tryz.ntmps164
       go_wp2
       go_ret
       exact ⟨rfl, HB0.out⟩
   · have hs' : (st == 0) = false := by simpa using hs
     obtain rfl : B = false := by rw [← HM.out]; simp [descOkM, hs]
     clear HM hs
     go_enter Tryz.func164, Tryz.ntmps164
     go_wp2
     go_ret
     exact ⟨rfl, HB0.out⟩
 · have hq' : (sq == 0) = false := by simpa using hq
   rcases hA : inB sq 1 1000000 with _ | _
   · obtain rfl : B = false := by rw [← HM.out]; simp [descOkM, hq, hA]
     have HA : Hid (inB sq 1 1000000 = false) := hA
     clear HM hA hq
     go_enter Tryz.func164, Tryz.ntmps164
     go_wp2_with fail
     refine (within_g sq 1 1000000 _).mono ?_
     rintro e w1 ⟨rfl, rfl⟩
     rw [HA.out]
     go_wp2
     go_ret
     exact ⟨rfl, HB0.out⟩
   · have HA : Hid (inB sq 1 1000000 = true) := hA
     rcases hS : inB st 1 3 with _ | _
     · obtain rfl : B = false := by rw [← HM.out]; simp [descOkM, hq, hS]
       have HS : Hid (inB st 1 3 = false) := hS
       clear HM hA hS hq
       go_enter Tryz.func164, Tryz.ntmps164
       go_wp2_with fail
       refine (within_g sq 1 1000000 _).mono ?_
       rintro e w1 ⟨rfl, rfl⟩
       rw [HA.out]
       go_wp2_with fail
       refine (within_g st 1 3 _).mono ?_
       rintro e w2 ⟨rfl, rfl⟩
       rw [HS.out]
       go_wp2
       go_ret
       exact ⟨rfl, HB0.out⟩
     · have HS : Hid (inB st 1 3 = true) := hS
       have HE : Hid (decide (∀ i, i < en → entOk es i) = B) := by show _ = _; rw [← HM.out]; simp [descOkM, hq, hA, hS]
       clear HM hA hS hq
       go_enter Tryz.func164, Tryz.ntmps164
       go_wp2_with fail
       refine (within_g sq 1 1000000 _).mono ?_
       rintro e w1 ⟨rfl, rfl⟩
       rw [HA.out]
       go_wp2_with fail
       refine (within_g st 1 3 _).mono ?_
       rintro e w2 ⟨rfl, rfl⟩
       rw [HS.out]
       go_wp2_with fail
       refine (entriesOk_any ea en ec es _ (H1.out.below HB0.out (Nat.le_refl _))).mono ?_
       rintro e w3 ⟨rfl, hb3⟩
       rw [HE.out]
       have hb : Below w.heap.size w w3 := HB0.out.trans (hb3.mono (by simp))
       clear hb3
       go_wp2
       go_ret
       exact ⟨rfl, hb⟩
theorem atClos_any (b : Nat) (x y z at_ : Int) (w : World) (hb : b < w.heap.size) (h1 : w.cell? ⟨b, 0, none⟩ = some (.int .i64 at_)) :
   Calls Tryz.prog 199 #[EntryV x y z, .pointer (some ⟨b, 0, none⟩)] w fun e w' => e = .returned (.bool (x == at_)) ∧ Below w.heap.size w w' := by
 go_enter Tryz.func199, Tryz.ntmps199
 go_wp2
 go_ret
 exact ⟨rfl, (Below.refl _ w).alloc (Nat.le_refl _) _⟩
abbrev AtClos (b : Nat) : Value := .func (.func 199) #[] #[.pointer (some ⟨b, 0, none⟩)]
theorem indexAt_any (b : Nat) (at_ : Int) (a : Option Addr) (n c : Nat) (es : List Int) (w : World) (h : TripAt w a n es) (hb : b < w.heap.size) (h1 : w.cell? ⟨b, 0, none⟩ = some (.int .i64 at_)) :
   Calls Tryz.prog 198 #[.slice a n c, AtClos b] w fun e w' => e = .returned (.int .i64 (if idxE es n at_ < n then (idxE es n at_ : Int) else -1)) ∧ Below w.heap.size w w' := by
 have H : Hid (TripAt w a n es) := h
 have H1 : Hid (w.cell? ⟨b, 0, none⟩ = some (.int .i64 at_)) := h1
 have hn := h.2.1
 obtain ⟨r, hr⟩ : ∃ r : Int, (if idxE es n at_ < n then (idxE es n at_ : Int) else -1) = r := ⟨_, rfl⟩
 rw [hr]
 have HR : Hid ((if idxE es n at_ < n then (idxE es n at_ : Int) else -1) = r) := hr
 clear h h1 hr
 go_enter Tryz.func198, Tryz.ntmps198
 go_wp2
 go_loopw [8] (fun i wr => ∃ k : Nat, k ≤ n ∧ i = .int .i64 k ∧ (∀ i, i < k → es.getD (i * 3) 0 ≠ at_) ∧ Below w.heap.size w wr) (fun i _ => n - (intOf i).toNat)
 case atStart => exact ⟨0, Nat.zero_le _, rfl, fun i hi => by omega, Below.refl _ _⟩
 case round =>
   obtain ⟨k, hk, rfl, hno, hbr⟩ := hrel
   have HNO : Hid (∀ i, i < k → es.getD (i * 3) 0 ≠ at_) := hno
   clear hno
   by_cases hlt : k < n
   · rcases (H.out.below hbr (Nat.le_refl _)).2.2 with h0 | ⟨p1, o1, rfl, g1⟩
     · omega
     have hk0 : (0 : Int) ≤ (k : Int) := by omega
     have hk1 : (k : Int) < (n : Int) := by omega
     have e1 := g1 (k * 3) (by omega)
     have e2 := g1 (k * 3 + 1) (by omega)
     have e3 := g1 (k * 3 + 2) (by omega)
     obtain ⟨x, hx⟩ : ∃ x, es.getD (k * 3) 0 = x := ⟨_, rfl⟩
     obtain ⟨y, hy⟩ : ∃ y, es.getD (k * 3 + 1) 0 = y := ⟨_, rfl⟩
     obtain ⟨z, hz⟩ : ∃ z, es.getD (k * 3 + 2) 0 = z := ⟨_, rfl⟩
     have HX : Hid (es.getD (k * 3) 0 = x) := hx
     rw [hx] at e1
     rw [hy, ← Nat.add_assoc] at e2
     rw [hz, ← Nat.add_assoc] at e3
     clear g1 hx hy hz
     go_wp2_with fail
     have hlb : b < wr.heap.size := Nat.lt_of_lt_of_le hb hbr.size
     refine (atClos_any b x y z at_ _ hlb ((hbr.cell (show b < w.heap.size from hb)).trans H1.out)).mono ?_
     rintro e w1 ⟨rfl, hb1⟩
     have hb2 := hbr.trans (hb1.mono hbr.size)
     clear hb1 e1 e2 e3
     by_cases hxa : x = at_
     · rw [show (x == at_) = true by simpa using hxa]
       have HV : Hid ((k : Int) = r) := by
         show _ = _
         rw [← HR.out, idxE_eq (Nat.le_of_lt hlt) HNO.out fun _ => HX.out.trans hxa, if_pos hlt]
       clear hxa
       go_wp2
       go_ret
       exact ⟨by rw [← HV.out]; rfl, hb2⟩
     · rw [show (x == at_) = false by simpa using hxa]
       have HN : Hid (∀ i, i < k + 1 → es.getD (i * 3) 0 ≠ at_) := fun i hi => by
         by_cases e : i = k
         · rw [e, HX.out]; exact hxa
         · exact HNO.out i (by omega)
       clear hxa
       go_wp2
       exact ⟨⟨k + 1, by omega, by go_num, HN.out, hb2⟩, by simp [intOf]; omega⟩
   · obtain rfl : k = n := by omega
     have HV : Hid ((-1 : Int) = r) := by show _ = _; rw [← HR.out, idxE_eq (Nat.le_refl _) HNO.out fun h => by omega, if_neg (by omega)]
     go_wp2
     go_ret
     exact ⟨by rw [← HV.out]; rfl, hbr⟩
theorem cutAt_none (at_ : Int) (a : Option Addr) (n c : Nat) (es : List Int) (w : World) (h : TripAt w a n es) (hk : ¬ idxE es n at_ < n) :
   Calls Tryz.prog 183 #[.slice a n c, .int .i64 at_] w fun e w' => e = .returned (.slice none 0 0) ∧ Below w.heap.size w w' := by
 have H : Hid (TripAt w a n es) := h
 have hb0 : Below w.heap.size w (w.alloc (.cells #[.int .i64 at_] 3)) := (Below.refl _ w).alloc (Nat.le_refl _) _
 have HB0 : Hid _ := hb0
 have HK : Hid (¬ idxE es n at_ < n) := hk
 clear h hb0 hk
 go_enter Tryz.func183, Tryz.ntmps183
 go_wp2_with fail
 refine (indexAt_any _ at_ a n c es _ (H.out.below HB0.out (Nat.le_refl _)) (by simp) (by simp)).mono ?_
 rintro e w1 ⟨rfl, hb1⟩
 rw [if_neg HK.out]
 have hb : Below w.heap.size w w1 := HB0.out.trans (hb1.mono (by simp))
 clear hb1
 go_wp2
 go_ret
 exact ⟨rfl, hb⟩
theorem cutAt_some (at_ : Int) (b o : Nat) (n c k : Nat) (es : List Int) (w : World) (h : TripAt w (some ⟨b, o, none⟩) n es) (hc : n ≤ c) (hk : idxE es n at_ = k) (hlt : k < n) :
   Calls Tryz.prog 183 #[.slice (some ⟨b, o, none⟩) n c, .int .i64 at_] w fun e w' => e = .returned (.slice (some ⟨b, o + k * 3, none⟩) 1 1) ∧ Below w.heap.size w w' := by
 have H : Hid (TripAt w (some ⟨b, o, none⟩) n es) := h
 have hn := h.2.1
 have hb0 : Below w.heap.size w (w.alloc (.cells #[.int .i64 at_] 3)) := (Below.refl _ w).alloc (Nat.le_refl _) _
 have HB0 : Hid _ := hb0
 have HK : Hid (idxE es n at_ = k) := hk
 clear h hb0 hk
 go_enter Tryz.func183, Tryz.ntmps183
 go_wp2_with fail
 refine (indexAt_any _ at_ _ n c es _ (H.out.below HB0.out (Nat.le_refl _)) (by simp) (by simp)).mono ?_
 rintro e w1 ⟨rfl, hb1⟩
 rw [HK.out, if_pos hlt]
 have hb : Below w.heap.size w w1 := HB0.out.trans (hb1.mono (by simp))
 have k0 : (0 : Int) ≤ (k : Int) := by omega
 have k1 : ¬ (k : Int) < 0 := by omega
 have k2 : (k : Int) + 1 ≤ (c : Int) := by omega
 have k3 : (k : Int) < (c : Int) := by omega
 clear hb1
 go_wp2
 go_ret
 refine ⟨?_, hb⟩
 rfl
theorem implEntries_any (sq st : Int) (ea : Option Addr) (en ec : Nat) (es : List Int) (cd : Int) (ra : Option Addr) (rn rc : Nat) (at_ : Int) (w : World) (h1 : TripAt w ea en es) (hc : en ≤ ec) :
   Calls Tryz.prog 188 #[DescV sq st ea en ec cd ra rn rc, .int .i64 at_] w fun e w' => e = .returned (.tuple #[EntryV (entM es en at_).1 (entM es en at_).2.1 (entM es en at_).2.2.1, .bool (entM es en at_).2.2.2]) ∧ Below w.heap.size w w' := by
 have H1 : Hid (TripAt w ea en es) := h1
 have hn := h1.2.1
 obtain ⟨r, hr⟩ : ∃ r, entM es en at_ = r := ⟨_, rfl⟩
 rw [hr]
 have HR : Hid (entM es en at_ = r) := hr
 have HB0 : Hid (Below w.heap.size w ((w.alloc (.cells (DescC sq st ea en ec cd ra rn rc) 149)).alloc (.cells #[.int .i64 0, .int .i64 0, .int .i64 0] 154))) := ((Below.refl _ w).alloc (Nat.le_refl _) _).alloc (by simp) _
 have B1 : Hid (Box ((w.alloc (.cells (DescC sq st ea en ec cd ra rn rc) 149)).alloc (.cells #[.int .i64 0, .int .i64 0, .int .i64 0] 154)) (w.heap.size + 1) #[.int .i64 0, .int .i64 0, .int .i64 0] 154) := by
   have := box_of (w.alloc (.cells (DescC sq st ea en ec cd ra rn rc) 149)) #[.int .i64 0, .int .i64 0, .int .i64 0] 154
   simp at this
   exact this
 clear h1 hr
 by_cases hk : idxE es en at_ < en
 · rcases H1.out.2.2 with h0 | ⟨p1, o1, rfl, g0⟩
   · omega
   obtain ⟨k, hK⟩ : ∃ k, idxE es en at_ = k := ⟨_, rfl⟩
   have HK : Hid (idxE es en at_ = k) := hK
   have HV : Hid (r = (es.getD (k * 3) 0, es.getD (k * 3 + 1) 0, es.getD (k * 3 + 2) 0, true)) := by show _ = _; rw [← HR.out, entM_yes hK (hK ▸ hk)]
   have hlt : k < en := hK ▸ hk
   clear hk hK g0
   go_enter Tryz.func188, Tryz.ntmps188
   go_wp2_with fail
   refine (cutAt_some at_ p1 o1 en ec k es _ (H1.out.below HB0.out (Nat.le_refl _)) hc HK.out hlt).mono ?_
   rintro e w1 ⟨rfl, hb1⟩
   have hb : Below w.heap.size w w1 := HB0.out.trans (hb1.mono (by simp; omega))
   have B1' : Hid (Box w1 (w.heap.size + 1) #[.int .i64 0, .int .i64 0, .int .i64 0] 154) := B1.out.below hb1 (by simp)
   obtain ⟨y0, y1, y2, f0, f1, f2⟩ := B1'.out.three
   rcases (H1.out.below hb (Nat.le_refl _)).2.2 with h0 | ⟨p1', o1', e0, g1⟩
   · omega
   cases e0
   have e1 := g1 (k * 3) (by omega)
   have e2 := g1 (k * 3 + 1) (by omega)
   have e3 := g1 (k * 3 + 2) (by omega)
   obtain ⟨x, hx⟩ : ∃ x, es.getD (k * 3) 0 = x := ⟨_, rfl⟩
   obtain ⟨y, hy⟩ : ∃ y, es.getD (k * 3 + 1) 0 = y := ⟨_, rfl⟩
   obtain ⟨z, hz⟩ : ∃ z, es.getD (k * 3 + 2) 0 = z := ⟨_, rfl⟩
   rw [hx, hy, hz] at HV
   rw [hx] at e1
   rw [hy, ← Nat.add_assoc] at e2
   rw [hz, ← Nat.add_assoc] at e3
   clear g1 hx hy hz hb1
   go_wp2
   (try simp only [Exit.inBlock, Exit.then])
   refine bodyPost_ret (v := .tuple #[EntryV x y z, .bool true]) (by simp [results, Tryz.results188, go_sem, y0, y1, y2]; try rfl) rfl ?_
   exact ⟨by rw [HV.out], ((hb.setCell (by simp) _).setCell (by simp) _).setCell (by simp) _⟩
 · have HK : Hid (¬ idxE es en at_ < en) := hk
   have HV : Hid (r = (0, 0, 0, false)) := by show _ = _; rw [← HR.out]; unfold entM; rw [if_neg hk]
   clear hk
   go_enter Tryz.func188, Tryz.ntmps188
   go_wp2_with fail
   refine (cutAt_none at_ ea en ec es _ (H1.out.below HB0.out (Nat.le_refl _)) HK.out).mono ?_
   rintro e w1 ⟨rfl, hb1⟩
   have hb : Below w.heap.size w w1 := HB0.out.trans (hb1.mono (by simp; omega))
   have B1' : Hid (Box w1 (w.heap.size + 1) #[.int .i64 0, .int .i64 0, .int .i64 0] 154) := B1.out.below hb1 (by simp)
   obtain ⟨y0, y1, y2, f0, f1, f2⟩ := B1'.out.three
   clear hb1
   go_wp2
   (try simp only [Exit.inBlock, Exit.then])
   refine bodyPost_ret (v := .tuple #[EntryV 0 0 0, .bool false]) (by simp [results, Tryz.results188, go_sem, y0, y1, y2]; try rfl) rfl ?_
   refine ⟨by rw [HV.out], ?_⟩
   first
     | exact ((hb.setCell (by simp) _).setCell (by simp) _).setCell (by simp) _
     | exact hb
theorem laidBy_any (sq st : Int) (ea : Option Addr) (en ec : Nat) (es : List Int) (cd : Int) (ra : Option Addr) (rn rc : Nat) (x t s at_ : Int) (w : World) (h1 : TripAt w ea en es) (hc : en ≤ ec) :
   Calls Tryz.prog 166 #[DescV sq st ea en ec cd ra rn rc, WordV x t s, .int .i64 at_] w fun e w' => e = .returned (.bool ((entM es en at_).2.2.2 && sq == s)) ∧ Below w.heap.size w w' := by
 obtain ⟨W, hW⟩ : ∃ W, ((w.alloc (.cells (DescC sq st ea en ec cd ra rn rc) 149)).alloc (.cells #[.int .i64 x, .int .i64 t, .int .i64 s] 151)) = W := ⟨_, rfl⟩
 have hb1 : Below w.heap.size w (w.alloc (.cells (DescC sq st ea en ec cd ra rn rc) 149)) := (Below.refl _ w).alloc (Nat.le_refl _) _
 have hb2 : Below (w.alloc (.cells (DescC sq st ea en ec cd ra rn rc) 149)).heap.size (w.alloc (.cells (DescC sq st ea en ec cd ra rn rc) 149)) W := by rw [← hW]; exact (Below.refl _ _).alloc (Nat.le_refl _) _
 have hb0 : Below w.heap.size w W := hb1.trans (hb2.mono hb1.size)
 have BD : Hid (Box W w.heap.size (DescC sq st ea en ec cd ra rn rc) 149) := (box_of w _ _).below hb2 (by simp)
 have BW : Hid (Box W (w.heap.size + 1) #[.int .i64 x, .int .i64 t, .int .i64 s] 151) := by
   have := box_of (w.alloc (.cells (DescC sq st ea en ec cd ra rn rc) 149)) #[.int .i64 x, .int .i64 t, .int .i64 s] 151
   rw [hW] at this
   show Box _ _ _ _
   simpa using this
 have H1 : Hid (TripAt W ea en es) := h1.below hb0 (Nat.le_refl _)
 have HB0 : Hid (Below w.heap.size w W) := hb0
 have HW : Hid (((w.alloc (.cells (DescC sq st ea en ec cd ra rn rc) 149)).alloc (.cells #[.int .i64 x, .int .i64 t, .int .i64 s] 151)) = W) := hW
 obtain ⟨r, hr⟩ : ∃ r, entM es en at_ = r := ⟨_, rfl⟩
 have HR : Hid (entM es en at_ = r) := hr
 rw [hr]
 obtain ⟨r0, r1, r2, r3⟩ := r
 clear h1 hW hb0 hb1 hb2 hr
 go_enter Tryz.func166, Tryz.ntmps166
 go_wp2_with fail
 rw [HW.out]
 refine (implEntries_any sq st ea en ec es cd ra rn rc at_ _ H1.out hc).mono ?_
 rintro e w1 ⟨rfl, hb1⟩
 rw [HR.out]
 dsimp only
 have HB1 : Hid (Below w.heap.size w w1) := HB0.out.trans (hb1.mono HB0.out.size)
 have HB2 : Hid (Below w.heap.size w (w1.alloc (.cells #[.int .i64 r0, .int .i64 r1, .int .i64 r2] 154))) := HB1.out.alloc HB1.out.size _
 have d0 := (BD.out.below hb1 BD.out.lt).cell 0
 obtain ⟨_, _, x2, _, _, _⟩ := (BW.out.below hb1 BW.out.lt).three
 have l1 := (BD.out.below hb1 BD.out.lt).lt
 have l2 := (BW.out.below hb1 BW.out.lt).lt
 simp only [DescC, List.getElem?_toArray, List.getElem?_cons_zero] at d0
 clear hb1 BD BW H1 HB0 HW HR
 rcases r3 with _ | _
 · go_wp2
   go_ret
   exact ⟨rfl, HB2.out⟩
 · go_wp2
   go_ret
   exact ⟨by simp, HB2.out⟩
end
def pureVal (a : Act) : Op → Option Value
 | .move x => some (a.eval x)
 | .assign x => some (a.eval x)
 | .pick c x y => match a.eval c with
   | .bool true => some (a.eval x)
   | .bool false => some (a.eval y)
   | _ => none
 | _ => none
def tailVal (ops : Array Oper) (a : Act) (o : Oper) : Option Value := if Region.wanted o (yielded ops a.tmps) = true then pureVal a o.op else some undef
def tailA (ops : Array Oper) : List Nat → Act → Act
 | [], a => a
 | i :: U, a => match ops[i]? with
   | some o => match tailVal ops a o with
     | some v => tailA ops U (a.put o.dst v)
     | none => a
   | none => a
def tailL : List Nat → Array Bool → Array Bool
 | [], L => L
 | i :: U, L => tailL U (L.setIfInBounds i true)
def tailB (md : Region.Mode) (ops : Array Oper) : List Nat → Array Bool → Act → Bool
 | [], _, _ => true
 | i :: U, L, a => match ops[i]? with
   | some o => match tailVal ops a o with
     | some v => Region.free md ops L i && (Region.ready md ops L).contains i && tailB md ops U (L.setIfInBounds i true) (a.put o.dst v)
     | none => false
   | none => false
theorem takeH {P : Program} {md : Region.Mode} {ops : Array Oper} {Q : Exit → Act → World → Prop} {S : World → Prop} (i : Nat) (v : Value) {oi : Oper} {fuel : Nat} {listed : Array Bool} {a : Act} {w : World}
   (hy : ∀ w, S w → (execOp a.eval oi).run P w = .ok (.value v) w) (hS : S w) (h : wpAnyH P md ops Q S fuel (listed.setIfInBounds i true) (a.put oi.dst v) w)
   (hi : ops[i]? = some oi := by rw [List.getElem?_toArray]; exact rfl) (hs : Region.noSelect ops = true := by as_aux_lemma => kernel_rfl) (hf : Region.free md ops listed i = true := by as_aux_lemma => kernel_rfl)
   (hr : (Region.ready md ops listed).contains i = true := by as_aux_lemma => kernel_rfl) (hQ : ∀ c a w, Q (.panic c) (a.put oi.dst v) w → Q (.panic c) a w := by intro _ _ _ h; exact h)
   (hw : Region.wanted oi (yielded ops a.tmps) = true := by as_aux_lemma => kernel_rfl) : wpAnyH P md ops Q S (fuel + 1) listed a w := wpAnyH_take hi hs hf hr hQ (Or.inl ⟨hw, hy⟩) hS h
theorem skipH {P : Program} {md : Region.Mode} {ops : Array Oper} {Q : Exit → Act → World → Prop} {S : World → Prop} (i : Nat) {oi : Oper} {fuel : Nat} {listed : Array Bool} {a : Act} {w : World}
   (hS : S w) (h : wpAnyH P md ops Q S fuel (listed.setIfInBounds i true) (a.put oi.dst undef) w)
   (hi : ops[i]? = some oi := by rw [List.getElem?_toArray]; exact rfl) (hs : Region.noSelect ops = true := by as_aux_lemma => kernel_rfl) (hf : Region.free md ops listed i = true := by as_aux_lemma => kernel_rfl)
   (hr : (Region.ready md ops listed).contains i = true := by as_aux_lemma => kernel_rfl) (hQ : ∀ c a w, Q (.panic c) (a.put oi.dst undef) w → Q (.panic c) a w := by intro _ _ _ h; exact h)
   (hw : Region.wanted oi (yielded ops a.tmps) = false := by as_aux_lemma => kernel_rfl) : wpAnyH P md ops Q S (fuel + 1) listed a w := wpAnyH_take hi hs hf hr hQ (Or.inr ⟨hw, rfl⟩) hS h
theorem takeA {P : Program} {md : Region.Mode} {ops : Array Oper} {Q : Exit → Act → World → Prop} {S : World → Prop} (i : Nat) (v : Value) {oi : Oper} {fuel : Nat} {listed : Array Bool} {a : Act} {w : World}
   (hS : S w) (h : wpAnyH P md ops Q S fuel (listed.setIfInBounds i true) (a.put oi.dst v) w)
   (hi : ops[i]? = some oi := by rw [List.getElem?_toArray]; exact rfl) (hs : Region.noSelect ops = true := by as_aux_lemma => kernel_rfl) (hf : Region.free md ops listed i = true := by as_aux_lemma => kernel_rfl)
   (hr : (Region.ready md ops listed).contains i = true := by as_aux_lemma => kernel_rfl) (hQ : ∀ c a w, Q (.panic c) (a.put oi.dst v) w → Q (.panic c) a w := by intro _ _ _ h; exact h)
   (hw : Region.wanted oi (yielded ops a.tmps) = true := by as_aux_lemma => kernel_rfl) (hy : ∀ w, S w → (execOp a.eval oi).run P w = .ok (.value v) w := by intro w' hSw; go_simp) : wpAnyH P md ops Q S (fuel + 1) listed a w := wpAnyH_take hi hs hf hr hQ (Or.inl ⟨hw, hy⟩) hS h
end Go.Proofs.YtlkdjeneggfhgaaGreatDoor
