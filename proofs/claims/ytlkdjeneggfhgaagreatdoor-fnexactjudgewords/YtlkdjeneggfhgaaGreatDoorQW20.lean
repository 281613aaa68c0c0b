/- Texts joined: SpecAllow, SpecCopy, SpecAfter. -/
import Derived.Test.YtlkdjeneggfhgaaGreatDoorQW19
import Derived.Test.YtlkdjeneggfhgaaGreatDoorQW01
set_option maxHeartbeats 2000000
set_option maxRecDepth 100000
namespace Go.Proofs.YtlkdjeneggfhgaaGreatDoor
section
open Go.ChangeShapes Go.WideShapes Go.ChangeAt Go.RowKit
theorem specAllowed_any (a a2 : Option Addr) (n cp n2 c2 : Nat) (st kind k v code : Int) (xs ys : List Int) (w : World) (hA : IntAt w a n xs) (h2 : IntAt w a2 n2 ys) :
   Calls Tryz.prog 32 #[.agg #[.slice a n cp, .int .i64 st], OpV kind k v, ResV code a2 n2 c2] w fun e w' => Says e (AllowM xs st kind k v code ys) ∧ Below w.heap.size w w' := by
 have HA : Hid (IntAt w a n xs) := hA
 have H2 : Hid (IntAt w a2 n2 ys) := h2
 have hn2 := h2.2.1
 clear hA h2
 obtain ⟨P, hP⟩ : ∃ P, AllowM xs st kind k v code ys = P := ⟨_, rfl⟩
 rw [hP]
 have HP : Hid (AllowM xs st kind k v code ys = P) := hP
 clear hP
 go_enter Tryz.func32, Tryz.ntmps32
 go_wp2_with fail
 have HC : Hid (∀ wr, Below (w.heap.size + 1 + 1 + 1) (((w.alloc (.cells #[.slice a n cp, .int .i64 st] 34)).alloc (.cells #[.int .i64 kind, .int .i64 k, .int .i64 v] 59)).alloc (.cells #[.int .i64 code, .slice a2 n2 c2] 61)) wr → Args w #[.slice a n cp, .int .i64 st] #[.int .i64 kind, .int .i64 k, .int .i64 v] #[.int .i64 code, .slice a2 n2 c2] wr) := fun wr h => args_at w _ _ _ _ _ _ wr h
 have HB0 : Hid (Below w.heap.size w (((w.alloc (.cells #[.slice a n cp, .int .i64 st] 34)).alloc (.cells #[.int .i64 kind, .int .i64 k, .int .i64 v] 59)).alloc (.cells #[.int .i64 code, .slice a2 n2 c2] 61))) := (((Below.refl _ w).alloc (Nat.le_refl _) _).alloc (by simp) _).alloc (by simp; omega) _
 refine (specRowsOk_any a n cp st xs _ (HA.out.below HB0.out (Nat.le_refl _))).mono ?_
 rintro e w1 ⟨⟨ok1, rfl, hok1⟩, hb1⟩
 simp only [World.size_alloc] at hb1
 have HB1 : Hid (Below (w.heap.size + 1 + 1 + 1) (((w.alloc (.cells #[.slice a n cp, .int .i64 st] 34)).alloc (.cells #[.int .i64 kind, .int .i64 k, .int .i64 v] 59)).alloc (.cells #[.int .i64 code, .slice a2 n2 c2] 61)) w1) := hb1
 have HBw1 : Hid (Below w.heap.size w w1) := HB0.out.trans (hb1.mono (by omega))
 have HO : Hid (ok1 = true ↔ OkRows xs st) := hok1.trans (ok_iff HA.out.1)
 have hs1 := hb1.size
 simp only [World.size_alloc] at hs1
 have e0 := (HC.out _ hb1).2.1 0 _ rfl
 have e1 := (HC.out _ hb1).2.1 1 _ rfl
 have e2 := (HC.out _ hb1).2.1 2 _ rfl
 clear hok1 hb1
 cases ok1
 · have HN : Hid (¬ P) := by rw [← HP.out]; exact fun h => by have := HO.out.2 h.1; cases this
   go_wp2
   go_ret
   exact ⟨⟨false, rfl, by simp [HN.out]⟩, HBw1.out⟩
 have hok := HO.out.1 rfl
 obtain rfl : n = 4 := by rw [← HA.out.1]; exact hok.1
 have HOK : Hid (OkRows xs st) := hok
 clear hok HO
 go_wp2_with fail
 refine (specOpOk_any kind k v _).mono ?_
 rintro e w2 ⟨rfl, hb2⟩
 have HB2 : Hid (Below (w.heap.size + 1 + 1 + 1) (((w.alloc (.cells #[.slice a 4 cp, .int .i64 st] 34)).alloc (.cells #[.int .i64 kind, .int .i64 k, .int .i64 v] 59)).alloc (.cells #[.int .i64 code, .slice a2 n2 c2] 61)) w2) := HB1.out.trans (hb2.mono hs1)
 have HBw2 : Hid (Below w.heap.size w w2) := HBw1.out.trans (hb2.mono (by omega))
 have hs2 := Nat.le_trans hs1 hb2.size
 have c0 := (HC.out _ HB2.out).1 0 _ rfl
 have c1 := (HC.out _ HB2.out).1 1 _ rfl
 have d0 := (HC.out _ HB2.out).2.1 0 _ rfl
 have d1 := (HC.out _ HB2.out).2.1 1 _ rfl
 have d2 := (HC.out _ HB2.out).2.1 2 _ rfl
 have f0 := (HC.out _ HB2.out).2.2 0 _ rfl
 have f1 := (HC.out _ HB2.out).2.2 1 _ rfl
 clear hb2 HB1 HBw1 hs1 e0 e1 e2
 by_cases hop : OpGood kind k v
 · rw [show decide (OpGood kind k v) = true from decide_eq_true hop]
   have HOP : Hid (OpGood kind k v) := hop
   clear hop
   by_cases hc : code = 0
   · subst hc
     have HQ : Hid (P ↔ DoneM xs st kind k v ∧ listM xs kind k v = ys) := by
       rw [← HP.out]
       exact ⟨fun h => by rcases h.2.2 with ⟨h1, _⟩ | ⟨_, h1⟩; exact absurd rfl h1; exact h1, fun h => ⟨HOK.out, HOP.out, .inr ⟨rfl, h⟩⟩⟩
     go_wp2_with fail
     refine (l4Done_any a cp st kind k v xs _ (HA.out.below HBw2.out (Nat.le_refl _)) HOP.out).mono ?_
     rintro e w3 ⟨⟨a', c', rfl, hat⟩, hb3⟩
     have HB3 : Hid (Below (w.heap.size + 1 + 1 + 1) (((w.alloc (.cells #[.slice a 4 cp, .int .i64 st] 34)).alloc (.cells #[.int .i64 kind, .int .i64 k, .int .i64 v] 59)).alloc (.cells #[.int .i64 0, .slice a2 n2 c2] 61)) w3) := HB2.out.trans (hb3.mono (by omega))
     have HBw3 : Hid (Below w.heap.size w w3) := HBw2.out.trans (hb3.mono (by omega))
     have hs3 := hb3.size
     have g1 := (HC.out _ HB3.out).2.2 1 _ rfl
     have HAT : Hid (IntAt w3 a' (listM xs kind k v).length (listM xs kind k v)) := hat
     clear hb3 hat
     by_cases hd : DoneM xs st kind k v
     · rw [show decide (DoneM xs st kind k v) = true from decide_eq_true hd]
       have HD : Hid (DoneM xs st kind k v) := hd
       clear hd
       go_wp2_with fail
       refine (l4Ints_any a' a2 _ n2 c' c2 _ ys _ HAT.out (H2.out.below HBw3.out (Nat.le_refl _))).mono ?_
       rintro e w4 ⟨rfl, hb4⟩
       have HBw4 : Hid (Below w.heap.size w w4) := HBw3.out.trans (hb4.mono (by omega))
       clear hb4
       by_cases hl : listM xs kind k v = ys
       · rw [show decide (listM xs kind k v = ys) = true from decide_eq_true hl]
         have HT : Hid P := HQ.out.2 ⟨HD.out, hl⟩
         clear hl
         go_wp2
         go_ret
         exact ⟨⟨true, rfl, by simp [HT.out]⟩, HBw4.out⟩
       · rw [show decide (listM xs kind k v = ys) = false from decide_eq_false hl]
         have HT : Hid (¬ P) := fun h => hl (HQ.out.1 h).2
         clear hl
         go_wp2
         go_ret
         exact ⟨⟨false, rfl, by simp [HT.out]⟩, HBw4.out⟩
     · rw [show decide (DoneM xs st kind k v) = false from decide_eq_false hd]
       have HT : Hid (¬ P) := fun h => hd (HQ.out.1 h).1
       clear hd
       go_wp2
       go_ret
       exact ⟨⟨false, rfl, by simp [HT.out]⟩, HBw3.out⟩
   · have hc' : (code != 0) = true := by simpa using hc
     have HQ : Hid (P ↔ ys = [] ∧ FailsM xs st kind k v code) := by
       rw [← HP.out]
       exact ⟨fun h => by rcases h.2.2 with ⟨_, h1⟩ | ⟨h1, _⟩; exact h1; exact absurd h1 hc, fun h => ⟨HOK.out, HOP.out, .inl ⟨hc, h⟩⟩⟩
     clear hc
     by_cases hz : n2 = 0
     · subst hz
       go_wp2_with fail
       refine (l4Fails_any a cp st kind k v code xs _ (HA.out.below HBw2.out (Nat.le_refl _)) HOP.out).mono ?_
       rintro e w3 ⟨rfl, hb3⟩
       have HBw3 : Hid (Below w.heap.size w w3) := HBw2.out.trans (hb3.mono (by omega))
       clear hb3
       have hy : ys = [] := List.eq_nil_of_length_eq_zero H2.out.1
       by_cases hd : FailsM xs st kind k v code
       · rw [show decide (FailsM xs st kind k v code) = true from decide_eq_true hd]
         have HT : Hid P := HQ.out.2 ⟨hy, hd⟩
         clear hd hy
         go_wp2
         go_ret
         exact ⟨⟨true, rfl, by simp [HT.out]⟩, HBw3.out⟩
       · rw [show decide (FailsM xs st kind k v code) = false from decide_eq_false hd]
         have HT : Hid (¬ P) := fun h => hd (HQ.out.1 h).2
         clear hd hy
         go_wp2
         go_ret
         exact ⟨⟨false, rfl, by simp [HT.out]⟩, HBw3.out⟩
     · have hz' : ((n2 : Int) == 0) = false := by simp; omega
       have HT : Hid (¬ P) := fun h => hz (by rw [← H2.out.1, (HQ.out.1 h).1]; rfl)
       clear hz
       go_wp2
       go_ret
       exact ⟨⟨false, rfl, by simp [HT.out]⟩, HBw2.out⟩
 · rw [show decide (OpGood kind k v) = false from decide_eq_false hop]
   have HN : Hid (¬ P) := by rw [← HP.out]; exact fun h => hop h.2.1
   clear hop
   go_wp2
   go_ret
   exact ⟨⟨false, rfl, by simp [HN.out]⟩, HBw2.out⟩
theorem l3Copy_any (p o n cp : Nat) (st : Int) (xs : List Int) (w : World) (hA : IntAt w (some ⟨p, o, none⟩) n xs) :
   Calls Tryz.prog 31 #[.agg #[.slice (some ⟨p, o, none⟩) n cp, .int .i64 st]] w fun e w' => ∃ (a' : Option Addr) (c' : Nat), e = .returned (.agg #[.slice a' n c', .int .i64 st]) ∧ w'.ownsRow (w.heap.size + 1 + 1) 3 1 (.slice a' n c') n (xs.map I) ∧ Below w.heap.size w w' := by
 obtain ⟨i0, hi, hz0, hz1, hz2⟩ := info_parts infoInt
 have HA : Hid (IntAt w (some ⟨p, o, none⟩) n xs) := hA
 have HL : Hid (xs.length = n) := hA.1
 have hn := hA.2.1
 clear hA
 go_enter Tryz.func31, Tryz.ntmps31
 go_wp2_with fail
 have HB0 : Hid (Below w.heap.size w ((w.alloc (.cells #[.slice (some ⟨p, o, none⟩) n cp, .int .i64 st] 34)).alloc (.cells #[.slice none 0 0, .int .i64 0] 34))) := ((Below.refl _ w).alloc (Nat.le_refl _) _).alloc (by simp) _
 have HG := (HA.out.below HB0.out (Nat.le_refl _)).cells
 have HG1 : Hid _ := HG
 clear HG
 go_region_law
   (refine step_append_own _ (by rfl) _ _ 28 (by rfl) (w.heap.size + 1 + 1) 3 i0 (.int .i64 0) 1 8 Tryz.underlying28 hi hz0 hz1 hz2 (by rfl) (by decide) (.slice (some ⟨w.heap.size + 1 + 1, 0, none⟩) 0 0) 0 [] (by rfl) (own_empty_drew (by simp) (by omega)) ⟨p, o, none⟩ n cp (xs.map I) (by rfl) (news_len HL.out) (news_at_drew HL.out HG1.out) news_one (by unfold maxLen; omega) (by omega) (by simp) ?_
    intro v' w' hown hgrow _
    have hown2 : w'.ownsRow (w.heap.size + 1 + 1) 3 1 v' n (xs.map I) := by simpa using hown
    obtain ⟨a', c', rfl, hat⟩ := own_at hown2 hn
    have HOWN : Hid (w'.ownsRow (w.heap.size + 1 + 1) 3 1 (.slice a' n c') n (xs.map I)) := hown2
    clear hown hown2 hat
    have hbx := below_appended_drew (Below.refl (w.heap.size + 1 + 1) _) (by simp) (by simp) hgrow
    have r1 : w'.cell? ⟨w.heap.size, 1, none⟩ = some (.int .i64 st) := (hbx.cell (show w.heap.size < w.heap.size + 1 + 1 by omega)).trans (by simp [World.cell?_alloc_past, World.cell?_alloc_at])
    have r2 : w'.cell? ⟨w.heap.size + 1, 0, none⟩ = some (.slice none 0 0) := (hbx.cell (show w.heap.size + 1 < w.heap.size + 1 + 1 by omega)).trans (by simp [World.cell?_alloc_at])
    have r3 : w'.cell? ⟨w.heap.size + 1, 1, none⟩ = some (.int .i64 0) := (hbx.cell (show w.heap.size + 1 < w.heap.size + 1 + 1 by omega)).trans (by simp [World.cell?_alloc_at])
    have r4 : w'.frozen? ⟨w.heap.size + 1, 0, none⟩ = false := (hbx.frozen (show w.heap.size + 1 < w.heap.size + 1 + 1 by omega)).trans (by simp [World.frozen?_alloc_at])
    have r5 : w'.frozen? ⟨w.heap.size + 1, 1, none⟩ = false := (hbx.frozen (show w.heap.size + 1 < w.heap.size + 1 + 1 by omega)).trans (by simp [World.frozen?_alloc_at]))
 all_goals
   have HBX : Hid (Below w.heap.size w w') := HB0.out.trans (hbx.mono (by omega))
   clear hbx hgrow
   go_wp2
   (try simp only [Exit.inBlock, Exit.then])
   refine bodyPost_ret (by simp [results, Tryz.results31, go_sem, r2, r3]; try rfl) rfl ?_
   exact ⟨a', c', rfl, ownsRow_setCell_below (ownsRow_setCell_below HOWN.out (by simp) _) (by simp) _, (HBX.out.setCell (by simp) _).setCell (by simp) _⟩
theorem specAfter_any (a2 : Option Addr) (p q n cp n2 c2 : Nat) (st kind k v code : Int) (xs ys : List Int) (w : World) (hA : IntAt w (some ⟨p, q, none⟩) n xs) (h2 : IntAt w a2 n2 ys) :
   Calls Tryz.prog 33 #[.agg #[.slice (some ⟨p, q, none⟩) n cp, .int .i64 st], OpV kind k v, ResV code a2 n2 c2] w fun e w' => AfterSays e w w' n (AfterM xs st kind k v code ys) ∧ Below w.heap.size w w' := by
 have HA : Hid (IntAt w (some ⟨p, q, none⟩) n xs) := hA
 have H2 : Hid (IntAt w a2 n2 ys) := h2
 clear hA h2
 go_enter Tryz.func33, Tryz.ntmps33
 go_wp2_with fail
 have HB0 : Hid (Below w.heap.size w ((((w.alloc (.cells #[.slice (some ⟨p, q, none⟩) n cp, .int .i64 st] 34)).alloc (.cells #[.int .i64 kind, .int .i64 k, .int .i64 v] 59)).alloc (.cells #[.int .i64 code, .slice a2 n2 c2] 61)).alloc (.cells #[.slice none 0 0, .int .i64 0] 34))) := ((((Below.refl _ w).alloc (Nat.le_refl _) _).alloc (by simp) _).alloc (by simp; omega) _).alloc (by simp; omega) _
 refine (l3Copy_any p q n cp st xs _ (HA.out.below HB0.out (Nat.le_refl _))).mono ?_
 rintro e w1 ⟨a', c', rfl, own1, hb1⟩
 simp only [World.size_alloc] at hb1 own1
 have hs1 := hb1.size
 simp only [World.size_alloc] at hs1
 have HC : Hid (∀ wr, Below (w.heap.size + 1 + 1 + 1 + 1) ((((w.alloc (.cells #[.slice (some ⟨p, q, none⟩) n cp, .int .i64 st] 34)).alloc (.cells #[.int .i64 kind, .int .i64 k, .int .i64 v] 59)).alloc (.cells #[.int .i64 code, .slice a2 n2 c2] 61)).alloc (.cells #[.slice none 0 0, .int .i64 0] 34)) wr → Four w #[.slice (some ⟨p, q, none⟩) n cp, .int .i64 st] #[.int .i64 kind, .int .i64 k, .int .i64 v] #[.int .i64 code, .slice a2 n2 c2] #[.slice none 0 0, .int .i64 0] wr) := fun wr h => four_at w _ _ _ _ _ _ _ _ wr h
 have hbW := hb1.alloc hs1 (.cells #[.slice a' n c', .int .i64 st] 34)
 have HB1 : Hid (Below (w.heap.size + 1 + 1 + 1 + 1) ((((w.alloc (.cells #[.slice (some ⟨p, q, none⟩) n cp, .int .i64 st] 34)).alloc (.cells #[.int .i64 kind, .int .i64 k, .int .i64 v] 59)).alloc (.cells #[.int .i64 code, .slice a2 n2 c2] 61)).alloc (.cells #[.slice none 0 0, .int .i64 0] 34)) (w1.alloc (.cells #[.slice a' n c', .int .i64 st] 34))) := hbW
 have HBw1 : Hid (Below w.heap.size w (w1.alloc (.cells #[.slice a' n c', .int .i64 st] 34))) := HB0.out.trans (hbW.mono (by omega))
 have OWN1 : Hid ((w1.alloc (.cells #[.slice a' n c', .int .i64 st] 34)).ownsRow (w.heap.size + 1 + 1 + 1 + 1) 3 1 (.slice a' n c') n (xs.map I)) := (own_weaken own1 (by omega)).alloc _
 have c0 := (HC.out _ hbW).1 0 _ rfl
 have c1 := (HC.out _ hbW).1 1 _ rfl
 have d0 := (HC.out _ hbW).2.1 0 _ rfl
 have d1 := (HC.out _ hbW).2.1 1 _ rfl
 have d2 := (HC.out _ hbW).2.1 2 _ rfl
 have f0 := (HC.out _ hbW).2.2.1 0 _ rfl
 have f1 := (HC.out _ hbW).2.2.1 1 _ rfl
 have hlt1 : Hid (∀ k, (Value.slice a' n c').ownBlock = some k → k < w1.heap.size) := fun k hk => (own1.lt k hk).2
 clear hb1 own1 hbW
 go_wp2_with fail
 refine (specAllowed_any _ a2 n cp n2 c2 st kind k v code xs ys _ (HA.out.below HBw1.out (Nat.le_refl _)) (H2.out.below HBw1.out (Nat.le_refl _))).mono ?_
 rintro e w2 ⟨⟨ok, rfl, hok⟩, hb2⟩
 have hbW2 := HB1.out.trans (hb2.mono (by simp; omega))
 have HBw2 : Hid (Below w.heap.size w w2) := HBw1.out.trans (hb2.mono (by simp; omega))
 have OWN2 : Hid (w2.ownsRow (w.heap.size + 1 + 1 + 1 + 1) 3 1 (.slice a' n c') n (xs.map I)) := owns_below OWN1.out hb2 (Nat.le_refl _)
 have o0 : w2.cell? ⟨w1.heap.size, 0, none⟩ = some (.slice a' n c') := by rw [hb2.cell (by simp)]; simp
 have o1 : w2.cell? ⟨w1.heap.size, 1, none⟩ = some (.int .i64 st) := by rw [hb2.cell (by simp)]; simp
 have z0 : w2.frozen? ⟨w1.heap.size, 0, none⟩ = false := by rw [hb2.frozen (by simp)]; simp
 have z1 : w2.frozen? ⟨w1.heap.size, 1, none⟩ = false := by rw [hb2.frozen (by simp)]; simp
 have c0 := (HC.out _ hbW2).1 0 _ rfl
 have c1 := (HC.out _ hbW2).1 1 _ rfl
 have d0 := (HC.out _ hbW2).2.1 0 _ rfl
 have d1 := (HC.out _ hbW2).2.1 1 _ rfl
 have d2 := (HC.out _ hbW2).2.1 2 _ rfl
 have f0 := (HC.out _ hbW2).2.2.1 0 _ rfl
 have f1 := (HC.out _ hbW2).2.2.1 1 _ rfl
 have v0 := (HC.out _ hbW2).2.2.2.1 0 _ rfl
 have v1 := (HC.out _ hbW2).2.2.2.1 1 _ rfl
 have y0 := (HC.out _ hbW2).2.2.2.2 0
 have y1 := (HC.out _ hbW2).2.2.2.2 1
 have HOK : Hid (ok = true ↔ AllowM xs st kind k v code ys) := hok
 clear hb2 hbW2 hok OWN1 HB1 HBw1
 cases ok
 · have HM : Hid (AfterM xs st kind k v code ys xs st) := .inr ⟨fun h => (by have := HOK.out.2 h.1; cases this), rfl, rfl⟩
   go_wp2
   (try simp only [Exit.inBlock, Exit.then])
   refine bodyPost_ret (by simp [results, Tryz.results33, go_sem, v0, v1]; try rfl) rfl ?_
   exact ⟨⟨xs, st, a', c', rfl, HM.out, own_weaken (ownsRow_setCell_below (ownsRow_setCell_below OWN2.out (by simp) _) (by simp) _) (by omega)⟩, (HBw2.out.setCell (by simp; omega) _).setCell (by simp; omega) _⟩
 have hal := HOK.out.1 rfl
 obtain rfl : n = 4 := by rw [← HA.out.1]; exact hal.1.1
 have HAL : Hid (AllowM xs st kind k v code ys) := hal
 clear HOK
 by_cases hc : code = 0
 · subst hc
   have hop := hal.2.1
   clear hal
   rcases kinds hop.1 with rfl | rfl | rfl | rfl | rfl | rfl | rfl | rfl | rfl | rfl
   · obtain ⟨m, rfl⟩ : ∃ m : Nat, k = m := ⟨k.toNat, by have := hop.2.1; unfold KeyGood at this; omega⟩
     have hm : m < 4 := by have := hop.2.1; unfold KeyGood at this; omega
     have HM : Hid (AfterM xs st 1 m v 0 ys (xs.set m v) st) := .inl ⟨HAL.out, rfl, .inl ⟨by omega, rfl, rfl⟩⟩
     clear hop
     rcases OWN2.out.2 with ⟨_, h0⟩ | ⟨g, cap, cur, hv, hbg, hgg, _⟩
     · omega
     obtain ⟨rfl, rfl⟩ : a' = some ⟨g, 0, none⟩ ∧ c' = cap := by simpa using hv
     have hst := (OWN2.out.stored m (I v)).1
     rw [← List.map_set] at hst
     have HS : Hid ((w2.setCell ⟨g, m, none⟩ (I v)).ownsRow (w.heap.size + 1 + 1 + 1 + 1) 3 1 (.slice (some ⟨g, 0, none⟩) 4 c') 4 ((xs.set m v).map I)) := hst
     have hfz := OWN2.out.frozenAt m
     obtain ⟨u0, hu⟩ := own_cell OWN2.out hm
     have hg1 : g < w1.heap.size := hlt1.out g rfl
     have HG1 : Hid (g < w1.heap.size) := hg1
     have p0 : (w2.setCell ⟨g, m, none⟩ (I v)).cell? ⟨w1.heap.size, 0, none⟩ = some (.slice (some ⟨g, 0, none⟩) 4 c') := by rw [World.cell?_setCell_other _ _ _ _ (fun e => by cases e; omega)]; exact o0
     have p1 : (w2.setCell ⟨g, m, none⟩ (I v)).cell? ⟨w1.heap.size, 1, none⟩ = some (.int .i64 st) := by rw [World.cell?_setCell_other _ _ _ _ (fun e => by cases e; omega)]; exact o1
     clear hst hv hgg
     go_wp2
     (try simp only [Exit.inBlock, Exit.then])
     refine bodyPost_ret (by simp [results, Tryz.results33, go_sem, v0, v1]; try rfl) rfl ?_
     exact ⟨⟨xs.set m v, st, some ⟨g, 0, none⟩, c', rfl, HM.out, own_weaken (ownsRow_setCell_below (ownsRow_setCell_below HS.out (by simp) _) (by simp) _) (by omega)⟩, ((HBw2.out.setCell (by simp; omega) _).setCell (by simp; omega) _).setCell (by simp; omega) _⟩
   · obtain ⟨m, rfl⟩ : ∃ m : Nat, k = m := ⟨k.toNat, by have := hop.2.1; unfold KeyGood at this; omega⟩
     have hm : m < 4 := by have := hop.2.1; unfold KeyGood at this; omega
     have HM : Hid (AfterM xs st 2 m v 0 ys (xs.set m v) st) := .inl ⟨HAL.out, rfl, .inl ⟨by omega, rfl, rfl⟩⟩
     clear hop
     rcases OWN2.out.2 with ⟨_, h0⟩ | ⟨g, cap, cur, hv, hbg, hgg, _⟩
     · omega
     obtain ⟨rfl, rfl⟩ : a' = some ⟨g, 0, none⟩ ∧ c' = cap := by simpa using hv
     have hst := (OWN2.out.stored m (I v)).1
     rw [← List.map_set] at hst
     have HS : Hid ((w2.setCell ⟨g, m, none⟩ (I v)).ownsRow (w.heap.size + 1 + 1 + 1 + 1) 3 1 (.slice (some ⟨g, 0, none⟩) 4 c') 4 ((xs.set m v).map I)) := hst
     have hfz := OWN2.out.frozenAt m
     obtain ⟨u0, hu⟩ := own_cell OWN2.out hm
     have hg1 : g < w1.heap.size := hlt1.out g rfl
     have HG1 : Hid (g < w1.heap.size) := hg1
     have p0 : (w2.setCell ⟨g, m, none⟩ (I v)).cell? ⟨w1.heap.size, 0, none⟩ = some (.slice (some ⟨g, 0, none⟩) 4 c') := by rw [World.cell?_setCell_other _ _ _ _ (fun e => by cases e; omega)]; exact o0
     have p1 : (w2.setCell ⟨g, m, none⟩ (I v)).cell? ⟨w1.heap.size, 1, none⟩ = some (.int .i64 st) := by rw [World.cell?_setCell_other _ _ _ _ (fun e => by cases e; omega)]; exact o1
     clear hst hv hgg
     go_wp2
     (try simp only [Exit.inBlock, Exit.then])
     refine bodyPost_ret (by simp [results, Tryz.results33, go_sem, v0, v1]; try rfl) rfl ?_
     exact ⟨⟨xs.set m v, st, some ⟨g, 0, none⟩, c', rfl, HM.out, own_weaken (ownsRow_setCell_below (ownsRow_setCell_below HS.out (by simp) _) (by simp) _) (by omega)⟩, ((HBw2.out.setCell (by simp; omega) _).setCell (by simp; omega) _).setCell (by simp; omega) _⟩
   · obtain ⟨m, rfl⟩ : ∃ m : Nat, k = m := ⟨k.toNat, by have := hop.2.1; unfold KeyGood at this; omega⟩
     have hm : m < 4 := by have := hop.2.1; unfold KeyGood at this; omega
     have HM : Hid (AfterM xs st 3 m v 0 ys (xs.set m 0) st) := .inl ⟨HAL.out, rfl, .inr (.inl ⟨rfl, rfl, rfl⟩)⟩
     clear hop
     rcases OWN2.out.2 with ⟨_, h0⟩ | ⟨g, cap, cur, hv, hbg, hgg, _⟩
     · omega
     obtain ⟨rfl, rfl⟩ : a' = some ⟨g, 0, none⟩ ∧ c' = cap := by simpa using hv
     have hst := (OWN2.out.stored m (I 0)).1
     rw [← List.map_set] at hst
     have HS : Hid ((w2.setCell ⟨g, m, none⟩ (I 0)).ownsRow (w.heap.size + 1 + 1 + 1 + 1) 3 1 (.slice (some ⟨g, 0, none⟩) 4 c') 4 ((xs.set m 0).map I)) := hst
     have hfz := OWN2.out.frozenAt m
     obtain ⟨u0, hu⟩ := own_cell OWN2.out hm
     have hg1 : g < w1.heap.size := hlt1.out g rfl
     have HG1 : Hid (g < w1.heap.size) := hg1
     have p0 : (w2.setCell ⟨g, m, none⟩ (I 0)).cell? ⟨w1.heap.size, 0, none⟩ = some (.slice (some ⟨g, 0, none⟩) 4 c') := by rw [World.cell?_setCell_other _ _ _ _ (fun e => by cases e; omega)]; exact o0
     have p1 : (w2.setCell ⟨g, m, none⟩ (I 0)).cell? ⟨w1.heap.size, 1, none⟩ = some (.int .i64 st) := by rw [World.cell?_setCell_other _ _ _ _ (fun e => by cases e; omega)]; exact o1
     clear hst hv hgg
     go_wp2
     (try simp only [Exit.inBlock, Exit.then])
     refine bodyPost_ret (by simp [results, Tryz.results33, go_sem, v0, v1]; try rfl) rfl ?_
     exact ⟨⟨xs.set m 0, st, some ⟨g, 0, none⟩, c', rfl, HM.out, own_weaken (ownsRow_setCell_below (ownsRow_setCell_below HS.out (by simp) _) (by simp) _) (by omega)⟩, ((HBw2.out.setCell (by simp; omega) _).setCell (by simp; omega) _).setCell (by simp; omega) _⟩
   · have HM : Hid (AfterM xs st 4 k v 0 ys xs st) := .inl ⟨HAL.out, rfl, .inr (.inr (.inr ⟨by omega, rfl, rfl⟩))⟩
     clear hop
     go_wp2
     (try simp only [Exit.inBlock, Exit.then])
     refine bodyPost_ret (by simp [results, Tryz.results33, go_sem, v0, v1]; try rfl) rfl ?_
     exact ⟨⟨xs, st, a', c', rfl, HM.out, own_weaken (ownsRow_setCell_below (ownsRow_setCell_below OWN2.out (by simp) _) (by simp) _) (by omega)⟩, (HBw2.out.setCell (by simp; omega) _).setCell (by simp; omega) _⟩
   · have HM : Hid (AfterM xs st 5 k v 0 ys xs st) := .inl ⟨HAL.out, rfl, .inr (.inr (.inr ⟨by omega, rfl, rfl⟩))⟩
     clear hop
     go_wp2
     (try simp only [Exit.inBlock, Exit.then])
     refine bodyPost_ret (by simp [results, Tryz.results33, go_sem, v0, v1]; try rfl) rfl ?_
     exact ⟨⟨xs, st, a', c', rfl, HM.out, own_weaken (ownsRow_setCell_below (ownsRow_setCell_below OWN2.out (by simp) _) (by simp) _) (by omega)⟩, (HBw2.out.setCell (by simp; omega) _).setCell (by simp; omega) _⟩
   · have HM : Hid (AfterM xs st 6 k v 0 ys xs st) := .inl ⟨HAL.out, rfl, .inr (.inr (.inr ⟨by omega, rfl, rfl⟩))⟩
     clear hop
     go_wp2
     (try simp only [Exit.inBlock, Exit.then])
     refine bodyPost_ret (by simp [results, Tryz.results33, go_sem, v0, v1]; try rfl) rfl ?_
     exact ⟨⟨xs, st, a', c', rfl, HM.out, own_weaken (ownsRow_setCell_below (ownsRow_setCell_below OWN2.out (by simp) _) (by simp) _) (by omega)⟩, (HBw2.out.setCell (by simp; omega) _).setCell (by simp; omega) _⟩
   · have HM : Hid (AfterM xs st 7 k v 0 ys xs st) := .inl ⟨HAL.out, rfl, .inr (.inr (.inr ⟨by omega, rfl, rfl⟩))⟩
     clear hop
     go_wp2
     (try simp only [Exit.inBlock, Exit.then])
     refine bodyPost_ret (by simp [results, Tryz.results33, go_sem, v0, v1]; try rfl) rfl ?_
     exact ⟨⟨xs, st, a', c', rfl, HM.out, own_weaken (ownsRow_setCell_below (ownsRow_setCell_below OWN2.out (by simp) _) (by simp) _) (by omega)⟩, (HBw2.out.setCell (by simp; omega) _).setCell (by simp; omega) _⟩
   · have HM : Hid (AfterM xs st 8 k v 0 ys xs (st + 1)) := .inl ⟨HAL.out, rfl, .inr (.inr (.inl ⟨by omega, rfl, rfl⟩))⟩
     have hst0 := HAL.out.1.2.1
     have hst1 := HAL.out.1.2.2.1
     clear hop
     go_wp2
     (try simp only [Exit.inBlock, Exit.then])
     refine bodyPost_ret (by simp [results, Tryz.results33, go_sem, v0, v1]; try rfl) rfl ?_
     exact ⟨⟨xs, st + 1, a', c', rfl, HM.out, own_weaken (ownsRow_setCell_below (ownsRow_setCell_below (own_setCell_far OWN2.out (fun e => by have := hlt1.out _ e; simp at this) _) (by simp) _) (by simp) _) (by omega)⟩, ((HBw2.out.setCell (by simp; omega) _).setCell (by simp; omega) _).setCell (by simp; omega) _⟩
   · have HM : Hid (AfterM xs st 9 k v 0 ys xs (st + 1)) := .inl ⟨HAL.out, rfl, .inr (.inr (.inl ⟨by omega, rfl, rfl⟩))⟩
     have hst0 := HAL.out.1.2.1
     have hst1 := HAL.out.1.2.2.1
     clear hop
     go_wp2
     (try simp only [Exit.inBlock, Exit.then])
     refine bodyPost_ret (by simp [results, Tryz.results33, go_sem, v0, v1]; try rfl) rfl ?_
     exact ⟨⟨xs, st + 1, a', c', rfl, HM.out, own_weaken (ownsRow_setCell_below (ownsRow_setCell_below (own_setCell_far OWN2.out (fun e => by have := hlt1.out _ e; simp at this) _) (by simp) _) (by simp) _) (by omega)⟩, ((HBw2.out.setCell (by simp; omega) _).setCell (by simp; omega) _).setCell (by simp; omega) _⟩
   · have HM : Hid (AfterM xs st 10 k v 0 ys xs st) := .inl ⟨HAL.out, rfl, .inr (.inr (.inr ⟨by omega, rfl, rfl⟩))⟩
     clear hop
     go_wp2
     (try simp only [Exit.inBlock, Exit.then])
     refine bodyPost_ret (by simp [results, Tryz.results33, go_sem, v0, v1]; try rfl) rfl ?_
     exact ⟨⟨xs, st, a', c', rfl, HM.out, own_weaken (ownsRow_setCell_below (ownsRow_setCell_below OWN2.out (by simp) _) (by simp) _) (by omega)⟩, (HBw2.out.setCell (by simp; omega) _).setCell (by simp; omega) _⟩
 · have hc' : (code != 0) = true := by simpa using hc
   have HM : Hid (AfterM xs st kind k v code ys xs st) := .inr ⟨fun h => hc h.2, rfl, rfl⟩
   clear hc hal
   go_wp2
   (try simp only [Exit.inBlock, Exit.then])
   refine bodyPost_ret (by simp [results, Tryz.results33, go_sem, v0, v1]; try rfl) rfl ?_
   exact ⟨⟨xs, st, a', c', rfl, HM.out, own_weaken (ownsRow_setCell_below (ownsRow_setCell_below OWN2.out (by simp) _) (by simp) _) (by omega)⟩, (HBw2.out.setCell (by simp; omega) _).setCell (by simp; omega) _⟩
end
end Go.Proofs.YtlkdjeneggfhgaaGreatDoor
