/- Texts joined: Sp18o, Nums2, Txt17, Txt18, SpecVx. -/
import Derived.Test.YtgibeakclknhnaaDoorTU06
import Derived.Test.YtgibeakclknhnaaDoorTU04
import Derived.Test.YtgibeakclknhnaaDoorTU02
import Derived.Deep.RegionHeld3
import Derived.Deep.Cut
import Derived.Lib.Join
import Derived.Lib.ItoaLen
import Derived.Test.YtgibeakclknhnaaDoorTU01
import Derived.Laws.BitsAllLaws
set_option maxHeartbeats 4000000
set_option maxRecDepth 100000
namespace Go.Proofs.YtgibeakclknhnaaDoor
section
open Go.ChangeShapes Go.WideShapes Go.ChangeAt Go.RowKit
open Go.Lib (byteCells byteCells_length byteCells_append)

theorem specTupleOf_any (a : Option Addr) (n c : Nat) (l : List UInt8) (w : World) (h : BysAt w a n l) :
    Calls Tryd.prog 9 #[.slice a n c] w fun e w' => TupAns l w e w' ∧ Below w.heap.size w w' := by
  have HL : Hid (BysAt w a n l) := h
  have hl := h.1
  have hn := h.2.1
  have hn2 : (n : Int) ≤ 2097152 := by omega
  obtain ⟨W, hW⟩ : ∃ W, w.alloc (.cells #[] 37) = W := ⟨_, rfl⟩
  obtain ⟨g, hg⟩ : ∃ g, w.heap.size = g := ⟨_, rfl⟩
  have HG : Hid (w.heap.size = g) := hg
  have HO0 : Hid (VOwn W g (.slice (some ⟨g, 0, none⟩) 0 0) []) := by rw [← hW]; exact vown_nil w hg (Nat.le_refl _)
  have HB0 : Hid (Below g w W) := by rw [← hW]; exact (Below.refl _ w).alloc (Nat.le_of_eq hg.symm) _
  have HW : Hid (w.alloc (.cells #[] 37) = W) := hW
  have HS0 : Hid (g ≤ W.heap.size) := by show g ≤ W.heap.size; rw [← hW, World.size_alloc, hg]; exact Nat.le_succ _
  rw [hg]
  clear h hW hg
  go_enter Tryd.func9, Tryd.ntmps9
  go_upto_region 2 with (fail)
  rw [HW.out, HG.out]
  go_upto_region 3 with (fail)
  go_loopw [4, 5] (fun v i wr => ∃ (L : List Va3) (j : Nat), i = .int .i64 (j : Int) ∧ j ≤ n + 9 ∧ L.length ≤ 5 ∧ RdTup l L j ∧ VOwn wr g v L ∧ Below g w wr ∧ g ≤ wr.heap.size) (fun _ i _ => n + 10 - (RowKit.intOf i).toNat)
  case atStart => exact ⟨[], 0, rfl, Nat.zero_le _, Nat.zero_le _, RdTup.start l, HO0.out, HB0.out, HS0.out⟩
  case round =>
    obtain ⟨L, j, rfl, hj, hL5, hr, ho, hb, hz⟩ := hrel
    have HR : Hid (RdTup l L j) := hr
    have HO : Hid (VOwn wr g u4 L) := ho
    have HBW : Hid (Below g w wr) := hb
    have HSZ : Hid (g ≤ wr.heap.size) := hz
    have HLW : Hid (BysAt wr a n l) := HL.out.below hb (Nat.le_of_eq HG.out)
    obtain ⟨va, vc, rfl, hvc, hvas⟩ := own_vas ho (by omega)
    have HV : Hid (VasAt wr va L.length L) := hvas
    have hj0 : (0 : Int) ≤ (j : Int) := by omega
    clear hr ho hb hz hvas
    by_cases hlt : j < n ∧ L.length ≤ 4
    · obtain ⟨hjn, hL4⟩ := hlt
      have hk1 : (j : Int) < (n : Int) := by omega
      have hk2 : (L.length : Int) ≤ 4 := by omega
      go_upto_region 5 with
        (go_at_call 26
         refine (l18Read_any a n c j l wr HLW.out hjn).mono ?_
         rintro e w1 ⟨⟨x, nx, rfl, hx1, hx2⟩, hb1⟩
         have HX : Hid (RdSays l j x nx) := hx1
         have HB1 : Hid (Below wr.heap.size wr w1) := hb1
         have hnx : nx ≤ n + 9 := by omega
         clear hb1 hx1)
      obtain ⟨k, m, s⟩ := x
      dsimp only at HX ⊢
      obtain ⟨W3, hW3⟩ : ∃ W3, w1.alloc (.cells #[.int .i64 k, .int .i64 m, .string s] 37) = W3 := ⟨_, rfl⟩
      have HW3 : Hid (w1.alloc (.cells #[.int .i64 k, .int .i64 m, .string s] 37) = W3) := hW3
      have X3 : Hid (Box W3 w1.heap.size #[.int .i64 k, .int .i64 m, .string s] 37) := by rw [← hW3]; exact box_of _ _ _
      have hz1 : g ≤ w1.heap.size := Nat.le_trans HSZ.out HB1.out.size
      have HB3 : Hid (Below g w W3) := by rw [← hW3]; exact (HBW.out.trans (HB1.out.mono HSZ.out)).alloc hz1 _
      have HO3 : Hid (VOwn W3 g (.slice va L.length vc) L) := by rw [← hW3]; exact (owns_below HO.out HB1.out (Nat.le_refl _)).alloc _
      have HZ3 : Hid (g ≤ W3.heap.size) := by rw [← hW3]; exact Nat.le_trans hz1 (by simp)
      rw [HW3.out]
      clear hW3 hz1
      obtain ⟨c0, c1, c2⟩ := X3.out.triV
      go_wp2_with
        (at_builtin
         refine list_appV _ rfl _ _ rfl g (.slice va L.length vc) L rfl (HO3.out.alloc _) ⟨W3.heap.size, 0, none⟩ 1 1 [(k, m, s)] rfl rfl (vnews _ _ rfl (k, m, s)) (by omega) (by have := HZ3.out; simp; omega) ?_
         intro v' w' hown hbel _
         have HO4 : Hid (VOwn w' g v' (L ++ [(k, m, s)])) := hown
         have HB4 : Hid (Below g w w') := hbel w g (Nat.le_refl _) (HB3.out.alloc HZ3.out _)
         have HZ4 : Hid (g ≤ w'.heap.size) := Nat.le_trans HZ3.out (hbel W3 0 (Nat.zero_le _) ((Below.refl 0 W3).alloc (Nat.zero_le _) _)).size
         clear hown hbel)
      go_roundw
      case rel => exact ⟨L ++ [(k, m, s)], nx, rfl, hnx, by rw [List.length_append]; show L.length + 1 ≤ 5; omega, HR.out.next (by omega) HX.out, HO4.out, HB4.out, HZ4.out⟩
      case measure =>
        have := HX.out.1
        simp [RowKit.intOf]; omega
    · skip
      have hdone : ∀ x : Unit, ¬ (j < l.length ∧ L.length ≤ 4) := fun _ => by rw [hl]; exact hlt
      have HDN : Hid (¬ (j < l.length ∧ L.length ≤ 4)) := hdone ()
      have hgr : ¬ (j < n) ∨ (j < n ∧ ¬ (L.length ≤ 4)) := by omega
      have hcnd : ((j : Int) < (n : Int) ∧ ¬ ((L.length : Int) ≤ 4)) ∨ ¬ ((j : Int) < (n : Int)) := by omega
      have hLi : (L.length : Int) ≤ 5 := by omega
      have hji : (j : Int) ≤ 3000000 := by omega
      clear hdone hgr
      by_cases hjn : j = n
      · have hjb : ((j : Int) == (n : Int)) = true := by rw [beq_iff_eq]; omega
        have hjc : ((j : Int) != (n : Int)) = false := by rw [bne, hjb]; rfl
        have hc2 : ¬ ((j : Int) < (n : Int)) := by omega
        clear hcnd
        by_cases hT : TupGood L
        · by_cases hE : tupB L = l
          · have HTD : Hid (decide (TupGood L) = true) := decide_eq_true hT
            have HTB : Hid (tupBytes L = tupB L) := if_pos hT
            have HIS : Hid (TupIs l L) := ⟨hT, hE⟩
            have HE : Hid (tupB L = l) := hE
            clear hE hT
            go_upto_region 7 with (fail)
            refine wp_region_held_drew (S := fun w' => (convert 22 9 (.slice a n c)).run Tryd.prog w' = .ok (.string ⟨l.toArray⟩) w') (by kernel_rfl) (bys_text HLW.out) (fun hHeld => ?_)
            refine wpAnyH_take (i := 0) (oi := _) (v := .int .i64 (j : Int)) (by rw [List.getElem?_toArray]; exact rfl) (by kernel_rfl) (by kernel_rfl) (by kernel_rfl) (by intro _ _ _ h; exact h) (Or.inl ⟨by kernel_rfl, ?_⟩) hHeld ?_
            · intro w hSw; go_simp
            simp only [Act.put, List.setIfInBounds_toArray, List.set_cons_zero, List.set_cons_succ]
            refine wpAnyH_take (i := 1) (oi := _) (v := .slice a n c) (by rw [List.getElem?_toArray]; exact rfl) (by kernel_rfl) (by kernel_rfl) (by kernel_rfl) (by intro _ _ _ h; exact h) (Or.inl ⟨by kernel_rfl, ?_⟩) hHeld ?_
            · intro w hSw; go_simp
            simp only [Act.put, List.setIfInBounds_toArray, List.set_cons_zero, List.set_cons_succ]
            refine wpAnyH_take (i := 2) (oi := _) (v := .int .i64 (n : Int)) (by rw [List.getElem?_toArray]; exact rfl) (by kernel_rfl) (by kernel_rfl) (by kernel_rfl) (by intro _ _ _ h; exact h) (Or.inl ⟨by kernel_rfl, ?_⟩) hHeld ?_
            · intro w hSw; go_simp
            simp only [Act.put, List.setIfInBounds_toArray, List.set_cons_zero, List.set_cons_succ]
            refine wpAnyH_take (i := 3) (oi := _) (v := .bool false) (by rw [List.getElem?_toArray]; exact rfl) (by kernel_rfl) (by kernel_rfl) (by kernel_rfl) (by intro _ _ _ h; exact h) (Or.inl ⟨by kernel_rfl, ?_⟩) hHeld ?_
            · intro w hSw; go_simp
            simp only [Act.put, List.setIfInBounds_toArray, List.set_cons_zero, List.set_cons_succ]
            refine wpAnyH_take (i := 4) (oi := _) (v := .bool false) (by rw [List.getElem?_toArray]; exact rfl) (by kernel_rfl) (by kernel_rfl) (by kernel_rfl) (by intro _ _ _ h; exact h) (Or.inl ⟨by kernel_rfl, ?_⟩) hHeld ?_
            · intro w hSw; go_simp
            simp only [Act.put, List.setIfInBounds_toArray, List.set_cons_zero, List.set_cons_succ]
            refine wpAnyH_take (i := 5) (oi := _) (v := .slice va L.length vc) (by rw [List.getElem?_toArray]; exact rfl) (by kernel_rfl) (by kernel_rfl) (by kernel_rfl) (by intro _ _ _ h; exact h) (Or.inl ⟨by kernel_rfl, ?_⟩) hHeld ?_
            · intro w hSw; go_simp
            simp only [Act.put, List.setIfInBounds_toArray, List.set_cons_zero, List.set_cons_succ]
            refine wpAnyH_ready (rs := [6]) (by kernel_rfl) (by simp) ?_
            refine AllReadyH.cons (o := _) (by rw [List.getElem?_toArray]; exact rfl) (fun K hK => ?_) AllReadyH.nil
            rw [if_pos (by kernel_rfl)]
            go_simp
            refine (specTupleOk_any va L.length vc L wr.drew HV.out).mono ?_
            rintro e w1 ⟨rfl, hb1⟩
            have HB1 : Hid (Below wr.heap.size wr w1) := (Below.refl _ wr).drew.trans hb1
            rw [HTD.out]
            clear hb1
            go_simp
            refine hK.out _ _ ?_ (fun hHeld => ?_)
            · exact bys_text (HLW.out.below HB1.out (Nat.le_refl _))
            clear hK K
            (try simp only [Act.put, List.setIfInBounds_toArray, List.set_cons_zero, List.set_cons_succ])
            refine wpAnyH_take (i := 7) (oi := _) (v := .bool false) (by rw [List.getElem?_toArray]; exact rfl) (by kernel_rfl) (by kernel_rfl) (by kernel_rfl) (by intro _ _ _ h; exact h) (Or.inl ⟨by kernel_rfl, ?_⟩) hHeld ?_
            · intro w hSw; go_simp
            simp only [Act.put, List.setIfInBounds_toArray, List.set_cons_zero, List.set_cons_succ]
            refine wpAnyH_take (i := 8) (oi := _) (v := .bool false) (by rw [List.getElem?_toArray]; exact rfl) (by kernel_rfl) (by kernel_rfl) (by kernel_rfl) (by intro _ _ _ h; exact h) (Or.inl ⟨by kernel_rfl, ?_⟩) hHeld ?_
            · intro w hSw; go_simp
            simp only [Act.put, List.setIfInBounds_toArray, List.set_cons_zero, List.set_cons_succ]
            refine wpAnyH_take (i := 9) (oi := _) (v := .bool false) (by rw [List.getElem?_toArray]; exact rfl) (by kernel_rfl) (by kernel_rfl) (by kernel_rfl) (by intro _ _ _ h; exact h) (Or.inl ⟨by kernel_rfl, ?_⟩) hHeld ?_
            · intro w hSw; go_simp
            simp only [Act.put, List.setIfInBounds_toArray, List.set_cons_zero, List.set_cons_succ]
            refine wpAnyH_take (i := 10) (oi := _) (v := .slice va L.length vc) (by rw [List.getElem?_toArray]; exact rfl) (by kernel_rfl) (by kernel_rfl) (by kernel_rfl) (by intro _ _ _ h; exact h) (Or.inl ⟨by kernel_rfl, ?_⟩) hHeld ?_
            · intro w hSw; go_simp
            simp only [Act.put, List.setIfInBounds_toArray, List.set_cons_zero, List.set_cons_succ]
            refine wpAnyH_take (i := 13) (oi := _) (v := .slice a n c) (by rw [List.getElem?_toArray]; exact rfl) (by kernel_rfl) (by kernel_rfl) (by kernel_rfl) (by intro _ _ _ h; exact h) (Or.inl ⟨by kernel_rfl, ?_⟩) hHeld ?_
            · intro w hSw; go_simp
            simp only [Act.put, List.setIfInBounds_toArray, List.set_cons_zero, List.set_cons_succ]
            refine wpAnyH_take (i := 14) (oi := _) (v := .string ⟨l.toArray⟩) (by rw [List.getElem?_toArray]; exact rfl) (by kernel_rfl) (by kernel_rfl) (by kernel_rfl) (by intro _ _ _ h; exact h) (Or.inl ⟨by kernel_rfl, ?_⟩) hHeld ?_
            · intro w hSw; go_simp
            simp only [Act.put, List.setIfInBounds_toArray, List.set_cons_zero, List.set_cons_succ]
            refine wpAnyH_ready (rs := [11]) (by kernel_rfl) (by simp) ?_
            refine AllReadyH.cons (o := _) (by rw [List.getElem?_toArray]; exact rfl) (fun K hK => ?_) AllReadyH.nil
            rw [if_pos (by kernel_rfl)]
            go_simp
            refine (specTupleBytes_any va L.length vc L w1 (HV.out.below HB1.out (Nat.le_refl _))).mono ?_
            rintro e w2 ⟨v2, rfl, ho2, hb2⟩
            rw [HTB.out] at ho2
            have HB2 : Hid (Below w1.heap.size w1 w2) := hb2
            have hcv := bown_text ho2
            clear hb2 ho2
            go_simp
            refine hK.out _ _ ?_ (fun hHeld => ?_)
            · exact bys_text ((HLW.out.below HB1.out (Nat.le_refl _)).below HB2.out (Nat.le_refl _))
            clear hK K
            (try simp only [Act.put, List.setIfInBounds_toArray, List.set_cons_zero, List.set_cons_succ])
            refine wpAnyH_ready (rs := [12]) (by kernel_rfl) (by simp) ?_
            refine AllReadyH.cons (o := _) (by rw [List.getElem?_toArray]; exact rfl) (fun K hK => ?_) AllReadyH.nil
            rw [if_pos (by kernel_rfl)]
            go_simp
            refine hK.out _ _ ?_ (fun hHeld => ?_)
            · exact bys_text ((HLW.out.below HB1.out (Nat.le_refl _)).below HB2.out (Nat.le_refl _))
            clear hK K
            (try simp only [Act.put, List.setIfInBounds_toArray, List.set_cons_zero, List.set_cons_succ])
            refine wpAnyH_take (i := 15) (oi := _) (v := .bool false) (by rw [List.getElem?_toArray]; exact rfl) (by kernel_rfl) (by kernel_rfl) (by kernel_rfl) (by intro _ _ _ h; exact h) (Or.inl ⟨by kernel_rfl, ?_⟩) hHeld ?_
            · intro w hSw; go_simp; exact HE.out
            simp only [Act.put, List.setIfInBounds_toArray, List.set_cons_zero, List.set_cons_succ]
            refine wpAnyH_take (i := 16) (oi := _) (v := .bool false) (by rw [List.getElem?_toArray]; exact rfl) (by kernel_rfl) (by kernel_rfl) (by kernel_rfl) (by intro _ _ _ h; exact h) (Or.inl ⟨by kernel_rfl, ?_⟩) hHeld ?_
            · intro w hSw; go_simp
            simp only [Act.put, List.setIfInBounds_toArray, List.set_cons_zero, List.set_cons_succ]
            refine wpAnyH_done (by kernel_rfl) ?_ _
            have HZ1 := Nat.le_trans HSZ.out HB1.out.size
            have HZ2 := Nat.le_trans HZ1 HB2.out.size
            have ho := owns_below (owns_below HO.out HB1.out (Nat.le_refl _)) HB2.out (Nat.le_refl _)
            go_wp2
            go_ret2
            refine ⟨⟨_, true, L, rfl, ?_, .inl ⟨rfl, HIS.out⟩⟩, (HBW.out.trans (HB1.out.mono HSZ.out)).trans (HB2.out.mono HZ1)⟩
            exact own_weaken ho (Nat.le_of_eq HG.out)
          · have HTD : Hid (decide (TupGood L) = true) := decide_eq_true hT
            have HTB : Hid (tupBytes L = tupB L) := if_pos hT
            have HNO : Hid (∀ M, ¬ TupIs l M) := HR.out.none HDN.out (fun e => hE e.2.2)
            have HE : Hid (¬ tupB L = l) := hE
            clear hE hT
            go_upto_region 7 with (fail)
            refine wp_region_held_drew (S := fun w' => (convert 22 9 (.slice a n c)).run Tryd.prog w' = .ok (.string ⟨l.toArray⟩) w') (by kernel_rfl) (bys_text HLW.out) (fun hHeld => ?_)
            refine wpAnyH_take (i := 0) (oi := _) (v := .int .i64 (j : Int)) (by rw [List.getElem?_toArray]; exact rfl) (by kernel_rfl) (by kernel_rfl) (by kernel_rfl) (by intro _ _ _ h; exact h) (Or.inl ⟨by kernel_rfl, ?_⟩) hHeld ?_
            · intro w hSw; go_simp
            simp only [Act.put, List.setIfInBounds_toArray, List.set_cons_zero, List.set_cons_succ]
            refine wpAnyH_take (i := 1) (oi := _) (v := .slice a n c) (by rw [List.getElem?_toArray]; exact rfl) (by kernel_rfl) (by kernel_rfl) (by kernel_rfl) (by intro _ _ _ h; exact h) (Or.inl ⟨by kernel_rfl, ?_⟩) hHeld ?_
            · intro w hSw; go_simp
            simp only [Act.put, List.setIfInBounds_toArray, List.set_cons_zero, List.set_cons_succ]
            refine wpAnyH_take (i := 2) (oi := _) (v := .int .i64 (n : Int)) (by rw [List.getElem?_toArray]; exact rfl) (by kernel_rfl) (by kernel_rfl) (by kernel_rfl) (by intro _ _ _ h; exact h) (Or.inl ⟨by kernel_rfl, ?_⟩) hHeld ?_
            · intro w hSw; go_simp
            simp only [Act.put, List.setIfInBounds_toArray, List.set_cons_zero, List.set_cons_succ]
            refine wpAnyH_take (i := 3) (oi := _) (v := .bool false) (by rw [List.getElem?_toArray]; exact rfl) (by kernel_rfl) (by kernel_rfl) (by kernel_rfl) (by intro _ _ _ h; exact h) (Or.inl ⟨by kernel_rfl, ?_⟩) hHeld ?_
            · intro w hSw; go_simp
            simp only [Act.put, List.setIfInBounds_toArray, List.set_cons_zero, List.set_cons_succ]
            refine wpAnyH_take (i := 4) (oi := _) (v := .bool false) (by rw [List.getElem?_toArray]; exact rfl) (by kernel_rfl) (by kernel_rfl) (by kernel_rfl) (by intro _ _ _ h; exact h) (Or.inl ⟨by kernel_rfl, ?_⟩) hHeld ?_
            · intro w hSw; go_simp
            simp only [Act.put, List.setIfInBounds_toArray, List.set_cons_zero, List.set_cons_succ]
            refine wpAnyH_take (i := 5) (oi := _) (v := .slice va L.length vc) (by rw [List.getElem?_toArray]; exact rfl) (by kernel_rfl) (by kernel_rfl) (by kernel_rfl) (by intro _ _ _ h; exact h) (Or.inl ⟨by kernel_rfl, ?_⟩) hHeld ?_
            · intro w hSw; go_simp
            simp only [Act.put, List.setIfInBounds_toArray, List.set_cons_zero, List.set_cons_succ]
            refine wpAnyH_ready (rs := [6]) (by kernel_rfl) (by simp) ?_
            refine AllReadyH.cons (o := _) (by rw [List.getElem?_toArray]; exact rfl) (fun K hK => ?_) AllReadyH.nil
            rw [if_pos (by kernel_rfl)]
            go_simp
            refine (specTupleOk_any va L.length vc L wr.drew HV.out).mono ?_
            rintro e w1 ⟨rfl, hb1⟩
            have HB1 : Hid (Below wr.heap.size wr w1) := (Below.refl _ wr).drew.trans hb1
            rw [HTD.out]
            clear hb1
            go_simp
            refine hK.out _ _ ?_ (fun hHeld => ?_)
            · exact bys_text (HLW.out.below HB1.out (Nat.le_refl _))
            clear hK K
            (try simp only [Act.put, List.setIfInBounds_toArray, List.set_cons_zero, List.set_cons_succ])
            refine wpAnyH_take (i := 7) (oi := _) (v := .bool false) (by rw [List.getElem?_toArray]; exact rfl) (by kernel_rfl) (by kernel_rfl) (by kernel_rfl) (by intro _ _ _ h; exact h) (Or.inl ⟨by kernel_rfl, ?_⟩) hHeld ?_
            · intro w hSw; go_simp
            simp only [Act.put, List.setIfInBounds_toArray, List.set_cons_zero, List.set_cons_succ]
            refine wpAnyH_take (i := 8) (oi := _) (v := .bool false) (by rw [List.getElem?_toArray]; exact rfl) (by kernel_rfl) (by kernel_rfl) (by kernel_rfl) (by intro _ _ _ h; exact h) (Or.inl ⟨by kernel_rfl, ?_⟩) hHeld ?_
            · intro w hSw; go_simp
            simp only [Act.put, List.setIfInBounds_toArray, List.set_cons_zero, List.set_cons_succ]
            refine wpAnyH_take (i := 9) (oi := _) (v := .bool false) (by rw [List.getElem?_toArray]; exact rfl) (by kernel_rfl) (by kernel_rfl) (by kernel_rfl) (by intro _ _ _ h; exact h) (Or.inl ⟨by kernel_rfl, ?_⟩) hHeld ?_
            · intro w hSw; go_simp
            simp only [Act.put, List.setIfInBounds_toArray, List.set_cons_zero, List.set_cons_succ]
            refine wpAnyH_take (i := 10) (oi := _) (v := .slice va L.length vc) (by rw [List.getElem?_toArray]; exact rfl) (by kernel_rfl) (by kernel_rfl) (by kernel_rfl) (by intro _ _ _ h; exact h) (Or.inl ⟨by kernel_rfl, ?_⟩) hHeld ?_
            · intro w hSw; go_simp
            simp only [Act.put, List.setIfInBounds_toArray, List.set_cons_zero, List.set_cons_succ]
            refine wpAnyH_take (i := 13) (oi := _) (v := .slice a n c) (by rw [List.getElem?_toArray]; exact rfl) (by kernel_rfl) (by kernel_rfl) (by kernel_rfl) (by intro _ _ _ h; exact h) (Or.inl ⟨by kernel_rfl, ?_⟩) hHeld ?_
            · intro w hSw; go_simp
            simp only [Act.put, List.setIfInBounds_toArray, List.set_cons_zero, List.set_cons_succ]
            refine wpAnyH_take (i := 14) (oi := _) (v := .string ⟨l.toArray⟩) (by rw [List.getElem?_toArray]; exact rfl) (by kernel_rfl) (by kernel_rfl) (by kernel_rfl) (by intro _ _ _ h; exact h) (Or.inl ⟨by kernel_rfl, ?_⟩) hHeld ?_
            · intro w hSw; go_simp
            simp only [Act.put, List.setIfInBounds_toArray, List.set_cons_zero, List.set_cons_succ]
            refine wpAnyH_ready (rs := [11]) (by kernel_rfl) (by simp) ?_
            refine AllReadyH.cons (o := _) (by rw [List.getElem?_toArray]; exact rfl) (fun K hK => ?_) AllReadyH.nil
            rw [if_pos (by kernel_rfl)]
            go_simp
            refine (specTupleBytes_any va L.length vc L w1 (HV.out.below HB1.out (Nat.le_refl _))).mono ?_
            rintro e w2 ⟨v2, rfl, ho2, hb2⟩
            rw [HTB.out] at ho2
            have HB2 : Hid (Below w1.heap.size w1 w2) := hb2
            have hcv := bown_text ho2
            clear hb2 ho2
            go_simp
            refine hK.out _ _ ?_ (fun hHeld => ?_)
            · exact bys_text ((HLW.out.below HB1.out (Nat.le_refl _)).below HB2.out (Nat.le_refl _))
            clear hK K
            (try simp only [Act.put, List.setIfInBounds_toArray, List.set_cons_zero, List.set_cons_succ])
            refine wpAnyH_ready (rs := [12]) (by kernel_rfl) (by simp) ?_
            refine AllReadyH.cons (o := _) (by rw [List.getElem?_toArray]; exact rfl) (fun K hK => ?_) AllReadyH.nil
            rw [if_pos (by kernel_rfl)]
            go_simp
            refine hK.out _ _ ?_ (fun hHeld => ?_)
            · exact bys_text ((HLW.out.below HB1.out (Nat.le_refl _)).below HB2.out (Nat.le_refl _))
            clear hK K
            (try simp only [Act.put, List.setIfInBounds_toArray, List.set_cons_zero, List.set_cons_succ])
            refine wpAnyH_take (i := 15) (oi := _) (v := .bool true) (by rw [List.getElem?_toArray]; exact rfl) (by kernel_rfl) (by kernel_rfl) (by kernel_rfl) (by intro _ _ _ h; exact h) (Or.inl ⟨by kernel_rfl, ?_⟩) hHeld ?_
            · intro w hSw; go_simp; exact HE.out
            simp only [Act.put, List.setIfInBounds_toArray, List.set_cons_zero, List.set_cons_succ]
            refine wpAnyH_take (i := 16) (oi := _) (v := .bool true) (by rw [List.getElem?_toArray]; exact rfl) (by kernel_rfl) (by kernel_rfl) (by kernel_rfl) (by intro _ _ _ h; exact h) (Or.inl ⟨by kernel_rfl, ?_⟩) hHeld ?_
            · intro w hSw; go_simp
            simp only [Act.put, List.setIfInBounds_toArray, List.set_cons_zero, List.set_cons_succ]
            refine wpAnyH_done (by kernel_rfl) ?_ _
            have HZ1 := Nat.le_trans HSZ.out HB1.out.size
            have HZ2 := Nat.le_trans HZ1 HB2.out.size
            go_wp2
            go_ret2
            refine ⟨⟨_, false, [], rfl, vown_nil _ rfl ?_, .inr ⟨rfl, rfl, HNO.out⟩⟩, ?_⟩
            · exact Nat.le_trans (Nat.le_of_eq HG.out) HZ2
            · exact ((HBW.out.trans (HB1.out.mono HSZ.out)).trans (HB2.out.mono HZ1)).alloc HZ2 _
        · have HTD : Hid (decide (TupGood L) = false) := decide_eq_false hT
          have HNO : Hid (∀ M, ¬ TupIs l M) := HR.out.none HDN.out (fun e => hT e.2.1)
          go_upto_region 7 with (fail)
          refine wp_region_held_drew (S := fun w' => (convert 22 9 (.slice a n c)).run Tryd.prog w' = .ok (.string ⟨l.toArray⟩) w') (by kernel_rfl) (bys_text HLW.out) (fun hHeld => ?_)
          refine wpAnyH_take (i := 0) (oi := _) (v := .int .i64 (j : Int)) (by rw [List.getElem?_toArray]; exact rfl) (by kernel_rfl) (by kernel_rfl) (by kernel_rfl) (by intro _ _ _ h; exact h) (Or.inl ⟨by kernel_rfl, ?_⟩) hHeld ?_
          · intro w hSw; go_simp
          simp only [Act.put, List.setIfInBounds_toArray, List.set_cons_zero, List.set_cons_succ]
          refine wpAnyH_take (i := 1) (oi := _) (v := .slice a n c) (by rw [List.getElem?_toArray]; exact rfl) (by kernel_rfl) (by kernel_rfl) (by kernel_rfl) (by intro _ _ _ h; exact h) (Or.inl ⟨by kernel_rfl, ?_⟩) hHeld ?_
          · intro w hSw; go_simp
          simp only [Act.put, List.setIfInBounds_toArray, List.set_cons_zero, List.set_cons_succ]
          refine wpAnyH_take (i := 2) (oi := _) (v := .int .i64 (n : Int)) (by rw [List.getElem?_toArray]; exact rfl) (by kernel_rfl) (by kernel_rfl) (by kernel_rfl) (by intro _ _ _ h; exact h) (Or.inl ⟨by kernel_rfl, ?_⟩) hHeld ?_
          · intro w hSw; go_simp
          simp only [Act.put, List.setIfInBounds_toArray, List.set_cons_zero, List.set_cons_succ]
          refine wpAnyH_take (i := 3) (oi := _) (v := .bool false) (by rw [List.getElem?_toArray]; exact rfl) (by kernel_rfl) (by kernel_rfl) (by kernel_rfl) (by intro _ _ _ h; exact h) (Or.inl ⟨by kernel_rfl, ?_⟩) hHeld ?_
          · intro w hSw; go_simp
          simp only [Act.put, List.setIfInBounds_toArray, List.set_cons_zero, List.set_cons_succ]
          refine wpAnyH_take (i := 4) (oi := _) (v := .bool false) (by rw [List.getElem?_toArray]; exact rfl) (by kernel_rfl) (by kernel_rfl) (by kernel_rfl) (by intro _ _ _ h; exact h) (Or.inl ⟨by kernel_rfl, ?_⟩) hHeld ?_
          · intro w hSw; go_simp
          simp only [Act.put, List.setIfInBounds_toArray, List.set_cons_zero, List.set_cons_succ]
          refine wpAnyH_take (i := 5) (oi := _) (v := .slice va L.length vc) (by rw [List.getElem?_toArray]; exact rfl) (by kernel_rfl) (by kernel_rfl) (by kernel_rfl) (by intro _ _ _ h; exact h) (Or.inl ⟨by kernel_rfl, ?_⟩) hHeld ?_
          · intro w hSw; go_simp
          simp only [Act.put, List.setIfInBounds_toArray, List.set_cons_zero, List.set_cons_succ]
          refine wpAnyH_ready (rs := [6]) (by kernel_rfl) (by simp) ?_
          refine AllReadyH.cons (o := _) (by rw [List.getElem?_toArray]; exact rfl) (fun K hK => ?_) AllReadyH.nil
          rw [if_pos (by kernel_rfl)]
          go_simp
          refine (specTupleOk_any va L.length vc L wr.drew HV.out).mono ?_
          rintro e w1 ⟨rfl, hb1⟩
          have HB1 : Hid (Below wr.heap.size wr w1) := (Below.refl _ wr).drew.trans hb1
          rw [HTD.out]
          clear hb1
          go_simp
          refine hK.out _ _ ?_ (fun hHeld => ?_)
          · exact bys_text (HLW.out.below HB1.out (Nat.le_refl _))
          clear hK K
          (try simp only [Act.put, List.setIfInBounds_toArray, List.set_cons_zero, List.set_cons_succ])
          refine wpAnyH_take (i := 7) (oi := _) (v := .bool true) (by rw [List.getElem?_toArray]; exact rfl) (by kernel_rfl) (by kernel_rfl) (by kernel_rfl) (by intro _ _ _ h; exact h) (Or.inl ⟨by kernel_rfl, ?_⟩) hHeld ?_
          · intro w hSw; go_simp
          simp only [Act.put, List.setIfInBounds_toArray, List.set_cons_zero, List.set_cons_succ]
          refine wpAnyH_take (i := 8) (oi := _) (v := .bool true) (by rw [List.getElem?_toArray]; exact rfl) (by kernel_rfl) (by kernel_rfl) (by kernel_rfl) (by intro _ _ _ h; exact h) (Or.inl ⟨by kernel_rfl, ?_⟩) hHeld ?_
          · intro w hSw; go_simp
          simp only [Act.put, List.setIfInBounds_toArray, List.set_cons_zero, List.set_cons_succ]
          refine wpAnyH_take (i := 9) (oi := _) (v := .bool true) (by rw [List.getElem?_toArray]; exact rfl) (by kernel_rfl) (by kernel_rfl) (by kernel_rfl) (by intro _ _ _ h; exact h) (Or.inl ⟨by kernel_rfl, ?_⟩) hHeld ?_
          · intro w hSw; go_simp
          simp only [Act.put, List.setIfInBounds_toArray, List.set_cons_zero, List.set_cons_succ]
          refine wpAnyH_take (i := 10) (oi := _) (v := undef) (by rw [List.getElem?_toArray]; exact rfl) (by kernel_rfl) (by kernel_rfl) (by kernel_rfl) (by intro _ _ _ h; exact h) (Or.inr ⟨by kernel_rfl, rfl⟩) hHeld ?_
          simp only [Act.put, List.setIfInBounds_toArray, List.set_cons_zero, List.set_cons_succ]
          refine wpAnyH_take (i := 11) (oi := _) (v := undef) (by rw [List.getElem?_toArray]; exact rfl) (by kernel_rfl) (by kernel_rfl) (by kernel_rfl) (by intro _ _ _ h; exact h) (Or.inr ⟨by kernel_rfl, rfl⟩) hHeld ?_
          simp only [Act.put, List.setIfInBounds_toArray, List.set_cons_zero, List.set_cons_succ]
          refine wpAnyH_take (i := 12) (oi := _) (v := undef) (by rw [List.getElem?_toArray]; exact rfl) (by kernel_rfl) (by kernel_rfl) (by kernel_rfl) (by intro _ _ _ h; exact h) (Or.inr ⟨by kernel_rfl, rfl⟩) hHeld ?_
          simp only [Act.put, List.setIfInBounds_toArray, List.set_cons_zero, List.set_cons_succ]
          refine wpAnyH_take (i := 13) (oi := _) (v := undef) (by rw [List.getElem?_toArray]; exact rfl) (by kernel_rfl) (by kernel_rfl) (by kernel_rfl) (by intro _ _ _ h; exact h) (Or.inr ⟨by kernel_rfl, rfl⟩) hHeld ?_
          simp only [Act.put, List.setIfInBounds_toArray, List.set_cons_zero, List.set_cons_succ]
          refine wpAnyH_take (i := 14) (oi := _) (v := undef) (by rw [List.getElem?_toArray]; exact rfl) (by kernel_rfl) (by kernel_rfl) (by kernel_rfl) (by intro _ _ _ h; exact h) (Or.inr ⟨by kernel_rfl, rfl⟩) hHeld ?_
          simp only [Act.put, List.setIfInBounds_toArray, List.set_cons_zero, List.set_cons_succ]
          refine wpAnyH_take (i := 15) (oi := _) (v := undef) (by rw [List.getElem?_toArray]; exact rfl) (by kernel_rfl) (by kernel_rfl) (by kernel_rfl) (by intro _ _ _ h; exact h) (Or.inr ⟨by kernel_rfl, rfl⟩) hHeld ?_
          simp only [Act.put, List.setIfInBounds_toArray, List.set_cons_zero, List.set_cons_succ]
          refine wpAnyH_take (i := 16) (oi := _) (v := .bool true) (by rw [List.getElem?_toArray]; exact rfl) (by kernel_rfl) (by kernel_rfl) (by kernel_rfl) (by intro _ _ _ h; exact h) (Or.inl ⟨by kernel_rfl, ?_⟩) hHeld ?_
          · intro w hSw; go_simp
          simp only [Act.put, List.setIfInBounds_toArray, List.set_cons_zero, List.set_cons_succ]
          refine wpAnyH_done (by kernel_rfl) ?_ _
          have HZ1 := Nat.le_trans HSZ.out HB1.out.size
          go_wp2
          go_ret2
          refine ⟨⟨_, false, [], rfl, vown_nil _ rfl ?_, .inr ⟨rfl, rfl, HNO.out⟩⟩, ?_⟩
          · exact Nat.le_trans (Nat.le_of_eq HG.out) HZ1
          · exact (HBW.out.trans (HB1.out.mono HSZ.out)).alloc HZ1 _
      · have hjb : ((j : Int) == (n : Int)) = false := by rw [beq_eq_false_iff_ne]; omega
        have hjc : ((j : Int) != (n : Int)) = true := by rw [bne, hjb]; rfl
        have HNO : Hid (∀ M, ¬ TupIs l M) := HR.out.none HDN.out (fun e => hjn (by rw [← hl]; exact e.1))
        rcases hcnd with ⟨hm1, hm2⟩ | hm1
        all_goals
          go_upto_region 7 with (fail)
          refine wp_region_held_drew (S := fun _ => True) (by kernel_rfl) trivial (fun hHeld => ?_)
          refine wpAnyH_take (i := 0) (oi := _) (v := .int .i64 (j : Int)) (by rw [List.getElem?_toArray]; exact rfl) (by kernel_rfl) (by kernel_rfl) (by kernel_rfl) (by intro _ _ _ h; exact h) (Or.inl ⟨by kernel_rfl, ?_⟩) hHeld ?_
          · intro w hSw; go_simp
          simp only [Act.put, List.setIfInBounds_toArray, List.set_cons_zero, List.set_cons_succ]
          refine wpAnyH_take (i := 1) (oi := _) (v := .slice a n c) (by rw [List.getElem?_toArray]; exact rfl) (by kernel_rfl) (by kernel_rfl) (by kernel_rfl) (by intro _ _ _ h; exact h) (Or.inl ⟨by kernel_rfl, ?_⟩) hHeld ?_
          · intro w hSw; go_simp
          simp only [Act.put, List.setIfInBounds_toArray, List.set_cons_zero, List.set_cons_succ]
          refine wpAnyH_take (i := 2) (oi := _) (v := .int .i64 (n : Int)) (by rw [List.getElem?_toArray]; exact rfl) (by kernel_rfl) (by kernel_rfl) (by kernel_rfl) (by intro _ _ _ h; exact h) (Or.inl ⟨by kernel_rfl, ?_⟩) hHeld ?_
          · intro w hSw; go_simp
          simp only [Act.put, List.setIfInBounds_toArray, List.set_cons_zero, List.set_cons_succ]
          refine wpAnyH_take (i := 3) (oi := _) (v := .bool true) (by rw [List.getElem?_toArray]; exact rfl) (by kernel_rfl) (by kernel_rfl) (by kernel_rfl) (by intro _ _ _ h; exact h) (Or.inl ⟨by kernel_rfl, ?_⟩) hHeld ?_
          · intro w hSw; go_simp
          simp only [Act.put, List.setIfInBounds_toArray, List.set_cons_zero, List.set_cons_succ]
          refine wpAnyH_take (i := 4) (oi := _) (v := .bool true) (by rw [List.getElem?_toArray]; exact rfl) (by kernel_rfl) (by kernel_rfl) (by kernel_rfl) (by intro _ _ _ h; exact h) (Or.inl ⟨by kernel_rfl, ?_⟩) hHeld ?_
          · intro w hSw; go_simp
          simp only [Act.put, List.setIfInBounds_toArray, List.set_cons_zero, List.set_cons_succ]
          refine wpAnyH_take (i := 5) (oi := _) (v := undef) (by rw [List.getElem?_toArray]; exact rfl) (by kernel_rfl) (by kernel_rfl) (by kernel_rfl) (by intro _ _ _ h; exact h) (Or.inr ⟨by kernel_rfl, rfl⟩) hHeld ?_
          simp only [Act.put, List.setIfInBounds_toArray, List.set_cons_zero, List.set_cons_succ]
          refine wpAnyH_take (i := 6) (oi := _) (v := undef) (by rw [List.getElem?_toArray]; exact rfl) (by kernel_rfl) (by kernel_rfl) (by kernel_rfl) (by intro _ _ _ h; exact h) (Or.inr ⟨by kernel_rfl, rfl⟩) hHeld ?_
          simp only [Act.put, List.setIfInBounds_toArray, List.set_cons_zero, List.set_cons_succ]
          refine wpAnyH_take (i := 7) (oi := _) (v := undef) (by rw [List.getElem?_toArray]; exact rfl) (by kernel_rfl) (by kernel_rfl) (by kernel_rfl) (by intro _ _ _ h; exact h) (Or.inr ⟨by kernel_rfl, rfl⟩) hHeld ?_
          simp only [Act.put, List.setIfInBounds_toArray, List.set_cons_zero, List.set_cons_succ]
          refine wpAnyH_take (i := 8) (oi := _) (v := .bool true) (by rw [List.getElem?_toArray]; exact rfl) (by kernel_rfl) (by kernel_rfl) (by kernel_rfl) (by intro _ _ _ h; exact h) (Or.inl ⟨by kernel_rfl, ?_⟩) hHeld ?_
          · intro w hSw; go_simp
          simp only [Act.put, List.setIfInBounds_toArray, List.set_cons_zero, List.set_cons_succ]
          refine wpAnyH_take (i := 9) (oi := _) (v := .bool true) (by rw [List.getElem?_toArray]; exact rfl) (by kernel_rfl) (by kernel_rfl) (by kernel_rfl) (by intro _ _ _ h; exact h) (Or.inl ⟨by kernel_rfl, ?_⟩) hHeld ?_
          · intro w hSw; go_simp
          simp only [Act.put, List.setIfInBounds_toArray, List.set_cons_zero, List.set_cons_succ]
          refine wpAnyH_take (i := 10) (oi := _) (v := undef) (by rw [List.getElem?_toArray]; exact rfl) (by kernel_rfl) (by kernel_rfl) (by kernel_rfl) (by intro _ _ _ h; exact h) (Or.inr ⟨by kernel_rfl, rfl⟩) hHeld ?_
          simp only [Act.put, List.setIfInBounds_toArray, List.set_cons_zero, List.set_cons_succ]
          refine wpAnyH_take (i := 11) (oi := _) (v := undef) (by rw [List.getElem?_toArray]; exact rfl) (by kernel_rfl) (by kernel_rfl) (by kernel_rfl) (by intro _ _ _ h; exact h) (Or.inr ⟨by kernel_rfl, rfl⟩) hHeld ?_
          simp only [Act.put, List.setIfInBounds_toArray, List.set_cons_zero, List.set_cons_succ]
          refine wpAnyH_take (i := 12) (oi := _) (v := undef) (by rw [List.getElem?_toArray]; exact rfl) (by kernel_rfl) (by kernel_rfl) (by kernel_rfl) (by intro _ _ _ h; exact h) (Or.inr ⟨by kernel_rfl, rfl⟩) hHeld ?_
          simp only [Act.put, List.setIfInBounds_toArray, List.set_cons_zero, List.set_cons_succ]
          refine wpAnyH_take (i := 13) (oi := _) (v := undef) (by rw [List.getElem?_toArray]; exact rfl) (by kernel_rfl) (by kernel_rfl) (by kernel_rfl) (by intro _ _ _ h; exact h) (Or.inr ⟨by kernel_rfl, rfl⟩) hHeld ?_
          simp only [Act.put, List.setIfInBounds_toArray, List.set_cons_zero, List.set_cons_succ]
          refine wpAnyH_take (i := 14) (oi := _) (v := undef) (by rw [List.getElem?_toArray]; exact rfl) (by kernel_rfl) (by kernel_rfl) (by kernel_rfl) (by intro _ _ _ h; exact h) (Or.inr ⟨by kernel_rfl, rfl⟩) hHeld ?_
          simp only [Act.put, List.setIfInBounds_toArray, List.set_cons_zero, List.set_cons_succ]
          refine wpAnyH_take (i := 15) (oi := _) (v := undef) (by rw [List.getElem?_toArray]; exact rfl) (by kernel_rfl) (by kernel_rfl) (by kernel_rfl) (by intro _ _ _ h; exact h) (Or.inr ⟨by kernel_rfl, rfl⟩) hHeld ?_
          simp only [Act.put, List.setIfInBounds_toArray, List.set_cons_zero, List.set_cons_succ]
          refine wpAnyH_take (i := 16) (oi := _) (v := .bool true) (by rw [List.getElem?_toArray]; exact rfl) (by kernel_rfl) (by kernel_rfl) (by kernel_rfl) (by intro _ _ _ h; exact h) (Or.inl ⟨by kernel_rfl, ?_⟩) hHeld ?_
          · intro w hSw; go_simp
          simp only [Act.put, List.setIfInBounds_toArray, List.set_cons_zero, List.set_cons_succ]
          refine wpAnyH_done (by kernel_rfl) ?_ _
          go_wp2
          go_ret2
          refine ⟨⟨_, false, [], rfl, vown_nil _ rfl ?_, .inr ⟨rfl, rfl, HNO.out⟩⟩, ?_⟩
          · exact Nat.le_trans (Nat.le_of_eq HG.out) HSZ.out
          · exact HBW.out.drew.alloc HSZ.out _
end
section
open Go.Lib
def numsB (xs : List Int) : List UInt8 := join (xs.map itoa) [44]

theorem join_snoc (l : List (List UInt8)) (x sep : List UInt8) (h : l ≠ []) : join (l ++ [x]) sep = join l sep ++ sep ++ x := by
  cases l with
  | nil => exact absurd rfl h
  | cons a l =>
    rw [List.cons_append, join_cons, join_cons]
    simp [joinTail]

def In64s (xs : List Int) : Prop := ∀ x ∈ xs, -9223372036854775808 ≤ x ∧ x ≤ 9223372036854775807
end
section
open Go.ChangeShapes Go.WideShapes Go.ChangeAt Go.RowKit
open Go.Lib (itoa itoa_length_le)

def signsL : List UInt8 := [48, 49, 50, 51, 52, 53, 54, 55, 56, 57, 97, 98, 99, 100, 101, 102]
def signU (i : Nat) : UInt8 := signsL.getD i 0
def hexB (l : List UInt8) : List UInt8 := l.flatMap fun b => [signU (b.toNat / 16), signU (b.toNat % 16)]
def valB (k n : Int) (s : ByteArray) : List UInt8 :=
  if ¬ VaGood k n s then [98, 97, 100] else if k = 1 then (if n = 0 then [110, 111] else [121, 101, 115]) else if k = 2 then itoa n else if k = 3 then 34 :: hexB s.data.toList else [110, 117, 108, 108]
theorem hex_succ {l : List UInt8} {j : Nat} {b : UInt8} (h : l[j]? = some b) : hexB (l.take (j + 1)) = hexB (l.take j) ++ [signU (b.toNat / 16), signU (b.toNat % 16)] := by
  have hj : j < l.length := (List.getElem?_eq_some_iff.1 h).1
  unfold hexB
  rw [List.take_succ_eq_append_getElem hj, List.flatMap_append, (List.getElem?_eq_some_iff.1 h).2]
  simp
theorem hex_len (l : List UInt8) : (hexB l).length = 2 * l.length := by
  induction l with
  | nil => rfl
  | cons b l ih => unfold hexB at ih ⊢; rw [List.flatMap_cons, List.length_append, ih]; simp; omega
open Go.Lib (join join_nil join_one join_cons joinTail itoa itoa_length_le)

def txtsB (L : List Va3) : List UInt8 := join (L.map fun x => valB x.1 x.2.1 x.2.2) [44]
theorem txtsB_first (x : Va3) : txtsB ([] ++ [x]) = valB x.1 x.2.1 x.2.2 := by simp [txtsB, join_one]
theorem txtsB_snoc (L : List Va3) (x : Va3) (h : L ≠ []) : txtsB (L ++ [x]) = txtsB L ++ [44] ++ valB x.1 x.2.1 x.2.2 := by
  unfold txtsB
  rw [List.map_append, List.map_singleton, join_snoc _ _ _ (by simpa using h)]
theorem valB_le (k n : Int) (s : ByteArray) : (valB k n s).length ≤ 41 := by
  unfold valB
  split
  · decide
  · rename_i hg
    split
    · split <;> decide
    · split
      · have hn : -9223372036854775808 ≤ n ∧ n ≤ 9223372036854775807 := by
          have h1 := Decidable.of_not_not hg
          unfold VaGood at h1
          omega
        have := itoa_length_le n hn.1 hn.2
        omega
      · split
        · rename_i h1 h2 h3
          have h4 := Decidable.of_not_not hg
          unfold VaGood at h4
          rw [List.length_cons, hex_len]
          have : s.data.toList.length = s.size := by simp
          omega
        · decide
theorem txtsB_len : ∀ (n : Nat) (L : List Va3), L.length = n → (txtsB L).length ≤ 42 * n
  | 0, L, hn => by rw [List.length_eq_zero_iff.1 hn]; simp [txtsB, join_nil]
  | n + 1, L, hn => by
    have hne : L ≠ [] := fun e => by rw [e] at hn; simp at hn
    have e := List.dropLast_concat_getLast hne
    have h1 := txtsB_len n L.dropLast (by simp; omega)
    have h2 := valB_le (L.getLast hne).1 (L.getLast hne).2.1 (L.getLast hne).2.2
    rw [← e]
    by_cases hd : L.dropLast = []
    · rw [hd, txtsB_first]; omega
    · rw [txtsB_snoc _ _ hd]; simp; omega
theorem take_snocV {L : List Va3} {k : Nat} {x : Va3} (h : L[k]? = some x) : L.take (k + 1) = L.take k ++ [x] := by
  rw [List.take_succ_eq_append_getElem (List.getElem?_eq_some_iff.1 h).1, (List.getElem?_eq_some_iff.1 h).2]
open Go.Lib (byteCells byteCells_length byteCells_append itoa itoa_length_le)

theorem sign_at {i : Nat} (h : i < 16) : ∀ h', (⟨#[48, 49, 50, 51, 52, 53, 54, 55, 56, 57, 97, 98, 99, 100, 101, 102]⟩ : ByteArray)[i]'h' = signU i := by
  have h1 : ∀ k : Fin 16, (⟨#[48, 49, 50, 51, 52, 53, 54, 55, 56, 57, 97, 98, 99, 100, 101, 102]⟩ : ByteArray)[k.1]'k.2 = signU k.1 := by decide
  exact fun _ => h1 ⟨i, h⟩
theorem specVT_text (s : ByteArray) (hs : s.size ≤ 20) (w : World) :
    Calls Tryd.prog 34 #[VaV 3 0 s] w fun e w' => TextSays e (34 :: hexB s.data.toList) ∧ Below w.heap.size w w' := by
  have hg : VaGood 3 0 s := by unfold VaGood; omega
  have HG : Hid (decide (VaGood 3 0 s) = true) := decide_eq_true hg
  clear hg
  obtain ⟨W, hW⟩ : ∃ W, w.alloc (.cells #[.int .i64 3, .int .i64 0, .string s] 37) = W := ⟨_, rfl⟩
  have HB0 : Hid (Below w.heap.size w W) := by rw [← hW]; exact (Below.refl _ w).alloc (Nat.le_refl _) _
  have X0 : Hid (Box W w.heap.size #[.int .i64 3, .int .i64 0, .string s] 37) := by rw [← hW]; exact box_of w _ _
  have HW : Hid (w.alloc (.cells #[.int .i64 3, .int .i64 0, .string s] 37) = W) := hW
  obtain ⟨c0, c1, c2⟩ := X0.out.triV
  clear hW
  go_enter Tryd.func34, Tryd.ntmps34
  go_upto_region 1 with (fail)
  rw [HW.out]
  go_wp2_with fail
  refine (specValueOk_any 3 0 s _).mono ?_
  rintro e w1 ⟨rfl, hb1⟩
  rw [HG.out]
  have X1 : Hid (Box w1 w.heap.size #[.int .i64 3, .int .i64 0, .string s] 37) := X0.out.below hb1 X0.out.lt
  have HB1 : Hid (Below w.heap.size w w1) := HB0.out.trans (hb1.mono HB0.out.size)
  have HLT : Hid (w.heap.size < w1.heap.size) := X1.out.lt
  clear hb1 c0 c1 c2
  obtain ⟨c0, c1, c2⟩ := X1.out.triV
  obtain ⟨W2, hW2⟩ : ∃ W2, w1.alloc (.cells #[.int .u8 34] 5) = W2 := ⟨_, rfl⟩
  obtain ⟨g, hgq⟩ : ∃ g, w1.heap.size = g := ⟨_, rfl⟩
  have HO0 : Hid (BOwn W2 (w.heap.size + 1) (.slice (some ⟨g, 0, none⟩) 1 1) (34 :: hexB (s.data.toList.take 0))) := by
    rw [← hW2]
    exact bown_new w1 (l := [34]) hgq rfl (by have := HLT.out; omega) (by decide)
  have hb2 : Below w1.heap.size w1 W2 := by rw [← hW2]; exact (Below.refl _ _).alloc (Nat.le_refl _) _
  have X2 : Hid (Box W2 w.heap.size #[.int .i64 3, .int .i64 0, .string s] 37) := X1.out.below hb2 X1.out.lt
  have HB2 : Hid (Below w.heap.size w W2) := HB1.out.trans (hb2.mono HB1.out.size)
  have HW2 : Hid (w1.alloc (.cells #[.int .u8 34] 5) = W2) := hW2
  have HGQ : Hid (w1.heap.size = g) := hgq
  clear hW2 hgq hb2
  go_upto_region 11 with (fail)
  rw [HW2.out]
  (try rw [HGQ.out])
  go_wp2
  go_loopw [4, 5] (fun v i wr => ∃ j : Nat, j ≤ s.size ∧ i = .int .i64 (j : Int) ∧ BOwn wr (w.heap.size + 1) v (34 :: hexB (s.data.toList.take j)) ∧ Box wr w.heap.size #[.int .i64 3, .int .i64 0, .string s] 37 ∧ Below w.heap.size w wr) (fun _ i _ => s.size - (RowKit.intOf i).toNat)
  case atStart => exact ⟨0, Nat.zero_le _, rfl, HO0.out, X2.out, HB2.out⟩
  case round =>
    obtain ⟨j, hj, rfl, ho, hx, hb⟩ := hrel
    have HO : Hid (BOwn wr (w.heap.size + 1) u4 (34 :: hexB (s.data.toList.take j))) := ho
    have XR : Hid (Box wr w.heap.size #[.int .i64 3, .int .i64 0, .string s] 37) := hx
    have HBW : Hid (Below w.heap.size w wr) := hb
    have HSZ : Hid (w.heap.size < wr.heap.size) := XR.out.lt
    have hlen : (34 :: hexB (s.data.toList.take j)).length = 1 + 2 * j := by
      rw [List.length_cons, hex_len, List.length_take, Array.length_toList]
      have : s.data.size = s.size := rfl
      omega
    clear ho hx hb c0 c1 c2
    obtain ⟨c0, c1, c2⟩ := XR.out.triV
    by_cases hlt : j < s.size
    · have hk0 : (0 : Int) ≤ (j : Int) := by omega
      have hk1 : (j : Int) < (s.size : Int) := by omega
      have hb? : s.data.toList[j]? = some (s[j]'hlt) := by
        rw [Array.getElem?_toList]
        exact Array.getElem?_eq_getElem hlt
      have HX : Hid (hexB (s.data.toList.take (j + 1)) = _) := hex_succ hb?
      have K0 : Hid (wr.drew.cell? ⟨w.heap.size, 0, none⟩ = some (.int .i64 3) ∧ wr.drew.cell? ⟨w.heap.size, 1, none⟩ = some (.int .i64 0) ∧ wr.drew.cell? ⟨w.heap.size, 2, none⟩ = some (.string s)) := ⟨c0, c1, c2⟩
      have hbd : j < s.data.size := hlt
      obtain ⟨b, hbq⟩ : ∃ b, s[j]'hlt = b := ⟨_, rfl⟩
      rw [hbq] at HX
      have hbn : b.toNat < 256 := b.toNat_lt
      have hbits : bits BinOp.and IntKind.u8 (b.toNat : Int) 15 = ((b.toNat % 16 : Nat) : Int) := by
        have h1 := u8_and_nat b.toNat 15 hbn (by decide)
        rw [show (15 : Int) = ((15 : Nat) : Int) from rfl, h1, show (15 : Nat) = 2 ^ 4 - 1 from rfl, Nat.and_two_pow_sub_one_eq_mod]
      obtain ⟨lo, hlo⟩ : ∃ lo : Nat, b.toNat % 16 = lo := ⟨_, rfl⟩
      rw [hlo] at hbits HX
      have hl16 : lo < 16 := by omega
      have hl0 : (0 : Int) ≤ (lo : Int) := by omega
      have hl1 : (lo : Int) < 16 := by omega
      have hs1 : ∀ h, (⟨#[48, 49, 50, 51, 52, 53, 54, 55, 56, 57, 97, 98, 99, 100, 101, 102]⟩ : ByteArray)[((b.toNat : Int) / 16).toNat]'h = signU (b.toNat / 16) := by
        have e : ((b.toNat : Int) / 16).toNat = b.toNat / 16 := by omega
        rw [e]
        exact sign_at (by omega)
      have hs2 : ∀ h, (⟨#[48, 49, 50, 51, 52, 53, 54, 55, 56, 57, 97, 98, 99, 100, 101, 102]⟩ : ByteArray)[lo]'h = signU lo := sign_at hl16
      have HS1 : Hid (∀ h, (⟨#[48, 49, 50, 51, 52, 53, 54, 55, 56, 57, 97, 98, 99, 100, 101, 102]⟩ : ByteArray)[((b.toNat : Int) / 16).toNat]'h = signU (b.toNat / 16)) := hs1
      have HS2 : Hid (∀ h, (⟨#[48, 49, 50, 51, 52, 53, 54, 55, 56, 57, 97, 98, 99, 100, 101, 102]⟩ : ByteArray)[lo]'h = signU lo) := hs2
      have HNEW : Hid ((34 :: hexB (s.data.toList.take j)) ++ [signU (b.toNat / 16), signU lo] = 34 :: hexB (s.data.toList.take (j + 1))) := by rw [HX.out]; rfl
      clear hs1 hs2
      go_upto_region 14 with (fail)
      go_region_held3 (fun w' => w'.cell? ⟨w.heap.size, 0, none⟩ = some (.int .i64 3) ∧ w'.cell? ⟨w.heap.size, 1, none⟩ = some (.int .i64 0) ∧ w'.cell? ⟨w.heap.size, 2, none⟩ = some (.string s))
        (first | (with_reducible exact K1.out) | (with_reducible exact K0.out) | go_keep)
        (first
        | (refine step_appB _ (by rfl) _ _ (by rfl) (w.heap.size + 1) u4 _ (by rfl) (HO.out.drew.alloc _) ⟨wr.heap.size, 0, none⟩ 2 [signU (b.toNat / 16), signU lo] (by rfl) (bnews _ _ rfl _ (by simp only [HS1.out, HS2.out]; rfl)) (by rw [hlen]; show 1 + 2 * j + 2 ≤ _; omega) (by have := HSZ.out; simp; omega) ?_
           intro v' w' hown hbel _
           rw [HNEW.out] at hown
           have HOWN : Hid (BOwn w' (w.heap.size + 1) v' (34 :: hexB (s.data.toList.take (j + 1)))) := hown
           have hbw := hbel wr (w.heap.size + 1) (Nat.le_refl _) ((Below.refl _ wr).drew.alloc HSZ.out _)
           have HBX : Hid (Below (w.heap.size + 1) wr w') := hbw
           have K1 : Hid (w'.cell? ⟨w.heap.size, 0, none⟩ = some (.int .i64 3) ∧ w'.cell? ⟨w.heap.size, 1, none⟩ = some (.int .i64 0) ∧ w'.cell? ⟨w.heap.size, 2, none⟩ = some (.string s)) := by
             have hlt : w.heap.size < w.heap.size + 1 := Nat.lt_succ_self _
             exact ⟨(hbw.cell hlt).trans K0.out.1, (hbw.cell hlt).trans K0.out.2.1, (hbw.cell hlt).trans K0.out.2.2⟩
           clear hown hbel hbw))
      go_wp2
      all_goals refine ⟨⟨j + 1, by omega, by go_num, HOWN.out, XR.out.below HBX.out (Nat.lt_succ_self _), HBW.out.trans (HBX.out.mono (Nat.le_succ _))⟩, ?_⟩
      all_goals (simp [RowKit.intOf]; omega)
    · obtain rfl : s.size = j := by omega
      have HT : Hid ((convert 22 9 u4).run Tryd.prog wr = .ok (.string ⟨(34 :: hexB s.data.toList).toArray⟩) wr) := by
        have h1 := HO.out
        rw [List.take_of_length_le (by simp)] at h1
        exact bown_text h1
      have hcv := HT.out
      go_wp2
      go_ret
      exact ⟨⟨_, rfl, rfl⟩, HBW.out⟩
theorem specVT_bad (k n : Int) (s : ByteArray) (hg : ¬ VaGood k n s) (w : World) :
    Calls Tryd.prog 34 #[VaV k n s] w fun e w' => TextSays e [98, 97, 100] ∧ Below w.heap.size w w' := by
  have HG : Hid (decide (VaGood k n s) = false) := decide_eq_false hg
  obtain ⟨W, hW⟩ : ∃ W, w.alloc (.cells #[.int .i64 k, .int .i64 n, .string s] 37) = W := ⟨_, rfl⟩
  have HB0 : Hid (Below w.heap.size w W) := by rw [← hW]; exact (Below.refl _ w).alloc (Nat.le_refl _) _
  have X0 : Hid (Box W w.heap.size #[.int .i64 k, .int .i64 n, .string s] 37) := by rw [← hW]; exact box_of w _ _
  have HW : Hid (w.alloc (.cells #[.int .i64 k, .int .i64 n, .string s] 37) = W) := hW
  obtain ⟨c0, c1, c2⟩ := X0.out.triV
  clear hW
  go_enter Tryd.func34, Tryd.ntmps34
  go_upto_region 1 with (fail)
  rw [HW.out]
  go_wp2_with fail
  refine (specValueOk_any k n s _).mono ?_
  rintro e w1 ⟨rfl, hb1⟩
  rw [HG.out]
  have X1 : Hid (Box w1 w.heap.size #[.int .i64 k, .int .i64 n, .string s] 37) := X0.out.below hb1 X0.out.lt
  have HB1 : Hid (Below w.heap.size w w1) := HB0.out.trans (hb1.mono HB0.out.size)
  have HLT : Hid (w.heap.size < w1.heap.size) := X1.out.lt
  clear hb1 c0 c1 c2
  obtain ⟨c0, c1, c2⟩ := X1.out.triV
  go_wp2
  go_ret
  exact ⟨⟨_, rfl, rfl⟩, HB1.out⟩
theorem specVT_null  (w : World) :
    Calls Tryd.prog 34 #[VaV 0 0 ⟨#[]⟩] w fun e w' => TextSays e [110, 117, 108, 108] ∧ Below w.heap.size w w' := by
  have HG : Hid (decide (VaGood 0 0 ⟨#[]⟩) = true) := decide_eq_true (by unfold VaGood; exact .inl ⟨rfl, rfl, rfl⟩)
  obtain ⟨W, hW⟩ : ∃ W, w.alloc (.cells #[.int .i64 0, .int .i64 0, .string ⟨#[]⟩] 37) = W := ⟨_, rfl⟩
  have HB0 : Hid (Below w.heap.size w W) := by rw [← hW]; exact (Below.refl _ w).alloc (Nat.le_refl _) _
  have X0 : Hid (Box W w.heap.size #[.int .i64 0, .int .i64 0, .string ⟨#[]⟩] 37) := by rw [← hW]; exact box_of w _ _
  have HW : Hid (w.alloc (.cells #[.int .i64 0, .int .i64 0, .string ⟨#[]⟩] 37) = W) := hW
  obtain ⟨c0, c1, c2⟩ := X0.out.triV
  clear hW
  go_enter Tryd.func34, Tryd.ntmps34
  go_upto_region 1 with (fail)
  rw [HW.out]
  go_wp2_with fail
  refine (specValueOk_any 0 0 ⟨#[]⟩ _).mono ?_
  rintro e w1 ⟨rfl, hb1⟩
  rw [HG.out]
  have X1 : Hid (Box w1 w.heap.size #[.int .i64 0, .int .i64 0, .string ⟨#[]⟩] 37) := X0.out.below hb1 X0.out.lt
  have HB1 : Hid (Below w.heap.size w w1) := HB0.out.trans (hb1.mono HB0.out.size)
  have HLT : Hid (w.heap.size < w1.heap.size) := X1.out.lt
  clear hb1 c0 c1 c2
  obtain ⟨c0, c1, c2⟩ := X1.out.triV
  go_wp2
  go_ret
  exact ⟨⟨_, rfl, rfl⟩, HB1.out⟩
theorem specVT_no  (w : World) :
    Calls Tryd.prog 34 #[VaV 1 0 ⟨#[]⟩] w fun e w' => TextSays e [110, 111] ∧ Below w.heap.size w w' := by
  have HG : Hid (decide (VaGood 1 0 ⟨#[]⟩) = true) := decide_eq_true (by unfold VaGood; exact .inr (.inl ⟨rfl, ⟨by decide, by decide⟩, rfl⟩))
  obtain ⟨W, hW⟩ : ∃ W, w.alloc (.cells #[.int .i64 1, .int .i64 0, .string ⟨#[]⟩] 37) = W := ⟨_, rfl⟩
  have HB0 : Hid (Below w.heap.size w W) := by rw [← hW]; exact (Below.refl _ w).alloc (Nat.le_refl _) _
  have X0 : Hid (Box W w.heap.size #[.int .i64 1, .int .i64 0, .string ⟨#[]⟩] 37) := by rw [← hW]; exact box_of w _ _
  have HW : Hid (w.alloc (.cells #[.int .i64 1, .int .i64 0, .string ⟨#[]⟩] 37) = W) := hW
  obtain ⟨c0, c1, c2⟩ := X0.out.triV
  clear hW
  go_enter Tryd.func34, Tryd.ntmps34
  go_upto_region 1 with (fail)
  rw [HW.out]
  go_wp2_with fail
  refine (specValueOk_any 1 0 ⟨#[]⟩ _).mono ?_
  rintro e w1 ⟨rfl, hb1⟩
  rw [HG.out]
  have X1 : Hid (Box w1 w.heap.size #[.int .i64 1, .int .i64 0, .string ⟨#[]⟩] 37) := X0.out.below hb1 X0.out.lt
  have HB1 : Hid (Below w.heap.size w w1) := HB0.out.trans (hb1.mono HB0.out.size)
  have HLT : Hid (w.heap.size < w1.heap.size) := X1.out.lt
  clear hb1 c0 c1 c2
  obtain ⟨c0, c1, c2⟩ := X1.out.triV
  have hlt := HLT.out
  have hne : ¬ w1.heap.size = w.heap.size := by omega
  go_wp2
  go_ret
  exact ⟨⟨_, rfl, rfl⟩, HB1.out.alloc HB1.out.size _⟩
theorem specVT_yes  (w : World) :
    Calls Tryd.prog 34 #[VaV 1 1 ⟨#[]⟩] w fun e w' => TextSays e [121, 101, 115] ∧ Below w.heap.size w w' := by
  have HG : Hid (decide (VaGood 1 1 ⟨#[]⟩) = true) := decide_eq_true (by unfold VaGood; exact .inr (.inl ⟨rfl, ⟨by decide, by decide⟩, rfl⟩))
  obtain ⟨W, hW⟩ : ∃ W, w.alloc (.cells #[.int .i64 1, .int .i64 1, .string ⟨#[]⟩] 37) = W := ⟨_, rfl⟩
  have HB0 : Hid (Below w.heap.size w W) := by rw [← hW]; exact (Below.refl _ w).alloc (Nat.le_refl _) _
  have X0 : Hid (Box W w.heap.size #[.int .i64 1, .int .i64 1, .string ⟨#[]⟩] 37) := by rw [← hW]; exact box_of w _ _
  have HW : Hid (w.alloc (.cells #[.int .i64 1, .int .i64 1, .string ⟨#[]⟩] 37) = W) := hW
  obtain ⟨c0, c1, c2⟩ := X0.out.triV
  clear hW
  go_enter Tryd.func34, Tryd.ntmps34
  go_upto_region 1 with (fail)
  rw [HW.out]
  go_wp2_with fail
  refine (specValueOk_any 1 1 ⟨#[]⟩ _).mono ?_
  rintro e w1 ⟨rfl, hb1⟩
  rw [HG.out]
  have X1 : Hid (Box w1 w.heap.size #[.int .i64 1, .int .i64 1, .string ⟨#[]⟩] 37) := X0.out.below hb1 X0.out.lt
  have HB1 : Hid (Below w.heap.size w w1) := HB0.out.trans (hb1.mono HB0.out.size)
  have HLT : Hid (w.heap.size < w1.heap.size) := X1.out.lt
  clear hb1 c0 c1 c2
  obtain ⟨c0, c1, c2⟩ := X1.out.triV
  have hlt := HLT.out
  have hne : ¬ w1.heap.size = w.heap.size := by omega
  go_wp2
  go_ret
  exact ⟨⟨_, rfl, rfl⟩, HB1.out.alloc HB1.out.size _⟩
theorem specVT_int (n : Int) (hn : -1000000000000 ≤ n ∧ n ≤ 1000000000000) (w : World) :
    Calls Tryd.prog 34 #[VaV 2 n ⟨#[]⟩] w fun e w' => TextSays e (itoa n) ∧ Below w.heap.size w w' := by
  have HG : Hid (decide (VaGood 2 n ⟨#[]⟩) = true) := decide_eq_true (by unfold VaGood; exact .inr (.inr (.inl ⟨rfl, hn, rfl⟩)))
  obtain ⟨W, hW⟩ : ∃ W, w.alloc (.cells #[.int .i64 2, .int .i64 n, .string ⟨#[]⟩] 37) = W := ⟨_, rfl⟩
  have HB0 : Hid (Below w.heap.size w W) := by rw [← hW]; exact (Below.refl _ w).alloc (Nat.le_refl _) _
  have X0 : Hid (Box W w.heap.size #[.int .i64 2, .int .i64 n, .string ⟨#[]⟩] 37) := by rw [← hW]; exact box_of w _ _
  have HW : Hid (w.alloc (.cells #[.int .i64 2, .int .i64 n, .string ⟨#[]⟩] 37) = W) := hW
  obtain ⟨c0, c1, c2⟩ := X0.out.triV
  clear hW
  go_enter Tryd.func34, Tryd.ntmps34
  go_upto_region 1 with (fail)
  rw [HW.out]
  go_wp2_with fail
  refine (specValueOk_any 2 n ⟨#[]⟩ _).mono ?_
  rintro e w1 ⟨rfl, hb1⟩
  rw [HG.out]
  have X1 : Hid (Box w1 w.heap.size #[.int .i64 2, .int .i64 n, .string ⟨#[]⟩] 37) := X0.out.below hb1 X0.out.lt
  have HB1 : Hid (Below w.heap.size w w1) := HB0.out.trans (hb1.mono HB0.out.size)
  have HLT : Hid (w.heap.size < w1.heap.size) := X1.out.lt
  clear hb1 c0 c1 c2
  obtain ⟨c0, c1, c2⟩ := X1.out.triV
  go_wp2_with fail
  refine (digits_any n (by omega) (by omega) _).mono ?_
  rintro e w2 ⟨⟨t, rfl, ht⟩, hb2⟩
  have HB2 : Hid (Below w.heap.size w w2) := HB1.out.trans (hb2.mono HB1.out.size)
  clear hb2
  go_wp2
  go_ret
  exact ⟨⟨_, rfl, ht⟩, HB2.out⟩
theorem specValueText_any (k n : Int) (s : ByteArray) (w : World) :
    Calls Tryd.prog 34 #[VaV k n s] w fun e w' => TextSays e (valB k n s) ∧ Below w.heap.size w w' := by
  by_cases hg : VaGood k n s
  · unfold valB
    rw [if_neg (fun h => h hg)]
    rcases hg with ⟨rfl, rfl, h2⟩ | ⟨rfl, h1, h2⟩ | ⟨rfl, h1, h2⟩ | ⟨rfl, rfl, h2⟩
    · rw [str_nil h2]
      exact specVT_null w
    · rw [str_nil h2]
      rcases (show n = 0 ∨ n = 1 by omega) with rfl | rfl
      · exact specVT_no w
      · exact specVT_yes w
    · rw [str_nil h2]
      exact specVT_int n h1 w
    · exact specVT_text s h2 w
  · unfold valB
    rw [if_pos hg]
    exact specVT_bad k n s hg w
end
end Go.Proofs.YtgibeakclknhnaaDoor
