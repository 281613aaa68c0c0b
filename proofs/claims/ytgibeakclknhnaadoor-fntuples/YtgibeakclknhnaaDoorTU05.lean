/- Texts joined: DrawTo, DrawV3, Rd18b, Sp18x. -/
import Derived.Test.YtgibeakclknhnaaDoorTU03
import Derived.Test.YtgibeakclknhnaaDoorTU04
import Derived.Test.YtgibeakclknhnaaDoorTU02
import Derived.Deep.RegionHeld3
import Derived.Deep.Cut
import Derived.Laws.BitsAllLaws
set_option maxHeartbeats 16000000
set_option maxRecDepth 100000
namespace Go.Proofs.YtgibeakclknhnaaDoor
section
open Go.ChangeShapes Go.WideShapes Go.ChangeAt Go.RowKit
open Go.Lib (byteCells byteCells_length byteCells_append)

theorem drawTupleOf_any (a : Option Addr) (n c : Nat) (w : World) (hn : n ≤ 1048576) (hB : BytesAt w w.heap.size a n) :
    Calls Tryd.prog 7 #[.slice a n c] w fun e w' => (∃ ad m d l, e = .returned (.slice ad m d) ∧ BysAt w' ad m l ∧ m ≤ d ∧ l.length ≤ 400) ∧ Below w.heap.size w w' := by
  have HB : Hid (BytesAt w w.heap.size a n) := hB
  clear hB
  go_enter Tryd.func7, Tryd.ntmps7
  go_wp2_with fail
  refine (l1New_any a n c _ hn HB.out).mono ?_
  rintro e w1 ⟨rfl, hC, hb, hz⟩
  obtain ⟨p, hp⟩ : ∃ p, w.heap.size = p := ⟨_, rfl⟩
  have HP : Hid (w.heap.size = p) := hp
  rw [HP.out] at hC ⊢
  have C1 : Hid (Cur 61 w1 p a n c) := hC
  have B1 : Hid (Below p w w1) := by rw [← hp]; exact hb
  have P1 : Hid (p < w1.heap.size) := hC.lt
  clear hC hb hz hp
  go_wp2_with fail
  refine (l18DrawRight_any p a n c w1 C1.out).mono ?_
  rintro e w2 ⟨v2, L, rfl, ho, ⟨hgd, hnn⟩, hc, hf⟩
  obtain ⟨ta, tc, rfl, htc, hvt⟩ := own_vas ho (by have := hgd.2; omega)
  have V2 : Hid (VasAt w2 ta L.length L) := hvt
  have HGD : Hid (TupGood L) := hgd
  have C2 : Hid (Cur 61 w2 p a n c) := hc
  have B2 : Hid (Below p w w2) := B1.out.grown hf (Nat.le_of_lt P1.out) (fun k hk => by cases hk; exact Nat.le_refl _)
  have P2 : Hid (p < w2.heap.size) := hc.lt
  clear ho hgd hc hf hvt hnn htc
  go_wp2_with fail
  refine (specTupleBytes_any ta L.length tc L _ V2.out).mono ?_
  rintro e w3 ⟨v3, rfl, ho, hb⟩
  obtain ⟨l, hl⟩ : ∃ l, tupBytes L = l := ⟨_, rfl⟩
  rw [hl] at ho
  have HLE : Hid (l.length ≤ 172) := by show _ ≤ _; rw [← hl]; unfold tupBytes; rw [if_pos HGD.out]; exact tupB_le HGD.out
  obtain ⟨a1, c1, rfl, hc1, hy1⟩ := bown_bys ho (by have := HLE.out; omega)
  have Y3 : Hid (BysAt w3 a1 l.length l) := hy1
  have HC1 : Hid (l.length ≤ c1) := hc1
  have HF : Hid ((a1 = none ∧ l.length = 0 ∧ c1 = 0) ∨ ∃ g, a1 = some ⟨g, 0, none⟩ ∧ w2.heap.size ≤ g ∧ g < w3.heap.size) := by
    rcases owns_forms ho with ⟨h1, h2⟩ | ⟨g, cap, h1⟩
    · injection h1 with h3 h4 h5
      exact .inl ⟨h3, h2, h5⟩
    · have h6 := own_block ho g (by rw [h1]; rfl)
      have h7 := own_lt ho g (by rw [h1]; rfl)
      injection h1 with h3 h4 h5
      exact .inr ⟨g, h3, h6, h7⟩
  have C3 : Hid (Cur 61 w3 p a n c) := cur_below C2.out hb
  have B3 : Hid (Below p w w3) := B2.out.trans (hb.mono (Nat.le_of_lt P2.out))
  have P3 : Hid (p < w3.heap.size) := C3.out.lt
  clear ho hb hy1 hc1 hl
  have hll : (l.length : Int) ≤ 172 := by have := HLE.out; omega
  have hl0 : (0 : Int) ≤ (l.length : Int) := by omega
  go_wp2_with fail
  refine (l1Below_any p a n c ((l.length : Int) + 1) (by omega) (by omega) w3 C3.out).mono ?_
  rintro e w4 ⟨k, hk, rfl, hC4, hO4⟩
  have C4 : Hid (Cur 61 w4 p a n c) := hC4
  have F4 : Hid (w3.grownBy w4 (some p)) := far_only hO4
  have B4 : Hid (Below p w w4) := B3.out.grown (far_only hO4) (Nat.le_of_lt P3.out) (fun k hk => by cases hk; exact Nat.le_refl _)
  have hkl : k ≤ l.length := by omega
  clear hC4 hO4
  go_wp2_with fail
  refine (l1Below_any p a n c 5 (by omega) (by omega) w4 C4.out).mono ?_
  rintro e w0 ⟨x, hx, rfl, hC5, hO5⟩
  have C5 : Hid (Cur 61 w0 p a n c) := hC5
  have F5 : Hid (w3.grownBy w0 (some p)) := F4.out.trans (far_only hO5)
  have B5 : Hid (Below p w w0) := B4.out.grown (far_only hO5) (Nat.le_of_lt C4.out.lt) (fun k hk => by cases hk; exact Nat.le_refl _)
  clear hC5 hO5
  have HNP : Hid (∀ b o, a1 = some ⟨b, o, none⟩ → ¬ b = p) := by
    rcases HF.out with ⟨h1, _, _⟩ | ⟨q, h1, h2, h3⟩
    · intro b o e; rw [h1] at e; cases e
    · intro b o e; rw [h1] at e; cases e; have := P2.out; omega
  have Y5 : Hid (BysAt w0 a1 l.length l) := Y3.out.far F5.out HNP.out
  have HKL : Hid (k ≤ l.length) := hkl
  have hkc : k ≤ c1 := Nat.le_trans hkl HC1.out
  have hk0 : (0 : Int) ≤ (k : Int) := by omega
  obtain ⟨b1, hb1⟩ : ∃ b1, (if c1 = k then a1 else a1.map (·.add (k * 1))) = b1 := ⟨_, rfl⟩
  have hsf : ∀ w : World, (Instr.slice 22 (.slice a1 l.length c1) none (some (.int .i64 (k : Int))) none).run Tryd.prog w = .ok (.slice a1 k c1) w := fun w => by
    rw [run_slice_h w 22 a1 l.length c1 Tryd.underlying22 .i64 (k : Int) (by omega) (by omega), show Tryd.prog.elem 22 = 5 from rfl, Tryd.sizeOf5 w]
    rcases HF.out with ⟨h1, h2, h3⟩ | ⟨q, h1, _⟩
    · subst h1 h3
      simp [Result.andThen, sliced]
    · subst h1
      simp [Result.andThen, sliced, Addr.add]
  have hsb : ∀ w : World, (Instr.slice 22 (.slice a1 l.length c1) (some (.int .i64 (k : Int))) none none).run Tryd.prog w = .ok (.slice b1 (l.length - k) (c1 - k)) w := fun w => by
    rw [run_slice_l w 22 a1 l.length c1 Tryd.underlying22 .i64 (k : Int) (by omega) (by omega), show Tryd.prog.elem 22 = 5 from rfl, Tryd.sizeOf5 w, ← hb1]
    simp [Result.andThen, sliced]
  have H0 : x = 0 ∨ x = 1 ∨ (¬ x = 0 ∧ ¬ x = 1) := by omega
  rcases H0 with rfl | rfl | ⟨h0, h1⟩
  · have YF : Hid (BysAt w0 a1 k (l.take k)) := bys_front Y5.out HKL.out
    go_wp2
    go_ret
    exact ⟨⟨_, _, _, _, rfl, YF.out, hkc, by rw [List.length_take]; have := HLE.out; omega⟩, by rw [HP.out]; exact B5.out⟩
  · obtain ⟨g, hg⟩ : ∃ g, w0.heap.size = g := ⟨_, rfl⟩
    have HG0 : Hid (w0.heap.size = g) := hg
    have HPG : Hid (p < g) := by rw [← hg]; exact C5.out.lt
    have HNC : Hid (a1 = none → c1 = 0) := fun e => by
      rcases HF.out with ⟨_, _, h3⟩ | ⟨q, h3, _⟩
      · exact h3
      · rw [h3] at e; cases e
    have HNB : Hid (b1 = none → c1 - k = 0) := fun e => by
      rw [← hb1] at e
      split at e
      · omega
      · rcases HF.out with ⟨_, _, h3⟩ | ⟨q, h3, _⟩
        · omega
        · rw [h3] at e; cases e
    have YF : Hid (BysAt w0 a1 k (l.take k)) := bys_front Y5.out HKL.out
    have YB : Hid (BysAt w0 b1 (l.length - k) (l.drop k)) := by rw [← hb1]; exact bys_back Y5.out HKL.out HC1.out
    have NPB : Hid (∀ b o, b1 = some ⟨b, o, none⟩ → ¬ b = p) := by
      intro b o e
      rw [← hb1] at e
      split at e
      · exact HNP.out b o e
      · rcases HF.out with ⟨h3, _⟩ | ⟨q, h3, h4, _⟩
        · rw [h3] at e; cases e
        · rw [h3, Option.map_some, add_plain] at e; cases e; have := P2.out; omega
    have SF : Hid (∀ y, w0.grownBy y (some p) → BysAt y a1 k (l.take k)) := fun y hy => YF.out.far hy HNP.out
    have SB : Hid (∀ y, w0.grownBy y (some p) → BysAt y b1 (l.length - k) (l.drop k)) := fun y hy => YB.out.far hy NPB.out
    have FIN : Hid (∀ (w' : World) (v : Value) (l' : List UInt8), BOwn w' g v l' → l'.length ≤ 400 → w0.grownBy w' (some p) → (∃ ad m d l, Ending.returned v = .returned (.slice ad m d) ∧ BysAt w' ad m l ∧ m ≤ d ∧ l.length ≤ 400) ∧ Below w.heap.size w w') := fun w' v l' ho hl' hf => by
      obtain ⟨ad, d, rfl, hd, hy⟩ := bown_bys ho (by omega)
      exact ⟨⟨ad, _, d, l', rfl, hy, hd, hl'⟩, by rw [HP.out]; exact B5.out.grown hf (by have := C5.out.lt; omega) (fun k hk => by cases hk; exact Nat.le_refl _)⟩
    have Dw0 : Hid (DT w0 p g a n c w0.drew none none none) := by
      show DT w0 p g a n c w0.drew none none none
      exact { cur := cur_drew C5.out, far := ⟨rfl, rfl, rfl, Nat.le_refl _, fun _ _ _ => rfl⟩, sz := (by show g ≤ w0.heap.size; omega), hA := (fun _ _ e => by cases e), hJ := (fun _ e => by cases e), hB := (fun _ _ e => by cases e), dis := (fun _ _ _ _ _ e => by cases e), disJ := (fun _ _ _ e => by cases e) }
    clear hb1 YF YB NPB hx
    go_upto_region 8 with (fail)
    refine wp_region_held_drew (S := fun _ => True) (by kernel_rfl) trivial (fun hHeld => ?_)
    obtain ⟨yw, hyw⟩ : ∃ y, w0.drew = y := ⟨_, rfl⟩
    rw [hyw] at Dw0 ⊢
    have Dyw : Hid (DT w0 p g a n c yw none none none) := Dw0
    clear Dw0 hyw
    refine wpAnyH_take (i := 1) (oi := _) (v := ?v1) (by rw [List.getElem?_toArray]; exact rfl) (by kernel_rfl) (by kernel_rfl) (by kernel_rfl) (by intro _ _ _ h; exact h) (Or.inl ⟨by kernel_rfl, ?y1⟩) hHeld ?_
    case y1 =>
      intro w hSw
      clear hSw
      go_simp
      (try with_reducible rfl)
    (try simp only [Act.put, List.setIfInBounds_toArray, List.set_cons_zero, List.set_cons_succ])
    refine wpAnyH_take (i := 2) (oi := _) (v := ?v2) (by rw [List.getElem?_toArray]; exact rfl) (by kernel_rfl) (by kernel_rfl) (by kernel_rfl) (by intro _ _ _ h; exact h) (Or.inl ⟨by kernel_rfl, ?y2⟩) hHeld ?_
    case y2 =>
      intro w hSw
      clear hSw
      go_simp
      (try with_reducible rfl)
    (try simp only [Act.put, List.setIfInBounds_toArray, List.set_cons_zero, List.set_cons_succ])
    refine wpAnyH_take (i := 3) (oi := _) (v := .slice a1 k c1) (by rw [List.getElem?_toArray]; exact rfl) (by kernel_rfl) (by kernel_rfl) (by kernel_rfl) (by intro _ _ _ h; exact h) (Or.inl ⟨by kernel_rfl, ?y3⟩) hHeld ?_
    case y3 =>
      intro w hSw
      clear hSw
      go_simp
      (try with_reducible rfl)
    (try simp only [Act.put, List.setIfInBounds_toArray, List.set_cons_zero, List.set_cons_succ])
    refine wpAnyH_take (i := 5) (oi := _) (v := ?v5) (by rw [List.getElem?_toArray]; exact rfl) (by kernel_rfl) (by kernel_rfl) (by kernel_rfl) (by intro _ _ _ h; exact h) (Or.inl ⟨by kernel_rfl, ?y5⟩) hHeld ?_
    case y5 =>
      intro w hSw
      clear hSw
      go_simp
      (try with_reducible rfl)
    (try simp only [Act.put, List.setIfInBounds_toArray, List.set_cons_zero, List.set_cons_succ])
    refine wpAnyH_take (i := 10) (oi := _) (v := ?v10) (by rw [List.getElem?_toArray]; exact rfl) (by kernel_rfl) (by kernel_rfl) (by kernel_rfl) (by intro _ _ _ h; exact h) (Or.inl ⟨by kernel_rfl, ?y10⟩) hHeld ?_
    case y10 =>
      intro w hSw
      clear hSw
      go_simp
      (try with_reducible rfl)
    (try simp only [Act.put, List.setIfInBounds_toArray, List.set_cons_zero, List.set_cons_succ])
    refine wpAnyH_take (i := 11) (oi := _) (v := ?v11) (by rw [List.getElem?_toArray]; exact rfl) (by kernel_rfl) (by kernel_rfl) (by kernel_rfl) (by intro _ _ _ h; exact h) (Or.inl ⟨by kernel_rfl, ?y11⟩) hHeld ?_
    case y11 =>
      intro w hSw
      clear hSw
      go_simp
      (try with_reducible rfl)
    (try simp only [Act.put, List.setIfInBounds_toArray, List.set_cons_zero, List.set_cons_succ])
    refine wpAnyH_take (i := 12) (oi := _) (v := .slice b1 (l.length - k) (c1 - k)) (by rw [List.getElem?_toArray]; exact rfl) (by kernel_rfl) (by kernel_rfl) (by kernel_rfl) (by intro _ _ _ h; exact h) (Or.inl ⟨by kernel_rfl, ?y12⟩) hHeld ?_
    case y12 =>
      intro w hSw
      clear hSw
      go_simp
      (try with_reducible rfl)
    (try simp only [Act.put, List.setIfInBounds_toArray, List.set_cons_zero, List.set_cons_succ])
    refine wpAnyH_ready (rs := [0, 6]) (by kernel_rfl) (by simp) ?_
    refine AllReadyH.cons (o := _) (by rw [List.getElem?_toArray]; exact rfl) (fun K hK => ?_) (AllReadyH.cons (o := _) (by rw [List.getElem?_toArray]; exact rfl) (fun K hK => ?_) AllReadyH.nil)
    · rw [if_pos (by kernel_rfl)]
      go_simp
      refine hK.out _ _ trivial (fun hHeld => ?_)
      clear hK K
      (try simp only [Act.put, List.setIfInBounds_toArray, List.set_cons_zero, List.set_cons_succ])
      obtain ⟨y0, hy0⟩ : ∃ y, yw.alloc (.cells #[] 5) = y := ⟨_, rfl⟩
      have d0 := Dyw.out.a0
      rw [hy0] at d0 ⊢
      obtain ⟨s0, hs0⟩ : ∃ s, yw.heap.size = s := ⟨_, rfl⟩
      rw [hs0] at d0 ⊢
      have Dy0 : Hid (DT w0 p g a n c y0 (some (.slice (some ⟨s0, 0, none⟩) 0 0, [])) none none) := d0
      clear hy0 hs0 d0
      refine wpAnyH_ready (rs := [4, 6]) (by kernel_rfl) (by simp) ?_
      refine AllReadyH.cons (o := _) (by rw [List.getElem?_toArray]; exact rfl) (fun K hK => ?_) (AllReadyH.cons (o := _) (by rw [List.getElem?_toArray]; exact rfl) (fun K hK => ?_) AllReadyH.nil)
      · refine wp_append_bys y0 rfl _ _ rfl g (.slice (some ⟨s0, 0, none⟩) 0 0) [] rfl (Dy0.out.hA _ _ rfl) a1 k c1 (l.take k) rfl HNC.out (SF.out _ Dy0.out.far) (by have := HKL.out; have := HLE.out; simp; omega) Dy0.out.sz ?_
        intro v4 y4 ho hgr hbl
        have Dy4 : Hid (DT w0 p g a n c y4 (some (v4, [] ++ l.take k)) none none) := Dy0.out.appA HG0.out HPG.out ho hgr hbl
        clear ho hgr hbl
        refine hK.out _ _ trivial (fun hHeld => ?_)
        clear hK K
        (try simp only [Act.put, List.setIfInBounds_toArray, List.set_cons_zero, List.set_cons_succ])
        refine wpAnyH_ready (rs := [6]) (by kernel_rfl) (by simp) ?_
        refine AllReadyH.cons (o := _) (by rw [List.getElem?_toArray]; exact rfl) (fun K hK => ?_) AllReadyH.nil
        rw [if_pos (by kernel_rfl)]
        go_simp
        refine hK.out _ _ trivial (fun hHeld => ?_)
        clear hK K
        (try simp only [Act.put, List.setIfInBounds_toArray, List.set_cons_zero, List.set_cons_succ])
        obtain ⟨y6, hy6⟩ : ∃ y, y4.alloc (.cells #[.int .i64 0, .int .i64 1, .int .i64 2, .int .i64 5, .int .i64 255] 3) = y := ⟨_, rfl⟩
        have d6 := Dy4.out.i6
        rw [hy6] at d6 ⊢
        obtain ⟨s6, hs6⟩ : ∃ s, y4.heap.size = s := ⟨_, rfl⟩
        rw [hs6] at d6 ⊢
        have Dy6 : Hid (DT w0 p g a n c y6 (some (v4, [] ++ l.take k)) (some s6) none) := d6
        clear hy6 hs6 d6
        refine wpAnyH_ready (rs := [7]) (by kernel_rfl) (by simp) ?_
        refine AllReadyH.cons (o := _) (by rw [List.getElem?_toArray]; exact rfl) (fun K hK => ?_) AllReadyH.nil
        rw [if_pos (by kernel_rfl)]
        go_simp
        refine (l1PickInt_any p a n c s6 5 5 [0, 1, 2, 5, 255] (by omega) (by omega) y6 Dy6.out.cur (by have h1 := (Dy6.out.hJ _ rfl).1; have := HPG.out; omega) (fun i hi => by
          rw [(Dy6.out.hJ _ rfl).2.cell i]
          rcases (show i = 0 ∨ i = 1 ∨ i = 2 ∨ i = 3 ∨ i = 4 by omega) with rfl | rfl | rfl | rfl | rfl <;> rfl)).mono ?_
        rintro e y7 ⟨x, hx, rfl, hC7, hO7⟩
        obtain ⟨xb, hxb⟩ := pickB x hx
        rw [hxb]
        have Dy7 : Hid (DT w0 p g a n c y7 (some (v4, [] ++ l.take k)) none none) := Dy6.out.pick HPG.out hC7 hO7
        have hxr : (xb.toNat : Int) < 256 := by have := xb.toNat_lt; omega
        have hx0 : (0 : Int) ≤ (xb.toNat : Int) := by omega
        have hxw : IntKind.u8.wrap (xb.toNat : Int) = (xb.toNat : Int) := u8_wrap xb
        clear hC7 hO7 hxb hx
        refine hK.out _ _ trivial (fun hHeld => ?_)
        clear hK K
        (try simp only [Act.put, List.setIfInBounds_toArray, List.set_cons_zero, List.set_cons_succ])
        refine wpAnyH_take (i := 8) (oi := _) (v := .int .u8 (xb.toNat : Int)) (by rw [List.getElem?_toArray]; exact rfl) (by kernel_rfl) (by kernel_rfl) (by kernel_rfl) (by intro _ _ _ h; exact h) (Or.inl ⟨by kernel_rfl, ?y8⟩) hHeld ?_
        case y8 =>
          intro w hSw
          clear hSw
          go_simp
          (try with_reducible rfl)
        (try simp only [Act.put, List.setIfInBounds_toArray, List.set_cons_zero, List.set_cons_succ])
        refine wpAnyH_ready (rs := [9]) (by kernel_rfl) (by simp) ?_
        refine AllReadyH.cons (o := _) (by rw [List.getElem?_toArray]; exact rfl) (fun K hK => ?_) AllReadyH.nil
        rw [if_pos (by kernel_rfl)]
        go_simp
        refine hK.out _ _ trivial (fun hHeld => ?_)
        clear hK K
        (try simp only [Act.put, List.setIfInBounds_toArray, List.set_cons_zero, List.set_cons_succ])
        obtain ⟨y9, hy9⟩ : ∃ y, y7.alloc (.cells #[.int .u8 (xb.toNat : Int)] 5) = y := ⟨_, rfl⟩
        have d9 := Dy7.out.b9 xb
        rw [hy9] at d9 ⊢
        obtain ⟨s9, hs9⟩ : ∃ s, y7.heap.size = s := ⟨_, rfl⟩
        rw [hs9] at d9 ⊢
        have Dy9 : Hid (DT w0 p g a n c y9 (some (v4, [] ++ l.take k)) none (some (.slice (some ⟨s9, 0, none⟩) 1 1, [xb]))) := d9
        clear hy9 hs9 d9
        refine wpAnyH_ready (rs := [13]) (by kernel_rfl) (by simp) ?_
        refine AllReadyH.cons (o := _) (by rw [List.getElem?_toArray]; exact rfl) (fun K hK => ?_) AllReadyH.nil
        refine wp_append_bys y9 rfl _ _ rfl g (.slice (some ⟨s9, 0, none⟩) 1 1) [xb] rfl (Dy9.out.hB _ _ rfl) b1 (l.length - k) (c1 - k) (l.drop k) rfl HNB.out (SB.out _ Dy9.out.far) (by have := HKL.out; have := HLE.out; simp; omega) Dy9.out.sz ?_
        intro v13 y13 ho hgr hbl
        have Dy13 : Hid (DT w0 p g a n c y13 (some (v4, [] ++ l.take k)) none (some (v13, [xb] ++ l.drop k))) := Dy9.out.appB HG0.out HPG.out ho hgr hbl
        clear ho hgr hbl
        refine hK.out _ _ trivial (fun hHeld => ?_)
        clear hK K
        (try simp only [Act.put, List.setIfInBounds_toArray, List.set_cons_zero, List.set_cons_succ])
        refine wpAnyH_ready (rs := [14]) (by kernel_rfl) (by simp) ?_
        refine AllReadyH.cons (o := _) (by rw [List.getElem?_toArray]; exact rfl) (fun K hK => ?_) AllReadyH.nil
        obtain ⟨ba, bc, hb13, hbc, hby⟩ := bown_bys (Dy13.out.hB _ _ rfl) (by have := HLE.out; simp; omega)
        have E13 : Hid (v13 = .slice ba _ bc) := hb13
        have EC : Hid (ba = none → bc = 0) := fun h => by
          rcases owns_forms (Dy13.out.hB _ _ rfl) with ⟨h1, h2⟩ | ⟨q, cap, h1⟩
          · rw [hb13] at h1; cases h1 <;> rfl
          · rw [hb13] at h1; cases h1; cases h
        refine wp_append_bys y13 rfl _ _ rfl g v4 ([] ++ l.take k) rfl (Dy13.out.hA _ _ rfl) ba _ bc ([xb] ++ l.drop k) hb13 EC.out hby (by have := HKL.out; have := HLE.out; simp; omega) Dy13.out.sz ?_
        intro v14 y14 ho hgr hbl
        have Z : Hid ((∃ w' v l', w' = y14 ∧ v = v14 ∧ BOwn w' g v l' ∧ l'.length ≤ 400) ∧ w0.grownBy y14 (some p)) := ⟨⟨_, _, _, rfl, rfl, ho, by have := HKL.out; have := HLE.out; simp; omega⟩, far_own HG0.out Dy13.out.far (own_block (Dy13.out.hA _ _ rfl)) hgr⟩
        clear ho hgr hbl E13 EC hb13 hbc hby
        refine hK.out _ _ trivial (fun hHeld => ?_)
        clear hK K
        (try simp only [Act.put, List.setIfInBounds_toArray, List.set_cons_zero, List.set_cons_succ])
        refine wpAnyH_take (i := 15) (oi := _) (v := v14) (by rw [List.getElem?_toArray]; exact rfl) (by kernel_rfl) (by kernel_rfl) (by kernel_rfl) (by intro _ _ _ h; exact h) (Or.inl ⟨by kernel_rfl, ?y15⟩) hHeld ?_
        case y15 =>
          intro w hSw
          clear hSw
          go_simp
          (try with_reducible rfl)
        (try simp only [Act.put, List.setIfInBounds_toArray, List.set_cons_zero, List.set_cons_succ])
        refine wpAnyH_done (by kernel_rfl) ?_ _
        (try simp only [Exit.then])
        go_wp2
        go_ret
        obtain ⟨⟨w', v', l', rfl, rfl, ho, hl'⟩, hf⟩ := Z.out
        exact FIN.out _ _ _ ho hl' hf
      · rw [if_pos (by kernel_rfl)]
        go_simp
        refine hK.out _ _ trivial (fun hHeld => ?_)
        clear hK K
        (try simp only [Act.put, List.setIfInBounds_toArray, List.set_cons_zero, List.set_cons_succ])
        obtain ⟨y6, hy6⟩ : ∃ y, y0.alloc (.cells #[.int .i64 0, .int .i64 1, .int .i64 2, .int .i64 5, .int .i64 255] 3) = y := ⟨_, rfl⟩
        have d6 := Dy0.out.i6
        rw [hy6] at d6 ⊢
        obtain ⟨s6, hs6⟩ : ∃ s, y0.heap.size = s := ⟨_, rfl⟩
        rw [hs6] at d6 ⊢
        have Dy6 : Hid (DT w0 p g a n c y6 (some (.slice (some ⟨s0, 0, none⟩) 0 0, [])) (some s6) none) := d6
        clear hy6 hs6 d6
        refine wpAnyH_ready (rs := [4]) (by kernel_rfl) (by simp) ?_
        refine AllReadyH.cons (o := _) (by rw [List.getElem?_toArray]; exact rfl) (fun K hK => ?_) AllReadyH.nil
        refine wp_append_bys y6 rfl _ _ rfl g (.slice (some ⟨s0, 0, none⟩) 0 0) [] rfl (Dy6.out.hA _ _ rfl) a1 k c1 (l.take k) rfl HNC.out (SF.out _ Dy6.out.far) (by have := HKL.out; have := HLE.out; simp; omega) Dy6.out.sz ?_
        intro v4 y4 ho hgr hbl
        have Dy4 : Hid (DT w0 p g a n c y4 (some (v4, [] ++ l.take k)) (some s6) none) := Dy6.out.appA HG0.out HPG.out ho hgr hbl
        clear ho hgr hbl
        refine hK.out _ _ trivial (fun hHeld => ?_)
        clear hK K
        (try simp only [Act.put, List.setIfInBounds_toArray, List.set_cons_zero, List.set_cons_succ])
        refine wpAnyH_ready (rs := [7]) (by kernel_rfl) (by simp) ?_
        refine AllReadyH.cons (o := _) (by rw [List.getElem?_toArray]; exact rfl) (fun K hK => ?_) AllReadyH.nil
        rw [if_pos (by kernel_rfl)]
        go_simp
        refine (l1PickInt_any p a n c s6 5 5 [0, 1, 2, 5, 255] (by omega) (by omega) y4 Dy4.out.cur (by have h1 := (Dy4.out.hJ _ rfl).1; have := HPG.out; omega) (fun i hi => by
          rw [(Dy4.out.hJ _ rfl).2.cell i]
          rcases (show i = 0 ∨ i = 1 ∨ i = 2 ∨ i = 3 ∨ i = 4 by omega) with rfl | rfl | rfl | rfl | rfl <;> rfl)).mono ?_
        rintro e y7 ⟨x, hx, rfl, hC7, hO7⟩
        obtain ⟨xb, hxb⟩ := pickB x hx
        rw [hxb]
        have Dy7 : Hid (DT w0 p g a n c y7 (some (v4, [] ++ l.take k)) none none) := Dy4.out.pick HPG.out hC7 hO7
        have hxr : (xb.toNat : Int) < 256 := by have := xb.toNat_lt; omega
        have hx0 : (0 : Int) ≤ (xb.toNat : Int) := by omega
        have hxw : IntKind.u8.wrap (xb.toNat : Int) = (xb.toNat : Int) := u8_wrap xb
        clear hC7 hO7 hxb hx
        refine hK.out _ _ trivial (fun hHeld => ?_)
        clear hK K
        (try simp only [Act.put, List.setIfInBounds_toArray, List.set_cons_zero, List.set_cons_succ])
        refine wpAnyH_take (i := 8) (oi := _) (v := .int .u8 (xb.toNat : Int)) (by rw [List.getElem?_toArray]; exact rfl) (by kernel_rfl) (by kernel_rfl) (by kernel_rfl) (by intro _ _ _ h; exact h) (Or.inl ⟨by kernel_rfl, ?y8⟩) hHeld ?_
        case y8 =>
          intro w hSw
          clear hSw
          go_simp
          (try with_reducible rfl)
        (try simp only [Act.put, List.setIfInBounds_toArray, List.set_cons_zero, List.set_cons_succ])
        refine wpAnyH_ready (rs := [9]) (by kernel_rfl) (by simp) ?_
        refine AllReadyH.cons (o := _) (by rw [List.getElem?_toArray]; exact rfl) (fun K hK => ?_) AllReadyH.nil
        rw [if_pos (by kernel_rfl)]
        go_simp
        refine hK.out _ _ trivial (fun hHeld => ?_)
        clear hK K
        (try simp only [Act.put, List.setIfInBounds_toArray, List.set_cons_zero, List.set_cons_succ])
        obtain ⟨y9, hy9⟩ : ∃ y, y7.alloc (.cells #[.int .u8 (xb.toNat : Int)] 5) = y := ⟨_, rfl⟩
        have d9 := Dy7.out.b9 xb
        rw [hy9] at d9 ⊢
        obtain ⟨s9, hs9⟩ : ∃ s, y7.heap.size = s := ⟨_, rfl⟩
        rw [hs9] at d9 ⊢
        have Dy9 : Hid (DT w0 p g a n c y9 (some (v4, [] ++ l.take k)) none (some (.slice (some ⟨s9, 0, none⟩) 1 1, [xb]))) := d9
        clear hy9 hs9 d9
        refine wpAnyH_ready (rs := [13]) (by kernel_rfl) (by simp) ?_
        refine AllReadyH.cons (o := _) (by rw [List.getElem?_toArray]; exact rfl) (fun K hK => ?_) AllReadyH.nil
        refine wp_append_bys y9 rfl _ _ rfl g (.slice (some ⟨s9, 0, none⟩) 1 1) [xb] rfl (Dy9.out.hB _ _ rfl) b1 (l.length - k) (c1 - k) (l.drop k) rfl HNB.out (SB.out _ Dy9.out.far) (by have := HKL.out; have := HLE.out; simp; omega) Dy9.out.sz ?_
        intro v13 y13 ho hgr hbl
        have Dy13 : Hid (DT w0 p g a n c y13 (some (v4, [] ++ l.take k)) none (some (v13, [xb] ++ l.drop k))) := Dy9.out.appB HG0.out HPG.out ho hgr hbl
        clear ho hgr hbl
        refine hK.out _ _ trivial (fun hHeld => ?_)
        clear hK K
        (try simp only [Act.put, List.setIfInBounds_toArray, List.set_cons_zero, List.set_cons_succ])
        refine wpAnyH_ready (rs := [14]) (by kernel_rfl) (by simp) ?_
        refine AllReadyH.cons (o := _) (by rw [List.getElem?_toArray]; exact rfl) (fun K hK => ?_) AllReadyH.nil
        obtain ⟨ba, bc, hb13, hbc, hby⟩ := bown_bys (Dy13.out.hB _ _ rfl) (by have := HLE.out; simp; omega)
        have E13 : Hid (v13 = .slice ba _ bc) := hb13
        have EC : Hid (ba = none → bc = 0) := fun h => by
          rcases owns_forms (Dy13.out.hB _ _ rfl) with ⟨h1, h2⟩ | ⟨q, cap, h1⟩
          · rw [hb13] at h1; cases h1 <;> rfl
          · rw [hb13] at h1; cases h1; cases h
        refine wp_append_bys y13 rfl _ _ rfl g v4 ([] ++ l.take k) rfl (Dy13.out.hA _ _ rfl) ba _ bc ([xb] ++ l.drop k) hb13 EC.out hby (by have := HKL.out; have := HLE.out; simp; omega) Dy13.out.sz ?_
        intro v14 y14 ho hgr hbl
        have Z : Hid ((∃ w' v l', w' = y14 ∧ v = v14 ∧ BOwn w' g v l' ∧ l'.length ≤ 400) ∧ w0.grownBy y14 (some p)) := ⟨⟨_, _, _, rfl, rfl, ho, by have := HKL.out; have := HLE.out; simp; omega⟩, far_own HG0.out Dy13.out.far (own_block (Dy13.out.hA _ _ rfl)) hgr⟩
        clear ho hgr hbl E13 EC hb13 hbc hby
        refine hK.out _ _ trivial (fun hHeld => ?_)
        clear hK K
        (try simp only [Act.put, List.setIfInBounds_toArray, List.set_cons_zero, List.set_cons_succ])
        refine wpAnyH_take (i := 15) (oi := _) (v := v14) (by rw [List.getElem?_toArray]; exact rfl) (by kernel_rfl) (by kernel_rfl) (by kernel_rfl) (by intro _ _ _ h; exact h) (Or.inl ⟨by kernel_rfl, ?y15⟩) hHeld ?_
        case y15 =>
          intro w hSw
          clear hSw
          go_simp
          (try with_reducible rfl)
        (try simp only [Act.put, List.setIfInBounds_toArray, List.set_cons_zero, List.set_cons_succ])
        refine wpAnyH_done (by kernel_rfl) ?_ _
        (try simp only [Exit.then])
        go_wp2
        go_ret
        obtain ⟨⟨w', v', l', rfl, rfl, ho, hl'⟩, hf⟩ := Z.out
        exact FIN.out _ _ _ ho hl' hf
    · rw [if_pos (by kernel_rfl)]
      go_simp
      refine hK.out _ _ trivial (fun hHeld => ?_)
      clear hK K
      (try simp only [Act.put, List.setIfInBounds_toArray, List.set_cons_zero, List.set_cons_succ])
      obtain ⟨y6, hy6⟩ : ∃ y, yw.alloc (.cells #[.int .i64 0, .int .i64 1, .int .i64 2, .int .i64 5, .int .i64 255] 3) = y := ⟨_, rfl⟩
      have d6 := Dyw.out.i6
      rw [hy6] at d6 ⊢
      obtain ⟨s6, hs6⟩ : ∃ s, yw.heap.size = s := ⟨_, rfl⟩
      rw [hs6] at d6 ⊢
      have Dy6 : Hid (DT w0 p g a n c y6 none (some s6) none) := d6
      clear hy6 hs6 d6
      refine wpAnyH_ready (rs := [0]) (by kernel_rfl) (by simp) ?_
      refine AllReadyH.cons (o := _) (by rw [List.getElem?_toArray]; exact rfl) (fun K hK => ?_) AllReadyH.nil
      rw [if_pos (by kernel_rfl)]
      go_simp
      refine hK.out _ _ trivial (fun hHeld => ?_)
      clear hK K
      (try simp only [Act.put, List.setIfInBounds_toArray, List.set_cons_zero, List.set_cons_succ])
      obtain ⟨y0, hy0⟩ : ∃ y, y6.alloc (.cells #[] 5) = y := ⟨_, rfl⟩
      have d0 := Dy6.out.a0
      rw [hy0] at d0 ⊢
      obtain ⟨s0, hs0⟩ : ∃ s, y6.heap.size = s := ⟨_, rfl⟩
      rw [hs0] at d0 ⊢
      have Dy0 : Hid (DT w0 p g a n c y0 (some (.slice (some ⟨s0, 0, none⟩) 0 0, [])) (some s6) none) := d0
      clear hy0 hs0 d0
      refine wpAnyH_ready (rs := [4]) (by kernel_rfl) (by simp) ?_
      refine AllReadyH.cons (o := _) (by rw [List.getElem?_toArray]; exact rfl) (fun K hK => ?_) AllReadyH.nil
      refine wp_append_bys y0 rfl _ _ rfl g (.slice (some ⟨s0, 0, none⟩) 0 0) [] rfl (Dy0.out.hA _ _ rfl) a1 k c1 (l.take k) rfl HNC.out (SF.out _ Dy0.out.far) (by have := HKL.out; have := HLE.out; simp; omega) Dy0.out.sz ?_
      intro v4 y4 ho hgr hbl
      have Dy4 : Hid (DT w0 p g a n c y4 (some (v4, [] ++ l.take k)) (some s6) none) := Dy0.out.appA HG0.out HPG.out ho hgr hbl
      clear ho hgr hbl
      refine hK.out _ _ trivial (fun hHeld => ?_)
      clear hK K
      (try simp only [Act.put, List.setIfInBounds_toArray, List.set_cons_zero, List.set_cons_succ])
      refine wpAnyH_ready (rs := [7]) (by kernel_rfl) (by simp) ?_
      refine AllReadyH.cons (o := _) (by rw [List.getElem?_toArray]; exact rfl) (fun K hK => ?_) AllReadyH.nil
      rw [if_pos (by kernel_rfl)]
      go_simp
      refine (l1PickInt_any p a n c s6 5 5 [0, 1, 2, 5, 255] (by omega) (by omega) y4 Dy4.out.cur (by have h1 := (Dy4.out.hJ _ rfl).1; have := HPG.out; omega) (fun i hi => by
        rw [(Dy4.out.hJ _ rfl).2.cell i]
        rcases (show i = 0 ∨ i = 1 ∨ i = 2 ∨ i = 3 ∨ i = 4 by omega) with rfl | rfl | rfl | rfl | rfl <;> rfl)).mono ?_
      rintro e y7 ⟨x, hx, rfl, hC7, hO7⟩
      obtain ⟨xb, hxb⟩ := pickB x hx
      rw [hxb]
      have Dy7 : Hid (DT w0 p g a n c y7 (some (v4, [] ++ l.take k)) none none) := Dy4.out.pick HPG.out hC7 hO7
      have hxr : (xb.toNat : Int) < 256 := by have := xb.toNat_lt; omega
      have hx0 : (0 : Int) ≤ (xb.toNat : Int) := by omega
      have hxw : IntKind.u8.wrap (xb.toNat : Int) = (xb.toNat : Int) := u8_wrap xb
      clear hC7 hO7 hxb hx
      refine hK.out _ _ trivial (fun hHeld => ?_)
      clear hK K
      (try simp only [Act.put, List.setIfInBounds_toArray, List.set_cons_zero, List.set_cons_succ])
      refine wpAnyH_take (i := 8) (oi := _) (v := .int .u8 (xb.toNat : Int)) (by rw [List.getElem?_toArray]; exact rfl) (by kernel_rfl) (by kernel_rfl) (by kernel_rfl) (by intro _ _ _ h; exact h) (Or.inl ⟨by kernel_rfl, ?y8⟩) hHeld ?_
      case y8 =>
        intro w hSw
        clear hSw
        go_simp
        (try with_reducible rfl)
      (try simp only [Act.put, List.setIfInBounds_toArray, List.set_cons_zero, List.set_cons_succ])
      refine wpAnyH_ready (rs := [9]) (by kernel_rfl) (by simp) ?_
      refine AllReadyH.cons (o := _) (by rw [List.getElem?_toArray]; exact rfl) (fun K hK => ?_) AllReadyH.nil
      rw [if_pos (by kernel_rfl)]
      go_simp
      refine hK.out _ _ trivial (fun hHeld => ?_)
      clear hK K
      (try simp only [Act.put, List.setIfInBounds_toArray, List.set_cons_zero, List.set_cons_succ])
      obtain ⟨y9, hy9⟩ : ∃ y, y7.alloc (.cells #[.int .u8 (xb.toNat : Int)] 5) = y := ⟨_, rfl⟩
      have d9 := Dy7.out.b9 xb
      rw [hy9] at d9 ⊢
      obtain ⟨s9, hs9⟩ : ∃ s, y7.heap.size = s := ⟨_, rfl⟩
      rw [hs9] at d9 ⊢
      have Dy9 : Hid (DT w0 p g a n c y9 (some (v4, [] ++ l.take k)) none (some (.slice (some ⟨s9, 0, none⟩) 1 1, [xb]))) := d9
      clear hy9 hs9 d9
      refine wpAnyH_ready (rs := [13]) (by kernel_rfl) (by simp) ?_
      refine AllReadyH.cons (o := _) (by rw [List.getElem?_toArray]; exact rfl) (fun K hK => ?_) AllReadyH.nil
      refine wp_append_bys y9 rfl _ _ rfl g (.slice (some ⟨s9, 0, none⟩) 1 1) [xb] rfl (Dy9.out.hB _ _ rfl) b1 (l.length - k) (c1 - k) (l.drop k) rfl HNB.out (SB.out _ Dy9.out.far) (by have := HKL.out; have := HLE.out; simp; omega) Dy9.out.sz ?_
      intro v13 y13 ho hgr hbl
      have Dy13 : Hid (DT w0 p g a n c y13 (some (v4, [] ++ l.take k)) none (some (v13, [xb] ++ l.drop k))) := Dy9.out.appB HG0.out HPG.out ho hgr hbl
      clear ho hgr hbl
      refine hK.out _ _ trivial (fun hHeld => ?_)
      clear hK K
      (try simp only [Act.put, List.setIfInBounds_toArray, List.set_cons_zero, List.set_cons_succ])
      refine wpAnyH_ready (rs := [14]) (by kernel_rfl) (by simp) ?_
      refine AllReadyH.cons (o := _) (by rw [List.getElem?_toArray]; exact rfl) (fun K hK => ?_) AllReadyH.nil
      obtain ⟨ba, bc, hb13, hbc, hby⟩ := bown_bys (Dy13.out.hB _ _ rfl) (by have := HLE.out; simp; omega)
      have E13 : Hid (v13 = .slice ba _ bc) := hb13
      have EC : Hid (ba = none → bc = 0) := fun h => by
        rcases owns_forms (Dy13.out.hB _ _ rfl) with ⟨h1, h2⟩ | ⟨q, cap, h1⟩
        · rw [hb13] at h1; cases h1 <;> rfl
        · rw [hb13] at h1; cases h1; cases h
      refine wp_append_bys y13 rfl _ _ rfl g v4 ([] ++ l.take k) rfl (Dy13.out.hA _ _ rfl) ba _ bc ([xb] ++ l.drop k) hb13 EC.out hby (by have := HKL.out; have := HLE.out; simp; omega) Dy13.out.sz ?_
      intro v14 y14 ho hgr hbl
      have Z : Hid ((∃ w' v l', w' = y14 ∧ v = v14 ∧ BOwn w' g v l' ∧ l'.length ≤ 400) ∧ w0.grownBy y14 (some p)) := ⟨⟨_, _, _, rfl, rfl, ho, by have := HKL.out; have := HLE.out; simp; omega⟩, far_own HG0.out Dy13.out.far (own_block (Dy13.out.hA _ _ rfl)) hgr⟩
      clear ho hgr hbl E13 EC hb13 hbc hby
      refine hK.out _ _ trivial (fun hHeld => ?_)
      clear hK K
      (try simp only [Act.put, List.setIfInBounds_toArray, List.set_cons_zero, List.set_cons_succ])
      refine wpAnyH_take (i := 15) (oi := _) (v := v14) (by rw [List.getElem?_toArray]; exact rfl) (by kernel_rfl) (by kernel_rfl) (by kernel_rfl) (by intro _ _ _ h; exact h) (Or.inl ⟨by kernel_rfl, ?y15⟩) hHeld ?_
      case y15 =>
        intro w hSw
        clear hSw
        go_simp
        (try with_reducible rfl)
      (try simp only [Act.put, List.setIfInBounds_toArray, List.set_cons_zero, List.set_cons_succ])
      refine wpAnyH_done (by kernel_rfl) ?_ _
      (try simp only [Exit.then])
      go_wp2
      go_ret
      obtain ⟨⟨w', v', l', rfl, rfl, ho, hl'⟩, hf⟩ := Z.out
      exact FIN.out _ _ _ ho hl' hf
  · go_wp2
    go_ret
    exact ⟨⟨_, _, _, _, rfl, Y5.out, HC1.out, by have := HLE.out; omega⟩, by rw [HP.out]; exact B5.out⟩
theorem bytes_nowV {w w' : World} {a : Option Addr} {n : Nat} (h : BytesAt w w.heap.size a n) (hb : Below w.heap.size w w') : BytesAt w' w'.heap.size a n :=
  (h.keep fun k hk => hb.block k hk).mono hb.size
theorem head_eq {l : List UInt8} {i : Nat} {c d : UInt8} {t u : List UInt8} (h : l[i]? = some c) (hd : l.drop i = (d :: t) ++ u) : c = d ∧ l.drop (i + 1) = t ++ u := by
  rw [dropB h] at hd
  simpa using hd
theorem rd_null {l : List UInt8} {i : Nat} (h : l[i]? = some 1) : RdSays l i (0, 0, ⟨#[]⟩) (i + 1) := by
  refine ⟨Nat.lt_succ_self _, ?_⟩
  rintro ⟨k, n, s⟩ r hy hd
  dsimp only at hy
  rcases hy with ⟨rfl, rfl, h2⟩ | ⟨rfl, h1, h2⟩ | ⟨rfl, h1, h2⟩ | ⟨rfl, rfl, h2⟩
  · rw [str_nil h2]
    exact ⟨rfl, rfl⟩
  · exact absurd (head_eq (t := [UInt8.ofNat n.toNat]) h hd).1 (by decide)
  · exact absurd (head_eq (t := beN 8 (n + 4611686018427387904).toNat) h hd).1 (by decide)
  · exact absurd (head_eq (t := escB s.data.toList ++ [0, 1]) h hd).1 (by decide)
theorem rd_flag {l : List UInt8} {i : Nat} {b : UInt8} (h : l[i]? = some 2) (h1 : l[i + 1]? = some b) : RdSays l i (1, (b.toNat : Int), ⟨#[]⟩) (i + 2) := by
  refine ⟨by omega, ?_⟩
  rintro ⟨k, n, s⟩ r hy hd
  dsimp only at hy
  rcases hy with ⟨rfl, rfl, h2⟩ | ⟨rfl, h3, h2⟩ | ⟨rfl, h3, h2⟩ | ⟨rfl, rfl, h2⟩
  · exact absurd (head_eq (t := []) h hd).1 (by decide)
  · have h4 := (head_eq (t := [UInt8.ofNat n.toNat]) h hd).2
    have h5 := (head_eq (t := []) h1 h4).1
    rw [str_nil h2, h5]
    have e : ((UInt8.ofNat n.toNat).toNat : Int) = n := by rw [u8_nat (by omega)]; omega
    rw [e]
    exact ⟨rfl, rfl⟩
  · exact absurd (head_eq (t := beN 8 (n + 4611686018427387904).toNat) h hd).1 (by decide)
  · exact absurd (head_eq (t := escB s.data.toList ++ [0, 1]) h hd).1 (by decide)
theorem rd_flag0 {l : List UInt8} {i : Nat} (h : l[i]? = some 2) (h1 : ¬ i + 1 < l.length) (m : Int) : RdSays l i (1, m, ⟨#[]⟩) (i + 2) := by
  refine ⟨by omega, ?_⟩
  rintro ⟨k, n, s⟩ r hy hd
  dsimp only at hy
  rcases hy with ⟨rfl, rfl, h2⟩ | ⟨rfl, h3, h2⟩ | ⟨rfl, h3, h2⟩ | ⟨rfl, rfl, h2⟩
  · exact absurd (head_eq (t := []) h hd).1 (by decide)
  · have h4 := congrArg List.length (head_eq (t := [UInt8.ofNat n.toNat]) h hd).2
    rw [List.length_drop, List.length_append, List.length_singleton] at h4
    omega
  · exact absurd (head_eq (t := beN 8 (n + 4611686018427387904).toNat) h hd).1 (by decide)
  · exact absurd (head_eq (t := escB s.data.toList ++ [0, 1]) h hd).1 (by decide)
theorem rd_int {l : List UInt8} {i : Nat} {N : Int} (h : l[i]? = some 3) (hN : ∀ m : Nat, m < 9223372036854775808 → (l.drop (i + 1)).take 8 = beN 8 m → N = (m : Int) - 4611686018427387904) : RdSays l i (2, N, ⟨#[]⟩) (i + 9) := by
  refine ⟨by omega, ?_⟩
  rintro ⟨k, n, s⟩ r hy hd
  dsimp only at hy
  rcases hy with ⟨rfl, rfl, h2⟩ | ⟨rfl, h3, h2⟩ | ⟨rfl, h3, h2⟩ | ⟨rfl, rfl, h2⟩
  · exact absurd (head_eq (t := []) h hd).1 (by decide)
  · exact absurd (head_eq (t := [UInt8.ofNat n.toNat]) h hd).1 (by decide)
  · have h4 := (head_eq (t := beN 8 (n + 4611686018427387904).toNat) h hd).2
    have h5 := hN (n + 4611686018427387904).toNat (by omega) (by rw [h4, List.take_left' (beN_length _ _)])
    rw [str_nil h2]
    refine ⟨?_, ?_⟩
    · have e : N = n := by omega
      rw [e]
    · show _ = i + (3 :: beN 8 _).length
      rw [List.length_cons, beN_length]
  · exact absurd (head_eq (t := escB s.data.toList ++ [0, 1]) h hd).1 (by decide)
theorem rd_text {l : List UInt8} {i next : Nat} {s' : ByteArray} (h : l[i]? = some 4) (hlt : i + 1 < next) (hs : ∀ t r, rdT (l.drop (i + 1)) = some (t, r) → s'.data.toList = t ∧ next + r.length = l.length) : RdSays l i (3, 0, s') next := by
  refine ⟨by omega, ?_⟩
  rintro ⟨k, n, s⟩ r hy hd
  dsimp only at hy
  rcases hy with ⟨rfl, rfl, h2⟩ | ⟨rfl, h3, h2⟩ | ⟨rfl, h3, h2⟩ | ⟨rfl, rfl, h2⟩
  · exact absurd (head_eq (t := []) h hd).1 (by decide)
  · exact absurd (head_eq (t := [UInt8.ofNat n.toNat]) h hd).1 (by decide)
  · exact absurd (head_eq (t := beN 8 (n + 4611686018427387904).toNat) h hd).1 (by decide)
  · have h4 := (head_eq (t := escB s.data.toList ++ [0, 1]) h hd).2
    have e : (escB s.data.toList ++ [0, 1]) ++ r = escB s.data.toList ++ 0 :: 1 :: r := by simp
    obtain ⟨h5, h6⟩ := hs s.data.toList r (by rw [h4, e, rdT_esc])
    rw [str_eq h5]
    refine ⟨rfl, ?_⟩
    have h7 := congrArg List.length h4
    rw [List.length_drop, List.length_append] at h7
    show _ = i + (4 :: (escB s.data.toList ++ [0, 1])).length
    rw [List.length_cons]
    have h8 : i < l.length := (List.getElem?_eq_some_iff.1 h).1
    omega
theorem rd_none {l : List UInt8} {i next : Nat} {c : UInt8} (x : Va3) (h : l[i]? = some c) (hc : ¬ (1 ≤ c.toNat ∧ c.toNat ≤ 4)) (hlt : i < next) : RdSays l i x next := by
  refine ⟨hlt, ?_⟩
  rintro ⟨k, n, s⟩ r hy hd
  dsimp only at hy
  exfalso
  apply hc
  rcases hy with ⟨rfl, rfl, h2⟩ | ⟨rfl, h3, h2⟩ | ⟨rfl, h3, h2⟩ | ⟨rfl, rfl, h2⟩
  · rw [(head_eq (t := []) h hd).1]; decide
  · rw [(head_eq (t := [UInt8.ofNat n.toNat]) h hd).1]; decide
  · rw [(head_eq (t := beN 8 (n + 4611686018427387904).toNat) h hd).1]; decide
  · rw [(head_eq (t := escB s.data.toList ++ [0, 1]) h hd).1]; decide
theorem or_byte {x : Int} {b : Nat} (hx : 0 ≤ x) (hb : b < 256) (hm : x * 256 + b ≤ 9223372036854775807) : bits .or .i64 (x * 256) (b : Int) = x * 256 + b := by
  obtain ⟨n, rfl⟩ := Int.eq_ofNat_of_zero_le hx
  have hn : n * 256 + b < 18446744073709551616 := by omega
  have e : (BitVec.ofInt 64 ((n : Int) * 256) ||| BitVec.ofInt 64 (b : Int)).toNat = n * 256 + b := by
    have e1 : (n : Int) * 256 = ((n * 256 : Nat) : Int) := by omega
    have eA := ofInt_u64 (n * 256) (Nat.lt_of_le_of_lt (Nat.le_add_right _ b) hn)
    have eB := ofInt_u64 b (Nat.lt_of_le_of_lt (Nat.le_add_left _ _) hn)
    rw [e1, BitVec.toNat_or, eA, eB]
    exact nat_join 8 _ _ (by omega) (by omega)
  show IntKind.i64.wrap (((BitVec.ofInt 64 ((n : Int) * 256)) ||| (BitVec.ofInt 64 (b : Int))).toNat : Int) = _
  rw [e, IntKind.wrap_i64]
  omega
def RdN (l : List UInt8) (i j : Nat) (N : Int) : Prop := ∀ m : Nat, m < 9223372036854775808 → (l.drop (i + 1)).take 8 = beN 8 m → N = ((m / 256 ^ (8 - j) : Nat) : Int)
theorem RdN.start (l : List UInt8) (i : Nat) : RdN l i 0 0 := fun m hm _ => by
  have : m / 256 ^ (8 - 0) = 0 := Nat.div_eq_of_lt (by omega)
  rw [this]
  rfl
theorem RdN.next {l : List UInt8} {i j : Nat} {N : Int} {b : UInt8} (h : RdN l i j N) (hj : j < 8) (hb : l[i + 1 + j]? = some b) : RdN l i (j + 1) (bits .or .i64 (wrap64 (N * 256)) (b.toNat : Int)) := by
  intro m hm he
  have h1 := h m hm he
  have h2 : ((l.drop (i + 1)).take 8)[j]? = some b := by
    rw [List.getElem?_take_of_lt hj, List.getElem?_drop, hb]
  rw [he, beN_at 8 m j hj] at h2
  have h3 : b.toNat = m / 256 ^ (8 - 1 - j) % 256 := by
    rw [← Option.some.inj h2, u8_nat (Nat.mod_lt _ (by decide))]
  have h4 : m / 256 ^ (8 - j) = m / 256 ^ (8 - 1 - j) / 256 := by
    rw [Nat.div_div_eq_div_mul, ← Nat.pow_succ, show (8 - 1 - j).succ = 8 - j by omega]
  have h5 : m / 256 ^ (8 - (j + 1)) = m / 256 ^ (8 - 1 - j) := by rw [show 8 - (j + 1) = 8 - 1 - j by omega]
  have h6 : m / 256 ^ (8 - 1 - j) ≤ m := Nat.div_le_self _ _
  rw [h5, h1, h4]
  generalize m / 256 ^ (8 - 1 - j) = q at h3 h6 ⊢
  have h7 : wrap64 (((q / 256 : Nat) : Int) * 256) = ((q / 256 : Nat) : Int) * 256 := by unfold wrap64; omega
  rw [h7, h3, or_byte (by omega) (Nat.mod_lt _ (by decide)) (by omega)]
  omega
theorem RdN.done {l : List UInt8} {i : Nat} {N : Int} (h : RdN l i 8 N) (h0 : l[i]? = some 3) : RdSays l i (2, wrap64 (N - 4611686018427387904), ⟨#[]⟩) (i + 9) := rd_int h0 fun m hm he => by
  have h1 := h m hm he
  rw [h1, show m / 256 ^ (8 - 8) = m by simp]
  unfold wrap64
  omega
theorem RdN.short {l : List UInt8} {i : Nat} (N : Int) (h0 : l[i]? = some 3) (hs : l.length < i + 9) : RdSays l i (2, N, ⟨#[]⟩) (i + 9) := rd_int h0 fun m _ he => by
  have h1 := congrArg List.length he
  rw [beN_length, List.length_take, List.length_drop] at h1
  omega
open Go.Lib (byteCells byteCells_length byteCells_append)

theorem l18Text_any (a : Option Addr) (n c i : Nat) (l : List UInt8) (w : World) (h : BysAt w a n l) (hi : i ≤ n) :
    Calls Tryd.prog 46 #[.slice a n c, .int .i64 (i : Int)] w fun e w' => TxAns l i e ∧ Below w.heap.size w w' := by
  have HL : Hid (BysAt w a n l) := h
  have hl := h.1
  have hn := h.2.1
  obtain ⟨W, hW⟩ : ∃ W, w.alloc (.cells #[] 5) = W := ⟨_, rfl⟩
  obtain ⟨g, hg⟩ : ∃ g, w.heap.size = g := ⟨_, rfl⟩
  have HG : Hid (w.heap.size = g) := hg
  have HO0 : Hid (BOwn W g (.slice (some ⟨g, 0, none⟩) 0 0) []) := by rw [← hW]; exact bown_new w (l := []) hg rfl (Nat.le_refl _) (by decide)
  have HB0 : Hid (Below g w W) := by rw [← hW]; exact (Below.refl _ w).alloc (Nat.le_of_eq hg.symm) _
  have HW : Hid (w.alloc (.cells #[] 5) = W) := hW
  have HS0 : Hid (g ≤ W.heap.size) := by show g ≤ W.heap.size; rw [← hW, World.size_alloc, hg]; exact Nat.le_succ _
  have HI : Hid (i ≤ n) := hi
  clear h hW hg hi
  go_enter Tryd.func46, Tryd.ntmps46
  go_upto_region 2 with (fail)
  rw [HW.out, HG.out]
  go_loopw [1, 6] (fun at_ v wr => ∃ (j : Nat) (o : List UInt8), i ≤ j ∧ j ≤ n ∧ at_ = .int .i64 (j : Int) ∧ BOwn wr g v o ∧ RdT l i j o ∧ Below g w wr ∧ g ≤ wr.heap.size) (fun at_ _ _ => n - (RowKit.intOf at_).toNat)
  case atStart => exact ⟨i, [], Nat.le_refl _, HI.out, rfl, HO0.out, RdT.start l i, HB0.out, HS0.out⟩
  case round =>
    obtain ⟨j, o, hij, hjn, rfl, ho, hr, hb, hz⟩ := hrel
    have HO : Hid (BOwn wr g u6 o) := ho
    have HR : Hid (RdT l i j o) := hr
    have HBW : Hid (Below g w wr) := hb
    have HSZ : Hid (g ≤ wr.heap.size) := hz
    have HLW : Hid (BysAt wr a n l) := HL.out.below hb (Nat.le_of_eq HG.out)
    have HLEN : Hid (o.length ≤ 2097152) := by show _ ≤ _; have := hr.1; omega
    have hk0 : (0 : Int) ≤ (j : Int) := by omega
    have hk2 : (j : Int) ≤ 2097152 := by omega
    clear ho hr hb hz
    by_cases hlt : j + 1 < n
    · have hk1 : (j : Int) + 1 < (n : Int) := by omega
      have hk3 : (j : Int) < (n : Int) := by omega
      rcases HLW.out.2.2 with h0 | ⟨p1, o1, rfl, g1⟩
      · omega
      obtain ⟨x, hx⟩ : ∃ x, l[j]? = some x := ⟨_, List.getElem?_eq_getElem (by omega)⟩
      obtain ⟨y, hy⟩ : ∃ y, l[j + 1]? = some y := ⟨_, List.getElem?_eq_getElem (by omega)⟩
      have e0 := g1 j x hx
      have e1 := g1 (j + 1) y hy
      have HLT : Hid (p1 < wr.heap.size) := World.block_lt_of_cell? wr _ e0
      have e1' : wr.cell? ⟨p1, o1 + j + 1, none⟩ = some (.int .u8 (y.toNat : Int)) := by rw [Nat.add_assoc]; exact e1
      clear g1
      by_cases hx0 : x = 0
      · by_cases hy1 : y = 1
        · subst hx0 hy1
          have HD := HR.out.done hx hy
          have HDD : Hid (rdT (l.drop i) = some (o, l.drop (j + 2))) := HD
          have hcv := bown_text HO.out
          clear HD hx hy
          go_wp2
          go_ret2
          refine ⟨⟨⟨o.toArray⟩, j + 2, ?_, by omega, by omega, ?_, ?_⟩, HG.out ▸ HBW.out⟩
          · have e : (j : Int) + 2 = ((j + 2 : Nat) : Int) := by omega
            rw [e]
            rfl
          · have h1 := HR.out.1
            show o.toArray.size ≤ _
            simp
            omega
          · intro t r h1
            rw [HDD.out] at h1
            cases h1
            refine ⟨rfl, ?_⟩
            rw [List.length_drop]
            omega
        · subst hx0
          have hyb : ((y.toNat : Int) == 1) = false := by
            rw [beq_eq_false_iff_ne]
            intro h1
            exact hy1 (UInt8.toNat_inj.1 (show y.toNat = 1 by omega))
          have HN : Hid (RdT l i (j + 2) (o ++ [0])) := HR.out.two hx hy hy1
          have HJ : Hid (l[j]? = some 0) := hx
          clear hx hy hy1
          go_upto_region 6 with
            (at_builtin
             refine list_appB _ rfl _ _ rfl g u6 _ rfl (HO.out.alloc _) ⟨wr.heap.size, 0, none⟩ 1 [0] rfl (bnews _ _ rfl _ rfl) (by have := HLEN.out; simp only [List.length_singleton]; omega) (by have := HSZ.out; simp; omega) ?_
             intro v1 w1 hown hbel _
             have HO1 : Hid (BOwn w1 g v1 (o ++ [0])) := hown
             have HB1 : Hid (Below g w w1) := hbel w g (Nat.le_refl _) (HBW.out.alloc HSZ.out _)
             have HZ1 : Hid (g ≤ w1.heap.size) := Nat.le_trans HSZ.out (hbel wr 0 (Nat.zero_le _) ((Below.refl 0 wr).alloc (Nat.zero_le _) _)).size
             clear hown hbel)
          rcases (HL.out.below HB1.out (Nat.le_of_eq HG.out)).2.2 with h0 | ⟨p2, o2, hq, g2⟩
          · omega
          cases hq
          have e2 := g2 j 0 HJ.out
          clear g2
          go_wp2
          go_roundw
          case rel => exact ⟨j + 2, o ++ [0], by omega, by omega, by simp only [Value.int.injEq, true_and]; push_cast; omega, HO1.out, HN.out, HB1.out, HZ1.out⟩
          case measure => simp [RowKit.intOf]; omega
      · have hxb : ((x.toNat : Int) == 0) = false := by
          rw [beq_eq_false_iff_ne]
          intro h1
          exact hx0 (UInt8.toNat_inj.1 (show x.toNat = 0 by omega))
        have HN : Hid (RdT l i (j + 1) (o ++ [x])) := HR.out.one hx hy hx0
        have HJ : Hid (l[j]? = some x) := hx
        clear hx hy hx0
        go_upto_region 6 with
          (at_builtin
           refine list_appB _ rfl _ _ rfl g u6 _ rfl (HO.out.alloc _) ⟨wr.heap.size, 0, none⟩ 1 [x] rfl (bnews _ _ rfl _ rfl) (by have := HLEN.out; simp only [List.length_singleton]; omega) (by have := HSZ.out; simp; omega) ?_
           intro v1 w1 hown hbel _
           have HO1 : Hid (BOwn w1 g v1 (o ++ [x])) := hown
           have HB1 : Hid (Below g w w1) := hbel w g (Nat.le_refl _) (HBW.out.alloc HSZ.out _)
           have HZ1 : Hid (g ≤ w1.heap.size) := Nat.le_trans HSZ.out (hbel wr 0 (Nat.zero_le _) ((Below.refl 0 wr).alloc (Nat.zero_le _) _)).size
           clear hown hbel)
        rcases (HL.out.below HB1.out (Nat.le_of_eq HG.out)).2.2 with h0 | ⟨p2, o2, hq, g2⟩
        · omega
        cases hq
        have e2 := g2 j x HJ.out
        clear g2
        go_wp2
        go_roundw
        case rel => exact ⟨j + 1, o ++ [x], by omega, by omega, by go_num, HO1.out, HN.out, HB1.out, HZ1.out⟩
        case measure => simp [RowKit.intOf]; omega
    · have HN : Hid (rdT (l.drop i) = none) := HR.out.none (by omega)
      have hk1 : ¬ ((j : Int) + 1 < (n : Int)) := by omega
      go_wp2
      go_ret2
      refine ⟨⟨⟨#[]⟩, n + 1, ?_, by omega, by omega, Nat.zero_le _, ?_⟩, HG.out ▸ HBW.out⟩
      · have e : (n : Int) + 1 = ((n + 1 : Nat) : Int) := by omega
        rw [e]
        rfl
      · intro t r h1
        rw [HN.out] at h1
        cases h1
end
end Go.Proofs.YtgibeakclknhnaaDoor
