/- Texts joined: DrawSr. -/
import Derived.Test.YtmgofehafjogfaaSH04
import Derived.Deep.RegionHeld3
import Derived.Deep.Cut
set_option maxHeartbeats 16000000
set_option maxRecDepth 100000
namespace Go.Proofs.Ytmgofehafjogfaa
section
open Go.ChangeShapes Go.WideShapes Go.ChangeAt Go.RowKit Go.Joins
def CutIx (P : Act → Prop) (SI : World → Prop) (b q : Nat) (T1 T2 T3 : Nat → Prop) (av : Int) (a : Act) (z : World) : Prop :=
  P a ∧ ∃ (gx gl : Nat) (nm : ByteArray) (bv : Bool), a.tmps.getD 9 undef = .pointer (some ⟨gx, 0, none⟩) ∧ nm.size ≤ 13 ∧ Box z gx #[.string nm, .slice (some ⟨gl, 0, none⟩) 1 1, .bool bv] 105 ∧ IOwn z b (.slice (some ⟨gl, 0, none⟩) 1 1) [av] ∧ SI z ∧ Apart b q T1 T2 T3 gx ∧ Apart b q T1 T2 T3 gl ∧ gx ≠ gl
theorem l19DrawRight_any (p : Nat) (a : Option Addr) (n c : Nat) (w : World) (hC : Cur 102 w p a n c) :
    Calls Try.prog 77 #[.pointer (some ⟨p, 0, none⟩)] w (DrSc 1 2 w p a n c) := by
  obtain ⟨g, hg⟩ : ∃ g, w.heap.size = g := ⟨_, rfl⟩
  have HG : Hid (w.heap.size = g) := hg
  have HPG : Hid (p < g) := by show _ < _; rw [← hg]; exact hC.lt
  obtain ⟨W, hW⟩ : ∃ W, w.alloc (.cells #[.slice none 0 0, .slice none 0 0, .slice none 0 0] 28) = W := ⟨_, rfl⟩
  have HW : Hid (w.alloc (.cells #[.slice none 0 0, .slice none 0 0, .slice none 0 0] 28) = W) := hW
  obtain ⟨q, hq⟩ : ∃ q, g + 1 = q := ⟨_, rfl⟩
  have HQ : Hid (g + 1 = q) := hq
  have ZW : W.heap.size = q := by rw [← hW, World.size_alloc, hg, hq]
  obtain ⟨W1, hW1⟩ : ∃ W1, W.alloc (.cells #[.slice none 0 0, .slice none 0 0, .slice none 0 0] 28) = W1 := ⟨_, rfl⟩
  have HW1 : Hid (W.alloc (.cells #[.slice none 0 0, .slice none 0 0, .slice none 0 0] 28) = W1) := hW1
  obtain ⟨nb, hnb⟩ : ∃ nb, q + 1 = nb := ⟨_, rfl⟩
  have HQ1 : Hid (q + 1 = nb) := hnb
  have ZW1 : W1.heap.size = nb := by rw [← hW1, World.size_alloc, ZW, hnb]
  obtain ⟨W2, hW2⟩ : ∃ W2, W1.alloc (.cells #[.string (⟨#[105, 100]⟩ : ByteArray), .string (⟨#[110, 97, 109, 101]⟩ : ByteArray), .string (⟨#[115, 105, 122, 101]⟩ : ByteArray), .string (⟨#[111, 110]⟩ : ByteArray)] 9) = W2 := ⟨_, rfl⟩
  have HW2 : Hid (W1.alloc (.cells #[.string (⟨#[105, 100]⟩ : ByteArray), .string (⟨#[110, 97, 109, 101]⟩ : ByteArray), .string (⟨#[115, 105, 122, 101]⟩ : ByteArray), .string (⟨#[111, 110]⟩ : ByteArray)] 9) = W2) := hW2
  obtain ⟨b, hb⟩ : ∃ b, nb + 1 = b := ⟨_, rfl⟩
  have ZW2 : W2.heap.size = b := by rw [← hW2, World.size_alloc, ZW1, hb]
  have HNB : Hid (g < q ∧ q < nb ∧ nb < b) := by show _ ∧ _; omega
  have XR : Hid (Box W2 g #[.slice none 0 0, .slice none 0 0, .slice none 0 0] 28) := by
    have h1 : Box W g #[.slice none 0 0, .slice none 0 0, .slice none 0 0] 28 := by rw [← hW, ← hg]; exact box_of w _ _
    rw [← hW2, ← hW1]
    exact (h1.alloc _).alloc _
  have XQ0 : Box W2 q #[.slice none 0 0, .slice none 0 0, .slice none 0 0] 28 := by
    have h1 : Box W1 q #[.slice none 0 0, .slice none 0 0, .slice none 0 0] 28 := by rw [← hW1, ← ZW]; exact box_of W _ _
    rw [← hW2]
    exact h1.alloc _
  have XN : Hid (Box W2 nb #[.string (⟨#[105, 100]⟩ : ByteArray), .string (⟨#[110, 97, 109, 101]⟩ : ByteArray), .string (⟨#[115, 105, 122, 101]⟩ : ByteArray), .string (⟨#[111, 110]⟩ : ByteArray)] 9) := by rw [← hW2, ← ZW1]; exact box_of W1 _ _
  have I0 : Hid (ScIn w W2 b q p a n c [] [] [] (.slice none 0 0) (.slice none 0 0) (.slice none 0 0) (fun _ => False) (fun _ => False) (fun _ => False) W2) := by
    refine scIn_nil XQ0 ?_ ?_ ZW2 (by omega) (by rw [hg]; exact HPG.out)
    · rw [← hW2, ← hW1, ← hW]
      exact cur_alloc (cur_alloc (cur_alloc hC _) _) _
    · rw [← hW2, ← hW1, ← hW]
      exact far_alloc (far_alloc (World.grownBy_alloc _ _ _) _) _
  clear hg hW hq hW1 hnb hW2 hb ZW ZW1 ZW2 XQ0 hC
  go_enter Try.func77, Try.ntmps77
  go_upto_region 3 with (fail)
  rw [HW.out, HG.out, HQ.out, HW1.out, HQ1.out, HW2.out]
  go_wp2_with fail
  refine (l1Below_any p a n c 3 (by omega) (by omega) W2 I0.out.cur).mono ?_
  rintro e w3 ⟨x, hx, rfl, hC1, hO1⟩
  have I3 : Hid (ScIn w W2 b q p a n c [] [] [] (.slice none 0 0) (.slice none 0 0) (.slice none 0 0) (fun _ => False) (fun _ => False) (fun _ => False) w3) := I0.out.only hO1 hC1
  have hx0 : (0 : Int) ≤ (x : Int) := by omega
  obtain ⟨N, hN⟩ : ∃ N, 2 + x = N := ⟨_, rfl⟩
  have HN : Hid (2 ≤ N ∧ N ≤ 4) := by show _ ∧ _; omega
  have hNi : (2 : Int) + (x : Int) = (N : Int) := by omega
  have HNI : Hid ((2 : Int) + (x : Int) = (N : Int)) := hNi
  clear hC1 hO1 hN hNi
  go_wp2
  rw [HNI.out]
  go_loopw [6] (fun i wr => ∃ (j : Nat) (L : List Col3) (v1 : Value) (T1 : Nat → Prop), j ≤ N ∧ i = .int .i64 (j : Int) ∧ L.length = j ∧ (∀ x ∈ L, x.1.size ≤ 13) ∧ ScIn w W2 b q p a n c L [] [] v1 (.slice none 0 0) (.slice none 0 0) T1 (fun _ => False) (fun _ => False) wr) (fun i _ => N - (RowKit.intOf i).toNat)
  case atStart => exact ⟨0, [], _, _, Nat.zero_le _, rfl, rfl, (fun x hx => by cases hx), I3.out⟩
  case round =>
    obtain ⟨j, L, v1, T1, hj, rfl, hlj, hsm, hI⟩ := hrel
    have IR : Hid (ScIn w W2 b q p a n c L [] [] v1 (.slice none 0 0) (.slice none 0 0) T1 (fun _ => False) (fun _ => False) wr) := hI
    have HSM : Hid (∀ x ∈ L, x.1.size ≤ 13) := hsm
    have HLJ : Hid (L.length = j) := hlj
    clear hI hsm hlj
    by_cases hlt : j < N
    · have hn := HN.out
      have hj0 : (0 : Int) ≤ (j : Int) := by omega
      have hj4 : (j : Int) < 4 := by omega
      obtain ⟨nm, hnm, hns⟩ : ∃ nm : ByteArray, (#[.string (⟨#[105, 100]⟩ : ByteArray), .string (⟨#[110, 97, 109, 101]⟩ : ByteArray), .string (⟨#[115, 105, 122, 101]⟩ : ByteArray), .string (⟨#[111, 110]⟩ : ByteArray)] : Array Value)[j]? = some (.string nm) ∧ nm.size ≤ 13 := by
        rcases (show j = 0 ∨ j = 1 ∨ j = 2 ∨ j = 3 by omega) with rfl | rfl | rfl | rfl <;> exact ⟨_, rfl, by decide⟩
      have HNS : Hid (nm.size ≤ 13) := hns
      have NMJ : Hid (∀ L xs X v1 v2 v3 T1 T2 T3 z, ScIn w W2 b q p a n c L xs X v1 v2 v3 T1 T2 T3 z → z.cell? ⟨nb, j, none⟩ = some (.string nm)) := fun _ _ _ _ _ _ _ _ _ z hz => ((hz.lib XN.out HNB.out.2.2 (by have := HNB.out; have := HPG.out; omega) (by have := HNB.out; omega)).cell j).trans hnm
      have Iz0 : Hid (ScIn w W2 b q p a n c L [] [] v1 (.slice none 0 0) (.slice none 0 0) T1 (fun _ => False) (fun _ => False) wr.drew) := IR.out.drew
      obtain ⟨z0, hz0⟩ : ∃ z, wr.drew = z := ⟨_, rfl⟩
      have HZ0 : Hid (wr.drew = z0) := hz0
      clear hnm hns hn hx0
      go_upto_region 7 with (fail)
      rcases Nat.eq_zero_or_pos j with h0 | hjp
      · have hjpi : ¬ ((0 : Int) < (j : Int)) := by omega
        clear h0
        rw [hz0] at Iz0
        have rqz0 : z0.cell? ⟨q, 0, none⟩ = some v1 := Iz0.out.box.cell 0
        refine wp_region_held_drew (S := fun z => z.cell? ⟨nb, j, none⟩ = some (.string nm)) (by kernel_rfl) (by rw [HZ0.out]; exact NMJ.out _ _ _ _ _ _ _ _ _ _ Iz0.out) (fun hHeld => ?_)
        refine wpAnyH_take (i := 0) (oi := _) (v := ?v17_0) (by rw [List.getElem?_toArray]; exact rfl) (by kernel_rfl) (by kernel_rfl) (by kernel_rfl) (by intro _ _ _ h; exact h) (Or.inl ⟨by kernel_rfl, ?y17_0⟩) hHeld ?_
        case y17_0 =>
          intro w hSw
          clear hSw
          go_simp
          (try with_reducible rfl)
        (try simp only [Act.put, List.setIfInBounds_toArray, List.set_cons_zero, List.set_cons_succ])
        refine wpAnyH_take (i := 2) (oi := _) (v := ?v18_2) (by rw [List.getElem?_toArray]; exact rfl) (by kernel_rfl) (by kernel_rfl) (by kernel_rfl) (by intro _ _ _ h; exact h) (Or.inl ⟨by kernel_rfl, ?y18_2⟩) hHeld ?_
        case y18_2 =>
          intro w hSw
          clear hSw
          go_simp
          (try with_reducible rfl)
        (try simp only [Act.put, List.setIfInBounds_toArray, List.set_cons_zero, List.set_cons_succ])
        refine wpAnyH_take (i := 3) (oi := _) (v := ?v19_3) (by rw [List.getElem?_toArray]; exact rfl) (by kernel_rfl) (by kernel_rfl) (by kernel_rfl) (by intro _ _ _ h; exact h) (Or.inl ⟨by kernel_rfl, ?y19_3⟩) hHeld ?_
        case y19_3 =>
          intro w hSw
          clear hSw
          go_simp
          (try with_reducible rfl)
        (try simp only [Act.put, List.setIfInBounds_toArray, List.set_cons_zero, List.set_cons_succ])
        refine wpAnyH_take (i := 4) (oi := _) (v := ?v20_4) (by rw [List.getElem?_toArray]; exact rfl) (by kernel_rfl) (by kernel_rfl) (by kernel_rfl) (by intro _ _ _ h; exact h) (Or.inl ⟨by kernel_rfl, ?y20_4⟩) hHeld ?_
        case y20_4 =>
          intro w hSw
          clear hSw
          go_simp
          (try with_reducible rfl)
        (try simp only [Act.put, List.setIfInBounds_toArray, List.set_cons_zero, List.set_cons_succ])
        refine wpAnyH_take (i := 5) (oi := _) (v := ?v20_5) (by rw [List.getElem?_toArray]; exact rfl) (by kernel_rfl) (by kernel_rfl) (by kernel_rfl) (by intro _ _ _ h; exact h) (Or.inl ⟨by kernel_rfl, ?y20_5⟩) hHeld ?_
        case y20_5 =>
          intro w hSw
          obtain hnm := hSw
          go_simp
          (try with_reducible rfl)
        (try simp only [Act.put, List.setIfInBounds_toArray, List.set_cons_zero, List.set_cons_succ])
        refine wpAnyH_take (i := 6) (oi := _) (v := ?v21_6) (by rw [List.getElem?_toArray]; exact rfl) (by kernel_rfl) (by kernel_rfl) (by kernel_rfl) (by intro _ _ _ h; exact h) (Or.inl ⟨by kernel_rfl, ?y21_6⟩) hHeld ?_
        case y21_6 =>
          intro w hSw
          clear hSw
          go_simp
          (try with_reducible rfl)
        (try simp only [Act.put, List.setIfInBounds_toArray, List.set_cons_zero, List.set_cons_succ])
        refine wpAnyH_take (i := 9) (oi := _) (v := ?v22_9) (by rw [List.getElem?_toArray]; exact rfl) (by kernel_rfl) (by kernel_rfl) (by kernel_rfl) (by intro _ _ _ h; exact h) (Or.inl ⟨by kernel_rfl, ?y22_9⟩) hHeld ?_
        case y22_9 =>
          intro w hSw
          clear hSw
          go_simp
          (try with_reducible rfl)
        (try simp only [Act.put, List.setIfInBounds_toArray, List.set_cons_zero, List.set_cons_succ])
        refine wpAnyH_take (i := 10) (oi := _) (v := .bool false) (by rw [List.getElem?_toArray]; exact rfl) (by kernel_rfl) (by kernel_rfl) (by kernel_rfl) (by intro _ _ _ h; exact h) (Or.inl ⟨by kernel_rfl, ?y23_10⟩) hHeld ?_
        case y23_10 =>
          intro w hSw
          clear hSw
          go_simp
          (try with_reducible rfl)
          (try omega)
        (try simp only [Act.put, List.setIfInBounds_toArray, List.set_cons_zero, List.set_cons_succ])
        refine wpAnyH_ready (rs := [1, 7]) (by kernel_rfl) (by simp) ?_
        refine AllReadyH.cons (o := _) (by rw [List.getElem?_toArray]; exact rfl) (fun K hK => ?_) (AllReadyH.cons (o := _) (by rw [List.getElem?_toArray]; exact rfl) (fun K hK => ?_) AllReadyH.nil)
        · rw [if_pos (by kernel_rfl)]
          go_simp
          refine hK.out _ _ (NMJ.out _ _ _ _ _ _ _ _ _ _ Iz0.out) (fun hHeld => ?_)
          clear hK K
          (try simp only [Act.put, List.setIfInBounds_toArray, List.set_cons_zero, List.set_cons_succ])
          refine wpAnyH_ready (rs := [7]) (by kernel_rfl) (by simp) ?_
          refine AllReadyH.cons (o := _) (by rw [List.getElem?_toArray]; exact rfl) (fun K hK => ?_) AllReadyH.nil
          rw [if_pos (by kernel_rfl)]
          go_simp
          refine (l1Below_any p a n c 3 (by omega) (by omega) z0 Iz0.out.cur).mono ?_
          rintro e z1 ⟨y, hy, rfl, hC1, hO1⟩
          have Iz1 : Hid (ScIn w W2 b q p a n c L [] [] v1 (.slice none 0 0) (.slice none 0 0) T1 (fun _ => False) (fun _ => False) z1) := Iz0.out.only hO1 hC1
          have Hy : Hid ((y : Int) < 3) := hy
          have rqz1 : z1.cell? ⟨q, 0, none⟩ = some v1 := Iz1.out.box.cell 0
          clear hC1 hO1
          refine hK.out _ _ (NMJ.out _ _ _ _ _ _ _ _ _ _ Iz1.out) (fun hHeld => ?_)
          clear hK K
          (try simp only [Act.put, List.setIfInBounds_toArray, List.set_cons_zero, List.set_cons_succ])
          refine wpAnyH_take (i := 8) (oi := _) (v := .int .i64 (IntKind.i64.wrap (1 + (y : Int)))) (by rw [List.getElem?_toArray]; exact rfl) (by kernel_rfl) (by kernel_rfl) (by kernel_rfl) (by intro _ _ _ h; exact h) (Or.inl ⟨by kernel_rfl, ?y12_8⟩) hHeld ?_
          case y12_8 =>
            intro w hSw
            clear hSw
            go_simp
            (try with_reducible rfl)
          (try simp only [Act.put, List.setIfInBounds_toArray, List.set_cons_zero, List.set_cons_succ])
          obtain ⟨kd, hkd⟩ : ∃ k, IntKind.i64.wrap (1 + (y : Int)) = k := ⟨_, rfl⟩
          rw [hkd]
          clear hkd
          refine wpAnyH_take (i := 11) (oi := _) (v := .bool false) (by rw [List.getElem?_toArray]; exact rfl) (by kernel_rfl) (by kernel_rfl) (by kernel_rfl) (by intro _ _ _ h; exact h) (Or.inl ⟨by kernel_rfl, ?y13_11⟩) hHeld ?_
          case y13_11 =>
            intro w hSw
            clear hSw
            go_simp
            (try with_reducible rfl)
          (try simp only [Act.put, List.setIfInBounds_toArray, List.set_cons_zero, List.set_cons_succ])
          refine wpAnyH_take (i := 12) (oi := _) (v := undef) (by rw [List.getElem?_toArray]; exact rfl) (by kernel_rfl) (by kernel_rfl) (by kernel_rfl) (by intro _ _ _ h; exact h) (Or.inr ⟨by kernel_rfl, rfl⟩) hHeld ?_
          (try simp only [Act.put, List.setIfInBounds_toArray, List.set_cons_zero, List.set_cons_succ])
          refine wpAnyH_ready (rs := [13]) (by kernel_rfl) (by simp) ?_
          refine AllReadyH.cons (o := _) (by rw [List.getElem?_toArray]; exact rfl) (fun K hK => ?_) AllReadyH.nil
          rw [if_neg (by rw [show Region.wanted _ _ = false by kernel_rfl]; decide)]
          refine hK.out _ _ (NMJ.out _ _ _ _ _ _ _ _ _ _ Iz1.out) (fun hHeld => ?_)
          clear hK K
          (try simp only [Act.put, List.setIfInBounds_toArray, List.set_cons_zero, List.set_cons_succ])
          refine wpAnyH_take (i := 14) (oi := _) (v := .bool false) (by rw [List.getElem?_toArray]; exact rfl) (by kernel_rfl) (by kernel_rfl) (by kernel_rfl) (by intro _ _ _ h; exact h) (Or.inl ⟨by kernel_rfl, ?y14_14⟩) hHeld ?_
          case y14_14 =>
            intro w hSw
            clear hSw
            go_simp
            (try with_reducible rfl)
          (try simp only [Act.put, List.setIfInBounds_toArray, List.set_cons_zero, List.set_cons_succ])
          refine wpAnyH_take (i := 15) (oi := _) (v := .agg #[.string nm, .int .i64 kd, .bool false]) (by rw [List.getElem?_toArray]; exact rfl) (by kernel_rfl) (by kernel_rfl) (by kernel_rfl) (by intro _ _ _ h; exact h) (Or.inl ⟨by kernel_rfl, ?y15_15⟩) hHeld ?_
          case y15_15 =>
            intro w hSw
            clear hSw
            go_simp
            (try with_reducible rfl)
          (try simp only [Act.put, List.setIfInBounds_toArray, List.set_cons_zero, List.set_cons_succ])
          refine wpAnyH_ready (rs := [16]) (by kernel_rfl) (by simp) ?_
          refine AllReadyH.cons (o := _) (by rw [List.getElem?_toArray]; exact rfl) (fun K hK => ?_) AllReadyH.nil
          rw [if_pos (by kernel_rfl)]
          go_simp
          obtain ⟨gz3, hgz3⟩ : ∃ g, z1.heap.size = g := ⟨_, rfl⟩
          have Gz3 : Hid (z1.heap.size = gz3) := hgz3
          obtain ⟨z3, hz3⟩ : ∃ W, z1.alloc (.cells #[.string nm, .int .i64 kd, .bool false] 75) = W := ⟨_, rfl⟩
          have Wz3 : Hid (z1.alloc (.cells #[.string nm, .int .i64 kd, .bool false] 75) = z3) := hz3
          have Bz3 : Hid (Below z1.heap.size z1 z3) := by rw [← hz3]; exact (Below.refl _ _).alloc (Nat.le_refl _) _
          have Iz3 : Hid (ScIn w W2 b q p a n c L [] [] v1 (.slice none 0 0) (.slice none 0 0) T1 (fun _ => False) (fun _ => False) z3) := Iz1.out.below Bz3.out
          have Xz3 : Hid (Box z3 gz3 #[.string nm, .int .i64 kd, .bool false] 75) := by rw [← hz3, ← hgz3]; exact box_of z1 _ _
          have rqz3 : z3.cell? ⟨q, 0, none⟩ = some v1 := Iz3.out.box.cell 0
          have N0z3 : Hid (z3.cell? ((⟨gz3, 0, none⟩ : Addr).add 0) = some (.string nm)) := by rw [add_plain]; exact Xz3.out.cell 0
          have N1z3 : Hid (z3.cell? ((⟨gz3, 0, none⟩ : Addr).add 1) = some (.int .i64 kd)) := by rw [add_plain]; exact Xz3.out.cell 1
          have N2z3 : Hid (z3.cell? ((⟨gz3, 0, none⟩ : Addr).add 2) = some (.bool false)) := by rw [add_plain]; exact Xz3.out.cell 2
          clear hgz3 hz3
          rw [Wz3.out, Gz3.out]
          refine hK.out _ _ (NMJ.out _ _ _ _ _ _ _ _ _ _ Iz3.out) (fun hHeld => ?_)
          clear hK K
          (try simp only [Act.put, List.setIfInBounds_toArray, List.set_cons_zero, List.set_cons_succ])
          refine wpAnyH_ready (rs := [17]) (by kernel_rfl) (by simp) ?_
          refine AllReadyH.cons (o := _) (by rw [List.getElem?_toArray]; exact rfl) (fun K hK => ?_) AllReadyH.nil
          refine step_appCo z3 rfl _ _ rfl b v1 L.length (clsE L) T1 rfl Iz3.out.o1 ⟨gz3, 0, none⟩ 1 rfl (nm, kd, false) N0z3.out N1z3.out N2z3.out (by have := HLJ.out; omega) Iz3.out.hs ?_
          intro vv z4 T' hown hT hgrow
          obtain ⟨va, vc, rfl, -⟩ := hown.slice
          have XQ : Hid (Box z4 q #[v1, (.slice none 0 0), (.slice none 0 0)] 28) := Iz3.out.boxG hgrow (own_inT Iz3.out.o1) Iz3.out.n1
          have I5 : Hid (ScIn w W2 b q p a n c (L ++ [(nm, kd, false)]) [] [] (.slice va (L.length + 1) vc) (.slice none 0 0) (.slice none 0 0) T' (fun _ => False) (fun _ => False) (z4.setCell ⟨q, 0, none⟩ (.slice va (L.length + 1) vc))) := Iz3.out.put1 hgrow (own_inT Iz3.out.o1) (by rw [List.length_append, clsE_app]; exact hown) (fun x hx => (hT x hx).elim .inl (fun h => h.elim False.elim (fun h => .inr (Iz3.out.fresh (Nat.le_of_eq h.symm)))))
          have N4 : Hid (z4.cell? ⟨nb, j, none⟩ = some (.string nm)) := (hgrow.block nb (by have := Iz3.out.hs; have := HNB.out; omega) (fun e => by have := (Iz3.out.o1.lt nb (own_inT Iz3.out.o1 nb e.symm)).1; have := HNB.out; omega)) |> fun h => by have h2 := NMJ.out _ _ _ _ _ _ _ _ _ _ Iz3.out; unfold World.cell? at h2 ⊢; rw [h]; exact h2
          have q4 := XQ.out.cell 0
          have f4 := XQ.out.frozen 0
          clear hown hT hgrow
          refine hK.out _ _ N4.out (fun hHeld => ?_)
          clear hK K
          (try simp only [Act.put, List.setIfInBounds_toArray, List.set_cons_zero, List.set_cons_succ])
          refine wpAnyH_take (i := 18) (oi := _) (v := .pointer (some ⟨q, 0, none⟩)) (by rw [List.getElem?_toArray]; exact rfl) (by kernel_rfl) (by kernel_rfl) (by kernel_rfl) (by intro _ _ _ h; exact h) (Or.inl ⟨by kernel_rfl, ?y24_18⟩) hHeld ?_
          case y24_18 =>
            intro w hSw
            clear hSw
            go_simp
            (try with_reducible rfl)
          (try simp only [Act.put, List.setIfInBounds_toArray, List.set_cons_zero, List.set_cons_succ])
          refine wpAnyH_ready (rs := [19]) (by kernel_rfl) (by simp) ?_
          refine AllReadyH.cons (o := _) (by rw [List.getElem?_toArray]; exact rfl) (fun K hK => ?_) AllReadyH.nil
          rw [if_pos (by kernel_rfl)]
          go_simp
          refine hK.out _ _ (NMJ.out _ _ _ _ _ _ _ _ _ _ I5.out) (fun hHeld => ?_)
          clear hK K
          (try simp only [Act.put, List.setIfInBounds_toArray, List.set_cons_zero, List.set_cons_succ])
          refine wpAnyH_done (by kernel_rfl) ?_ _
          (try simp only [Exit.then])
          go_wp2
          exact ⟨⟨j + 1, L ++ [(nm, kd, false)], _, T', by omega, by go_num, by rw [List.length_append]; show L.length + 1 = j + 1; have := HLJ.out; omega, (fun x hx => (List.mem_append.1 hx).elim (HSM.out x) (fun h1 => by rw [List.mem_singleton.1 h1]; exact HNS.out)), I5.out⟩, by simp [RowKit.intOf]; omega⟩
        · rw [if_pos (by kernel_rfl)]
          go_simp
          refine (l1Below_any p a n c 3 (by omega) (by omega) z0 Iz0.out.cur).mono ?_
          rintro e z1 ⟨y, hy, rfl, hC1, hO1⟩
          have Iz1 : Hid (ScIn w W2 b q p a n c L [] [] v1 (.slice none 0 0) (.slice none 0 0) T1 (fun _ => False) (fun _ => False) z1) := Iz0.out.only hO1 hC1
          have Hy : Hid ((y : Int) < 3) := hy
          have rqz1 : z1.cell? ⟨q, 0, none⟩ = some v1 := Iz1.out.box.cell 0
          clear hC1 hO1
          refine hK.out _ _ (NMJ.out _ _ _ _ _ _ _ _ _ _ Iz1.out) (fun hHeld => ?_)
          clear hK K
          (try simp only [Act.put, List.setIfInBounds_toArray, List.set_cons_zero, List.set_cons_succ])
          refine wpAnyH_take (i := 8) (oi := _) (v := .int .i64 (IntKind.i64.wrap (1 + (y : Int)))) (by rw [List.getElem?_toArray]; exact rfl) (by kernel_rfl) (by kernel_rfl) (by kernel_rfl) (by intro _ _ _ h; exact h) (Or.inl ⟨by kernel_rfl, ?y12_8⟩) hHeld ?_
          case y12_8 =>
            intro w hSw
            clear hSw
            go_simp
            (try with_reducible rfl)
          (try simp only [Act.put, List.setIfInBounds_toArray, List.set_cons_zero, List.set_cons_succ])
          obtain ⟨kd, hkd⟩ : ∃ k, IntKind.i64.wrap (1 + (y : Int)) = k := ⟨_, rfl⟩
          rw [hkd]
          clear hkd
          refine wpAnyH_take (i := 11) (oi := _) (v := .bool false) (by rw [List.getElem?_toArray]; exact rfl) (by kernel_rfl) (by kernel_rfl) (by kernel_rfl) (by intro _ _ _ h; exact h) (Or.inl ⟨by kernel_rfl, ?y13_11⟩) hHeld ?_
          case y13_11 =>
            intro w hSw
            clear hSw
            go_simp
            (try with_reducible rfl)
          (try simp only [Act.put, List.setIfInBounds_toArray, List.set_cons_zero, List.set_cons_succ])
          refine wpAnyH_take (i := 12) (oi := _) (v := undef) (by rw [List.getElem?_toArray]; exact rfl) (by kernel_rfl) (by kernel_rfl) (by kernel_rfl) (by intro _ _ _ h; exact h) (Or.inr ⟨by kernel_rfl, rfl⟩) hHeld ?_
          (try simp only [Act.put, List.setIfInBounds_toArray, List.set_cons_zero, List.set_cons_succ])
          refine wpAnyH_ready (rs := [1, 13]) (by kernel_rfl) (by simp) ?_
          refine AllReadyH.cons (o := _) (by rw [List.getElem?_toArray]; exact rfl) (fun K hK => ?_) (AllReadyH.cons (o := _) (by rw [List.getElem?_toArray]; exact rfl) (fun K hK => ?_) AllReadyH.nil)
          · rw [if_pos (by kernel_rfl)]
            go_simp
            refine hK.out _ _ (NMJ.out _ _ _ _ _ _ _ _ _ _ Iz1.out) (fun hHeld => ?_)
            clear hK K
            (try simp only [Act.put, List.setIfInBounds_toArray, List.set_cons_zero, List.set_cons_succ])
            refine wpAnyH_ready (rs := [13]) (by kernel_rfl) (by simp) ?_
            refine AllReadyH.cons (o := _) (by rw [List.getElem?_toArray]; exact rfl) (fun K hK => ?_) AllReadyH.nil
            rw [if_neg (by rw [show Region.wanted _ _ = false by kernel_rfl]; decide)]
            refine hK.out _ _ (NMJ.out _ _ _ _ _ _ _ _ _ _ Iz1.out) (fun hHeld => ?_)
            clear hK K
            (try simp only [Act.put, List.setIfInBounds_toArray, List.set_cons_zero, List.set_cons_succ])
            refine wpAnyH_take (i := 14) (oi := _) (v := .bool false) (by rw [List.getElem?_toArray]; exact rfl) (by kernel_rfl) (by kernel_rfl) (by kernel_rfl) (by intro _ _ _ h; exact h) (Or.inl ⟨by kernel_rfl, ?y14_14⟩) hHeld ?_
            case y14_14 =>
              intro w hSw
              clear hSw
              go_simp
              (try with_reducible rfl)
            (try simp only [Act.put, List.setIfInBounds_toArray, List.set_cons_zero, List.set_cons_succ])
            refine wpAnyH_take (i := 15) (oi := _) (v := .agg #[.string nm, .int .i64 kd, .bool false]) (by rw [List.getElem?_toArray]; exact rfl) (by kernel_rfl) (by kernel_rfl) (by kernel_rfl) (by intro _ _ _ h; exact h) (Or.inl ⟨by kernel_rfl, ?y15_15⟩) hHeld ?_
            case y15_15 =>
              intro w hSw
              clear hSw
              go_simp
              (try with_reducible rfl)
            (try simp only [Act.put, List.setIfInBounds_toArray, List.set_cons_zero, List.set_cons_succ])
            refine wpAnyH_ready (rs := [16]) (by kernel_rfl) (by simp) ?_
            refine AllReadyH.cons (o := _) (by rw [List.getElem?_toArray]; exact rfl) (fun K hK => ?_) AllReadyH.nil
            rw [if_pos (by kernel_rfl)]
            go_simp
            obtain ⟨gz3, hgz3⟩ : ∃ g, z1.heap.size = g := ⟨_, rfl⟩
            have Gz3 : Hid (z1.heap.size = gz3) := hgz3
            obtain ⟨z3, hz3⟩ : ∃ W, z1.alloc (.cells #[.string nm, .int .i64 kd, .bool false] 75) = W := ⟨_, rfl⟩
            have Wz3 : Hid (z1.alloc (.cells #[.string nm, .int .i64 kd, .bool false] 75) = z3) := hz3
            have Bz3 : Hid (Below z1.heap.size z1 z3) := by rw [← hz3]; exact (Below.refl _ _).alloc (Nat.le_refl _) _
            have Iz3 : Hid (ScIn w W2 b q p a n c L [] [] v1 (.slice none 0 0) (.slice none 0 0) T1 (fun _ => False) (fun _ => False) z3) := Iz1.out.below Bz3.out
            have Xz3 : Hid (Box z3 gz3 #[.string nm, .int .i64 kd, .bool false] 75) := by rw [← hz3, ← hgz3]; exact box_of z1 _ _
            have rqz3 : z3.cell? ⟨q, 0, none⟩ = some v1 := Iz3.out.box.cell 0
            have N0z3 : Hid (z3.cell? ((⟨gz3, 0, none⟩ : Addr).add 0) = some (.string nm)) := by rw [add_plain]; exact Xz3.out.cell 0
            have N1z3 : Hid (z3.cell? ((⟨gz3, 0, none⟩ : Addr).add 1) = some (.int .i64 kd)) := by rw [add_plain]; exact Xz3.out.cell 1
            have N2z3 : Hid (z3.cell? ((⟨gz3, 0, none⟩ : Addr).add 2) = some (.bool false)) := by rw [add_plain]; exact Xz3.out.cell 2
            clear hgz3 hz3
            rw [Wz3.out, Gz3.out]
            refine hK.out _ _ (NMJ.out _ _ _ _ _ _ _ _ _ _ Iz3.out) (fun hHeld => ?_)
            clear hK K
            (try simp only [Act.put, List.setIfInBounds_toArray, List.set_cons_zero, List.set_cons_succ])
            refine wpAnyH_ready (rs := [17]) (by kernel_rfl) (by simp) ?_
            refine AllReadyH.cons (o := _) (by rw [List.getElem?_toArray]; exact rfl) (fun K hK => ?_) AllReadyH.nil
            refine step_appCo z3 rfl _ _ rfl b v1 L.length (clsE L) T1 rfl Iz3.out.o1 ⟨gz3, 0, none⟩ 1 rfl (nm, kd, false) N0z3.out N1z3.out N2z3.out (by have := HLJ.out; omega) Iz3.out.hs ?_
            intro vv z4 T' hown hT hgrow
            obtain ⟨va, vc, rfl, -⟩ := hown.slice
            have XQ : Hid (Box z4 q #[v1, (.slice none 0 0), (.slice none 0 0)] 28) := Iz3.out.boxG hgrow (own_inT Iz3.out.o1) Iz3.out.n1
            have I5 : Hid (ScIn w W2 b q p a n c (L ++ [(nm, kd, false)]) [] [] (.slice va (L.length + 1) vc) (.slice none 0 0) (.slice none 0 0) T' (fun _ => False) (fun _ => False) (z4.setCell ⟨q, 0, none⟩ (.slice va (L.length + 1) vc))) := Iz3.out.put1 hgrow (own_inT Iz3.out.o1) (by rw [List.length_append, clsE_app]; exact hown) (fun x hx => (hT x hx).elim .inl (fun h => h.elim False.elim (fun h => .inr (Iz3.out.fresh (Nat.le_of_eq h.symm)))))
            have N4 : Hid (z4.cell? ⟨nb, j, none⟩ = some (.string nm)) := (hgrow.block nb (by have := Iz3.out.hs; have := HNB.out; omega) (fun e => by have := (Iz3.out.o1.lt nb (own_inT Iz3.out.o1 nb e.symm)).1; have := HNB.out; omega)) |> fun h => by have h2 := NMJ.out _ _ _ _ _ _ _ _ _ _ Iz3.out; unfold World.cell? at h2 ⊢; rw [h]; exact h2
            have q4 := XQ.out.cell 0
            have f4 := XQ.out.frozen 0
            clear hown hT hgrow
            refine hK.out _ _ N4.out (fun hHeld => ?_)
            clear hK K
            (try simp only [Act.put, List.setIfInBounds_toArray, List.set_cons_zero, List.set_cons_succ])
            refine wpAnyH_take (i := 18) (oi := _) (v := .pointer (some ⟨q, 0, none⟩)) (by rw [List.getElem?_toArray]; exact rfl) (by kernel_rfl) (by kernel_rfl) (by kernel_rfl) (by intro _ _ _ h; exact h) (Or.inl ⟨by kernel_rfl, ?y25_18⟩) hHeld ?_
            case y25_18 =>
              intro w hSw
              clear hSw
              go_simp
              (try with_reducible rfl)
            (try simp only [Act.put, List.setIfInBounds_toArray, List.set_cons_zero, List.set_cons_succ])
            refine wpAnyH_ready (rs := [19]) (by kernel_rfl) (by simp) ?_
            refine AllReadyH.cons (o := _) (by rw [List.getElem?_toArray]; exact rfl) (fun K hK => ?_) AllReadyH.nil
            rw [if_pos (by kernel_rfl)]
            go_simp
            refine hK.out _ _ (NMJ.out _ _ _ _ _ _ _ _ _ _ I5.out) (fun hHeld => ?_)
            clear hK K
            (try simp only [Act.put, List.setIfInBounds_toArray, List.set_cons_zero, List.set_cons_succ])
            refine wpAnyH_done (by kernel_rfl) ?_ _
            (try simp only [Exit.then])
            go_wp2
            exact ⟨⟨j + 1, L ++ [(nm, kd, false)], _, T', by omega, by go_num, by rw [List.length_append]; show L.length + 1 = j + 1; have := HLJ.out; omega, (fun x hx => (List.mem_append.1 hx).elim (HSM.out x) (fun h1 => by rw [List.mem_singleton.1 h1]; exact HNS.out)), I5.out⟩, by simp [RowKit.intOf]; omega⟩
          · rw [if_neg (by rw [show Region.wanted _ _ = false by kernel_rfl]; decide)]
            refine hK.out _ _ (NMJ.out _ _ _ _ _ _ _ _ _ _ Iz1.out) (fun hHeld => ?_)
            clear hK K
            (try simp only [Act.put, List.setIfInBounds_toArray, List.set_cons_zero, List.set_cons_succ])
            refine wpAnyH_take (i := 14) (oi := _) (v := .bool false) (by rw [List.getElem?_toArray]; exact rfl) (by kernel_rfl) (by kernel_rfl) (by kernel_rfl) (by intro _ _ _ h; exact h) (Or.inl ⟨by kernel_rfl, ?y14_14⟩) hHeld ?_
            case y14_14 =>
              intro w hSw
              clear hSw
              go_simp
              (try with_reducible rfl)
            (try simp only [Act.put, List.setIfInBounds_toArray, List.set_cons_zero, List.set_cons_succ])
            refine wpAnyH_take (i := 15) (oi := _) (v := .agg #[.string nm, .int .i64 kd, .bool false]) (by rw [List.getElem?_toArray]; exact rfl) (by kernel_rfl) (by kernel_rfl) (by kernel_rfl) (by intro _ _ _ h; exact h) (Or.inl ⟨by kernel_rfl, ?y15_15⟩) hHeld ?_
            case y15_15 =>
              intro w hSw
              clear hSw
              go_simp
              (try with_reducible rfl)
            (try simp only [Act.put, List.setIfInBounds_toArray, List.set_cons_zero, List.set_cons_succ])
            refine wpAnyH_ready (rs := [1, 16]) (by kernel_rfl) (by simp) ?_
            refine AllReadyH.cons (o := _) (by rw [List.getElem?_toArray]; exact rfl) (fun K hK => ?_) (AllReadyH.cons (o := _) (by rw [List.getElem?_toArray]; exact rfl) (fun K hK => ?_) AllReadyH.nil)
            · rw [if_pos (by kernel_rfl)]
              go_simp
              refine hK.out _ _ (NMJ.out _ _ _ _ _ _ _ _ _ _ Iz1.out) (fun hHeld => ?_)
              clear hK K
              (try simp only [Act.put, List.setIfInBounds_toArray, List.set_cons_zero, List.set_cons_succ])
              refine wpAnyH_ready (rs := [16]) (by kernel_rfl) (by simp) ?_
              refine AllReadyH.cons (o := _) (by rw [List.getElem?_toArray]; exact rfl) (fun K hK => ?_) AllReadyH.nil
              rw [if_pos (by kernel_rfl)]
              go_simp
              obtain ⟨gz3, hgz3⟩ : ∃ g, z1.heap.size = g := ⟨_, rfl⟩
              have Gz3 : Hid (z1.heap.size = gz3) := hgz3
              obtain ⟨z3, hz3⟩ : ∃ W, z1.alloc (.cells #[.string nm, .int .i64 kd, .bool false] 75) = W := ⟨_, rfl⟩
              have Wz3 : Hid (z1.alloc (.cells #[.string nm, .int .i64 kd, .bool false] 75) = z3) := hz3
              have Bz3 : Hid (Below z1.heap.size z1 z3) := by rw [← hz3]; exact (Below.refl _ _).alloc (Nat.le_refl _) _
              have Iz3 : Hid (ScIn w W2 b q p a n c L [] [] v1 (.slice none 0 0) (.slice none 0 0) T1 (fun _ => False) (fun _ => False) z3) := Iz1.out.below Bz3.out
              have Xz3 : Hid (Box z3 gz3 #[.string nm, .int .i64 kd, .bool false] 75) := by rw [← hz3, ← hgz3]; exact box_of z1 _ _
              have rqz3 : z3.cell? ⟨q, 0, none⟩ = some v1 := Iz3.out.box.cell 0
              have N0z3 : Hid (z3.cell? ((⟨gz3, 0, none⟩ : Addr).add 0) = some (.string nm)) := by rw [add_plain]; exact Xz3.out.cell 0
              have N1z3 : Hid (z3.cell? ((⟨gz3, 0, none⟩ : Addr).add 1) = some (.int .i64 kd)) := by rw [add_plain]; exact Xz3.out.cell 1
              have N2z3 : Hid (z3.cell? ((⟨gz3, 0, none⟩ : Addr).add 2) = some (.bool false)) := by rw [add_plain]; exact Xz3.out.cell 2
              clear hgz3 hz3
              rw [Wz3.out, Gz3.out]
              refine hK.out _ _ (NMJ.out _ _ _ _ _ _ _ _ _ _ Iz3.out) (fun hHeld => ?_)
              clear hK K
              (try simp only [Act.put, List.setIfInBounds_toArray, List.set_cons_zero, List.set_cons_succ])
              refine wpAnyH_ready (rs := [17]) (by kernel_rfl) (by simp) ?_
              refine AllReadyH.cons (o := _) (by rw [List.getElem?_toArray]; exact rfl) (fun K hK => ?_) AllReadyH.nil
              refine step_appCo z3 rfl _ _ rfl b v1 L.length (clsE L) T1 rfl Iz3.out.o1 ⟨gz3, 0, none⟩ 1 rfl (nm, kd, false) N0z3.out N1z3.out N2z3.out (by have := HLJ.out; omega) Iz3.out.hs ?_
              intro vv z4 T' hown hT hgrow
              obtain ⟨va, vc, rfl, -⟩ := hown.slice
              have XQ : Hid (Box z4 q #[v1, (.slice none 0 0), (.slice none 0 0)] 28) := Iz3.out.boxG hgrow (own_inT Iz3.out.o1) Iz3.out.n1
              have I5 : Hid (ScIn w W2 b q p a n c (L ++ [(nm, kd, false)]) [] [] (.slice va (L.length + 1) vc) (.slice none 0 0) (.slice none 0 0) T' (fun _ => False) (fun _ => False) (z4.setCell ⟨q, 0, none⟩ (.slice va (L.length + 1) vc))) := Iz3.out.put1 hgrow (own_inT Iz3.out.o1) (by rw [List.length_append, clsE_app]; exact hown) (fun x hx => (hT x hx).elim .inl (fun h => h.elim False.elim (fun h => .inr (Iz3.out.fresh (Nat.le_of_eq h.symm)))))
              have N4 : Hid (z4.cell? ⟨nb, j, none⟩ = some (.string nm)) := (hgrow.block nb (by have := Iz3.out.hs; have := HNB.out; omega) (fun e => by have := (Iz3.out.o1.lt nb (own_inT Iz3.out.o1 nb e.symm)).1; have := HNB.out; omega)) |> fun h => by have h2 := NMJ.out _ _ _ _ _ _ _ _ _ _ Iz3.out; unfold World.cell? at h2 ⊢; rw [h]; exact h2
              have q4 := XQ.out.cell 0
              have f4 := XQ.out.frozen 0
              clear hown hT hgrow
              refine hK.out _ _ N4.out (fun hHeld => ?_)
              clear hK K
              (try simp only [Act.put, List.setIfInBounds_toArray, List.set_cons_zero, List.set_cons_succ])
              refine wpAnyH_take (i := 18) (oi := _) (v := .pointer (some ⟨q, 0, none⟩)) (by rw [List.getElem?_toArray]; exact rfl) (by kernel_rfl) (by kernel_rfl) (by kernel_rfl) (by intro _ _ _ h; exact h) (Or.inl ⟨by kernel_rfl, ?y26_18⟩) hHeld ?_
              case y26_18 =>
                intro w hSw
                clear hSw
                go_simp
                (try with_reducible rfl)
              (try simp only [Act.put, List.setIfInBounds_toArray, List.set_cons_zero, List.set_cons_succ])
              refine wpAnyH_ready (rs := [19]) (by kernel_rfl) (by simp) ?_
              refine AllReadyH.cons (o := _) (by rw [List.getElem?_toArray]; exact rfl) (fun K hK => ?_) AllReadyH.nil
              rw [if_pos (by kernel_rfl)]
              go_simp
              refine hK.out _ _ (NMJ.out _ _ _ _ _ _ _ _ _ _ I5.out) (fun hHeld => ?_)
              clear hK K
              (try simp only [Act.put, List.setIfInBounds_toArray, List.set_cons_zero, List.set_cons_succ])
              refine wpAnyH_done (by kernel_rfl) ?_ _
              (try simp only [Exit.then])
              go_wp2
              exact ⟨⟨j + 1, L ++ [(nm, kd, false)], _, T', by omega, by go_num, by rw [List.length_append]; show L.length + 1 = j + 1; have := HLJ.out; omega, (fun x hx => (List.mem_append.1 hx).elim (HSM.out x) (fun h1 => by rw [List.mem_singleton.1 h1]; exact HNS.out)), I5.out⟩, by simp [RowKit.intOf]; omega⟩
            · rw [if_pos (by kernel_rfl)]
              go_simp
              obtain ⟨gz3, hgz3⟩ : ∃ g, z1.heap.size = g := ⟨_, rfl⟩
              have Gz3 : Hid (z1.heap.size = gz3) := hgz3
              obtain ⟨z3, hz3⟩ : ∃ W, z1.alloc (.cells #[.string nm, .int .i64 kd, .bool false] 75) = W := ⟨_, rfl⟩
              have Wz3 : Hid (z1.alloc (.cells #[.string nm, .int .i64 kd, .bool false] 75) = z3) := hz3
              have Bz3 : Hid (Below z1.heap.size z1 z3) := by rw [← hz3]; exact (Below.refl _ _).alloc (Nat.le_refl _) _
              have Iz3 : Hid (ScIn w W2 b q p a n c L [] [] v1 (.slice none 0 0) (.slice none 0 0) T1 (fun _ => False) (fun _ => False) z3) := Iz1.out.below Bz3.out
              have Xz3 : Hid (Box z3 gz3 #[.string nm, .int .i64 kd, .bool false] 75) := by rw [← hz3, ← hgz3]; exact box_of z1 _ _
              have rqz3 : z3.cell? ⟨q, 0, none⟩ = some v1 := Iz3.out.box.cell 0
              have N0z3 : Hid (z3.cell? ((⟨gz3, 0, none⟩ : Addr).add 0) = some (.string nm)) := by rw [add_plain]; exact Xz3.out.cell 0
              have N1z3 : Hid (z3.cell? ((⟨gz3, 0, none⟩ : Addr).add 1) = some (.int .i64 kd)) := by rw [add_plain]; exact Xz3.out.cell 1
              have N2z3 : Hid (z3.cell? ((⟨gz3, 0, none⟩ : Addr).add 2) = some (.bool false)) := by rw [add_plain]; exact Xz3.out.cell 2
              clear hgz3 hz3
              rw [Wz3.out, Gz3.out]
              refine hK.out _ _ (NMJ.out _ _ _ _ _ _ _ _ _ _ Iz3.out) (fun hHeld => ?_)
              clear hK K
              (try simp only [Act.put, List.setIfInBounds_toArray, List.set_cons_zero, List.set_cons_succ])
              refine wpAnyH_ready (rs := [1]) (by kernel_rfl) (by simp) ?_
              refine AllReadyH.cons (o := _) (by rw [List.getElem?_toArray]; exact rfl) (fun K hK => ?_) AllReadyH.nil
              rw [if_pos (by kernel_rfl)]
              go_simp
              refine hK.out _ _ (NMJ.out _ _ _ _ _ _ _ _ _ _ Iz3.out) (fun hHeld => ?_)
              clear hK K
              (try simp only [Act.put, List.setIfInBounds_toArray, List.set_cons_zero, List.set_cons_succ])
              refine wpAnyH_ready (rs := [17]) (by kernel_rfl) (by simp) ?_
              refine AllReadyH.cons (o := _) (by rw [List.getElem?_toArray]; exact rfl) (fun K hK => ?_) AllReadyH.nil
              refine step_appCo z3 rfl _ _ rfl b v1 L.length (clsE L) T1 rfl Iz3.out.o1 ⟨gz3, 0, none⟩ 1 rfl (nm, kd, false) N0z3.out N1z3.out N2z3.out (by have := HLJ.out; omega) Iz3.out.hs ?_
              intro vv z4 T' hown hT hgrow
              obtain ⟨va, vc, rfl, -⟩ := hown.slice
              have XQ : Hid (Box z4 q #[v1, (.slice none 0 0), (.slice none 0 0)] 28) := Iz3.out.boxG hgrow (own_inT Iz3.out.o1) Iz3.out.n1
              have I5 : Hid (ScIn w W2 b q p a n c (L ++ [(nm, kd, false)]) [] [] (.slice va (L.length + 1) vc) (.slice none 0 0) (.slice none 0 0) T' (fun _ => False) (fun _ => False) (z4.setCell ⟨q, 0, none⟩ (.slice va (L.length + 1) vc))) := Iz3.out.put1 hgrow (own_inT Iz3.out.o1) (by rw [List.length_append, clsE_app]; exact hown) (fun x hx => (hT x hx).elim .inl (fun h => h.elim False.elim (fun h => .inr (Iz3.out.fresh (Nat.le_of_eq h.symm)))))
              have N4 : Hid (z4.cell? ⟨nb, j, none⟩ = some (.string nm)) := (hgrow.block nb (by have := Iz3.out.hs; have := HNB.out; omega) (fun e => by have := (Iz3.out.o1.lt nb (own_inT Iz3.out.o1 nb e.symm)).1; have := HNB.out; omega)) |> fun h => by have h2 := NMJ.out _ _ _ _ _ _ _ _ _ _ Iz3.out; unfold World.cell? at h2 ⊢; rw [h]; exact h2
              have q4 := XQ.out.cell 0
              have f4 := XQ.out.frozen 0
              clear hown hT hgrow
              refine hK.out _ _ N4.out (fun hHeld => ?_)
              clear hK K
              (try simp only [Act.put, List.setIfInBounds_toArray, List.set_cons_zero, List.set_cons_succ])
              refine wpAnyH_take (i := 18) (oi := _) (v := .pointer (some ⟨q, 0, none⟩)) (by rw [List.getElem?_toArray]; exact rfl) (by kernel_rfl) (by kernel_rfl) (by kernel_rfl) (by intro _ _ _ h; exact h) (Or.inl ⟨by kernel_rfl, ?y27_18⟩) hHeld ?_
              case y27_18 =>
                intro w hSw
                clear hSw
                go_simp
                (try with_reducible rfl)
              (try simp only [Act.put, List.setIfInBounds_toArray, List.set_cons_zero, List.set_cons_succ])
              refine wpAnyH_ready (rs := [19]) (by kernel_rfl) (by simp) ?_
              refine AllReadyH.cons (o := _) (by rw [List.getElem?_toArray]; exact rfl) (fun K hK => ?_) AllReadyH.nil
              rw [if_pos (by kernel_rfl)]
              go_simp
              refine hK.out _ _ (NMJ.out _ _ _ _ _ _ _ _ _ _ I5.out) (fun hHeld => ?_)
              clear hK K
              (try simp only [Act.put, List.setIfInBounds_toArray, List.set_cons_zero, List.set_cons_succ])
              refine wpAnyH_done (by kernel_rfl) ?_ _
              (try simp only [Exit.then])
              go_wp2
              exact ⟨⟨j + 1, L ++ [(nm, kd, false)], _, T', by omega, by go_num, by rw [List.length_append]; show L.length + 1 = j + 1; have := HLJ.out; omega, (fun x hx => (List.mem_append.1 hx).elim (HSM.out x) (fun h1 => by rw [List.mem_singleton.1 h1]; exact HNS.out)), I5.out⟩, by simp [RowKit.intOf]; omega⟩
      · have hjpi : (0 : Int) < (j : Int) := by omega
        rw [hz0] at Iz0
        have rqz0 : z0.cell? ⟨q, 0, none⟩ = some v1 := Iz0.out.box.cell 0
        refine wp_region_held_drew (S := fun z => z.cell? ⟨nb, j, none⟩ = some (.string nm)) (by kernel_rfl) (by rw [HZ0.out]; exact NMJ.out _ _ _ _ _ _ _ _ _ _ Iz0.out) (fun hHeld => ?_)
        refine wpAnyH_take (i := 0) (oi := _) (v := ?v34_0) (by rw [List.getElem?_toArray]; exact rfl) (by kernel_rfl) (by kernel_rfl) (by kernel_rfl) (by intro _ _ _ h; exact h) (Or.inl ⟨by kernel_rfl, ?y34_0⟩) hHeld ?_
        case y34_0 =>
          intro w hSw
          clear hSw
          go_simp
          (try with_reducible rfl)
        (try simp only [Act.put, List.setIfInBounds_toArray, List.set_cons_zero, List.set_cons_succ])
        refine wpAnyH_take (i := 2) (oi := _) (v := ?v35_2) (by rw [List.getElem?_toArray]; exact rfl) (by kernel_rfl) (by kernel_rfl) (by kernel_rfl) (by intro _ _ _ h; exact h) (Or.inl ⟨by kernel_rfl, ?y35_2⟩) hHeld ?_
        case y35_2 =>
          intro w hSw
          clear hSw
          go_simp
          (try with_reducible rfl)
        (try simp only [Act.put, List.setIfInBounds_toArray, List.set_cons_zero, List.set_cons_succ])
        refine wpAnyH_take (i := 3) (oi := _) (v := ?v36_3) (by rw [List.getElem?_toArray]; exact rfl) (by kernel_rfl) (by kernel_rfl) (by kernel_rfl) (by intro _ _ _ h; exact h) (Or.inl ⟨by kernel_rfl, ?y36_3⟩) hHeld ?_
        case y36_3 =>
          intro w hSw
          clear hSw
          go_simp
          (try with_reducible rfl)
        (try simp only [Act.put, List.setIfInBounds_toArray, List.set_cons_zero, List.set_cons_succ])
        refine wpAnyH_take (i := 4) (oi := _) (v := ?v37_4) (by rw [List.getElem?_toArray]; exact rfl) (by kernel_rfl) (by kernel_rfl) (by kernel_rfl) (by intro _ _ _ h; exact h) (Or.inl ⟨by kernel_rfl, ?y37_4⟩) hHeld ?_
        case y37_4 =>
          intro w hSw
          clear hSw
          go_simp
          (try with_reducible rfl)
        (try simp only [Act.put, List.setIfInBounds_toArray, List.set_cons_zero, List.set_cons_succ])
        refine wpAnyH_take (i := 5) (oi := _) (v := ?v37_5) (by rw [List.getElem?_toArray]; exact rfl) (by kernel_rfl) (by kernel_rfl) (by kernel_rfl) (by intro _ _ _ h; exact h) (Or.inl ⟨by kernel_rfl, ?y37_5⟩) hHeld ?_
        case y37_5 =>
          intro w hSw
          obtain hnm := hSw
          go_simp
          (try with_reducible rfl)
        (try simp only [Act.put, List.setIfInBounds_toArray, List.set_cons_zero, List.set_cons_succ])
        refine wpAnyH_take (i := 6) (oi := _) (v := ?v38_6) (by rw [List.getElem?_toArray]; exact rfl) (by kernel_rfl) (by kernel_rfl) (by kernel_rfl) (by intro _ _ _ h; exact h) (Or.inl ⟨by kernel_rfl, ?y38_6⟩) hHeld ?_
        case y38_6 =>
          intro w hSw
          clear hSw
          go_simp
          (try with_reducible rfl)
        (try simp only [Act.put, List.setIfInBounds_toArray, List.set_cons_zero, List.set_cons_succ])
        refine wpAnyH_take (i := 9) (oi := _) (v := ?v39_9) (by rw [List.getElem?_toArray]; exact rfl) (by kernel_rfl) (by kernel_rfl) (by kernel_rfl) (by intro _ _ _ h; exact h) (Or.inl ⟨by kernel_rfl, ?y39_9⟩) hHeld ?_
        case y39_9 =>
          intro w hSw
          clear hSw
          go_simp
          (try with_reducible rfl)
        (try simp only [Act.put, List.setIfInBounds_toArray, List.set_cons_zero, List.set_cons_succ])
        refine wpAnyH_take (i := 10) (oi := _) (v := .bool true) (by rw [List.getElem?_toArray]; exact rfl) (by kernel_rfl) (by kernel_rfl) (by kernel_rfl) (by intro _ _ _ h; exact h) (Or.inl ⟨by kernel_rfl, ?y40_10⟩) hHeld ?_
        case y40_10 =>
          intro w hSw
          clear hSw
          go_simp
          (try with_reducible rfl)
          (try omega)
        (try simp only [Act.put, List.setIfInBounds_toArray, List.set_cons_zero, List.set_cons_succ])
        refine wpAnyH_ready (rs := [1, 7]) (by kernel_rfl) (by simp) ?_
        refine AllReadyH.cons (o := _) (by rw [List.getElem?_toArray]; exact rfl) (fun K hK => ?_) (AllReadyH.cons (o := _) (by rw [List.getElem?_toArray]; exact rfl) (fun K hK => ?_) AllReadyH.nil)
        · rw [if_pos (by kernel_rfl)]
          go_simp
          refine hK.out _ _ (NMJ.out _ _ _ _ _ _ _ _ _ _ Iz0.out) (fun hHeld => ?_)
          clear hK K
          (try simp only [Act.put, List.setIfInBounds_toArray, List.set_cons_zero, List.set_cons_succ])
          refine wpAnyH_ready (rs := [7]) (by kernel_rfl) (by simp) ?_
          refine AllReadyH.cons (o := _) (by rw [List.getElem?_toArray]; exact rfl) (fun K hK => ?_) AllReadyH.nil
          rw [if_pos (by kernel_rfl)]
          go_simp
          refine (l1Below_any p a n c 3 (by omega) (by omega) z0 Iz0.out.cur).mono ?_
          rintro e z1 ⟨y, hy, rfl, hC1, hO1⟩
          have Iz1 : Hid (ScIn w W2 b q p a n c L [] [] v1 (.slice none 0 0) (.slice none 0 0) T1 (fun _ => False) (fun _ => False) z1) := Iz0.out.only hO1 hC1
          have Hy : Hid ((y : Int) < 3) := hy
          have rqz1 : z1.cell? ⟨q, 0, none⟩ = some v1 := Iz1.out.box.cell 0
          clear hC1 hO1
          refine hK.out _ _ (NMJ.out _ _ _ _ _ _ _ _ _ _ Iz1.out) (fun hHeld => ?_)
          clear hK K
          (try simp only [Act.put, List.setIfInBounds_toArray, List.set_cons_zero, List.set_cons_succ])
          refine wpAnyH_take (i := 8) (oi := _) (v := .int .i64 (IntKind.i64.wrap (1 + (y : Int)))) (by rw [List.getElem?_toArray]; exact rfl) (by kernel_rfl) (by kernel_rfl) (by kernel_rfl) (by intro _ _ _ h; exact h) (Or.inl ⟨by kernel_rfl, ?y28_8⟩) hHeld ?_
          case y28_8 =>
            intro w hSw
            clear hSw
            go_simp
            (try with_reducible rfl)
          (try simp only [Act.put, List.setIfInBounds_toArray, List.set_cons_zero, List.set_cons_succ])
          obtain ⟨kd, hkd⟩ : ∃ k, IntKind.i64.wrap (1 + (y : Int)) = k := ⟨_, rfl⟩
          rw [hkd]
          clear hkd
          refine wpAnyH_take (i := 11) (oi := _) (v := .bool true) (by rw [List.getElem?_toArray]; exact rfl) (by kernel_rfl) (by kernel_rfl) (by kernel_rfl) (by intro _ _ _ h; exact h) (Or.inl ⟨by kernel_rfl, ?y29_11⟩) hHeld ?_
          case y29_11 =>
            intro w hSw
            clear hSw
            go_simp
            (try with_reducible rfl)
          (try simp only [Act.put, List.setIfInBounds_toArray, List.set_cons_zero, List.set_cons_succ])
          refine wpAnyH_take (i := 12) (oi := _) (v := .pointer (some ⟨p, 0, none⟩)) (by rw [List.getElem?_toArray]; exact rfl) (by kernel_rfl) (by kernel_rfl) (by kernel_rfl) (by intro _ _ _ h; exact h) (Or.inl ⟨by kernel_rfl, ?y30_12⟩) hHeld ?_
          case y30_12 =>
            intro w hSw
            clear hSw
            go_simp
            (try with_reducible rfl)
          (try simp only [Act.put, List.setIfInBounds_toArray, List.set_cons_zero, List.set_cons_succ])
          refine wpAnyH_ready (rs := [13]) (by kernel_rfl) (by simp) ?_
          refine AllReadyH.cons (o := _) (by rw [List.getElem?_toArray]; exact rfl) (fun K hK => ?_) AllReadyH.nil
          rw [if_pos (by kernel_rfl)]
          go_simp
          refine (l1Once_anyB p a n c 2 (by omega) (by omega) z1 Iz1.out.cur).mono ?_
          rintro e z2 ⟨⟨bf, rfl⟩, hC1, hO1⟩
          have Iz2 : Hid (ScIn w W2 b q p a n c L [] [] v1 (.slice none 0 0) (.slice none 0 0) T1 (fun _ => False) (fun _ => False) z2) := Iz1.out.only hO1 hC1
          have rqz2 : z2.cell? ⟨q, 0, none⟩ = some v1 := Iz2.out.box.cell 0
          clear hC1 hO1
          refine hK.out _ _ (NMJ.out _ _ _ _ _ _ _ _ _ _ Iz2.out) (fun hHeld => ?_)
          clear hK K
          (try simp only [Act.put, List.setIfInBounds_toArray, List.set_cons_zero, List.set_cons_succ])
          refine wpAnyH_take (i := 14) (oi := _) (v := .bool bf) (by rw [List.getElem?_toArray]; exact rfl) (by kernel_rfl) (by kernel_rfl) (by kernel_rfl) (by intro _ _ _ h; exact h) (Or.inl ⟨by kernel_rfl, ?y31_14⟩) hHeld ?_
          case y31_14 =>
            intro w hSw
            clear hSw
            go_simp
            (try with_reducible rfl)
          (try simp only [Act.put, List.setIfInBounds_toArray, List.set_cons_zero, List.set_cons_succ])
          refine wpAnyH_take (i := 15) (oi := _) (v := .agg #[.string nm, .int .i64 kd, .bool bf]) (by rw [List.getElem?_toArray]; exact rfl) (by kernel_rfl) (by kernel_rfl) (by kernel_rfl) (by intro _ _ _ h; exact h) (Or.inl ⟨by kernel_rfl, ?y32_15⟩) hHeld ?_
          case y32_15 =>
            intro w hSw
            clear hSw
            go_simp
            (try with_reducible rfl)
          (try simp only [Act.put, List.setIfInBounds_toArray, List.set_cons_zero, List.set_cons_succ])
          refine wpAnyH_ready (rs := [16]) (by kernel_rfl) (by simp) ?_
          refine AllReadyH.cons (o := _) (by rw [List.getElem?_toArray]; exact rfl) (fun K hK => ?_) AllReadyH.nil
          rw [if_pos (by kernel_rfl)]
          go_simp
          obtain ⟨gz3, hgz3⟩ : ∃ g, z2.heap.size = g := ⟨_, rfl⟩
          have Gz3 : Hid (z2.heap.size = gz3) := hgz3
          obtain ⟨z3, hz3⟩ : ∃ W, z2.alloc (.cells #[.string nm, .int .i64 kd, .bool bf] 75) = W := ⟨_, rfl⟩
          have Wz3 : Hid (z2.alloc (.cells #[.string nm, .int .i64 kd, .bool bf] 75) = z3) := hz3
          have Bz3 : Hid (Below z2.heap.size z2 z3) := by rw [← hz3]; exact (Below.refl _ _).alloc (Nat.le_refl _) _
          have Iz3 : Hid (ScIn w W2 b q p a n c L [] [] v1 (.slice none 0 0) (.slice none 0 0) T1 (fun _ => False) (fun _ => False) z3) := Iz2.out.below Bz3.out
          have Xz3 : Hid (Box z3 gz3 #[.string nm, .int .i64 kd, .bool bf] 75) := by rw [← hz3, ← hgz3]; exact box_of z2 _ _
          have rqz3 : z3.cell? ⟨q, 0, none⟩ = some v1 := Iz3.out.box.cell 0
          have N0z3 : Hid (z3.cell? ((⟨gz3, 0, none⟩ : Addr).add 0) = some (.string nm)) := by rw [add_plain]; exact Xz3.out.cell 0
          have N1z3 : Hid (z3.cell? ((⟨gz3, 0, none⟩ : Addr).add 1) = some (.int .i64 kd)) := by rw [add_plain]; exact Xz3.out.cell 1
          have N2z3 : Hid (z3.cell? ((⟨gz3, 0, none⟩ : Addr).add 2) = some (.bool bf)) := by rw [add_plain]; exact Xz3.out.cell 2
          clear hgz3 hz3
          rw [Wz3.out, Gz3.out]
          refine hK.out _ _ (NMJ.out _ _ _ _ _ _ _ _ _ _ Iz3.out) (fun hHeld => ?_)
          clear hK K
          (try simp only [Act.put, List.setIfInBounds_toArray, List.set_cons_zero, List.set_cons_succ])
          refine wpAnyH_ready (rs := [17]) (by kernel_rfl) (by simp) ?_
          refine AllReadyH.cons (o := _) (by rw [List.getElem?_toArray]; exact rfl) (fun K hK => ?_) AllReadyH.nil
          refine step_appCo z3 rfl _ _ rfl b v1 L.length (clsE L) T1 rfl Iz3.out.o1 ⟨gz3, 0, none⟩ 1 rfl (nm, kd, bf) N0z3.out N1z3.out N2z3.out (by have := HLJ.out; omega) Iz3.out.hs ?_
          intro vv z4 T' hown hT hgrow
          obtain ⟨va, vc, rfl, -⟩ := hown.slice
          have XQ : Hid (Box z4 q #[v1, (.slice none 0 0), (.slice none 0 0)] 28) := Iz3.out.boxG hgrow (own_inT Iz3.out.o1) Iz3.out.n1
          have I5 : Hid (ScIn w W2 b q p a n c (L ++ [(nm, kd, bf)]) [] [] (.slice va (L.length + 1) vc) (.slice none 0 0) (.slice none 0 0) T' (fun _ => False) (fun _ => False) (z4.setCell ⟨q, 0, none⟩ (.slice va (L.length + 1) vc))) := Iz3.out.put1 hgrow (own_inT Iz3.out.o1) (by rw [List.length_append, clsE_app]; exact hown) (fun x hx => (hT x hx).elim .inl (fun h => h.elim False.elim (fun h => .inr (Iz3.out.fresh (Nat.le_of_eq h.symm)))))
          have N4 : Hid (z4.cell? ⟨nb, j, none⟩ = some (.string nm)) := (hgrow.block nb (by have := Iz3.out.hs; have := HNB.out; omega) (fun e => by have := (Iz3.out.o1.lt nb (own_inT Iz3.out.o1 nb e.symm)).1; have := HNB.out; omega)) |> fun h => by have h2 := NMJ.out _ _ _ _ _ _ _ _ _ _ Iz3.out; unfold World.cell? at h2 ⊢; rw [h]; exact h2
          have q4 := XQ.out.cell 0
          have f4 := XQ.out.frozen 0
          clear hown hT hgrow
          refine hK.out _ _ N4.out (fun hHeld => ?_)
          clear hK K
          (try simp only [Act.put, List.setIfInBounds_toArray, List.set_cons_zero, List.set_cons_succ])
          refine wpAnyH_take (i := 18) (oi := _) (v := .pointer (some ⟨q, 0, none⟩)) (by rw [List.getElem?_toArray]; exact rfl) (by kernel_rfl) (by kernel_rfl) (by kernel_rfl) (by intro _ _ _ h; exact h) (Or.inl ⟨by kernel_rfl, ?y41_18⟩) hHeld ?_
          case y41_18 =>
            intro w hSw
            clear hSw
            go_simp
            (try with_reducible rfl)
          (try simp only [Act.put, List.setIfInBounds_toArray, List.set_cons_zero, List.set_cons_succ])
          refine wpAnyH_ready (rs := [19]) (by kernel_rfl) (by simp) ?_
          refine AllReadyH.cons (o := _) (by rw [List.getElem?_toArray]; exact rfl) (fun K hK => ?_) AllReadyH.nil
          rw [if_pos (by kernel_rfl)]
          go_simp
          refine hK.out _ _ (NMJ.out _ _ _ _ _ _ _ _ _ _ I5.out) (fun hHeld => ?_)
          clear hK K
          (try simp only [Act.put, List.setIfInBounds_toArray, List.set_cons_zero, List.set_cons_succ])
          refine wpAnyH_done (by kernel_rfl) ?_ _
          (try simp only [Exit.then])
          go_wp2
          exact ⟨⟨j + 1, L ++ [(nm, kd, bf)], _, T', by omega, by go_num, by rw [List.length_append]; show L.length + 1 = j + 1; have := HLJ.out; omega, (fun x hx => (List.mem_append.1 hx).elim (HSM.out x) (fun h1 => by rw [List.mem_singleton.1 h1]; exact HNS.out)), I5.out⟩, by simp [RowKit.intOf]; omega⟩
        · rw [if_pos (by kernel_rfl)]
          go_simp
          refine (l1Below_any p a n c 3 (by omega) (by omega) z0 Iz0.out.cur).mono ?_
          rintro e z1 ⟨y, hy, rfl, hC1, hO1⟩
          have Iz1 : Hid (ScIn w W2 b q p a n c L [] [] v1 (.slice none 0 0) (.slice none 0 0) T1 (fun _ => False) (fun _ => False) z1) := Iz0.out.only hO1 hC1
          have Hy : Hid ((y : Int) < 3) := hy
          have rqz1 : z1.cell? ⟨q, 0, none⟩ = some v1 := Iz1.out.box.cell 0
          clear hC1 hO1
          refine hK.out _ _ (NMJ.out _ _ _ _ _ _ _ _ _ _ Iz1.out) (fun hHeld => ?_)
          clear hK K
          (try simp only [Act.put, List.setIfInBounds_toArray, List.set_cons_zero, List.set_cons_succ])
          refine wpAnyH_take (i := 8) (oi := _) (v := .int .i64 (IntKind.i64.wrap (1 + (y : Int)))) (by rw [List.getElem?_toArray]; exact rfl) (by kernel_rfl) (by kernel_rfl) (by kernel_rfl) (by intro _ _ _ h; exact h) (Or.inl ⟨by kernel_rfl, ?y28_8⟩) hHeld ?_
          case y28_8 =>
            intro w hSw
            clear hSw
            go_simp
            (try with_reducible rfl)
          (try simp only [Act.put, List.setIfInBounds_toArray, List.set_cons_zero, List.set_cons_succ])
          obtain ⟨kd, hkd⟩ : ∃ k, IntKind.i64.wrap (1 + (y : Int)) = k := ⟨_, rfl⟩
          rw [hkd]
          clear hkd
          refine wpAnyH_take (i := 11) (oi := _) (v := .bool true) (by rw [List.getElem?_toArray]; exact rfl) (by kernel_rfl) (by kernel_rfl) (by kernel_rfl) (by intro _ _ _ h; exact h) (Or.inl ⟨by kernel_rfl, ?y29_11⟩) hHeld ?_
          case y29_11 =>
            intro w hSw
            clear hSw
            go_simp
            (try with_reducible rfl)
          (try simp only [Act.put, List.setIfInBounds_toArray, List.set_cons_zero, List.set_cons_succ])
          refine wpAnyH_take (i := 12) (oi := _) (v := .pointer (some ⟨p, 0, none⟩)) (by rw [List.getElem?_toArray]; exact rfl) (by kernel_rfl) (by kernel_rfl) (by kernel_rfl) (by intro _ _ _ h; exact h) (Or.inl ⟨by kernel_rfl, ?y30_12⟩) hHeld ?_
          case y30_12 =>
            intro w hSw
            clear hSw
            go_simp
            (try with_reducible rfl)
          (try simp only [Act.put, List.setIfInBounds_toArray, List.set_cons_zero, List.set_cons_succ])
          refine wpAnyH_ready (rs := [1, 13]) (by kernel_rfl) (by simp) ?_
          refine AllReadyH.cons (o := _) (by rw [List.getElem?_toArray]; exact rfl) (fun K hK => ?_) (AllReadyH.cons (o := _) (by rw [List.getElem?_toArray]; exact rfl) (fun K hK => ?_) AllReadyH.nil)
          · rw [if_pos (by kernel_rfl)]
            go_simp
            refine hK.out _ _ (NMJ.out _ _ _ _ _ _ _ _ _ _ Iz1.out) (fun hHeld => ?_)
            clear hK K
            (try simp only [Act.put, List.setIfInBounds_toArray, List.set_cons_zero, List.set_cons_succ])
            refine wpAnyH_ready (rs := [13]) (by kernel_rfl) (by simp) ?_
            refine AllReadyH.cons (o := _) (by rw [List.getElem?_toArray]; exact rfl) (fun K hK => ?_) AllReadyH.nil
            rw [if_pos (by kernel_rfl)]
            go_simp
            refine (l1Once_anyB p a n c 2 (by omega) (by omega) z1 Iz1.out.cur).mono ?_
            rintro e z2 ⟨⟨bf, rfl⟩, hC1, hO1⟩
            have Iz2 : Hid (ScIn w W2 b q p a n c L [] [] v1 (.slice none 0 0) (.slice none 0 0) T1 (fun _ => False) (fun _ => False) z2) := Iz1.out.only hO1 hC1
            have rqz2 : z2.cell? ⟨q, 0, none⟩ = some v1 := Iz2.out.box.cell 0
            clear hC1 hO1
            refine hK.out _ _ (NMJ.out _ _ _ _ _ _ _ _ _ _ Iz2.out) (fun hHeld => ?_)
            clear hK K
            (try simp only [Act.put, List.setIfInBounds_toArray, List.set_cons_zero, List.set_cons_succ])
            refine wpAnyH_take (i := 14) (oi := _) (v := .bool bf) (by rw [List.getElem?_toArray]; exact rfl) (by kernel_rfl) (by kernel_rfl) (by kernel_rfl) (by intro _ _ _ h; exact h) (Or.inl ⟨by kernel_rfl, ?y31_14⟩) hHeld ?_
            case y31_14 =>
              intro w hSw
              clear hSw
              go_simp
              (try with_reducible rfl)
            (try simp only [Act.put, List.setIfInBounds_toArray, List.set_cons_zero, List.set_cons_succ])
            refine wpAnyH_take (i := 15) (oi := _) (v := .agg #[.string nm, .int .i64 kd, .bool bf]) (by rw [List.getElem?_toArray]; exact rfl) (by kernel_rfl) (by kernel_rfl) (by kernel_rfl) (by intro _ _ _ h; exact h) (Or.inl ⟨by kernel_rfl, ?y32_15⟩) hHeld ?_
            case y32_15 =>
              intro w hSw
              clear hSw
              go_simp
              (try with_reducible rfl)
            (try simp only [Act.put, List.setIfInBounds_toArray, List.set_cons_zero, List.set_cons_succ])
            refine wpAnyH_ready (rs := [16]) (by kernel_rfl) (by simp) ?_
            refine AllReadyH.cons (o := _) (by rw [List.getElem?_toArray]; exact rfl) (fun K hK => ?_) AllReadyH.nil
            rw [if_pos (by kernel_rfl)]
            go_simp
            obtain ⟨gz3, hgz3⟩ : ∃ g, z2.heap.size = g := ⟨_, rfl⟩
            have Gz3 : Hid (z2.heap.size = gz3) := hgz3
            obtain ⟨z3, hz3⟩ : ∃ W, z2.alloc (.cells #[.string nm, .int .i64 kd, .bool bf] 75) = W := ⟨_, rfl⟩
            have Wz3 : Hid (z2.alloc (.cells #[.string nm, .int .i64 kd, .bool bf] 75) = z3) := hz3
            have Bz3 : Hid (Below z2.heap.size z2 z3) := by rw [← hz3]; exact (Below.refl _ _).alloc (Nat.le_refl _) _
            have Iz3 : Hid (ScIn w W2 b q p a n c L [] [] v1 (.slice none 0 0) (.slice none 0 0) T1 (fun _ => False) (fun _ => False) z3) := Iz2.out.below Bz3.out
            have Xz3 : Hid (Box z3 gz3 #[.string nm, .int .i64 kd, .bool bf] 75) := by rw [← hz3, ← hgz3]; exact box_of z2 _ _
            have rqz3 : z3.cell? ⟨q, 0, none⟩ = some v1 := Iz3.out.box.cell 0
            have N0z3 : Hid (z3.cell? ((⟨gz3, 0, none⟩ : Addr).add 0) = some (.string nm)) := by rw [add_plain]; exact Xz3.out.cell 0
            have N1z3 : Hid (z3.cell? ((⟨gz3, 0, none⟩ : Addr).add 1) = some (.int .i64 kd)) := by rw [add_plain]; exact Xz3.out.cell 1
            have N2z3 : Hid (z3.cell? ((⟨gz3, 0, none⟩ : Addr).add 2) = some (.bool bf)) := by rw [add_plain]; exact Xz3.out.cell 2
            clear hgz3 hz3
            rw [Wz3.out, Gz3.out]
            refine hK.out _ _ (NMJ.out _ _ _ _ _ _ _ _ _ _ Iz3.out) (fun hHeld => ?_)
            clear hK K
            (try simp only [Act.put, List.setIfInBounds_toArray, List.set_cons_zero, List.set_cons_succ])
            refine wpAnyH_ready (rs := [17]) (by kernel_rfl) (by simp) ?_
            refine AllReadyH.cons (o := _) (by rw [List.getElem?_toArray]; exact rfl) (fun K hK => ?_) AllReadyH.nil
            refine step_appCo z3 rfl _ _ rfl b v1 L.length (clsE L) T1 rfl Iz3.out.o1 ⟨gz3, 0, none⟩ 1 rfl (nm, kd, bf) N0z3.out N1z3.out N2z3.out (by have := HLJ.out; omega) Iz3.out.hs ?_
            intro vv z4 T' hown hT hgrow
            obtain ⟨va, vc, rfl, -⟩ := hown.slice
            have XQ : Hid (Box z4 q #[v1, (.slice none 0 0), (.slice none 0 0)] 28) := Iz3.out.boxG hgrow (own_inT Iz3.out.o1) Iz3.out.n1
            have I5 : Hid (ScIn w W2 b q p a n c (L ++ [(nm, kd, bf)]) [] [] (.slice va (L.length + 1) vc) (.slice none 0 0) (.slice none 0 0) T' (fun _ => False) (fun _ => False) (z4.setCell ⟨q, 0, none⟩ (.slice va (L.length + 1) vc))) := Iz3.out.put1 hgrow (own_inT Iz3.out.o1) (by rw [List.length_append, clsE_app]; exact hown) (fun x hx => (hT x hx).elim .inl (fun h => h.elim False.elim (fun h => .inr (Iz3.out.fresh (Nat.le_of_eq h.symm)))))
            have N4 : Hid (z4.cell? ⟨nb, j, none⟩ = some (.string nm)) := (hgrow.block nb (by have := Iz3.out.hs; have := HNB.out; omega) (fun e => by have := (Iz3.out.o1.lt nb (own_inT Iz3.out.o1 nb e.symm)).1; have := HNB.out; omega)) |> fun h => by have h2 := NMJ.out _ _ _ _ _ _ _ _ _ _ Iz3.out; unfold World.cell? at h2 ⊢; rw [h]; exact h2
            have q4 := XQ.out.cell 0
            have f4 := XQ.out.frozen 0
            clear hown hT hgrow
            refine hK.out _ _ N4.out (fun hHeld => ?_)
            clear hK K
            (try simp only [Act.put, List.setIfInBounds_toArray, List.set_cons_zero, List.set_cons_succ])
            refine wpAnyH_take (i := 18) (oi := _) (v := .pointer (some ⟨q, 0, none⟩)) (by rw [List.getElem?_toArray]; exact rfl) (by kernel_rfl) (by kernel_rfl) (by kernel_rfl) (by intro _ _ _ h; exact h) (Or.inl ⟨by kernel_rfl, ?y42_18⟩) hHeld ?_
            case y42_18 =>
              intro w hSw
              clear hSw
              go_simp
              (try with_reducible rfl)
            (try simp only [Act.put, List.setIfInBounds_toArray, List.set_cons_zero, List.set_cons_succ])
            refine wpAnyH_ready (rs := [19]) (by kernel_rfl) (by simp) ?_
            refine AllReadyH.cons (o := _) (by rw [List.getElem?_toArray]; exact rfl) (fun K hK => ?_) AllReadyH.nil
            rw [if_pos (by kernel_rfl)]
            go_simp
            refine hK.out _ _ (NMJ.out _ _ _ _ _ _ _ _ _ _ I5.out) (fun hHeld => ?_)
            clear hK K
            (try simp only [Act.put, List.setIfInBounds_toArray, List.set_cons_zero, List.set_cons_succ])
            refine wpAnyH_done (by kernel_rfl) ?_ _
            (try simp only [Exit.then])
            go_wp2
            exact ⟨⟨j + 1, L ++ [(nm, kd, bf)], _, T', by omega, by go_num, by rw [List.length_append]; show L.length + 1 = j + 1; have := HLJ.out; omega, (fun x hx => (List.mem_append.1 hx).elim (HSM.out x) (fun h1 => by rw [List.mem_singleton.1 h1]; exact HNS.out)), I5.out⟩, by simp [RowKit.intOf]; omega⟩
          · rw [if_pos (by kernel_rfl)]
            go_simp
            refine (l1Once_anyB p a n c 2 (by omega) (by omega) z1 Iz1.out.cur).mono ?_
            rintro e z2 ⟨⟨bf, rfl⟩, hC1, hO1⟩
            have Iz2 : Hid (ScIn w W2 b q p a n c L [] [] v1 (.slice none 0 0) (.slice none 0 0) T1 (fun _ => False) (fun _ => False) z2) := Iz1.out.only hO1 hC1
            have rqz2 : z2.cell? ⟨q, 0, none⟩ = some v1 := Iz2.out.box.cell 0
            clear hC1 hO1
            refine hK.out _ _ (NMJ.out _ _ _ _ _ _ _ _ _ _ Iz2.out) (fun hHeld => ?_)
            clear hK K
            (try simp only [Act.put, List.setIfInBounds_toArray, List.set_cons_zero, List.set_cons_succ])
            refine wpAnyH_take (i := 14) (oi := _) (v := .bool bf) (by rw [List.getElem?_toArray]; exact rfl) (by kernel_rfl) (by kernel_rfl) (by kernel_rfl) (by intro _ _ _ h; exact h) (Or.inl ⟨by kernel_rfl, ?y31_14⟩) hHeld ?_
            case y31_14 =>
              intro w hSw
              clear hSw
              go_simp
              (try with_reducible rfl)
            (try simp only [Act.put, List.setIfInBounds_toArray, List.set_cons_zero, List.set_cons_succ])
            refine wpAnyH_take (i := 15) (oi := _) (v := .agg #[.string nm, .int .i64 kd, .bool bf]) (by rw [List.getElem?_toArray]; exact rfl) (by kernel_rfl) (by kernel_rfl) (by kernel_rfl) (by intro _ _ _ h; exact h) (Or.inl ⟨by kernel_rfl, ?y32_15⟩) hHeld ?_
            case y32_15 =>
              intro w hSw
              clear hSw
              go_simp
              (try with_reducible rfl)
            (try simp only [Act.put, List.setIfInBounds_toArray, List.set_cons_zero, List.set_cons_succ])
            refine wpAnyH_ready (rs := [1, 16]) (by kernel_rfl) (by simp) ?_
            refine AllReadyH.cons (o := _) (by rw [List.getElem?_toArray]; exact rfl) (fun K hK => ?_) (AllReadyH.cons (o := _) (by rw [List.getElem?_toArray]; exact rfl) (fun K hK => ?_) AllReadyH.nil)
            · rw [if_pos (by kernel_rfl)]
              go_simp
              refine hK.out _ _ (NMJ.out _ _ _ _ _ _ _ _ _ _ Iz2.out) (fun hHeld => ?_)
              clear hK K
              (try simp only [Act.put, List.setIfInBounds_toArray, List.set_cons_zero, List.set_cons_succ])
              refine wpAnyH_ready (rs := [16]) (by kernel_rfl) (by simp) ?_
              refine AllReadyH.cons (o := _) (by rw [List.getElem?_toArray]; exact rfl) (fun K hK => ?_) AllReadyH.nil
              rw [if_pos (by kernel_rfl)]
              go_simp
              obtain ⟨gz3, hgz3⟩ : ∃ g, z2.heap.size = g := ⟨_, rfl⟩
              have Gz3 : Hid (z2.heap.size = gz3) := hgz3
              obtain ⟨z3, hz3⟩ : ∃ W, z2.alloc (.cells #[.string nm, .int .i64 kd, .bool bf] 75) = W := ⟨_, rfl⟩
              have Wz3 : Hid (z2.alloc (.cells #[.string nm, .int .i64 kd, .bool bf] 75) = z3) := hz3
              have Bz3 : Hid (Below z2.heap.size z2 z3) := by rw [← hz3]; exact (Below.refl _ _).alloc (Nat.le_refl _) _
              have Iz3 : Hid (ScIn w W2 b q p a n c L [] [] v1 (.slice none 0 0) (.slice none 0 0) T1 (fun _ => False) (fun _ => False) z3) := Iz2.out.below Bz3.out
              have Xz3 : Hid (Box z3 gz3 #[.string nm, .int .i64 kd, .bool bf] 75) := by rw [← hz3, ← hgz3]; exact box_of z2 _ _
              have rqz3 : z3.cell? ⟨q, 0, none⟩ = some v1 := Iz3.out.box.cell 0
              have N0z3 : Hid (z3.cell? ((⟨gz3, 0, none⟩ : Addr).add 0) = some (.string nm)) := by rw [add_plain]; exact Xz3.out.cell 0
              have N1z3 : Hid (z3.cell? ((⟨gz3, 0, none⟩ : Addr).add 1) = some (.int .i64 kd)) := by rw [add_plain]; exact Xz3.out.cell 1
              have N2z3 : Hid (z3.cell? ((⟨gz3, 0, none⟩ : Addr).add 2) = some (.bool bf)) := by rw [add_plain]; exact Xz3.out.cell 2
              clear hgz3 hz3
              rw [Wz3.out, Gz3.out]
              refine hK.out _ _ (NMJ.out _ _ _ _ _ _ _ _ _ _ Iz3.out) (fun hHeld => ?_)
              clear hK K
              (try simp only [Act.put, List.setIfInBounds_toArray, List.set_cons_zero, List.set_cons_succ])
              refine wpAnyH_ready (rs := [17]) (by kernel_rfl) (by simp) ?_
              refine AllReadyH.cons (o := _) (by rw [List.getElem?_toArray]; exact rfl) (fun K hK => ?_) AllReadyH.nil
              refine step_appCo z3 rfl _ _ rfl b v1 L.length (clsE L) T1 rfl Iz3.out.o1 ⟨gz3, 0, none⟩ 1 rfl (nm, kd, bf) N0z3.out N1z3.out N2z3.out (by have := HLJ.out; omega) Iz3.out.hs ?_
              intro vv z4 T' hown hT hgrow
              obtain ⟨va, vc, rfl, -⟩ := hown.slice
              have XQ : Hid (Box z4 q #[v1, (.slice none 0 0), (.slice none 0 0)] 28) := Iz3.out.boxG hgrow (own_inT Iz3.out.o1) Iz3.out.n1
              have I5 : Hid (ScIn w W2 b q p a n c (L ++ [(nm, kd, bf)]) [] [] (.slice va (L.length + 1) vc) (.slice none 0 0) (.slice none 0 0) T' (fun _ => False) (fun _ => False) (z4.setCell ⟨q, 0, none⟩ (.slice va (L.length + 1) vc))) := Iz3.out.put1 hgrow (own_inT Iz3.out.o1) (by rw [List.length_append, clsE_app]; exact hown) (fun x hx => (hT x hx).elim .inl (fun h => h.elim False.elim (fun h => .inr (Iz3.out.fresh (Nat.le_of_eq h.symm)))))
              have N4 : Hid (z4.cell? ⟨nb, j, none⟩ = some (.string nm)) := (hgrow.block nb (by have := Iz3.out.hs; have := HNB.out; omega) (fun e => by have := (Iz3.out.o1.lt nb (own_inT Iz3.out.o1 nb e.symm)).1; have := HNB.out; omega)) |> fun h => by have h2 := NMJ.out _ _ _ _ _ _ _ _ _ _ Iz3.out; unfold World.cell? at h2 ⊢; rw [h]; exact h2
              have q4 := XQ.out.cell 0
              have f4 := XQ.out.frozen 0
              clear hown hT hgrow
              refine hK.out _ _ N4.out (fun hHeld => ?_)
              clear hK K
              (try simp only [Act.put, List.setIfInBounds_toArray, List.set_cons_zero, List.set_cons_succ])
              refine wpAnyH_take (i := 18) (oi := _) (v := .pointer (some ⟨q, 0, none⟩)) (by rw [List.getElem?_toArray]; exact rfl) (by kernel_rfl) (by kernel_rfl) (by kernel_rfl) (by intro _ _ _ h; exact h) (Or.inl ⟨by kernel_rfl, ?y43_18⟩) hHeld ?_
              case y43_18 =>
                intro w hSw
                clear hSw
                go_simp
                (try with_reducible rfl)
              (try simp only [Act.put, List.setIfInBounds_toArray, List.set_cons_zero, List.set_cons_succ])
              refine wpAnyH_ready (rs := [19]) (by kernel_rfl) (by simp) ?_
              refine AllReadyH.cons (o := _) (by rw [List.getElem?_toArray]; exact rfl) (fun K hK => ?_) AllReadyH.nil
              rw [if_pos (by kernel_rfl)]
              go_simp
              refine hK.out _ _ (NMJ.out _ _ _ _ _ _ _ _ _ _ I5.out) (fun hHeld => ?_)
              clear hK K
              (try simp only [Act.put, List.setIfInBounds_toArray, List.set_cons_zero, List.set_cons_succ])
              refine wpAnyH_done (by kernel_rfl) ?_ _
              (try simp only [Exit.then])
              go_wp2
              exact ⟨⟨j + 1, L ++ [(nm, kd, bf)], _, T', by omega, by go_num, by rw [List.length_append]; show L.length + 1 = j + 1; have := HLJ.out; omega, (fun x hx => (List.mem_append.1 hx).elim (HSM.out x) (fun h1 => by rw [List.mem_singleton.1 h1]; exact HNS.out)), I5.out⟩, by simp [RowKit.intOf]; omega⟩
            · rw [if_pos (by kernel_rfl)]
              go_simp
              obtain ⟨gz3, hgz3⟩ : ∃ g, z2.heap.size = g := ⟨_, rfl⟩
              have Gz3 : Hid (z2.heap.size = gz3) := hgz3
              obtain ⟨z3, hz3⟩ : ∃ W, z2.alloc (.cells #[.string nm, .int .i64 kd, .bool bf] 75) = W := ⟨_, rfl⟩
              have Wz3 : Hid (z2.alloc (.cells #[.string nm, .int .i64 kd, .bool bf] 75) = z3) := hz3
              have Bz3 : Hid (Below z2.heap.size z2 z3) := by rw [← hz3]; exact (Below.refl _ _).alloc (Nat.le_refl _) _
              have Iz3 : Hid (ScIn w W2 b q p a n c L [] [] v1 (.slice none 0 0) (.slice none 0 0) T1 (fun _ => False) (fun _ => False) z3) := Iz2.out.below Bz3.out
              have Xz3 : Hid (Box z3 gz3 #[.string nm, .int .i64 kd, .bool bf] 75) := by rw [← hz3, ← hgz3]; exact box_of z2 _ _
              have rqz3 : z3.cell? ⟨q, 0, none⟩ = some v1 := Iz3.out.box.cell 0
              have N0z3 : Hid (z3.cell? ((⟨gz3, 0, none⟩ : Addr).add 0) = some (.string nm)) := by rw [add_plain]; exact Xz3.out.cell 0
              have N1z3 : Hid (z3.cell? ((⟨gz3, 0, none⟩ : Addr).add 1) = some (.int .i64 kd)) := by rw [add_plain]; exact Xz3.out.cell 1
              have N2z3 : Hid (z3.cell? ((⟨gz3, 0, none⟩ : Addr).add 2) = some (.bool bf)) := by rw [add_plain]; exact Xz3.out.cell 2
              clear hgz3 hz3
              rw [Wz3.out, Gz3.out]
              refine hK.out _ _ (NMJ.out _ _ _ _ _ _ _ _ _ _ Iz3.out) (fun hHeld => ?_)
              clear hK K
              (try simp only [Act.put, List.setIfInBounds_toArray, List.set_cons_zero, List.set_cons_succ])
              refine wpAnyH_ready (rs := [1]) (by kernel_rfl) (by simp) ?_
              refine AllReadyH.cons (o := _) (by rw [List.getElem?_toArray]; exact rfl) (fun K hK => ?_) AllReadyH.nil
              rw [if_pos (by kernel_rfl)]
              go_simp
              refine hK.out _ _ (NMJ.out _ _ _ _ _ _ _ _ _ _ Iz3.out) (fun hHeld => ?_)
              clear hK K
              (try simp only [Act.put, List.setIfInBounds_toArray, List.set_cons_zero, List.set_cons_succ])
              refine wpAnyH_ready (rs := [17]) (by kernel_rfl) (by simp) ?_
              refine AllReadyH.cons (o := _) (by rw [List.getElem?_toArray]; exact rfl) (fun K hK => ?_) AllReadyH.nil
              refine step_appCo z3 rfl _ _ rfl b v1 L.length (clsE L) T1 rfl Iz3.out.o1 ⟨gz3, 0, none⟩ 1 rfl (nm, kd, bf) N0z3.out N1z3.out N2z3.out (by have := HLJ.out; omega) Iz3.out.hs ?_
              intro vv z4 T' hown hT hgrow
              obtain ⟨va, vc, rfl, -⟩ := hown.slice
              have XQ : Hid (Box z4 q #[v1, (.slice none 0 0), (.slice none 0 0)] 28) := Iz3.out.boxG hgrow (own_inT Iz3.out.o1) Iz3.out.n1
              have I5 : Hid (ScIn w W2 b q p a n c (L ++ [(nm, kd, bf)]) [] [] (.slice va (L.length + 1) vc) (.slice none 0 0) (.slice none 0 0) T' (fun _ => False) (fun _ => False) (z4.setCell ⟨q, 0, none⟩ (.slice va (L.length + 1) vc))) := Iz3.out.put1 hgrow (own_inT Iz3.out.o1) (by rw [List.length_append, clsE_app]; exact hown) (fun x hx => (hT x hx).elim .inl (fun h => h.elim False.elim (fun h => .inr (Iz3.out.fresh (Nat.le_of_eq h.symm)))))
              have N4 : Hid (z4.cell? ⟨nb, j, none⟩ = some (.string nm)) := (hgrow.block nb (by have := Iz3.out.hs; have := HNB.out; omega) (fun e => by have := (Iz3.out.o1.lt nb (own_inT Iz3.out.o1 nb e.symm)).1; have := HNB.out; omega)) |> fun h => by have h2 := NMJ.out _ _ _ _ _ _ _ _ _ _ Iz3.out; unfold World.cell? at h2 ⊢; rw [h]; exact h2
              have q4 := XQ.out.cell 0
              have f4 := XQ.out.frozen 0
              clear hown hT hgrow
              refine hK.out _ _ N4.out (fun hHeld => ?_)
              clear hK K
              (try simp only [Act.put, List.setIfInBounds_toArray, List.set_cons_zero, List.set_cons_succ])
              refine wpAnyH_take (i := 18) (oi := _) (v := .pointer (some ⟨q, 0, none⟩)) (by rw [List.getElem?_toArray]; exact rfl) (by kernel_rfl) (by kernel_rfl) (by kernel_rfl) (by intro _ _ _ h; exact h) (Or.inl ⟨by kernel_rfl, ?y44_18⟩) hHeld ?_
              case y44_18 =>
                intro w hSw
                clear hSw
                go_simp
                (try with_reducible rfl)
              (try simp only [Act.put, List.setIfInBounds_toArray, List.set_cons_zero, List.set_cons_succ])
              refine wpAnyH_ready (rs := [19]) (by kernel_rfl) (by simp) ?_
              refine AllReadyH.cons (o := _) (by rw [List.getElem?_toArray]; exact rfl) (fun K hK => ?_) AllReadyH.nil
              rw [if_pos (by kernel_rfl)]
              go_simp
              refine hK.out _ _ (NMJ.out _ _ _ _ _ _ _ _ _ _ I5.out) (fun hHeld => ?_)
              clear hK K
              (try simp only [Act.put, List.setIfInBounds_toArray, List.set_cons_zero, List.set_cons_succ])
              refine wpAnyH_done (by kernel_rfl) ?_ _
              (try simp only [Exit.then])
              go_wp2
              exact ⟨⟨j + 1, L ++ [(nm, kd, bf)], _, T', by omega, by go_num, by rw [List.length_append]; show L.length + 1 = j + 1; have := HLJ.out; omega, (fun x hx => (List.mem_append.1 hx).elim (HSM.out x) (fun h1 => by rw [List.mem_singleton.1 h1]; exact HNS.out)), I5.out⟩, by simp [RowKit.intOf]; omega⟩
    · obtain rfl : j = N := by omega
      obtain ⟨gk, hgk⟩ : ∃ gk, wr.heap.size = gk := ⟨_, rfl⟩
      have HGK : Hid (wr.heap.size = gk) := hgk
      obtain ⟨Wk, hWk⟩ : ∃ W, wr.alloc (.cells #[.int .i64 0] 3) = W := ⟨_, rfl⟩
      have HWK : Hid (wr.alloc (.cells #[.int .i64 0] 3) = Wk) := hWk
      have BK : Below wr.heap.size wr Wk := by rw [← hWk]; exact (Below.refl _ _).alloc (Nat.le_refl _) _
      have OK : IOwn Wk b (.slice (some ⟨gk, 0, none⟩) 1 1) [0] := by rw [← hWk]; exact one_int wr hgk (by rw [← hgk]; exact IR.out.hs) 0
      have IK := IR.out.below BK
      have b1 : (wr.alloc (.cells #[.int .i64 0] 3)).cell? ⟨q, 1, none⟩ = some (.slice none 0 0) := by rw [hWk]; exact IK.box.cell 1
      have f1 : (wr.alloc (.cells #[.int .i64 0] 3)).frozen? ⟨q, 1, none⟩ = false := by rw [hWk]; exact IK.box.frozen 1
      have I8 : Hid (ScIn w W2 b q p a n c L [0] [] v1 (.slice (some ⟨gk, 0, none⟩) 1 1) (.slice none 0 0) T1 (fun x => (Value.slice (some ⟨gk, 0, none⟩) 1 1).ownBlock = some x) (fun _ => False) (Wk.setCell ⟨q, 1, none⟩ (.slice (some ⟨gk, 0, none⟩) 1 1))) := IR.out.put2 (far_below BK none) (fun x e => by cases e) (own_intsE OK (by decide)) (fun x hx => .inr (IR.out.fresh (by have e : gk = x := Option.some.inj hx; omega)))
      obtain ⟨T2, hT2⟩ : ∃ T : Nat → Prop, (fun x => (Value.slice (some ⟨gk, 0, none⟩) 1 1).ownBlock = some x) = T := ⟨_, rfl⟩
      rw [hT2] at I8
      clear hgk hWk BK OK IK hT2 hj hlt
      go_upto_region 9 with (fail)
      rw [HWK.out, HGK.out]
      obtain ⟨W8, hW8⟩ : ∃ W, Wk.setCell ⟨q, 1, none⟩ (.slice (some ⟨gk, 0, none⟩) 1 1) = W := ⟨_, rfl⟩
      rw [hW8] at I8 ⊢
      clear hW8 b1 f1
      go_wp2
      go_loopw [7] (fun i wr => ∃ (j : Nat) (X : List Idx3) (v3 : Value) (T3 : Nat → Prop), j ≤ 2 ∧ i = .int .i64 (j : Int) ∧ X.length = j ∧ (∀ x ∈ X, x.1.size ≤ 13 ∧ x.2.1.length ≤ 2) ∧ ScIn w W2 b q p a n c L [0] X v1 (.slice (some ⟨gk, 0, none⟩) 1 1) v3 T1 T2 T3 wr) (fun i _ => 2 - (RowKit.intOf i).toNat)
      case atStart => exact ⟨0, [], _, _, Nat.zero_le _, rfl, rfl, (fun x hx => by cases hx), I8.out⟩
      case round =>
        obtain ⟨k, X, v3, T3, hk, rfl, hlk, hsx, hI⟩ := hrel
        have IX : Hid (ScIn w W2 b q p a n c L [0] X v1 (.slice (some ⟨gk, 0, none⟩) 1 1) v3 T1 T2 T3 wr) := hI
        have HSX : Hid (∀ x ∈ X, x.1.size ≤ 13 ∧ x.2.1.length ≤ 2) := hsx
        have HLK : Hid (X.length = k) := hlk
        clear hI hsx hlk
        go_wp2_with fail
        refine (l1Below_any p a n c 3 (by omega) (by omega) wr IX.out.cur).mono ?_
        rintro e w4 ⟨y, hy, rfl, hC1, hO1⟩
        have I4 : Hid (ScIn w W2 b q p a n c L [0] X v1 (.slice (some ⟨gk, 0, none⟩) 1 1) v3 T1 T2 T3 w4) := IX.out.only hO1 hC1
        clear hC1 hO1
        by_cases hlt : k < y
        · have hki : (k : Int) < (y : Int) := by omega
          have hk3 : (k : Int) < 3 := by omega
          have hk0 : (0 : Int) ≤ (k : Int) := by omega
          have HK1 : Hid (k ≤ 1) := by show _ ≤ _; omega
          have hn := HN.out
          clear hlt hy
          go_wp2_with fail
          refine (l1Below_any p a n c _ (by omega) (by omega) w4 I4.out.cur).mono ?_
          rintro e w5 ⟨y2, hy2, rfl, hC1, hO1⟩
          have I5 : Hid (ScIn w W2 b q p a n c L [0] X v1 (.slice (some ⟨gk, 0, none⟩) 1 1) v3 T1 T2 T3 w5) := I4.out.only hO1 hC1
          have hy20 : (0 : Int) ≤ (y2 : Int) := by omega
          clear hC1 hO1
          obtain ⟨av, hav⟩ : ∃ av, 1 + (y2 : Int) = av := ⟨_, rfl⟩
          have HAV : Hid (1 + (y2 : Int) = av) := hav
          have HAV2 : Hid (0 ≤ av ∧ av ≤ 4) := by show _ ∧ _; omega
          obtain ⟨nm3, hnm3, hns3⟩ : ∃ nm : ByteArray, (#[.string (⟨#[120]⟩ : ByteArray), .string (⟨#[121]⟩ : ByteArray), .string (⟨#[122]⟩ : ByteArray)] : Array Value)[k]? = some (.string nm) ∧ nm.size ≤ 13 := by
            have hk1 := HK1.out
            rcases (show k = 0 ∨ k = 1 by omega) with rfl | rfl <;> exact ⟨_, rfl, by decide⟩
          have HNM3 : Hid ((#[.string (⟨#[120]⟩ : ByteArray), .string (⟨#[121]⟩ : ByteArray), .string (⟨#[122]⟩ : ByteArray)] : Array Value)[k]? = some (.string nm3)) := hnm3
          have HN13 : Hid (nm3.size ≤ 13) := hns3
          clear hnm3 hns3 hav
          go_upto_region 13 with (fail)
          rw [HAV.out]
          clear hy20 hy2
          refine wp_cut19 (R := CutIx (fun a => a = ⟨#[.pointer (some ⟨p, 0, none⟩), undef, .pointer (some ⟨g, 0, none⟩), .pointer (some ⟨q, 0, none⟩), .slice (some ⟨nb, 0, none⟩) 4 4, .int .i64 (j : Int), .int .i64 (j : Int), .int .i64 (k : Int), .int .i64 av, a.tmps.getD 9 undef, .agg #[.slice none 0 0, .slice none 0 0, .slice none 0 0], .slice (some ⟨nb, 0, none⟩) 4 4, .pointer (some ⟨p, 0, none⟩), .int .i64 (x : Int), .int .i64 (j : Int), .int .i64 (j : Int), .int .i64 (j : Int), .bool false, u18, u19, u20, u21, u22, u23, u24, u25, u26, u27, u28, u29, u30, u31, u32, u33, u34, u35, u36, u37, u38, (.slice (some ⟨gk, 0, none⟩) 1 1), .pointer (some ⟨q, 1, none⟩), a.tmps.getD 41 undef, a.tmps.getD 42 undef, a.tmps.getD 43 undef, a.tmps.getD 44 undef, a.tmps.getD 45 undef, a.tmps.getD 46 undef, a.tmps.getD 47 undef, a.tmps.getD 48 undef, a.tmps.getD 49 undef, a.tmps.getD 50 undef, a.tmps.getD 51 undef, a.tmps.getD 52 undef, a.tmps.getD 53 undef, a.tmps.getD 54 undef, a.tmps.getD 55 undef, a.tmps.getD 56 undef, a.tmps.getD 57 undef, a.tmps.getD 58 undef, a.tmps.getD 59 undef, a.tmps.getD 60 undef, a.tmps.getD 61 undef, a.tmps.getD 62 undef, a.tmps.getD 63 undef, a.tmps.getD 64 undef, a.tmps.getD 65 undef, a.tmps.getD 66 undef, a.tmps.getD 67 undef, a.tmps.getD 68 undef, a.tmps.getD 69 undef, a.tmps.getD 70 undef, a.tmps.getD 71 undef, a.tmps.getD 72 undef, a.tmps.getD 73 undef, a.tmps.getD 74 undef, a.tmps.getD 75 undef, a.tmps.getD 76 undef, a.tmps.getD 77 undef, undef, undef, undef, undef, undef, undef, undef, undef], []⟩) (fun z => ScIn w W2 b q p a n c L [0] X v1 (.slice (some ⟨gk, 0, none⟩) 1 1) v3 T1 T2 T3 z) b q T1 T2 T3 av) ?_ ?_
          · obtain ⟨z0, hz0⟩ : ∃ z, w5.drew = z := ⟨_, rfl⟩
            have Iz0 : Hid (ScIn w W2 b q p a n c L [0] X v1 (.slice (some ⟨gk, 0, none⟩) 1 1) v3 T1 T2 T3 z0) := by rw [← hz0]; exact I5.out.drew
            have HZ0 : Hid (w5.drew = z0) := hz0
            refine wp_region_held_drew (S := fun _ => True) (by kernel_rfl) trivial (fun hHeld => ?_)
            rw [HZ0.out]
            refine wpAnyH_take (i := 1) (oi := _) (v := .int .i64 (k : Int)) (by rw [List.getElem?_toArray]; exact rfl) (by kernel_rfl) (by kernel_rfl) (by kernel_rfl) (by intro _ _ _ h; exact h) (Or.inl ⟨by kernel_rfl, ?y52_1⟩) hHeld ?_
            case y52_1 =>
              intro w hSw
              clear hSw
              go_simp
              (try with_reducible rfl)
            (try simp only [Act.put, List.setIfInBounds_toArray, List.set_cons_zero, List.set_cons_succ])
            refine wpAnyH_take (i := 4) (oi := _) (v := .int .i64 av) (by rw [List.getElem?_toArray]; exact rfl) (by kernel_rfl) (by kernel_rfl) (by kernel_rfl) (by intro _ _ _ h; exact h) (Or.inl ⟨by kernel_rfl, ?y53_4⟩) hHeld ?_
            case y53_4 =>
              intro w hSw
              clear hSw
              go_simp
              (try with_reducible rfl)
            (try simp only [Act.put, List.setIfInBounds_toArray, List.set_cons_zero, List.set_cons_succ])
            refine wpAnyH_take (i := 6) (oi := _) (v := .pointer (some ⟨p, 0, none⟩)) (by rw [List.getElem?_toArray]; exact rfl) (by kernel_rfl) (by kernel_rfl) (by kernel_rfl) (by intro _ _ _ h; exact h) (Or.inl ⟨by kernel_rfl, ?y54_6⟩) hHeld ?_
            case y54_6 =>
              intro w hSw
              clear hSw
              go_simp
              (try with_reducible rfl)
            (try simp only [Act.put, List.setIfInBounds_toArray, List.set_cons_zero, List.set_cons_succ])
            refine wpAnyH_ready (rs := [0, 5, 7, 9]) (by kernel_rfl) (by simp) ?_
            refine AllReadyH.cons (o := _) (by rw [List.getElem?_toArray]; exact rfl) (fun K hK => ?_) (AllReadyH.cons (o := _) (by rw [List.getElem?_toArray]; exact rfl) (fun K hK => ?_) (AllReadyH.cons (o := _) (by rw [List.getElem?_toArray]; exact rfl) (fun K hK => ?_) (AllReadyH.cons (o := _) (by rw [List.getElem?_toArray]; exact rfl) (fun K hK => ?_) AllReadyH.nil)))
            · rw [if_pos (by kernel_rfl)]
              go_simp
              obtain ⟨gz0a, z0a, Gz0a, Wz0a, Bz0a, Iz0a, Y0z0a, A0⟩ := Iz0.out.laid #[.string (⟨#[120]⟩ : ByteArray), .string (⟨#[121]⟩ : ByteArray), .string (⟨#[122]⟩ : ByteArray)] 9
              rw [Wz0a.out, Gz0a.out]
              refine hK.out _ _ trivial (fun hHeld => ?_)
              clear hK K
              (try simp only [Act.put, List.setIfInBounds_toArray, List.set_cons_zero, List.set_cons_succ])
              refine wpAnyH_take (i := 2) (oi := _) (v := .pointer (some ⟨gz0a, k, none⟩)) (by rw [List.getElem?_toArray]; exact rfl) (by kernel_rfl) (by kernel_rfl) (by kernel_rfl) (by intro _ _ _ h; exact h) (Or.inl ⟨by kernel_rfl, ?y55_2⟩) hHeld ?_
              case y55_2 =>
                intro w hSw
                clear hSw
                go_simp
                (try with_reducible rfl)
              (try simp only [Act.put, List.setIfInBounds_toArray, List.set_cons_zero, List.set_cons_succ])
              refine wpAnyH_strong (S' := fun z => z.cell? ⟨gz0a, k, none⟩ = some (.string nm3)) (fun _ _ => trivial) _ _ _ _ ?_
              have hHeld : z0a.cell? ⟨gz0a, k, none⟩ = some (.string nm3) := (Y0z0a.out.cell k).trans HNM3.out
              refine wpAnyH_take (i := 3) (oi := _) (v := .string nm3) (by rw [List.getElem?_toArray]; exact rfl) (by kernel_rfl) (by kernel_rfl) (by kernel_rfl) (by intro _ _ _ h; exact h) (Or.inl ⟨by kernel_rfl, ?y55_3⟩) hHeld ?_
              case y55_3 =>
                intro w hSw
                obtain hnm3 := hSw
                go_simp
                (try with_reducible rfl)
              (try simp only [Act.put, List.setIfInBounds_toArray, List.set_cons_zero, List.set_cons_succ])
              refine wpAnyH_ready (rs := [5, 7, 9]) (by kernel_rfl) (by simp) ?_
              refine AllReadyH.cons (o := _) (by rw [List.getElem?_toArray]; exact rfl) (fun K hK => ?_) (AllReadyH.cons (o := _) (by rw [List.getElem?_toArray]; exact rfl) (fun K hK => ?_) (AllReadyH.cons (o := _) (by rw [List.getElem?_toArray]; exact rfl) (fun K hK => ?_) AllReadyH.nil))
              · rw [if_pos (by kernel_rfl)]
                go_simp
                obtain ⟨gz0ab, z0ab, Gz0ab, Wz0ab, Bz0ab, Iz0ab, Y5z0ab, A5⟩ := Iz0a.out.laid #[.int .i64 av] 3
                have Y0z0ab := boxB Y0z0a Bz0ab
                rw [Wz0ab.out, Gz0ab.out]
                refine hK.out _ _ ((Y0z0ab.out.cell k).trans HNM3.out) (fun hHeld => ?_)
                clear hK K
                (try simp only [Act.put, List.setIfInBounds_toArray, List.set_cons_zero, List.set_cons_succ])
                refine wpAnyH_ready (rs := [7, 9]) (by kernel_rfl) (by simp) ?_
                refine AllReadyH.cons (o := _) (by rw [List.getElem?_toArray]; exact rfl) (fun K hK => ?_) (AllReadyH.cons (o := _) (by rw [List.getElem?_toArray]; exact rfl) (fun K hK => ?_) AllReadyH.nil)
                · rw [if_pos (by kernel_rfl)]
                  go_simp
                  refine (l1Once_anyB p a n c 2 (by omega) (by omega) z0ab Iz0ab.out.cur).mono ?_
                  rintro e z0abc ⟨⟨bv, rfl⟩, hC1, hO1⟩
                  have Iz0abc : Hid (ScIn w W2 b q p a n c L [0] X v1 (.slice (some ⟨gk, 0, none⟩) 1 1) v3 T1 T2 T3 z0abc) := Iz0ab.out.only hO1 hC1
                  have Y0z0abc := boxO Y0z0ab hO1 (by have := A0.out.ge; have := Iz0ab.out.hp; have := Iz0ab.out.hw; omega)
                  have Y5z0abc := boxO Y5z0ab hO1 (by have := A5.out.ge; have := Iz0ab.out.hp; have := Iz0ab.out.hw; omega)
                  clear hC1 hO1
                  refine hK.out _ _ ((Y0z0abc.out.cell k).trans HNM3.out) (fun hHeld => ?_)
                  clear hK K
                  (try simp only [Act.put, List.setIfInBounds_toArray, List.set_cons_zero, List.set_cons_succ])
                  refine wpAnyH_take (i := 8) (oi := _) (v := .agg #[.string nm3, .slice (some ⟨gz0ab, 0, none⟩) 1 1, .bool bv]) (by rw [List.getElem?_toArray]; exact rfl) (by kernel_rfl) (by kernel_rfl) (by kernel_rfl) (by intro _ _ _ h; exact h) (Or.inl ⟨by kernel_rfl, ?y56_8⟩) hHeld ?_
                  case y56_8 =>
                    intro w hSw
                    clear hSw
                    go_simp
                    (try with_reducible rfl)
                  (try simp only [Act.put, List.setIfInBounds_toArray, List.set_cons_zero, List.set_cons_succ])
                  refine wpAnyH_ready (rs := [9]) (by kernel_rfl) (by simp) ?_
                  refine AllReadyH.cons (o := _) (by rw [List.getElem?_toArray]; exact rfl) (fun K hK => ?_) AllReadyH.nil
                  rw [if_pos (by kernel_rfl)]
                  go_simp
                  obtain ⟨gz0abcd, z0abcd, Gz0abcd, Wz0abcd, Bz0abcd, Iz0abcd, Y9z0abcd, A9⟩ := Iz0abc.out.laid #[.string ⟨#[]⟩, .slice none 0 0, .bool false] 105
                  have Y0z0abcd := boxB Y0z0abc Bz0abcd
                  have Y5z0abcd := boxB Y5z0abc Bz0abcd
                  rw [Wz0abcd.out, Gz0abcd.out]
                  refine hK.out _ _ ((Y0z0abcd.out.cell k).trans HNM3.out) (fun hHeld => ?_)
                  clear hK K
                  (try simp only [Act.put, List.setIfInBounds_toArray, List.set_cons_zero, List.set_cons_succ])
                  refine wpAnyH_ready (rs := [10]) (by kernel_rfl) (by simp) ?_
                  refine AllReadyH.cons (o := _) (by rw [List.getElem?_toArray]; exact rfl) (fun K hK => ?_) AllReadyH.nil
                  have q0 := Y9z0abcd.out.cell 0
                  have q1 := Y9z0abcd.out.cell 1
                  have q2 := Y9z0abcd.out.cell 2
                  have f0 := Y9z0abcd.out.frozen 0
                  have f1 := Y9z0abcd.out.frozen 1
                  have f2 := Y9z0abcd.out.frozen 2
                  obtain ⟨Z0, ZR⟩ := Iz0abcd.out.index Y9z0abcd.out Y5z0abcd.out Y0z0abcd.out (by decide) A9.out A5.out nm3 bv
                  rw [if_pos (by kernel_rfl)]
                  go_simp
                  refine hK.out _ _ ((Z0.out.cell k).trans HNM3.out) (fun hHeld => ?_)
                  clear hK K
                  (try simp only [Act.put, List.setIfInBounds_toArray, List.set_cons_zero, List.set_cons_succ])
                  refine wpAnyH_done (by kernel_rfl) ?_ _
                  (try simp only [Exit.then])
                  exact ⟨rfl, gz0abcd, gz0ab, nm3, bv, rfl, HN13.out, ZR⟩
                · rw [if_pos (by kernel_rfl)]
                  go_simp
                  obtain ⟨gz0abd, z0abd, Gz0abd, Wz0abd, Bz0abd, Iz0abd, Y9z0abd, A9⟩ := Iz0ab.out.laid #[.string ⟨#[]⟩, .slice none 0 0, .bool false] 105
                  have Y0z0abd := boxB Y0z0ab Bz0abd
                  have Y5z0abd := boxB Y5z0ab Bz0abd
                  rw [Wz0abd.out, Gz0abd.out]
                  refine hK.out _ _ ((Y0z0abd.out.cell k).trans HNM3.out) (fun hHeld => ?_)
                  clear hK K
                  (try simp only [Act.put, List.setIfInBounds_toArray, List.set_cons_zero, List.set_cons_succ])
                  refine wpAnyH_ready (rs := [7]) (by kernel_rfl) (by simp) ?_
                  refine AllReadyH.cons (o := _) (by rw [List.getElem?_toArray]; exact rfl) (fun K hK => ?_) AllReadyH.nil
                  rw [if_pos (by kernel_rfl)]
                  go_simp
                  refine (l1Once_anyB p a n c 2 (by omega) (by omega) z0abd Iz0abd.out.cur).mono ?_
                  rintro e z0abdc ⟨⟨bv, rfl⟩, hC1, hO1⟩
                  have Iz0abdc : Hid (ScIn w W2 b q p a n c L [0] X v1 (.slice (some ⟨gk, 0, none⟩) 1 1) v3 T1 T2 T3 z0abdc) := Iz0abd.out.only hO1 hC1
                  have Y0z0abdc := boxO Y0z0abd hO1 (by have := A0.out.ge; have := Iz0abd.out.hp; have := Iz0abd.out.hw; omega)
                  have Y5z0abdc := boxO Y5z0abd hO1 (by have := A5.out.ge; have := Iz0abd.out.hp; have := Iz0abd.out.hw; omega)
                  have Y9z0abdc := boxO Y9z0abd hO1 (by have := A9.out.ge; have := Iz0abd.out.hp; have := Iz0abd.out.hw; omega)
                  clear hC1 hO1
                  refine hK.out _ _ ((Y0z0abdc.out.cell k).trans HNM3.out) (fun hHeld => ?_)
                  clear hK K
                  (try simp only [Act.put, List.setIfInBounds_toArray, List.set_cons_zero, List.set_cons_succ])
                  refine wpAnyH_take (i := 8) (oi := _) (v := .agg #[.string nm3, .slice (some ⟨gz0ab, 0, none⟩) 1 1, .bool bv]) (by rw [List.getElem?_toArray]; exact rfl) (by kernel_rfl) (by kernel_rfl) (by kernel_rfl) (by intro _ _ _ h; exact h) (Or.inl ⟨by kernel_rfl, ?y57_8⟩) hHeld ?_
                  case y57_8 =>
                    intro w hSw
                    clear hSw
                    go_simp
                    (try with_reducible rfl)
                  (try simp only [Act.put, List.setIfInBounds_toArray, List.set_cons_zero, List.set_cons_succ])
                  refine wpAnyH_ready (rs := [10]) (by kernel_rfl) (by simp) ?_
                  refine AllReadyH.cons (o := _) (by rw [List.getElem?_toArray]; exact rfl) (fun K hK => ?_) AllReadyH.nil
                  have q0 := Y9z0abdc.out.cell 0
                  have q1 := Y9z0abdc.out.cell 1
                  have q2 := Y9z0abdc.out.cell 2
                  have f0 := Y9z0abdc.out.frozen 0
                  have f1 := Y9z0abdc.out.frozen 1
                  have f2 := Y9z0abdc.out.frozen 2
                  obtain ⟨Z0, ZR⟩ := Iz0abdc.out.index Y9z0abdc.out Y5z0abdc.out Y0z0abdc.out (by decide) A9.out A5.out nm3 bv
                  rw [if_pos (by kernel_rfl)]
                  go_simp
                  refine hK.out _ _ ((Z0.out.cell k).trans HNM3.out) (fun hHeld => ?_)
                  clear hK K
                  (try simp only [Act.put, List.setIfInBounds_toArray, List.set_cons_zero, List.set_cons_succ])
                  refine wpAnyH_done (by kernel_rfl) ?_ _
                  (try simp only [Exit.then])
                  exact ⟨rfl, gz0abd, gz0ab, nm3, bv, rfl, HN13.out, ZR⟩
              · rw [if_pos (by kernel_rfl)]
                go_simp
                refine (l1Once_anyB p a n c 2 (by omega) (by omega) z0a Iz0a.out.cur).mono ?_
                rintro e z0ac ⟨⟨bv, rfl⟩, hC1, hO1⟩
                have Iz0ac : Hid (ScIn w W2 b q p a n c L [0] X v1 (.slice (some ⟨gk, 0, none⟩) 1 1) v3 T1 T2 T3 z0ac) := Iz0a.out.only hO1 hC1
                have Y0z0ac := boxO Y0z0a hO1 (by have := A0.out.ge; have := Iz0a.out.hp; have := Iz0a.out.hw; omega)
                clear hC1 hO1
                refine hK.out _ _ ((Y0z0ac.out.cell k).trans HNM3.out) (fun hHeld => ?_)
                clear hK K
                (try simp only [Act.put, List.setIfInBounds_toArray, List.set_cons_zero, List.set_cons_succ])
                refine wpAnyH_ready (rs := [5, 9]) (by kernel_rfl) (by simp) ?_
                refine AllReadyH.cons (o := _) (by rw [List.getElem?_toArray]; exact rfl) (fun K hK => ?_) (AllReadyH.cons (o := _) (by rw [List.getElem?_toArray]; exact rfl) (fun K hK => ?_) AllReadyH.nil)
                · rw [if_pos (by kernel_rfl)]
                  go_simp
                  obtain ⟨gz0acb, z0acb, Gz0acb, Wz0acb, Bz0acb, Iz0acb, Y5z0acb, A5⟩ := Iz0ac.out.laid #[.int .i64 av] 3
                  have Y0z0acb := boxB Y0z0ac Bz0acb
                  rw [Wz0acb.out, Gz0acb.out]
                  refine hK.out _ _ ((Y0z0acb.out.cell k).trans HNM3.out) (fun hHeld => ?_)
                  clear hK K
                  (try simp only [Act.put, List.setIfInBounds_toArray, List.set_cons_zero, List.set_cons_succ])
                  refine wpAnyH_take (i := 8) (oi := _) (v := .agg #[.string nm3, .slice (some ⟨gz0acb, 0, none⟩) 1 1, .bool bv]) (by rw [List.getElem?_toArray]; exact rfl) (by kernel_rfl) (by kernel_rfl) (by kernel_rfl) (by intro _ _ _ h; exact h) (Or.inl ⟨by kernel_rfl, ?y58_8⟩) hHeld ?_
                  case y58_8 =>
                    intro w hSw
                    clear hSw
                    go_simp
                    (try with_reducible rfl)
                  (try simp only [Act.put, List.setIfInBounds_toArray, List.set_cons_zero, List.set_cons_succ])
                  refine wpAnyH_ready (rs := [9]) (by kernel_rfl) (by simp) ?_
                  refine AllReadyH.cons (o := _) (by rw [List.getElem?_toArray]; exact rfl) (fun K hK => ?_) AllReadyH.nil
                  rw [if_pos (by kernel_rfl)]
                  go_simp
                  obtain ⟨gz0acbd, z0acbd, Gz0acbd, Wz0acbd, Bz0acbd, Iz0acbd, Y9z0acbd, A9⟩ := Iz0acb.out.laid #[.string ⟨#[]⟩, .slice none 0 0, .bool false] 105
                  have Y0z0acbd := boxB Y0z0acb Bz0acbd
                  have Y5z0acbd := boxB Y5z0acb Bz0acbd
                  rw [Wz0acbd.out, Gz0acbd.out]
                  refine hK.out _ _ ((Y0z0acbd.out.cell k).trans HNM3.out) (fun hHeld => ?_)
                  clear hK K
                  (try simp only [Act.put, List.setIfInBounds_toArray, List.set_cons_zero, List.set_cons_succ])
                  refine wpAnyH_ready (rs := [10]) (by kernel_rfl) (by simp) ?_
                  refine AllReadyH.cons (o := _) (by rw [List.getElem?_toArray]; exact rfl) (fun K hK => ?_) AllReadyH.nil
                  have q0 := Y9z0acbd.out.cell 0
                  have q1 := Y9z0acbd.out.cell 1
                  have q2 := Y9z0acbd.out.cell 2
                  have f0 := Y9z0acbd.out.frozen 0
                  have f1 := Y9z0acbd.out.frozen 1
                  have f2 := Y9z0acbd.out.frozen 2
                  obtain ⟨Z0, ZR⟩ := Iz0acbd.out.index Y9z0acbd.out Y5z0acbd.out Y0z0acbd.out (by decide) A9.out A5.out nm3 bv
                  rw [if_pos (by kernel_rfl)]
                  go_simp
                  refine hK.out _ _ ((Z0.out.cell k).trans HNM3.out) (fun hHeld => ?_)
                  clear hK K
                  (try simp only [Act.put, List.setIfInBounds_toArray, List.set_cons_zero, List.set_cons_succ])
                  refine wpAnyH_done (by kernel_rfl) ?_ _
                  (try simp only [Exit.then])
                  exact ⟨rfl, gz0acbd, gz0acb, nm3, bv, rfl, HN13.out, ZR⟩
                · rw [if_pos (by kernel_rfl)]
                  go_simp
                  obtain ⟨gz0acd, z0acd, Gz0acd, Wz0acd, Bz0acd, Iz0acd, Y9z0acd, A9⟩ := Iz0ac.out.laid #[.string ⟨#[]⟩, .slice none 0 0, .bool false] 105
                  have Y0z0acd := boxB Y0z0ac Bz0acd
                  rw [Wz0acd.out, Gz0acd.out]
                  refine hK.out _ _ ((Y0z0acd.out.cell k).trans HNM3.out) (fun hHeld => ?_)
                  clear hK K
                  (try simp only [Act.put, List.setIfInBounds_toArray, List.set_cons_zero, List.set_cons_succ])
                  refine wpAnyH_ready (rs := [5]) (by kernel_rfl) (by simp) ?_
                  refine AllReadyH.cons (o := _) (by rw [List.getElem?_toArray]; exact rfl) (fun K hK => ?_) AllReadyH.nil
                  rw [if_pos (by kernel_rfl)]
                  go_simp
                  obtain ⟨gz0acdb, z0acdb, Gz0acdb, Wz0acdb, Bz0acdb, Iz0acdb, Y5z0acdb, A5⟩ := Iz0acd.out.laid #[.int .i64 av] 3
                  have Y0z0acdb := boxB Y0z0acd Bz0acdb
                  have Y9z0acdb := boxB Y9z0acd Bz0acdb
                  rw [Wz0acdb.out, Gz0acdb.out]
                  refine hK.out _ _ ((Y0z0acdb.out.cell k).trans HNM3.out) (fun hHeld => ?_)
                  clear hK K
                  (try simp only [Act.put, List.setIfInBounds_toArray, List.set_cons_zero, List.set_cons_succ])
                  refine wpAnyH_take (i := 8) (oi := _) (v := .agg #[.string nm3, .slice (some ⟨gz0acdb, 0, none⟩) 1 1, .bool bv]) (by rw [List.getElem?_toArray]; exact rfl) (by kernel_rfl) (by kernel_rfl) (by kernel_rfl) (by intro _ _ _ h; exact h) (Or.inl ⟨by kernel_rfl, ?y59_8⟩) hHeld ?_
                  case y59_8 =>
                    intro w hSw
                    clear hSw
                    go_simp
                    (try with_reducible rfl)
                  (try simp only [Act.put, List.setIfInBounds_toArray, List.set_cons_zero, List.set_cons_succ])
                  refine wpAnyH_ready (rs := [10]) (by kernel_rfl) (by simp) ?_
                  refine AllReadyH.cons (o := _) (by rw [List.getElem?_toArray]; exact rfl) (fun K hK => ?_) AllReadyH.nil
                  have q0 := Y9z0acdb.out.cell 0
                  have q1 := Y9z0acdb.out.cell 1
                  have q2 := Y9z0acdb.out.cell 2
                  have f0 := Y9z0acdb.out.frozen 0
                  have f1 := Y9z0acdb.out.frozen 1
                  have f2 := Y9z0acdb.out.frozen 2
                  obtain ⟨Z0, ZR⟩ := Iz0acdb.out.index Y9z0acdb.out Y5z0acdb.out Y0z0acdb.out (by decide) A9.out A5.out nm3 bv
                  rw [if_pos (by kernel_rfl)]
                  go_simp
                  refine hK.out _ _ ((Z0.out.cell k).trans HNM3.out) (fun hHeld => ?_)
                  clear hK K
                  (try simp only [Act.put, List.setIfInBounds_toArray, List.set_cons_zero, List.set_cons_succ])
                  refine wpAnyH_done (by kernel_rfl) ?_ _
                  (try simp only [Exit.then])
                  exact ⟨rfl, gz0acd, gz0acdb, nm3, bv, rfl, HN13.out, ZR⟩
              · rw [if_pos (by kernel_rfl)]
                go_simp
                obtain ⟨gz0ad, z0ad, Gz0ad, Wz0ad, Bz0ad, Iz0ad, Y9z0ad, A9⟩ := Iz0a.out.laid #[.string ⟨#[]⟩, .slice none 0 0, .bool false] 105
                have Y0z0ad := boxB Y0z0a Bz0ad
                rw [Wz0ad.out, Gz0ad.out]
                refine hK.out _ _ ((Y0z0ad.out.cell k).trans HNM3.out) (fun hHeld => ?_)
                clear hK K
                (try simp only [Act.put, List.setIfInBounds_toArray, List.set_cons_zero, List.set_cons_succ])
                refine wpAnyH_ready (rs := [5, 7]) (by kernel_rfl) (by simp) ?_
                refine AllReadyH.cons (o := _) (by rw [List.getElem?_toArray]; exact rfl) (fun K hK => ?_) (AllReadyH.cons (o := _) (by rw [List.getElem?_toArray]; exact rfl) (fun K hK => ?_) AllReadyH.nil)
                · rw [if_pos (by kernel_rfl)]
                  go_simp
                  obtain ⟨gz0adb, z0adb, Gz0adb, Wz0adb, Bz0adb, Iz0adb, Y5z0adb, A5⟩ := Iz0ad.out.laid #[.int .i64 av] 3
                  have Y0z0adb := boxB Y0z0ad Bz0adb
                  have Y9z0adb := boxB Y9z0ad Bz0adb
                  rw [Wz0adb.out, Gz0adb.out]
                  refine hK.out _ _ ((Y0z0adb.out.cell k).trans HNM3.out) (fun hHeld => ?_)
                  clear hK K
                  (try simp only [Act.put, List.setIfInBounds_toArray, List.set_cons_zero, List.set_cons_succ])
                  refine wpAnyH_ready (rs := [7]) (by kernel_rfl) (by simp) ?_
                  refine AllReadyH.cons (o := _) (by rw [List.getElem?_toArray]; exact rfl) (fun K hK => ?_) AllReadyH.nil
                  rw [if_pos (by kernel_rfl)]
                  go_simp
                  refine (l1Once_anyB p a n c 2 (by omega) (by omega) z0adb Iz0adb.out.cur).mono ?_
                  rintro e z0adbc ⟨⟨bv, rfl⟩, hC1, hO1⟩
                  have Iz0adbc : Hid (ScIn w W2 b q p a n c L [0] X v1 (.slice (some ⟨gk, 0, none⟩) 1 1) v3 T1 T2 T3 z0adbc) := Iz0adb.out.only hO1 hC1
                  have Y0z0adbc := boxO Y0z0adb hO1 (by have := A0.out.ge; have := Iz0adb.out.hp; have := Iz0adb.out.hw; omega)
                  have Y9z0adbc := boxO Y9z0adb hO1 (by have := A9.out.ge; have := Iz0adb.out.hp; have := Iz0adb.out.hw; omega)
                  have Y5z0adbc := boxO Y5z0adb hO1 (by have := A5.out.ge; have := Iz0adb.out.hp; have := Iz0adb.out.hw; omega)
                  clear hC1 hO1
                  refine hK.out _ _ ((Y0z0adbc.out.cell k).trans HNM3.out) (fun hHeld => ?_)
                  clear hK K
                  (try simp only [Act.put, List.setIfInBounds_toArray, List.set_cons_zero, List.set_cons_succ])
                  refine wpAnyH_take (i := 8) (oi := _) (v := .agg #[.string nm3, .slice (some ⟨gz0adb, 0, none⟩) 1 1, .bool bv]) (by rw [List.getElem?_toArray]; exact rfl) (by kernel_rfl) (by kernel_rfl) (by kernel_rfl) (by intro _ _ _ h; exact h) (Or.inl ⟨by kernel_rfl, ?y60_8⟩) hHeld ?_
                  case y60_8 =>
                    intro w hSw
                    clear hSw
                    go_simp
                    (try with_reducible rfl)
                  (try simp only [Act.put, List.setIfInBounds_toArray, List.set_cons_zero, List.set_cons_succ])
                  refine wpAnyH_ready (rs := [10]) (by kernel_rfl) (by simp) ?_
                  refine AllReadyH.cons (o := _) (by rw [List.getElem?_toArray]; exact rfl) (fun K hK => ?_) AllReadyH.nil
                  have q0 := Y9z0adbc.out.cell 0
                  have q1 := Y9z0adbc.out.cell 1
                  have q2 := Y9z0adbc.out.cell 2
                  have f0 := Y9z0adbc.out.frozen 0
                  have f1 := Y9z0adbc.out.frozen 1
                  have f2 := Y9z0adbc.out.frozen 2
                  obtain ⟨Z0, ZR⟩ := Iz0adbc.out.index Y9z0adbc.out Y5z0adbc.out Y0z0adbc.out (by decide) A9.out A5.out nm3 bv
                  rw [if_pos (by kernel_rfl)]
                  go_simp
                  refine hK.out _ _ ((Z0.out.cell k).trans HNM3.out) (fun hHeld => ?_)
                  clear hK K
                  (try simp only [Act.put, List.setIfInBounds_toArray, List.set_cons_zero, List.set_cons_succ])
                  refine wpAnyH_done (by kernel_rfl) ?_ _
                  (try simp only [Exit.then])
                  exact ⟨rfl, gz0ad, gz0adb, nm3, bv, rfl, HN13.out, ZR⟩
                · rw [if_pos (by kernel_rfl)]
                  go_simp
                  refine (l1Once_anyB p a n c 2 (by omega) (by omega) z0ad Iz0ad.out.cur).mono ?_
                  rintro e z0adc ⟨⟨bv, rfl⟩, hC1, hO1⟩
                  have Iz0adc : Hid (ScIn w W2 b q p a n c L [0] X v1 (.slice (some ⟨gk, 0, none⟩) 1 1) v3 T1 T2 T3 z0adc) := Iz0ad.out.only hO1 hC1
                  have Y0z0adc := boxO Y0z0ad hO1 (by have := A0.out.ge; have := Iz0ad.out.hp; have := Iz0ad.out.hw; omega)
                  have Y9z0adc := boxO Y9z0ad hO1 (by have := A9.out.ge; have := Iz0ad.out.hp; have := Iz0ad.out.hw; omega)
                  clear hC1 hO1
                  refine hK.out _ _ ((Y0z0adc.out.cell k).trans HNM3.out) (fun hHeld => ?_)
                  clear hK K
                  (try simp only [Act.put, List.setIfInBounds_toArray, List.set_cons_zero, List.set_cons_succ])
                  refine wpAnyH_ready (rs := [5]) (by kernel_rfl) (by simp) ?_
                  refine AllReadyH.cons (o := _) (by rw [List.getElem?_toArray]; exact rfl) (fun K hK => ?_) AllReadyH.nil
                  rw [if_pos (by kernel_rfl)]
                  go_simp
                  obtain ⟨gz0adcb, z0adcb, Gz0adcb, Wz0adcb, Bz0adcb, Iz0adcb, Y5z0adcb, A5⟩ := Iz0adc.out.laid #[.int .i64 av] 3
                  have Y0z0adcb := boxB Y0z0adc Bz0adcb
                  have Y9z0adcb := boxB Y9z0adc Bz0adcb
                  rw [Wz0adcb.out, Gz0adcb.out]
                  refine hK.out _ _ ((Y0z0adcb.out.cell k).trans HNM3.out) (fun hHeld => ?_)
                  clear hK K
                  (try simp only [Act.put, List.setIfInBounds_toArray, List.set_cons_zero, List.set_cons_succ])
                  refine wpAnyH_take (i := 8) (oi := _) (v := .agg #[.string nm3, .slice (some ⟨gz0adcb, 0, none⟩) 1 1, .bool bv]) (by rw [List.getElem?_toArray]; exact rfl) (by kernel_rfl) (by kernel_rfl) (by kernel_rfl) (by intro _ _ _ h; exact h) (Or.inl ⟨by kernel_rfl, ?y61_8⟩) hHeld ?_
                  case y61_8 =>
                    intro w hSw
                    clear hSw
                    go_simp
                    (try with_reducible rfl)
                  (try simp only [Act.put, List.setIfInBounds_toArray, List.set_cons_zero, List.set_cons_succ])
                  refine wpAnyH_ready (rs := [10]) (by kernel_rfl) (by simp) ?_
                  refine AllReadyH.cons (o := _) (by rw [List.getElem?_toArray]; exact rfl) (fun K hK => ?_) AllReadyH.nil
                  have q0 := Y9z0adcb.out.cell 0
                  have q1 := Y9z0adcb.out.cell 1
                  have q2 := Y9z0adcb.out.cell 2
                  have f0 := Y9z0adcb.out.frozen 0
                  have f1 := Y9z0adcb.out.frozen 1
                  have f2 := Y9z0adcb.out.frozen 2
                  obtain ⟨Z0, ZR⟩ := Iz0adcb.out.index Y9z0adcb.out Y5z0adcb.out Y0z0adcb.out (by decide) A9.out A5.out nm3 bv
                  rw [if_pos (by kernel_rfl)]
                  go_simp
                  refine hK.out _ _ ((Z0.out.cell k).trans HNM3.out) (fun hHeld => ?_)
                  clear hK K
                  (try simp only [Act.put, List.setIfInBounds_toArray, List.set_cons_zero, List.set_cons_succ])
                  refine wpAnyH_done (by kernel_rfl) ?_ _
                  (try simp only [Exit.then])
                  exact ⟨rfl, gz0ad, gz0adcb, nm3, bv, rfl, HN13.out, ZR⟩
            · rw [if_pos (by kernel_rfl)]
              go_simp
              obtain ⟨gz0b, z0b, Gz0b, Wz0b, Bz0b, Iz0b, Y5z0b, A5⟩ := Iz0.out.laid #[.int .i64 av] 3
              rw [Wz0b.out, Gz0b.out]
              refine hK.out _ _ trivial (fun hHeld => ?_)
              clear hK K
              (try simp only [Act.put, List.setIfInBounds_toArray, List.set_cons_zero, List.set_cons_succ])
              refine wpAnyH_ready (rs := [0, 7, 9]) (by kernel_rfl) (by simp) ?_
              refine AllReadyH.cons (o := _) (by rw [List.getElem?_toArray]; exact rfl) (fun K hK => ?_) (AllReadyH.cons (o := _) (by rw [List.getElem?_toArray]; exact rfl) (fun K hK => ?_) (AllReadyH.cons (o := _) (by rw [List.getElem?_toArray]; exact rfl) (fun K hK => ?_) AllReadyH.nil))
              · rw [if_pos (by kernel_rfl)]
                go_simp
                obtain ⟨gz0ba, z0ba, Gz0ba, Wz0ba, Bz0ba, Iz0ba, Y0z0ba, A0⟩ := Iz0b.out.laid #[.string (⟨#[120]⟩ : ByteArray), .string (⟨#[121]⟩ : ByteArray), .string (⟨#[122]⟩ : ByteArray)] 9
                have Y5z0ba := boxB Y5z0b Bz0ba
                rw [Wz0ba.out, Gz0ba.out]
                refine hK.out _ _ trivial (fun hHeld => ?_)
                clear hK K
                (try simp only [Act.put, List.setIfInBounds_toArray, List.set_cons_zero, List.set_cons_succ])
                refine wpAnyH_take (i := 2) (oi := _) (v := .pointer (some ⟨gz0ba, k, none⟩)) (by rw [List.getElem?_toArray]; exact rfl) (by kernel_rfl) (by kernel_rfl) (by kernel_rfl) (by intro _ _ _ h; exact h) (Or.inl ⟨by kernel_rfl, ?y62_2⟩) hHeld ?_
                case y62_2 =>
                  intro w hSw
                  clear hSw
                  go_simp
                  (try with_reducible rfl)
                (try simp only [Act.put, List.setIfInBounds_toArray, List.set_cons_zero, List.set_cons_succ])
                refine wpAnyH_strong (S' := fun z => z.cell? ⟨gz0ba, k, none⟩ = some (.string nm3)) (fun _ _ => trivial) _ _ _ _ ?_
                have hHeld : z0ba.cell? ⟨gz0ba, k, none⟩ = some (.string nm3) := (Y0z0ba.out.cell k).trans HNM3.out
                refine wpAnyH_take (i := 3) (oi := _) (v := .string nm3) (by rw [List.getElem?_toArray]; exact rfl) (by kernel_rfl) (by kernel_rfl) (by kernel_rfl) (by intro _ _ _ h; exact h) (Or.inl ⟨by kernel_rfl, ?y62_3⟩) hHeld ?_
                case y62_3 =>
                  intro w hSw
                  obtain hnm3 := hSw
                  go_simp
                  (try with_reducible rfl)
                (try simp only [Act.put, List.setIfInBounds_toArray, List.set_cons_zero, List.set_cons_succ])
                refine wpAnyH_ready (rs := [7, 9]) (by kernel_rfl) (by simp) ?_
                refine AllReadyH.cons (o := _) (by rw [List.getElem?_toArray]; exact rfl) (fun K hK => ?_) (AllReadyH.cons (o := _) (by rw [List.getElem?_toArray]; exact rfl) (fun K hK => ?_) AllReadyH.nil)
                · rw [if_pos (by kernel_rfl)]
                  go_simp
                  refine (l1Once_anyB p a n c 2 (by omega) (by omega) z0ba Iz0ba.out.cur).mono ?_
                  rintro e z0bac ⟨⟨bv, rfl⟩, hC1, hO1⟩
                  have Iz0bac : Hid (ScIn w W2 b q p a n c L [0] X v1 (.slice (some ⟨gk, 0, none⟩) 1 1) v3 T1 T2 T3 z0bac) := Iz0ba.out.only hO1 hC1
                  have Y5z0bac := boxO Y5z0ba hO1 (by have := A5.out.ge; have := Iz0ba.out.hp; have := Iz0ba.out.hw; omega)
                  have Y0z0bac := boxO Y0z0ba hO1 (by have := A0.out.ge; have := Iz0ba.out.hp; have := Iz0ba.out.hw; omega)
                  clear hC1 hO1
                  refine hK.out _ _ ((Y0z0bac.out.cell k).trans HNM3.out) (fun hHeld => ?_)
                  clear hK K
                  (try simp only [Act.put, List.setIfInBounds_toArray, List.set_cons_zero, List.set_cons_succ])
                  refine wpAnyH_take (i := 8) (oi := _) (v := .agg #[.string nm3, .slice (some ⟨gz0b, 0, none⟩) 1 1, .bool bv]) (by rw [List.getElem?_toArray]; exact rfl) (by kernel_rfl) (by kernel_rfl) (by kernel_rfl) (by intro _ _ _ h; exact h) (Or.inl ⟨by kernel_rfl, ?y63_8⟩) hHeld ?_
                  case y63_8 =>
                    intro w hSw
                    clear hSw
                    go_simp
                    (try with_reducible rfl)
                  (try simp only [Act.put, List.setIfInBounds_toArray, List.set_cons_zero, List.set_cons_succ])
                  refine wpAnyH_ready (rs := [9]) (by kernel_rfl) (by simp) ?_
                  refine AllReadyH.cons (o := _) (by rw [List.getElem?_toArray]; exact rfl) (fun K hK => ?_) AllReadyH.nil
                  rw [if_pos (by kernel_rfl)]
                  go_simp
                  obtain ⟨gz0bacd, z0bacd, Gz0bacd, Wz0bacd, Bz0bacd, Iz0bacd, Y9z0bacd, A9⟩ := Iz0bac.out.laid #[.string ⟨#[]⟩, .slice none 0 0, .bool false] 105
                  have Y5z0bacd := boxB Y5z0bac Bz0bacd
                  have Y0z0bacd := boxB Y0z0bac Bz0bacd
                  rw [Wz0bacd.out, Gz0bacd.out]
                  refine hK.out _ _ ((Y0z0bacd.out.cell k).trans HNM3.out) (fun hHeld => ?_)
                  clear hK K
                  (try simp only [Act.put, List.setIfInBounds_toArray, List.set_cons_zero, List.set_cons_succ])
                  refine wpAnyH_ready (rs := [10]) (by kernel_rfl) (by simp) ?_
                  refine AllReadyH.cons (o := _) (by rw [List.getElem?_toArray]; exact rfl) (fun K hK => ?_) AllReadyH.nil
                  have q0 := Y9z0bacd.out.cell 0
                  have q1 := Y9z0bacd.out.cell 1
                  have q2 := Y9z0bacd.out.cell 2
                  have f0 := Y9z0bacd.out.frozen 0
                  have f1 := Y9z0bacd.out.frozen 1
                  have f2 := Y9z0bacd.out.frozen 2
                  obtain ⟨Z0, ZR⟩ := Iz0bacd.out.index Y9z0bacd.out Y5z0bacd.out Y0z0bacd.out (by decide) A9.out A5.out nm3 bv
                  rw [if_pos (by kernel_rfl)]
                  go_simp
                  refine hK.out _ _ ((Z0.out.cell k).trans HNM3.out) (fun hHeld => ?_)
                  clear hK K
                  (try simp only [Act.put, List.setIfInBounds_toArray, List.set_cons_zero, List.set_cons_succ])
                  refine wpAnyH_done (by kernel_rfl) ?_ _
                  (try simp only [Exit.then])
                  exact ⟨rfl, gz0bacd, gz0b, nm3, bv, rfl, HN13.out, ZR⟩
                · rw [if_pos (by kernel_rfl)]
                  go_simp
                  obtain ⟨gz0bad, z0bad, Gz0bad, Wz0bad, Bz0bad, Iz0bad, Y9z0bad, A9⟩ := Iz0ba.out.laid #[.string ⟨#[]⟩, .slice none 0 0, .bool false] 105
                  have Y5z0bad := boxB Y5z0ba Bz0bad
                  have Y0z0bad := boxB Y0z0ba Bz0bad
                  rw [Wz0bad.out, Gz0bad.out]
                  refine hK.out _ _ ((Y0z0bad.out.cell k).trans HNM3.out) (fun hHeld => ?_)
                  clear hK K
                  (try simp only [Act.put, List.setIfInBounds_toArray, List.set_cons_zero, List.set_cons_succ])
                  refine wpAnyH_ready (rs := [7]) (by kernel_rfl) (by simp) ?_
                  refine AllReadyH.cons (o := _) (by rw [List.getElem?_toArray]; exact rfl) (fun K hK => ?_) AllReadyH.nil
                  rw [if_pos (by kernel_rfl)]
                  go_simp
                  refine (l1Once_anyB p a n c 2 (by omega) (by omega) z0bad Iz0bad.out.cur).mono ?_
                  rintro e z0badc ⟨⟨bv, rfl⟩, hC1, hO1⟩
                  have Iz0badc : Hid (ScIn w W2 b q p a n c L [0] X v1 (.slice (some ⟨gk, 0, none⟩) 1 1) v3 T1 T2 T3 z0badc) := Iz0bad.out.only hO1 hC1
                  have Y5z0badc := boxO Y5z0bad hO1 (by have := A5.out.ge; have := Iz0bad.out.hp; have := Iz0bad.out.hw; omega)
                  have Y0z0badc := boxO Y0z0bad hO1 (by have := A0.out.ge; have := Iz0bad.out.hp; have := Iz0bad.out.hw; omega)
                  have Y9z0badc := boxO Y9z0bad hO1 (by have := A9.out.ge; have := Iz0bad.out.hp; have := Iz0bad.out.hw; omega)
                  clear hC1 hO1
                  refine hK.out _ _ ((Y0z0badc.out.cell k).trans HNM3.out) (fun hHeld => ?_)
                  clear hK K
                  (try simp only [Act.put, List.setIfInBounds_toArray, List.set_cons_zero, List.set_cons_succ])
                  refine wpAnyH_take (i := 8) (oi := _) (v := .agg #[.string nm3, .slice (some ⟨gz0b, 0, none⟩) 1 1, .bool bv]) (by rw [List.getElem?_toArray]; exact rfl) (by kernel_rfl) (by kernel_rfl) (by kernel_rfl) (by intro _ _ _ h; exact h) (Or.inl ⟨by kernel_rfl, ?y64_8⟩) hHeld ?_
                  case y64_8 =>
                    intro w hSw
                    clear hSw
                    go_simp
                    (try with_reducible rfl)
                  (try simp only [Act.put, List.setIfInBounds_toArray, List.set_cons_zero, List.set_cons_succ])
                  refine wpAnyH_ready (rs := [10]) (by kernel_rfl) (by simp) ?_
                  refine AllReadyH.cons (o := _) (by rw [List.getElem?_toArray]; exact rfl) (fun K hK => ?_) AllReadyH.nil
                  have q0 := Y9z0badc.out.cell 0
                  have q1 := Y9z0badc.out.cell 1
                  have q2 := Y9z0badc.out.cell 2
                  have f0 := Y9z0badc.out.frozen 0
                  have f1 := Y9z0badc.out.frozen 1
                  have f2 := Y9z0badc.out.frozen 2
                  obtain ⟨Z0, ZR⟩ := Iz0badc.out.index Y9z0badc.out Y5z0badc.out Y0z0badc.out (by decide) A9.out A5.out nm3 bv
                  rw [if_pos (by kernel_rfl)]
                  go_simp
                  refine hK.out _ _ ((Z0.out.cell k).trans HNM3.out) (fun hHeld => ?_)
                  clear hK K
                  (try simp only [Act.put, List.setIfInBounds_toArray, List.set_cons_zero, List.set_cons_succ])
                  refine wpAnyH_done (by kernel_rfl) ?_ _
                  (try simp only [Exit.then])
                  exact ⟨rfl, gz0bad, gz0b, nm3, bv, rfl, HN13.out, ZR⟩
              · rw [if_pos (by kernel_rfl)]
                go_simp
                refine (l1Once_anyB p a n c 2 (by omega) (by omega) z0b Iz0b.out.cur).mono ?_
                rintro e z0bc ⟨⟨bv, rfl⟩, hC1, hO1⟩
                have Iz0bc : Hid (ScIn w W2 b q p a n c L [0] X v1 (.slice (some ⟨gk, 0, none⟩) 1 1) v3 T1 T2 T3 z0bc) := Iz0b.out.only hO1 hC1
                have Y5z0bc := boxO Y5z0b hO1 (by have := A5.out.ge; have := Iz0b.out.hp; have := Iz0b.out.hw; omega)
                clear hC1 hO1
                refine hK.out _ _ trivial (fun hHeld => ?_)
                clear hK K
                (try simp only [Act.put, List.setIfInBounds_toArray, List.set_cons_zero, List.set_cons_succ])
                refine wpAnyH_ready (rs := [0, 9]) (by kernel_rfl) (by simp) ?_
                refine AllReadyH.cons (o := _) (by rw [List.getElem?_toArray]; exact rfl) (fun K hK => ?_) (AllReadyH.cons (o := _) (by rw [List.getElem?_toArray]; exact rfl) (fun K hK => ?_) AllReadyH.nil)
                · rw [if_pos (by kernel_rfl)]
                  go_simp
                  obtain ⟨gz0bca, z0bca, Gz0bca, Wz0bca, Bz0bca, Iz0bca, Y0z0bca, A0⟩ := Iz0bc.out.laid #[.string (⟨#[120]⟩ : ByteArray), .string (⟨#[121]⟩ : ByteArray), .string (⟨#[122]⟩ : ByteArray)] 9
                  have Y5z0bca := boxB Y5z0bc Bz0bca
                  rw [Wz0bca.out, Gz0bca.out]
                  refine hK.out _ _ trivial (fun hHeld => ?_)
                  clear hK K
                  (try simp only [Act.put, List.setIfInBounds_toArray, List.set_cons_zero, List.set_cons_succ])
                  refine wpAnyH_take (i := 2) (oi := _) (v := .pointer (some ⟨gz0bca, k, none⟩)) (by rw [List.getElem?_toArray]; exact rfl) (by kernel_rfl) (by kernel_rfl) (by kernel_rfl) (by intro _ _ _ h; exact h) (Or.inl ⟨by kernel_rfl, ?y65_2⟩) hHeld ?_
                  case y65_2 =>
                    intro w hSw
                    clear hSw
                    go_simp
                    (try with_reducible rfl)
                  (try simp only [Act.put, List.setIfInBounds_toArray, List.set_cons_zero, List.set_cons_succ])
                  refine wpAnyH_strong (S' := fun z => z.cell? ⟨gz0bca, k, none⟩ = some (.string nm3)) (fun _ _ => trivial) _ _ _ _ ?_
                  have hHeld : z0bca.cell? ⟨gz0bca, k, none⟩ = some (.string nm3) := (Y0z0bca.out.cell k).trans HNM3.out
                  refine wpAnyH_take (i := 3) (oi := _) (v := .string nm3) (by rw [List.getElem?_toArray]; exact rfl) (by kernel_rfl) (by kernel_rfl) (by kernel_rfl) (by intro _ _ _ h; exact h) (Or.inl ⟨by kernel_rfl, ?y65_3⟩) hHeld ?_
                  case y65_3 =>
                    intro w hSw
                    obtain hnm3 := hSw
                    go_simp
                    (try with_reducible rfl)
                  (try simp only [Act.put, List.setIfInBounds_toArray, List.set_cons_zero, List.set_cons_succ])
                  refine wpAnyH_take (i := 8) (oi := _) (v := .agg #[.string nm3, .slice (some ⟨gz0b, 0, none⟩) 1 1, .bool bv]) (by rw [List.getElem?_toArray]; exact rfl) (by kernel_rfl) (by kernel_rfl) (by kernel_rfl) (by intro _ _ _ h; exact h) (Or.inl ⟨by kernel_rfl, ?y66_8⟩) hHeld ?_
                  case y66_8 =>
                    intro w hSw
                    clear hSw
                    go_simp
                    (try with_reducible rfl)
                  (try simp only [Act.put, List.setIfInBounds_toArray, List.set_cons_zero, List.set_cons_succ])
                  refine wpAnyH_ready (rs := [9]) (by kernel_rfl) (by simp) ?_
                  refine AllReadyH.cons (o := _) (by rw [List.getElem?_toArray]; exact rfl) (fun K hK => ?_) AllReadyH.nil
                  rw [if_pos (by kernel_rfl)]
                  go_simp
                  obtain ⟨gz0bcad, z0bcad, Gz0bcad, Wz0bcad, Bz0bcad, Iz0bcad, Y9z0bcad, A9⟩ := Iz0bca.out.laid #[.string ⟨#[]⟩, .slice none 0 0, .bool false] 105
                  have Y5z0bcad := boxB Y5z0bca Bz0bcad
                  have Y0z0bcad := boxB Y0z0bca Bz0bcad
                  rw [Wz0bcad.out, Gz0bcad.out]
                  refine hK.out _ _ ((Y0z0bcad.out.cell k).trans HNM3.out) (fun hHeld => ?_)
                  clear hK K
                  (try simp only [Act.put, List.setIfInBounds_toArray, List.set_cons_zero, List.set_cons_succ])
                  refine wpAnyH_ready (rs := [10]) (by kernel_rfl) (by simp) ?_
                  refine AllReadyH.cons (o := _) (by rw [List.getElem?_toArray]; exact rfl) (fun K hK => ?_) AllReadyH.nil
                  have q0 := Y9z0bcad.out.cell 0
                  have q1 := Y9z0bcad.out.cell 1
                  have q2 := Y9z0bcad.out.cell 2
                  have f0 := Y9z0bcad.out.frozen 0
                  have f1 := Y9z0bcad.out.frozen 1
                  have f2 := Y9z0bcad.out.frozen 2
                  obtain ⟨Z0, ZR⟩ := Iz0bcad.out.index Y9z0bcad.out Y5z0bcad.out Y0z0bcad.out (by decide) A9.out A5.out nm3 bv
                  rw [if_pos (by kernel_rfl)]
                  go_simp
                  refine hK.out _ _ ((Z0.out.cell k).trans HNM3.out) (fun hHeld => ?_)
                  clear hK K
                  (try simp only [Act.put, List.setIfInBounds_toArray, List.set_cons_zero, List.set_cons_succ])
                  refine wpAnyH_done (by kernel_rfl) ?_ _
                  (try simp only [Exit.then])
                  exact ⟨rfl, gz0bcad, gz0b, nm3, bv, rfl, HN13.out, ZR⟩
                · rw [if_pos (by kernel_rfl)]
                  go_simp
                  obtain ⟨gz0bcd, z0bcd, Gz0bcd, Wz0bcd, Bz0bcd, Iz0bcd, Y9z0bcd, A9⟩ := Iz0bc.out.laid #[.string ⟨#[]⟩, .slice none 0 0, .bool false] 105
                  have Y5z0bcd := boxB Y5z0bc Bz0bcd
                  rw [Wz0bcd.out, Gz0bcd.out]
                  refine hK.out _ _ trivial (fun hHeld => ?_)
                  clear hK K
                  (try simp only [Act.put, List.setIfInBounds_toArray, List.set_cons_zero, List.set_cons_succ])
                  refine wpAnyH_ready (rs := [0]) (by kernel_rfl) (by simp) ?_
                  refine AllReadyH.cons (o := _) (by rw [List.getElem?_toArray]; exact rfl) (fun K hK => ?_) AllReadyH.nil
                  rw [if_pos (by kernel_rfl)]
                  go_simp
                  obtain ⟨gz0bcda, z0bcda, Gz0bcda, Wz0bcda, Bz0bcda, Iz0bcda, Y0z0bcda, A0⟩ := Iz0bcd.out.laid #[.string (⟨#[120]⟩ : ByteArray), .string (⟨#[121]⟩ : ByteArray), .string (⟨#[122]⟩ : ByteArray)] 9
                  have Y5z0bcda := boxB Y5z0bcd Bz0bcda
                  have Y9z0bcda := boxB Y9z0bcd Bz0bcda
                  rw [Wz0bcda.out, Gz0bcda.out]
                  refine hK.out _ _ trivial (fun hHeld => ?_)
                  clear hK K
                  (try simp only [Act.put, List.setIfInBounds_toArray, List.set_cons_zero, List.set_cons_succ])
                  refine wpAnyH_take (i := 2) (oi := _) (v := .pointer (some ⟨gz0bcda, k, none⟩)) (by rw [List.getElem?_toArray]; exact rfl) (by kernel_rfl) (by kernel_rfl) (by kernel_rfl) (by intro _ _ _ h; exact h) (Or.inl ⟨by kernel_rfl, ?y67_2⟩) hHeld ?_
                  case y67_2 =>
                    intro w hSw
                    clear hSw
                    go_simp
                    (try with_reducible rfl)
                  (try simp only [Act.put, List.setIfInBounds_toArray, List.set_cons_zero, List.set_cons_succ])
                  refine wpAnyH_strong (S' := fun z => z.cell? ⟨gz0bcda, k, none⟩ = some (.string nm3)) (fun _ _ => trivial) _ _ _ _ ?_
                  have hHeld : z0bcda.cell? ⟨gz0bcda, k, none⟩ = some (.string nm3) := (Y0z0bcda.out.cell k).trans HNM3.out
                  refine wpAnyH_take (i := 3) (oi := _) (v := .string nm3) (by rw [List.getElem?_toArray]; exact rfl) (by kernel_rfl) (by kernel_rfl) (by kernel_rfl) (by intro _ _ _ h; exact h) (Or.inl ⟨by kernel_rfl, ?y67_3⟩) hHeld ?_
                  case y67_3 =>
                    intro w hSw
                    obtain hnm3 := hSw
                    go_simp
                    (try with_reducible rfl)
                  (try simp only [Act.put, List.setIfInBounds_toArray, List.set_cons_zero, List.set_cons_succ])
                  refine wpAnyH_take (i := 8) (oi := _) (v := .agg #[.string nm3, .slice (some ⟨gz0b, 0, none⟩) 1 1, .bool bv]) (by rw [List.getElem?_toArray]; exact rfl) (by kernel_rfl) (by kernel_rfl) (by kernel_rfl) (by intro _ _ _ h; exact h) (Or.inl ⟨by kernel_rfl, ?y68_8⟩) hHeld ?_
                  case y68_8 =>
                    intro w hSw
                    clear hSw
                    go_simp
                    (try with_reducible rfl)
                  (try simp only [Act.put, List.setIfInBounds_toArray, List.set_cons_zero, List.set_cons_succ])
                  refine wpAnyH_ready (rs := [10]) (by kernel_rfl) (by simp) ?_
                  refine AllReadyH.cons (o := _) (by rw [List.getElem?_toArray]; exact rfl) (fun K hK => ?_) AllReadyH.nil
                  have q0 := Y9z0bcda.out.cell 0
                  have q1 := Y9z0bcda.out.cell 1
                  have q2 := Y9z0bcda.out.cell 2
                  have f0 := Y9z0bcda.out.frozen 0
                  have f1 := Y9z0bcda.out.frozen 1
                  have f2 := Y9z0bcda.out.frozen 2
                  obtain ⟨Z0, ZR⟩ := Iz0bcda.out.index Y9z0bcda.out Y5z0bcda.out Y0z0bcda.out (by decide) A9.out A5.out nm3 bv
                  rw [if_pos (by kernel_rfl)]
                  go_simp
                  refine hK.out _ _ ((Z0.out.cell k).trans HNM3.out) (fun hHeld => ?_)
                  clear hK K
                  (try simp only [Act.put, List.setIfInBounds_toArray, List.set_cons_zero, List.set_cons_succ])
                  refine wpAnyH_done (by kernel_rfl) ?_ _
                  (try simp only [Exit.then])
                  exact ⟨rfl, gz0bcd, gz0b, nm3, bv, rfl, HN13.out, ZR⟩
              · rw [if_pos (by kernel_rfl)]
                go_simp
                obtain ⟨gz0bd, z0bd, Gz0bd, Wz0bd, Bz0bd, Iz0bd, Y9z0bd, A9⟩ := Iz0b.out.laid #[.string ⟨#[]⟩, .slice none 0 0, .bool false] 105
                have Y5z0bd := boxB Y5z0b Bz0bd
                rw [Wz0bd.out, Gz0bd.out]
                refine hK.out _ _ trivial (fun hHeld => ?_)
                clear hK K
                (try simp only [Act.put, List.setIfInBounds_toArray, List.set_cons_zero, List.set_cons_succ])
                refine wpAnyH_ready (rs := [0, 7]) (by kernel_rfl) (by simp) ?_
                refine AllReadyH.cons (o := _) (by rw [List.getElem?_toArray]; exact rfl) (fun K hK => ?_) (AllReadyH.cons (o := _) (by rw [List.getElem?_toArray]; exact rfl) (fun K hK => ?_) AllReadyH.nil)
                · rw [if_pos (by kernel_rfl)]
                  go_simp
                  obtain ⟨gz0bda, z0bda, Gz0bda, Wz0bda, Bz0bda, Iz0bda, Y0z0bda, A0⟩ := Iz0bd.out.laid #[.string (⟨#[120]⟩ : ByteArray), .string (⟨#[121]⟩ : ByteArray), .string (⟨#[122]⟩ : ByteArray)] 9
                  have Y5z0bda := boxB Y5z0bd Bz0bda
                  have Y9z0bda := boxB Y9z0bd Bz0bda
                  rw [Wz0bda.out, Gz0bda.out]
                  refine hK.out _ _ trivial (fun hHeld => ?_)
                  clear hK K
                  (try simp only [Act.put, List.setIfInBounds_toArray, List.set_cons_zero, List.set_cons_succ])
                  refine wpAnyH_take (i := 2) (oi := _) (v := .pointer (some ⟨gz0bda, k, none⟩)) (by rw [List.getElem?_toArray]; exact rfl) (by kernel_rfl) (by kernel_rfl) (by kernel_rfl) (by intro _ _ _ h; exact h) (Or.inl ⟨by kernel_rfl, ?y69_2⟩) hHeld ?_
                  case y69_2 =>
                    intro w hSw
                    clear hSw
                    go_simp
                    (try with_reducible rfl)
                  (try simp only [Act.put, List.setIfInBounds_toArray, List.set_cons_zero, List.set_cons_succ])
                  refine wpAnyH_strong (S' := fun z => z.cell? ⟨gz0bda, k, none⟩ = some (.string nm3)) (fun _ _ => trivial) _ _ _ _ ?_
                  have hHeld : z0bda.cell? ⟨gz0bda, k, none⟩ = some (.string nm3) := (Y0z0bda.out.cell k).trans HNM3.out
                  refine wpAnyH_take (i := 3) (oi := _) (v := .string nm3) (by rw [List.getElem?_toArray]; exact rfl) (by kernel_rfl) (by kernel_rfl) (by kernel_rfl) (by intro _ _ _ h; exact h) (Or.inl ⟨by kernel_rfl, ?y69_3⟩) hHeld ?_
                  case y69_3 =>
                    intro w hSw
                    obtain hnm3 := hSw
                    go_simp
                    (try with_reducible rfl)
                  (try simp only [Act.put, List.setIfInBounds_toArray, List.set_cons_zero, List.set_cons_succ])
                  refine wpAnyH_ready (rs := [7]) (by kernel_rfl) (by simp) ?_
                  refine AllReadyH.cons (o := _) (by rw [List.getElem?_toArray]; exact rfl) (fun K hK => ?_) AllReadyH.nil
                  rw [if_pos (by kernel_rfl)]
                  go_simp
                  refine (l1Once_anyB p a n c 2 (by omega) (by omega) z0bda Iz0bda.out.cur).mono ?_
                  rintro e z0bdac ⟨⟨bv, rfl⟩, hC1, hO1⟩
                  have Iz0bdac : Hid (ScIn w W2 b q p a n c L [0] X v1 (.slice (some ⟨gk, 0, none⟩) 1 1) v3 T1 T2 T3 z0bdac) := Iz0bda.out.only hO1 hC1
                  have Y5z0bdac := boxO Y5z0bda hO1 (by have := A5.out.ge; have := Iz0bda.out.hp; have := Iz0bda.out.hw; omega)
                  have Y9z0bdac := boxO Y9z0bda hO1 (by have := A9.out.ge; have := Iz0bda.out.hp; have := Iz0bda.out.hw; omega)
                  have Y0z0bdac := boxO Y0z0bda hO1 (by have := A0.out.ge; have := Iz0bda.out.hp; have := Iz0bda.out.hw; omega)
                  clear hC1 hO1
                  refine hK.out _ _ ((Y0z0bdac.out.cell k).trans HNM3.out) (fun hHeld => ?_)
                  clear hK K
                  (try simp only [Act.put, List.setIfInBounds_toArray, List.set_cons_zero, List.set_cons_succ])
                  refine wpAnyH_take (i := 8) (oi := _) (v := .agg #[.string nm3, .slice (some ⟨gz0b, 0, none⟩) 1 1, .bool bv]) (by rw [List.getElem?_toArray]; exact rfl) (by kernel_rfl) (by kernel_rfl) (by kernel_rfl) (by intro _ _ _ h; exact h) (Or.inl ⟨by kernel_rfl, ?y70_8⟩) hHeld ?_
                  case y70_8 =>
                    intro w hSw
                    clear hSw
                    go_simp
                    (try with_reducible rfl)
                  (try simp only [Act.put, List.setIfInBounds_toArray, List.set_cons_zero, List.set_cons_succ])
                  refine wpAnyH_ready (rs := [10]) (by kernel_rfl) (by simp) ?_
                  refine AllReadyH.cons (o := _) (by rw [List.getElem?_toArray]; exact rfl) (fun K hK => ?_) AllReadyH.nil
                  have q0 := Y9z0bdac.out.cell 0
                  have q1 := Y9z0bdac.out.cell 1
                  have q2 := Y9z0bdac.out.cell 2
                  have f0 := Y9z0bdac.out.frozen 0
                  have f1 := Y9z0bdac.out.frozen 1
                  have f2 := Y9z0bdac.out.frozen 2
                  obtain ⟨Z0, ZR⟩ := Iz0bdac.out.index Y9z0bdac.out Y5z0bdac.out Y0z0bdac.out (by decide) A9.out A5.out nm3 bv
                  rw [if_pos (by kernel_rfl)]
                  go_simp
                  refine hK.out _ _ ((Z0.out.cell k).trans HNM3.out) (fun hHeld => ?_)
                  clear hK K
                  (try simp only [Act.put, List.setIfInBounds_toArray, List.set_cons_zero, List.set_cons_succ])
                  refine wpAnyH_done (by kernel_rfl) ?_ _
                  (try simp only [Exit.then])
                  exact ⟨rfl, gz0bd, gz0b, nm3, bv, rfl, HN13.out, ZR⟩
                · rw [if_pos (by kernel_rfl)]
                  go_simp
                  refine (l1Once_anyB p a n c 2 (by omega) (by omega) z0bd Iz0bd.out.cur).mono ?_
                  rintro e z0bdc ⟨⟨bv, rfl⟩, hC1, hO1⟩
                  have Iz0bdc : Hid (ScIn w W2 b q p a n c L [0] X v1 (.slice (some ⟨gk, 0, none⟩) 1 1) v3 T1 T2 T3 z0bdc) := Iz0bd.out.only hO1 hC1
                  have Y5z0bdc := boxO Y5z0bd hO1 (by have := A5.out.ge; have := Iz0bd.out.hp; have := Iz0bd.out.hw; omega)
                  have Y9z0bdc := boxO Y9z0bd hO1 (by have := A9.out.ge; have := Iz0bd.out.hp; have := Iz0bd.out.hw; omega)
                  clear hC1 hO1
                  refine hK.out _ _ trivial (fun hHeld => ?_)
                  clear hK K
                  (try simp only [Act.put, List.setIfInBounds_toArray, List.set_cons_zero, List.set_cons_succ])
                  refine wpAnyH_ready (rs := [0]) (by kernel_rfl) (by simp) ?_
                  refine AllReadyH.cons (o := _) (by rw [List.getElem?_toArray]; exact rfl) (fun K hK => ?_) AllReadyH.nil
                  rw [if_pos (by kernel_rfl)]
                  go_simp
                  obtain ⟨gz0bdca, z0bdca, Gz0bdca, Wz0bdca, Bz0bdca, Iz0bdca, Y0z0bdca, A0⟩ := Iz0bdc.out.laid #[.string (⟨#[120]⟩ : ByteArray), .string (⟨#[121]⟩ : ByteArray), .string (⟨#[122]⟩ : ByteArray)] 9
                  have Y5z0bdca := boxB Y5z0bdc Bz0bdca
                  have Y9z0bdca := boxB Y9z0bdc Bz0bdca
                  rw [Wz0bdca.out, Gz0bdca.out]
                  refine hK.out _ _ trivial (fun hHeld => ?_)
                  clear hK K
                  (try simp only [Act.put, List.setIfInBounds_toArray, List.set_cons_zero, List.set_cons_succ])
                  refine wpAnyH_take (i := 2) (oi := _) (v := .pointer (some ⟨gz0bdca, k, none⟩)) (by rw [List.getElem?_toArray]; exact rfl) (by kernel_rfl) (by kernel_rfl) (by kernel_rfl) (by intro _ _ _ h; exact h) (Or.inl ⟨by kernel_rfl, ?y71_2⟩) hHeld ?_
                  case y71_2 =>
                    intro w hSw
                    clear hSw
                    go_simp
                    (try with_reducible rfl)
                  (try simp only [Act.put, List.setIfInBounds_toArray, List.set_cons_zero, List.set_cons_succ])
                  refine wpAnyH_strong (S' := fun z => z.cell? ⟨gz0bdca, k, none⟩ = some (.string nm3)) (fun _ _ => trivial) _ _ _ _ ?_
                  have hHeld : z0bdca.cell? ⟨gz0bdca, k, none⟩ = some (.string nm3) := (Y0z0bdca.out.cell k).trans HNM3.out
                  refine wpAnyH_take (i := 3) (oi := _) (v := .string nm3) (by rw [List.getElem?_toArray]; exact rfl) (by kernel_rfl) (by kernel_rfl) (by kernel_rfl) (by intro _ _ _ h; exact h) (Or.inl ⟨by kernel_rfl, ?y71_3⟩) hHeld ?_
                  case y71_3 =>
                    intro w hSw
                    obtain hnm3 := hSw
                    go_simp
                    (try with_reducible rfl)
                  (try simp only [Act.put, List.setIfInBounds_toArray, List.set_cons_zero, List.set_cons_succ])
                  refine wpAnyH_take (i := 8) (oi := _) (v := .agg #[.string nm3, .slice (some ⟨gz0b, 0, none⟩) 1 1, .bool bv]) (by rw [List.getElem?_toArray]; exact rfl) (by kernel_rfl) (by kernel_rfl) (by kernel_rfl) (by intro _ _ _ h; exact h) (Or.inl ⟨by kernel_rfl, ?y72_8⟩) hHeld ?_
                  case y72_8 =>
                    intro w hSw
                    clear hSw
                    go_simp
                    (try with_reducible rfl)
                  (try simp only [Act.put, List.setIfInBounds_toArray, List.set_cons_zero, List.set_cons_succ])
                  refine wpAnyH_ready (rs := [10]) (by kernel_rfl) (by simp) ?_
                  refine AllReadyH.cons (o := _) (by rw [List.getElem?_toArray]; exact rfl) (fun K hK => ?_) AllReadyH.nil
                  have q0 := Y9z0bdca.out.cell 0
                  have q1 := Y9z0bdca.out.cell 1
                  have q2 := Y9z0bdca.out.cell 2
                  have f0 := Y9z0bdca.out.frozen 0
                  have f1 := Y9z0bdca.out.frozen 1
                  have f2 := Y9z0bdca.out.frozen 2
                  obtain ⟨Z0, ZR⟩ := Iz0bdca.out.index Y9z0bdca.out Y5z0bdca.out Y0z0bdca.out (by decide) A9.out A5.out nm3 bv
                  rw [if_pos (by kernel_rfl)]
                  go_simp
                  refine hK.out _ _ ((Z0.out.cell k).trans HNM3.out) (fun hHeld => ?_)
                  clear hK K
                  (try simp only [Act.put, List.setIfInBounds_toArray, List.set_cons_zero, List.set_cons_succ])
                  refine wpAnyH_done (by kernel_rfl) ?_ _
                  (try simp only [Exit.then])
                  exact ⟨rfl, gz0bd, gz0b, nm3, bv, rfl, HN13.out, ZR⟩
            · rw [if_pos (by kernel_rfl)]
              go_simp
              refine (l1Once_anyB p a n c 2 (by omega) (by omega) z0 Iz0.out.cur).mono ?_
              rintro e z0c ⟨⟨bv, rfl⟩, hC1, hO1⟩
              have Iz0c : Hid (ScIn w W2 b q p a n c L [0] X v1 (.slice (some ⟨gk, 0, none⟩) 1 1) v3 T1 T2 T3 z0c) := Iz0.out.only hO1 hC1
              clear hC1 hO1
              refine hK.out _ _ trivial (fun hHeld => ?_)
              clear hK K
              (try simp only [Act.put, List.setIfInBounds_toArray, List.set_cons_zero, List.set_cons_succ])
              refine wpAnyH_ready (rs := [0, 5, 9]) (by kernel_rfl) (by simp) ?_
              refine AllReadyH.cons (o := _) (by rw [List.getElem?_toArray]; exact rfl) (fun K hK => ?_) (AllReadyH.cons (o := _) (by rw [List.getElem?_toArray]; exact rfl) (fun K hK => ?_) (AllReadyH.cons (o := _) (by rw [List.getElem?_toArray]; exact rfl) (fun K hK => ?_) AllReadyH.nil))
              · rw [if_pos (by kernel_rfl)]
                go_simp
                obtain ⟨gz0ca, z0ca, Gz0ca, Wz0ca, Bz0ca, Iz0ca, Y0z0ca, A0⟩ := Iz0c.out.laid #[.string (⟨#[120]⟩ : ByteArray), .string (⟨#[121]⟩ : ByteArray), .string (⟨#[122]⟩ : ByteArray)] 9
                rw [Wz0ca.out, Gz0ca.out]
                refine hK.out _ _ trivial (fun hHeld => ?_)
                clear hK K
                (try simp only [Act.put, List.setIfInBounds_toArray, List.set_cons_zero, List.set_cons_succ])
                refine wpAnyH_take (i := 2) (oi := _) (v := .pointer (some ⟨gz0ca, k, none⟩)) (by rw [List.getElem?_toArray]; exact rfl) (by kernel_rfl) (by kernel_rfl) (by kernel_rfl) (by intro _ _ _ h; exact h) (Or.inl ⟨by kernel_rfl, ?y73_2⟩) hHeld ?_
                case y73_2 =>
                  intro w hSw
                  clear hSw
                  go_simp
                  (try with_reducible rfl)
                (try simp only [Act.put, List.setIfInBounds_toArray, List.set_cons_zero, List.set_cons_succ])
                refine wpAnyH_strong (S' := fun z => z.cell? ⟨gz0ca, k, none⟩ = some (.string nm3)) (fun _ _ => trivial) _ _ _ _ ?_
                have hHeld : z0ca.cell? ⟨gz0ca, k, none⟩ = some (.string nm3) := (Y0z0ca.out.cell k).trans HNM3.out
                refine wpAnyH_take (i := 3) (oi := _) (v := .string nm3) (by rw [List.getElem?_toArray]; exact rfl) (by kernel_rfl) (by kernel_rfl) (by kernel_rfl) (by intro _ _ _ h; exact h) (Or.inl ⟨by kernel_rfl, ?y73_3⟩) hHeld ?_
                case y73_3 =>
                  intro w hSw
                  obtain hnm3 := hSw
                  go_simp
                  (try with_reducible rfl)
                (try simp only [Act.put, List.setIfInBounds_toArray, List.set_cons_zero, List.set_cons_succ])
                refine wpAnyH_ready (rs := [5, 9]) (by kernel_rfl) (by simp) ?_
                refine AllReadyH.cons (o := _) (by rw [List.getElem?_toArray]; exact rfl) (fun K hK => ?_) (AllReadyH.cons (o := _) (by rw [List.getElem?_toArray]; exact rfl) (fun K hK => ?_) AllReadyH.nil)
                · rw [if_pos (by kernel_rfl)]
                  go_simp
                  obtain ⟨gz0cab, z0cab, Gz0cab, Wz0cab, Bz0cab, Iz0cab, Y5z0cab, A5⟩ := Iz0ca.out.laid #[.int .i64 av] 3
                  have Y0z0cab := boxB Y0z0ca Bz0cab
                  rw [Wz0cab.out, Gz0cab.out]
                  refine hK.out _ _ ((Y0z0cab.out.cell k).trans HNM3.out) (fun hHeld => ?_)
                  clear hK K
                  (try simp only [Act.put, List.setIfInBounds_toArray, List.set_cons_zero, List.set_cons_succ])
                  refine wpAnyH_take (i := 8) (oi := _) (v := .agg #[.string nm3, .slice (some ⟨gz0cab, 0, none⟩) 1 1, .bool bv]) (by rw [List.getElem?_toArray]; exact rfl) (by kernel_rfl) (by kernel_rfl) (by kernel_rfl) (by intro _ _ _ h; exact h) (Or.inl ⟨by kernel_rfl, ?y74_8⟩) hHeld ?_
                  case y74_8 =>
                    intro w hSw
                    clear hSw
                    go_simp
                    (try with_reducible rfl)
                  (try simp only [Act.put, List.setIfInBounds_toArray, List.set_cons_zero, List.set_cons_succ])
                  refine wpAnyH_ready (rs := [9]) (by kernel_rfl) (by simp) ?_
                  refine AllReadyH.cons (o := _) (by rw [List.getElem?_toArray]; exact rfl) (fun K hK => ?_) AllReadyH.nil
                  rw [if_pos (by kernel_rfl)]
                  go_simp
                  obtain ⟨gz0cabd, z0cabd, Gz0cabd, Wz0cabd, Bz0cabd, Iz0cabd, Y9z0cabd, A9⟩ := Iz0cab.out.laid #[.string ⟨#[]⟩, .slice none 0 0, .bool false] 105
                  have Y0z0cabd := boxB Y0z0cab Bz0cabd
                  have Y5z0cabd := boxB Y5z0cab Bz0cabd
                  rw [Wz0cabd.out, Gz0cabd.out]
                  refine hK.out _ _ ((Y0z0cabd.out.cell k).trans HNM3.out) (fun hHeld => ?_)
                  clear hK K
                  (try simp only [Act.put, List.setIfInBounds_toArray, List.set_cons_zero, List.set_cons_succ])
                  refine wpAnyH_ready (rs := [10]) (by kernel_rfl) (by simp) ?_
                  refine AllReadyH.cons (o := _) (by rw [List.getElem?_toArray]; exact rfl) (fun K hK => ?_) AllReadyH.nil
                  have q0 := Y9z0cabd.out.cell 0
                  have q1 := Y9z0cabd.out.cell 1
                  have q2 := Y9z0cabd.out.cell 2
                  have f0 := Y9z0cabd.out.frozen 0
                  have f1 := Y9z0cabd.out.frozen 1
                  have f2 := Y9z0cabd.out.frozen 2
                  obtain ⟨Z0, ZR⟩ := Iz0cabd.out.index Y9z0cabd.out Y5z0cabd.out Y0z0cabd.out (by decide) A9.out A5.out nm3 bv
                  rw [if_pos (by kernel_rfl)]
                  go_simp
                  refine hK.out _ _ ((Z0.out.cell k).trans HNM3.out) (fun hHeld => ?_)
                  clear hK K
                  (try simp only [Act.put, List.setIfInBounds_toArray, List.set_cons_zero, List.set_cons_succ])
                  refine wpAnyH_done (by kernel_rfl) ?_ _
                  (try simp only [Exit.then])
                  exact ⟨rfl, gz0cabd, gz0cab, nm3, bv, rfl, HN13.out, ZR⟩
                · rw [if_pos (by kernel_rfl)]
                  go_simp
                  obtain ⟨gz0cad, z0cad, Gz0cad, Wz0cad, Bz0cad, Iz0cad, Y9z0cad, A9⟩ := Iz0ca.out.laid #[.string ⟨#[]⟩, .slice none 0 0, .bool false] 105
                  have Y0z0cad := boxB Y0z0ca Bz0cad
                  rw [Wz0cad.out, Gz0cad.out]
                  refine hK.out _ _ ((Y0z0cad.out.cell k).trans HNM3.out) (fun hHeld => ?_)
                  clear hK K
                  (try simp only [Act.put, List.setIfInBounds_toArray, List.set_cons_zero, List.set_cons_succ])
                  refine wpAnyH_ready (rs := [5]) (by kernel_rfl) (by simp) ?_
                  refine AllReadyH.cons (o := _) (by rw [List.getElem?_toArray]; exact rfl) (fun K hK => ?_) AllReadyH.nil
                  rw [if_pos (by kernel_rfl)]
                  go_simp
                  obtain ⟨gz0cadb, z0cadb, Gz0cadb, Wz0cadb, Bz0cadb, Iz0cadb, Y5z0cadb, A5⟩ := Iz0cad.out.laid #[.int .i64 av] 3
                  have Y0z0cadb := boxB Y0z0cad Bz0cadb
                  have Y9z0cadb := boxB Y9z0cad Bz0cadb
                  rw [Wz0cadb.out, Gz0cadb.out]
                  refine hK.out _ _ ((Y0z0cadb.out.cell k).trans HNM3.out) (fun hHeld => ?_)
                  clear hK K
                  (try simp only [Act.put, List.setIfInBounds_toArray, List.set_cons_zero, List.set_cons_succ])
                  refine wpAnyH_take (i := 8) (oi := _) (v := .agg #[.string nm3, .slice (some ⟨gz0cadb, 0, none⟩) 1 1, .bool bv]) (by rw [List.getElem?_toArray]; exact rfl) (by kernel_rfl) (by kernel_rfl) (by kernel_rfl) (by intro _ _ _ h; exact h) (Or.inl ⟨by kernel_rfl, ?y75_8⟩) hHeld ?_
                  case y75_8 =>
                    intro w hSw
                    clear hSw
                    go_simp
                    (try with_reducible rfl)
                  (try simp only [Act.put, List.setIfInBounds_toArray, List.set_cons_zero, List.set_cons_succ])
                  refine wpAnyH_ready (rs := [10]) (by kernel_rfl) (by simp) ?_
                  refine AllReadyH.cons (o := _) (by rw [List.getElem?_toArray]; exact rfl) (fun K hK => ?_) AllReadyH.nil
                  have q0 := Y9z0cadb.out.cell 0
                  have q1 := Y9z0cadb.out.cell 1
                  have q2 := Y9z0cadb.out.cell 2
                  have f0 := Y9z0cadb.out.frozen 0
                  have f1 := Y9z0cadb.out.frozen 1
                  have f2 := Y9z0cadb.out.frozen 2
                  obtain ⟨Z0, ZR⟩ := Iz0cadb.out.index Y9z0cadb.out Y5z0cadb.out Y0z0cadb.out (by decide) A9.out A5.out nm3 bv
                  rw [if_pos (by kernel_rfl)]
                  go_simp
                  refine hK.out _ _ ((Z0.out.cell k).trans HNM3.out) (fun hHeld => ?_)
                  clear hK K
                  (try simp only [Act.put, List.setIfInBounds_toArray, List.set_cons_zero, List.set_cons_succ])
                  refine wpAnyH_done (by kernel_rfl) ?_ _
                  (try simp only [Exit.then])
                  exact ⟨rfl, gz0cad, gz0cadb, nm3, bv, rfl, HN13.out, ZR⟩
              · rw [if_pos (by kernel_rfl)]
                go_simp
                obtain ⟨gz0cb, z0cb, Gz0cb, Wz0cb, Bz0cb, Iz0cb, Y5z0cb, A5⟩ := Iz0c.out.laid #[.int .i64 av] 3
                rw [Wz0cb.out, Gz0cb.out]
                refine hK.out _ _ trivial (fun hHeld => ?_)
                clear hK K
                (try simp only [Act.put, List.setIfInBounds_toArray, List.set_cons_zero, List.set_cons_succ])
                refine wpAnyH_ready (rs := [0, 9]) (by kernel_rfl) (by simp) ?_
                refine AllReadyH.cons (o := _) (by rw [List.getElem?_toArray]; exact rfl) (fun K hK => ?_) (AllReadyH.cons (o := _) (by rw [List.getElem?_toArray]; exact rfl) (fun K hK => ?_) AllReadyH.nil)
                · rw [if_pos (by kernel_rfl)]
                  go_simp
                  obtain ⟨gz0cba, z0cba, Gz0cba, Wz0cba, Bz0cba, Iz0cba, Y0z0cba, A0⟩ := Iz0cb.out.laid #[.string (⟨#[120]⟩ : ByteArray), .string (⟨#[121]⟩ : ByteArray), .string (⟨#[122]⟩ : ByteArray)] 9
                  have Y5z0cba := boxB Y5z0cb Bz0cba
                  rw [Wz0cba.out, Gz0cba.out]
                  refine hK.out _ _ trivial (fun hHeld => ?_)
                  clear hK K
                  (try simp only [Act.put, List.setIfInBounds_toArray, List.set_cons_zero, List.set_cons_succ])
                  refine wpAnyH_take (i := 2) (oi := _) (v := .pointer (some ⟨gz0cba, k, none⟩)) (by rw [List.getElem?_toArray]; exact rfl) (by kernel_rfl) (by kernel_rfl) (by kernel_rfl) (by intro _ _ _ h; exact h) (Or.inl ⟨by kernel_rfl, ?y76_2⟩) hHeld ?_
                  case y76_2 =>
                    intro w hSw
                    clear hSw
                    go_simp
                    (try with_reducible rfl)
                  (try simp only [Act.put, List.setIfInBounds_toArray, List.set_cons_zero, List.set_cons_succ])
                  refine wpAnyH_strong (S' := fun z => z.cell? ⟨gz0cba, k, none⟩ = some (.string nm3)) (fun _ _ => trivial) _ _ _ _ ?_
                  have hHeld : z0cba.cell? ⟨gz0cba, k, none⟩ = some (.string nm3) := (Y0z0cba.out.cell k).trans HNM3.out
                  refine wpAnyH_take (i := 3) (oi := _) (v := .string nm3) (by rw [List.getElem?_toArray]; exact rfl) (by kernel_rfl) (by kernel_rfl) (by kernel_rfl) (by intro _ _ _ h; exact h) (Or.inl ⟨by kernel_rfl, ?y76_3⟩) hHeld ?_
                  case y76_3 =>
                    intro w hSw
                    obtain hnm3 := hSw
                    go_simp
                    (try with_reducible rfl)
                  (try simp only [Act.put, List.setIfInBounds_toArray, List.set_cons_zero, List.set_cons_succ])
                  refine wpAnyH_take (i := 8) (oi := _) (v := .agg #[.string nm3, .slice (some ⟨gz0cb, 0, none⟩) 1 1, .bool bv]) (by rw [List.getElem?_toArray]; exact rfl) (by kernel_rfl) (by kernel_rfl) (by kernel_rfl) (by intro _ _ _ h; exact h) (Or.inl ⟨by kernel_rfl, ?y77_8⟩) hHeld ?_
                  case y77_8 =>
                    intro w hSw
                    clear hSw
                    go_simp
                    (try with_reducible rfl)
                  (try simp only [Act.put, List.setIfInBounds_toArray, List.set_cons_zero, List.set_cons_succ])
                  refine wpAnyH_ready (rs := [9]) (by kernel_rfl) (by simp) ?_
                  refine AllReadyH.cons (o := _) (by rw [List.getElem?_toArray]; exact rfl) (fun K hK => ?_) AllReadyH.nil
                  rw [if_pos (by kernel_rfl)]
                  go_simp
                  obtain ⟨gz0cbad, z0cbad, Gz0cbad, Wz0cbad, Bz0cbad, Iz0cbad, Y9z0cbad, A9⟩ := Iz0cba.out.laid #[.string ⟨#[]⟩, .slice none 0 0, .bool false] 105
                  have Y5z0cbad := boxB Y5z0cba Bz0cbad
                  have Y0z0cbad := boxB Y0z0cba Bz0cbad
                  rw [Wz0cbad.out, Gz0cbad.out]
                  refine hK.out _ _ ((Y0z0cbad.out.cell k).trans HNM3.out) (fun hHeld => ?_)
                  clear hK K
                  (try simp only [Act.put, List.setIfInBounds_toArray, List.set_cons_zero, List.set_cons_succ])
                  refine wpAnyH_ready (rs := [10]) (by kernel_rfl) (by simp) ?_
                  refine AllReadyH.cons (o := _) (by rw [List.getElem?_toArray]; exact rfl) (fun K hK => ?_) AllReadyH.nil
                  have q0 := Y9z0cbad.out.cell 0
                  have q1 := Y9z0cbad.out.cell 1
                  have q2 := Y9z0cbad.out.cell 2
                  have f0 := Y9z0cbad.out.frozen 0
                  have f1 := Y9z0cbad.out.frozen 1
                  have f2 := Y9z0cbad.out.frozen 2
                  obtain ⟨Z0, ZR⟩ := Iz0cbad.out.index Y9z0cbad.out Y5z0cbad.out Y0z0cbad.out (by decide) A9.out A5.out nm3 bv
                  rw [if_pos (by kernel_rfl)]
                  go_simp
                  refine hK.out _ _ ((Z0.out.cell k).trans HNM3.out) (fun hHeld => ?_)
                  clear hK K
                  (try simp only [Act.put, List.setIfInBounds_toArray, List.set_cons_zero, List.set_cons_succ])
                  refine wpAnyH_done (by kernel_rfl) ?_ _
                  (try simp only [Exit.then])
                  exact ⟨rfl, gz0cbad, gz0cb, nm3, bv, rfl, HN13.out, ZR⟩
                · rw [if_pos (by kernel_rfl)]
                  go_simp
                  obtain ⟨gz0cbd, z0cbd, Gz0cbd, Wz0cbd, Bz0cbd, Iz0cbd, Y9z0cbd, A9⟩ := Iz0cb.out.laid #[.string ⟨#[]⟩, .slice none 0 0, .bool false] 105
                  have Y5z0cbd := boxB Y5z0cb Bz0cbd
                  rw [Wz0cbd.out, Gz0cbd.out]
                  refine hK.out _ _ trivial (fun hHeld => ?_)
                  clear hK K
                  (try simp only [Act.put, List.setIfInBounds_toArray, List.set_cons_zero, List.set_cons_succ])
                  refine wpAnyH_ready (rs := [0]) (by kernel_rfl) (by simp) ?_
                  refine AllReadyH.cons (o := _) (by rw [List.getElem?_toArray]; exact rfl) (fun K hK => ?_) AllReadyH.nil
                  rw [if_pos (by kernel_rfl)]
                  go_simp
                  obtain ⟨gz0cbda, z0cbda, Gz0cbda, Wz0cbda, Bz0cbda, Iz0cbda, Y0z0cbda, A0⟩ := Iz0cbd.out.laid #[.string (⟨#[120]⟩ : ByteArray), .string (⟨#[121]⟩ : ByteArray), .string (⟨#[122]⟩ : ByteArray)] 9
                  have Y5z0cbda := boxB Y5z0cbd Bz0cbda
                  have Y9z0cbda := boxB Y9z0cbd Bz0cbda
                  rw [Wz0cbda.out, Gz0cbda.out]
                  refine hK.out _ _ trivial (fun hHeld => ?_)
                  clear hK K
                  (try simp only [Act.put, List.setIfInBounds_toArray, List.set_cons_zero, List.set_cons_succ])
                  refine wpAnyH_take (i := 2) (oi := _) (v := .pointer (some ⟨gz0cbda, k, none⟩)) (by rw [List.getElem?_toArray]; exact rfl) (by kernel_rfl) (by kernel_rfl) (by kernel_rfl) (by intro _ _ _ h; exact h) (Or.inl ⟨by kernel_rfl, ?y78_2⟩) hHeld ?_
                  case y78_2 =>
                    intro w hSw
                    clear hSw
                    go_simp
                    (try with_reducible rfl)
                  (try simp only [Act.put, List.setIfInBounds_toArray, List.set_cons_zero, List.set_cons_succ])
                  refine wpAnyH_strong (S' := fun z => z.cell? ⟨gz0cbda, k, none⟩ = some (.string nm3)) (fun _ _ => trivial) _ _ _ _ ?_
                  have hHeld : z0cbda.cell? ⟨gz0cbda, k, none⟩ = some (.string nm3) := (Y0z0cbda.out.cell k).trans HNM3.out
                  refine wpAnyH_take (i := 3) (oi := _) (v := .string nm3) (by rw [List.getElem?_toArray]; exact rfl) (by kernel_rfl) (by kernel_rfl) (by kernel_rfl) (by intro _ _ _ h; exact h) (Or.inl ⟨by kernel_rfl, ?y78_3⟩) hHeld ?_
                  case y78_3 =>
                    intro w hSw
                    obtain hnm3 := hSw
                    go_simp
                    (try with_reducible rfl)
                  (try simp only [Act.put, List.setIfInBounds_toArray, List.set_cons_zero, List.set_cons_succ])
                  refine wpAnyH_take (i := 8) (oi := _) (v := .agg #[.string nm3, .slice (some ⟨gz0cb, 0, none⟩) 1 1, .bool bv]) (by rw [List.getElem?_toArray]; exact rfl) (by kernel_rfl) (by kernel_rfl) (by kernel_rfl) (by intro _ _ _ h; exact h) (Or.inl ⟨by kernel_rfl, ?y79_8⟩) hHeld ?_
                  case y79_8 =>
                    intro w hSw
                    clear hSw
                    go_simp
                    (try with_reducible rfl)
                  (try simp only [Act.put, List.setIfInBounds_toArray, List.set_cons_zero, List.set_cons_succ])
                  refine wpAnyH_ready (rs := [10]) (by kernel_rfl) (by simp) ?_
                  refine AllReadyH.cons (o := _) (by rw [List.getElem?_toArray]; exact rfl) (fun K hK => ?_) AllReadyH.nil
                  have q0 := Y9z0cbda.out.cell 0
                  have q1 := Y9z0cbda.out.cell 1
                  have q2 := Y9z0cbda.out.cell 2
                  have f0 := Y9z0cbda.out.frozen 0
                  have f1 := Y9z0cbda.out.frozen 1
                  have f2 := Y9z0cbda.out.frozen 2
                  obtain ⟨Z0, ZR⟩ := Iz0cbda.out.index Y9z0cbda.out Y5z0cbda.out Y0z0cbda.out (by decide) A9.out A5.out nm3 bv
                  rw [if_pos (by kernel_rfl)]
                  go_simp
                  refine hK.out _ _ ((Z0.out.cell k).trans HNM3.out) (fun hHeld => ?_)
                  clear hK K
                  (try simp only [Act.put, List.setIfInBounds_toArray, List.set_cons_zero, List.set_cons_succ])
                  refine wpAnyH_done (by kernel_rfl) ?_ _
                  (try simp only [Exit.then])
                  exact ⟨rfl, gz0cbd, gz0cb, nm3, bv, rfl, HN13.out, ZR⟩
              · rw [if_pos (by kernel_rfl)]
                go_simp
                obtain ⟨gz0cd, z0cd, Gz0cd, Wz0cd, Bz0cd, Iz0cd, Y9z0cd, A9⟩ := Iz0c.out.laid #[.string ⟨#[]⟩, .slice none 0 0, .bool false] 105
                rw [Wz0cd.out, Gz0cd.out]
                refine hK.out _ _ trivial (fun hHeld => ?_)
                clear hK K
                (try simp only [Act.put, List.setIfInBounds_toArray, List.set_cons_zero, List.set_cons_succ])
                refine wpAnyH_ready (rs := [0, 5]) (by kernel_rfl) (by simp) ?_
                refine AllReadyH.cons (o := _) (by rw [List.getElem?_toArray]; exact rfl) (fun K hK => ?_) (AllReadyH.cons (o := _) (by rw [List.getElem?_toArray]; exact rfl) (fun K hK => ?_) AllReadyH.nil)
                · rw [if_pos (by kernel_rfl)]
                  go_simp
                  obtain ⟨gz0cda, z0cda, Gz0cda, Wz0cda, Bz0cda, Iz0cda, Y0z0cda, A0⟩ := Iz0cd.out.laid #[.string (⟨#[120]⟩ : ByteArray), .string (⟨#[121]⟩ : ByteArray), .string (⟨#[122]⟩ : ByteArray)] 9
                  have Y9z0cda := boxB Y9z0cd Bz0cda
                  rw [Wz0cda.out, Gz0cda.out]
                  refine hK.out _ _ trivial (fun hHeld => ?_)
                  clear hK K
                  (try simp only [Act.put, List.setIfInBounds_toArray, List.set_cons_zero, List.set_cons_succ])
                  refine wpAnyH_take (i := 2) (oi := _) (v := .pointer (some ⟨gz0cda, k, none⟩)) (by rw [List.getElem?_toArray]; exact rfl) (by kernel_rfl) (by kernel_rfl) (by kernel_rfl) (by intro _ _ _ h; exact h) (Or.inl ⟨by kernel_rfl, ?y80_2⟩) hHeld ?_
                  case y80_2 =>
                    intro w hSw
                    clear hSw
                    go_simp
                    (try with_reducible rfl)
                  (try simp only [Act.put, List.setIfInBounds_toArray, List.set_cons_zero, List.set_cons_succ])
                  refine wpAnyH_strong (S' := fun z => z.cell? ⟨gz0cda, k, none⟩ = some (.string nm3)) (fun _ _ => trivial) _ _ _ _ ?_
                  have hHeld : z0cda.cell? ⟨gz0cda, k, none⟩ = some (.string nm3) := (Y0z0cda.out.cell k).trans HNM3.out
                  refine wpAnyH_take (i := 3) (oi := _) (v := .string nm3) (by rw [List.getElem?_toArray]; exact rfl) (by kernel_rfl) (by kernel_rfl) (by kernel_rfl) (by intro _ _ _ h; exact h) (Or.inl ⟨by kernel_rfl, ?y80_3⟩) hHeld ?_
                  case y80_3 =>
                    intro w hSw
                    obtain hnm3 := hSw
                    go_simp
                    (try with_reducible rfl)
                  (try simp only [Act.put, List.setIfInBounds_toArray, List.set_cons_zero, List.set_cons_succ])
                  refine wpAnyH_ready (rs := [5]) (by kernel_rfl) (by simp) ?_
                  refine AllReadyH.cons (o := _) (by rw [List.getElem?_toArray]; exact rfl) (fun K hK => ?_) AllReadyH.nil
                  rw [if_pos (by kernel_rfl)]
                  go_simp
                  obtain ⟨gz0cdab, z0cdab, Gz0cdab, Wz0cdab, Bz0cdab, Iz0cdab, Y5z0cdab, A5⟩ := Iz0cda.out.laid #[.int .i64 av] 3
                  have Y9z0cdab := boxB Y9z0cda Bz0cdab
                  have Y0z0cdab := boxB Y0z0cda Bz0cdab
                  rw [Wz0cdab.out, Gz0cdab.out]
                  refine hK.out _ _ ((Y0z0cdab.out.cell k).trans HNM3.out) (fun hHeld => ?_)
                  clear hK K
                  (try simp only [Act.put, List.setIfInBounds_toArray, List.set_cons_zero, List.set_cons_succ])
                  refine wpAnyH_take (i := 8) (oi := _) (v := .agg #[.string nm3, .slice (some ⟨gz0cdab, 0, none⟩) 1 1, .bool bv]) (by rw [List.getElem?_toArray]; exact rfl) (by kernel_rfl) (by kernel_rfl) (by kernel_rfl) (by intro _ _ _ h; exact h) (Or.inl ⟨by kernel_rfl, ?y81_8⟩) hHeld ?_
                  case y81_8 =>
                    intro w hSw
                    clear hSw
                    go_simp
                    (try with_reducible rfl)
                  (try simp only [Act.put, List.setIfInBounds_toArray, List.set_cons_zero, List.set_cons_succ])
                  refine wpAnyH_ready (rs := [10]) (by kernel_rfl) (by simp) ?_
                  refine AllReadyH.cons (o := _) (by rw [List.getElem?_toArray]; exact rfl) (fun K hK => ?_) AllReadyH.nil
                  have q0 := Y9z0cdab.out.cell 0
                  have q1 := Y9z0cdab.out.cell 1
                  have q2 := Y9z0cdab.out.cell 2
                  have f0 := Y9z0cdab.out.frozen 0
                  have f1 := Y9z0cdab.out.frozen 1
                  have f2 := Y9z0cdab.out.frozen 2
                  obtain ⟨Z0, ZR⟩ := Iz0cdab.out.index Y9z0cdab.out Y5z0cdab.out Y0z0cdab.out (by decide) A9.out A5.out nm3 bv
                  rw [if_pos (by kernel_rfl)]
                  go_simp
                  refine hK.out _ _ ((Z0.out.cell k).trans HNM3.out) (fun hHeld => ?_)
                  clear hK K
                  (try simp only [Act.put, List.setIfInBounds_toArray, List.set_cons_zero, List.set_cons_succ])
                  refine wpAnyH_done (by kernel_rfl) ?_ _
                  (try simp only [Exit.then])
                  exact ⟨rfl, gz0cd, gz0cdab, nm3, bv, rfl, HN13.out, ZR⟩
                · rw [if_pos (by kernel_rfl)]
                  go_simp
                  obtain ⟨gz0cdb, z0cdb, Gz0cdb, Wz0cdb, Bz0cdb, Iz0cdb, Y5z0cdb, A5⟩ := Iz0cd.out.laid #[.int .i64 av] 3
                  have Y9z0cdb := boxB Y9z0cd Bz0cdb
                  rw [Wz0cdb.out, Gz0cdb.out]
                  refine hK.out _ _ trivial (fun hHeld => ?_)
                  clear hK K
                  (try simp only [Act.put, List.setIfInBounds_toArray, List.set_cons_zero, List.set_cons_succ])
                  refine wpAnyH_ready (rs := [0]) (by kernel_rfl) (by simp) ?_
                  refine AllReadyH.cons (o := _) (by rw [List.getElem?_toArray]; exact rfl) (fun K hK => ?_) AllReadyH.nil
                  rw [if_pos (by kernel_rfl)]
                  go_simp
                  obtain ⟨gz0cdba, z0cdba, Gz0cdba, Wz0cdba, Bz0cdba, Iz0cdba, Y0z0cdba, A0⟩ := Iz0cdb.out.laid #[.string (⟨#[120]⟩ : ByteArray), .string (⟨#[121]⟩ : ByteArray), .string (⟨#[122]⟩ : ByteArray)] 9
                  have Y9z0cdba := boxB Y9z0cdb Bz0cdba
                  have Y5z0cdba := boxB Y5z0cdb Bz0cdba
                  rw [Wz0cdba.out, Gz0cdba.out]
                  refine hK.out _ _ trivial (fun hHeld => ?_)
                  clear hK K
                  (try simp only [Act.put, List.setIfInBounds_toArray, List.set_cons_zero, List.set_cons_succ])
                  refine wpAnyH_take (i := 2) (oi := _) (v := .pointer (some ⟨gz0cdba, k, none⟩)) (by rw [List.getElem?_toArray]; exact rfl) (by kernel_rfl) (by kernel_rfl) (by kernel_rfl) (by intro _ _ _ h; exact h) (Or.inl ⟨by kernel_rfl, ?y82_2⟩) hHeld ?_
                  case y82_2 =>
                    intro w hSw
                    clear hSw
                    go_simp
                    (try with_reducible rfl)
                  (try simp only [Act.put, List.setIfInBounds_toArray, List.set_cons_zero, List.set_cons_succ])
                  refine wpAnyH_strong (S' := fun z => z.cell? ⟨gz0cdba, k, none⟩ = some (.string nm3)) (fun _ _ => trivial) _ _ _ _ ?_
                  have hHeld : z0cdba.cell? ⟨gz0cdba, k, none⟩ = some (.string nm3) := (Y0z0cdba.out.cell k).trans HNM3.out
                  refine wpAnyH_take (i := 3) (oi := _) (v := .string nm3) (by rw [List.getElem?_toArray]; exact rfl) (by kernel_rfl) (by kernel_rfl) (by kernel_rfl) (by intro _ _ _ h; exact h) (Or.inl ⟨by kernel_rfl, ?y82_3⟩) hHeld ?_
                  case y82_3 =>
                    intro w hSw
                    obtain hnm3 := hSw
                    go_simp
                    (try with_reducible rfl)
                  (try simp only [Act.put, List.setIfInBounds_toArray, List.set_cons_zero, List.set_cons_succ])
                  refine wpAnyH_take (i := 8) (oi := _) (v := .agg #[.string nm3, .slice (some ⟨gz0cdb, 0, none⟩) 1 1, .bool bv]) (by rw [List.getElem?_toArray]; exact rfl) (by kernel_rfl) (by kernel_rfl) (by kernel_rfl) (by intro _ _ _ h; exact h) (Or.inl ⟨by kernel_rfl, ?y83_8⟩) hHeld ?_
                  case y83_8 =>
                    intro w hSw
                    clear hSw
                    go_simp
                    (try with_reducible rfl)
                  (try simp only [Act.put, List.setIfInBounds_toArray, List.set_cons_zero, List.set_cons_succ])
                  refine wpAnyH_ready (rs := [10]) (by kernel_rfl) (by simp) ?_
                  refine AllReadyH.cons (o := _) (by rw [List.getElem?_toArray]; exact rfl) (fun K hK => ?_) AllReadyH.nil
                  have q0 := Y9z0cdba.out.cell 0
                  have q1 := Y9z0cdba.out.cell 1
                  have q2 := Y9z0cdba.out.cell 2
                  have f0 := Y9z0cdba.out.frozen 0
                  have f1 := Y9z0cdba.out.frozen 1
                  have f2 := Y9z0cdba.out.frozen 2
                  obtain ⟨Z0, ZR⟩ := Iz0cdba.out.index Y9z0cdba.out Y5z0cdba.out Y0z0cdba.out (by decide) A9.out A5.out nm3 bv
                  rw [if_pos (by kernel_rfl)]
                  go_simp
                  refine hK.out _ _ ((Z0.out.cell k).trans HNM3.out) (fun hHeld => ?_)
                  clear hK K
                  (try simp only [Act.put, List.setIfInBounds_toArray, List.set_cons_zero, List.set_cons_succ])
                  refine wpAnyH_done (by kernel_rfl) ?_ _
                  (try simp only [Exit.then])
                  exact ⟨rfl, gz0cd, gz0cdb, nm3, bv, rfl, HN13.out, ZR⟩
            · rw [if_pos (by kernel_rfl)]
              go_simp
              obtain ⟨gz0d, z0d, Gz0d, Wz0d, Bz0d, Iz0d, Y9z0d, A9⟩ := Iz0.out.laid #[.string ⟨#[]⟩, .slice none 0 0, .bool false] 105
              rw [Wz0d.out, Gz0d.out]
              refine hK.out _ _ trivial (fun hHeld => ?_)
              clear hK K
              (try simp only [Act.put, List.setIfInBounds_toArray, List.set_cons_zero, List.set_cons_succ])
              refine wpAnyH_ready (rs := [0, 5, 7]) (by kernel_rfl) (by simp) ?_
              refine AllReadyH.cons (o := _) (by rw [List.getElem?_toArray]; exact rfl) (fun K hK => ?_) (AllReadyH.cons (o := _) (by rw [List.getElem?_toArray]; exact rfl) (fun K hK => ?_) (AllReadyH.cons (o := _) (by rw [List.getElem?_toArray]; exact rfl) (fun K hK => ?_) AllReadyH.nil))
              · rw [if_pos (by kernel_rfl)]
                go_simp
                obtain ⟨gz0da, z0da, Gz0da, Wz0da, Bz0da, Iz0da, Y0z0da, A0⟩ := Iz0d.out.laid #[.string (⟨#[120]⟩ : ByteArray), .string (⟨#[121]⟩ : ByteArray), .string (⟨#[122]⟩ : ByteArray)] 9
                have Y9z0da := boxB Y9z0d Bz0da
                rw [Wz0da.out, Gz0da.out]
                refine hK.out _ _ trivial (fun hHeld => ?_)
                clear hK K
                (try simp only [Act.put, List.setIfInBounds_toArray, List.set_cons_zero, List.set_cons_succ])
                refine wpAnyH_take (i := 2) (oi := _) (v := .pointer (some ⟨gz0da, k, none⟩)) (by rw [List.getElem?_toArray]; exact rfl) (by kernel_rfl) (by kernel_rfl) (by kernel_rfl) (by intro _ _ _ h; exact h) (Or.inl ⟨by kernel_rfl, ?y84_2⟩) hHeld ?_
                case y84_2 =>
                  intro w hSw
                  clear hSw
                  go_simp
                  (try with_reducible rfl)
                (try simp only [Act.put, List.setIfInBounds_toArray, List.set_cons_zero, List.set_cons_succ])
                refine wpAnyH_strong (S' := fun z => z.cell? ⟨gz0da, k, none⟩ = some (.string nm3)) (fun _ _ => trivial) _ _ _ _ ?_
                have hHeld : z0da.cell? ⟨gz0da, k, none⟩ = some (.string nm3) := (Y0z0da.out.cell k).trans HNM3.out
                refine wpAnyH_take (i := 3) (oi := _) (v := .string nm3) (by rw [List.getElem?_toArray]; exact rfl) (by kernel_rfl) (by kernel_rfl) (by kernel_rfl) (by intro _ _ _ h; exact h) (Or.inl ⟨by kernel_rfl, ?y84_3⟩) hHeld ?_
                case y84_3 =>
                  intro w hSw
                  obtain hnm3 := hSw
                  go_simp
                  (try with_reducible rfl)
                (try simp only [Act.put, List.setIfInBounds_toArray, List.set_cons_zero, List.set_cons_succ])
                refine wpAnyH_ready (rs := [5, 7]) (by kernel_rfl) (by simp) ?_
                refine AllReadyH.cons (o := _) (by rw [List.getElem?_toArray]; exact rfl) (fun K hK => ?_) (AllReadyH.cons (o := _) (by rw [List.getElem?_toArray]; exact rfl) (fun K hK => ?_) AllReadyH.nil)
                · rw [if_pos (by kernel_rfl)]
                  go_simp
                  obtain ⟨gz0dab, z0dab, Gz0dab, Wz0dab, Bz0dab, Iz0dab, Y5z0dab, A5⟩ := Iz0da.out.laid #[.int .i64 av] 3
                  have Y9z0dab := boxB Y9z0da Bz0dab
                  have Y0z0dab := boxB Y0z0da Bz0dab
                  rw [Wz0dab.out, Gz0dab.out]
                  refine hK.out _ _ ((Y0z0dab.out.cell k).trans HNM3.out) (fun hHeld => ?_)
                  clear hK K
                  (try simp only [Act.put, List.setIfInBounds_toArray, List.set_cons_zero, List.set_cons_succ])
                  refine wpAnyH_ready (rs := [7]) (by kernel_rfl) (by simp) ?_
                  refine AllReadyH.cons (o := _) (by rw [List.getElem?_toArray]; exact rfl) (fun K hK => ?_) AllReadyH.nil
                  rw [if_pos (by kernel_rfl)]
                  go_simp
                  refine (l1Once_anyB p a n c 2 (by omega) (by omega) z0dab Iz0dab.out.cur).mono ?_
                  rintro e z0dabc ⟨⟨bv, rfl⟩, hC1, hO1⟩
                  have Iz0dabc : Hid (ScIn w W2 b q p a n c L [0] X v1 (.slice (some ⟨gk, 0, none⟩) 1 1) v3 T1 T2 T3 z0dabc) := Iz0dab.out.only hO1 hC1
                  have Y9z0dabc := boxO Y9z0dab hO1 (by have := A9.out.ge; have := Iz0dab.out.hp; have := Iz0dab.out.hw; omega)
                  have Y0z0dabc := boxO Y0z0dab hO1 (by have := A0.out.ge; have := Iz0dab.out.hp; have := Iz0dab.out.hw; omega)
                  have Y5z0dabc := boxO Y5z0dab hO1 (by have := A5.out.ge; have := Iz0dab.out.hp; have := Iz0dab.out.hw; omega)
                  clear hC1 hO1
                  refine hK.out _ _ ((Y0z0dabc.out.cell k).trans HNM3.out) (fun hHeld => ?_)
                  clear hK K
                  (try simp only [Act.put, List.setIfInBounds_toArray, List.set_cons_zero, List.set_cons_succ])
                  refine wpAnyH_take (i := 8) (oi := _) (v := .agg #[.string nm3, .slice (some ⟨gz0dab, 0, none⟩) 1 1, .bool bv]) (by rw [List.getElem?_toArray]; exact rfl) (by kernel_rfl) (by kernel_rfl) (by kernel_rfl) (by intro _ _ _ h; exact h) (Or.inl ⟨by kernel_rfl, ?y85_8⟩) hHeld ?_
                  case y85_8 =>
                    intro w hSw
                    clear hSw
                    go_simp
                    (try with_reducible rfl)
                  (try simp only [Act.put, List.setIfInBounds_toArray, List.set_cons_zero, List.set_cons_succ])
                  refine wpAnyH_ready (rs := [10]) (by kernel_rfl) (by simp) ?_
                  refine AllReadyH.cons (o := _) (by rw [List.getElem?_toArray]; exact rfl) (fun K hK => ?_) AllReadyH.nil
                  have q0 := Y9z0dabc.out.cell 0
                  have q1 := Y9z0dabc.out.cell 1
                  have q2 := Y9z0dabc.out.cell 2
                  have f0 := Y9z0dabc.out.frozen 0
                  have f1 := Y9z0dabc.out.frozen 1
                  have f2 := Y9z0dabc.out.frozen 2
                  obtain ⟨Z0, ZR⟩ := Iz0dabc.out.index Y9z0dabc.out Y5z0dabc.out Y0z0dabc.out (by decide) A9.out A5.out nm3 bv
                  rw [if_pos (by kernel_rfl)]
                  go_simp
                  refine hK.out _ _ ((Z0.out.cell k).trans HNM3.out) (fun hHeld => ?_)
                  clear hK K
                  (try simp only [Act.put, List.setIfInBounds_toArray, List.set_cons_zero, List.set_cons_succ])
                  refine wpAnyH_done (by kernel_rfl) ?_ _
                  (try simp only [Exit.then])
                  exact ⟨rfl, gz0d, gz0dab, nm3, bv, rfl, HN13.out, ZR⟩
                · rw [if_pos (by kernel_rfl)]
                  go_simp
                  refine (l1Once_anyB p a n c 2 (by omega) (by omega) z0da Iz0da.out.cur).mono ?_
                  rintro e z0dac ⟨⟨bv, rfl⟩, hC1, hO1⟩
                  have Iz0dac : Hid (ScIn w W2 b q p a n c L [0] X v1 (.slice (some ⟨gk, 0, none⟩) 1 1) v3 T1 T2 T3 z0dac) := Iz0da.out.only hO1 hC1
                  have Y9z0dac := boxO Y9z0da hO1 (by have := A9.out.ge; have := Iz0da.out.hp; have := Iz0da.out.hw; omega)
                  have Y0z0dac := boxO Y0z0da hO1 (by have := A0.out.ge; have := Iz0da.out.hp; have := Iz0da.out.hw; omega)
                  clear hC1 hO1
                  refine hK.out _ _ ((Y0z0dac.out.cell k).trans HNM3.out) (fun hHeld => ?_)
                  clear hK K
                  (try simp only [Act.put, List.setIfInBounds_toArray, List.set_cons_zero, List.set_cons_succ])
                  refine wpAnyH_ready (rs := [5]) (by kernel_rfl) (by simp) ?_
                  refine AllReadyH.cons (o := _) (by rw [List.getElem?_toArray]; exact rfl) (fun K hK => ?_) AllReadyH.nil
                  rw [if_pos (by kernel_rfl)]
                  go_simp
                  obtain ⟨gz0dacb, z0dacb, Gz0dacb, Wz0dacb, Bz0dacb, Iz0dacb, Y5z0dacb, A5⟩ := Iz0dac.out.laid #[.int .i64 av] 3
                  have Y9z0dacb := boxB Y9z0dac Bz0dacb
                  have Y0z0dacb := boxB Y0z0dac Bz0dacb
                  rw [Wz0dacb.out, Gz0dacb.out]
                  refine hK.out _ _ ((Y0z0dacb.out.cell k).trans HNM3.out) (fun hHeld => ?_)
                  clear hK K
                  (try simp only [Act.put, List.setIfInBounds_toArray, List.set_cons_zero, List.set_cons_succ])
                  refine wpAnyH_take (i := 8) (oi := _) (v := .agg #[.string nm3, .slice (some ⟨gz0dacb, 0, none⟩) 1 1, .bool bv]) (by rw [List.getElem?_toArray]; exact rfl) (by kernel_rfl) (by kernel_rfl) (by kernel_rfl) (by intro _ _ _ h; exact h) (Or.inl ⟨by kernel_rfl, ?y86_8⟩) hHeld ?_
                  case y86_8 =>
                    intro w hSw
                    clear hSw
                    go_simp
                    (try with_reducible rfl)
                  (try simp only [Act.put, List.setIfInBounds_toArray, List.set_cons_zero, List.set_cons_succ])
                  refine wpAnyH_ready (rs := [10]) (by kernel_rfl) (by simp) ?_
                  refine AllReadyH.cons (o := _) (by rw [List.getElem?_toArray]; exact rfl) (fun K hK => ?_) AllReadyH.nil
                  have q0 := Y9z0dacb.out.cell 0
                  have q1 := Y9z0dacb.out.cell 1
                  have q2 := Y9z0dacb.out.cell 2
                  have f0 := Y9z0dacb.out.frozen 0
                  have f1 := Y9z0dacb.out.frozen 1
                  have f2 := Y9z0dacb.out.frozen 2
                  obtain ⟨Z0, ZR⟩ := Iz0dacb.out.index Y9z0dacb.out Y5z0dacb.out Y0z0dacb.out (by decide) A9.out A5.out nm3 bv
                  rw [if_pos (by kernel_rfl)]
                  go_simp
                  refine hK.out _ _ ((Z0.out.cell k).trans HNM3.out) (fun hHeld => ?_)
                  clear hK K
                  (try simp only [Act.put, List.setIfInBounds_toArray, List.set_cons_zero, List.set_cons_succ])
                  refine wpAnyH_done (by kernel_rfl) ?_ _
                  (try simp only [Exit.then])
                  exact ⟨rfl, gz0d, gz0dacb, nm3, bv, rfl, HN13.out, ZR⟩
              · rw [if_pos (by kernel_rfl)]
                go_simp
                obtain ⟨gz0db, z0db, Gz0db, Wz0db, Bz0db, Iz0db, Y5z0db, A5⟩ := Iz0d.out.laid #[.int .i64 av] 3
                have Y9z0db := boxB Y9z0d Bz0db
                rw [Wz0db.out, Gz0db.out]
                refine hK.out _ _ trivial (fun hHeld => ?_)
                clear hK K
                (try simp only [Act.put, List.setIfInBounds_toArray, List.set_cons_zero, List.set_cons_succ])
                refine wpAnyH_ready (rs := [0, 7]) (by kernel_rfl) (by simp) ?_
                refine AllReadyH.cons (o := _) (by rw [List.getElem?_toArray]; exact rfl) (fun K hK => ?_) (AllReadyH.cons (o := _) (by rw [List.getElem?_toArray]; exact rfl) (fun K hK => ?_) AllReadyH.nil)
                · rw [if_pos (by kernel_rfl)]
                  go_simp
                  obtain ⟨gz0dba, z0dba, Gz0dba, Wz0dba, Bz0dba, Iz0dba, Y0z0dba, A0⟩ := Iz0db.out.laid #[.string (⟨#[120]⟩ : ByteArray), .string (⟨#[121]⟩ : ByteArray), .string (⟨#[122]⟩ : ByteArray)] 9
                  have Y9z0dba := boxB Y9z0db Bz0dba
                  have Y5z0dba := boxB Y5z0db Bz0dba
                  rw [Wz0dba.out, Gz0dba.out]
                  refine hK.out _ _ trivial (fun hHeld => ?_)
                  clear hK K
                  (try simp only [Act.put, List.setIfInBounds_toArray, List.set_cons_zero, List.set_cons_succ])
                  refine wpAnyH_take (i := 2) (oi := _) (v := .pointer (some ⟨gz0dba, k, none⟩)) (by rw [List.getElem?_toArray]; exact rfl) (by kernel_rfl) (by kernel_rfl) (by kernel_rfl) (by intro _ _ _ h; exact h) (Or.inl ⟨by kernel_rfl, ?y87_2⟩) hHeld ?_
                  case y87_2 =>
                    intro w hSw
                    clear hSw
                    go_simp
                    (try with_reducible rfl)
                  (try simp only [Act.put, List.setIfInBounds_toArray, List.set_cons_zero, List.set_cons_succ])
                  refine wpAnyH_strong (S' := fun z => z.cell? ⟨gz0dba, k, none⟩ = some (.string nm3)) (fun _ _ => trivial) _ _ _ _ ?_
                  have hHeld : z0dba.cell? ⟨gz0dba, k, none⟩ = some (.string nm3) := (Y0z0dba.out.cell k).trans HNM3.out
                  refine wpAnyH_take (i := 3) (oi := _) (v := .string nm3) (by rw [List.getElem?_toArray]; exact rfl) (by kernel_rfl) (by kernel_rfl) (by kernel_rfl) (by intro _ _ _ h; exact h) (Or.inl ⟨by kernel_rfl, ?y87_3⟩) hHeld ?_
                  case y87_3 =>
                    intro w hSw
                    obtain hnm3 := hSw
                    go_simp
                    (try with_reducible rfl)
                  (try simp only [Act.put, List.setIfInBounds_toArray, List.set_cons_zero, List.set_cons_succ])
                  refine wpAnyH_ready (rs := [7]) (by kernel_rfl) (by simp) ?_
                  refine AllReadyH.cons (o := _) (by rw [List.getElem?_toArray]; exact rfl) (fun K hK => ?_) AllReadyH.nil
                  rw [if_pos (by kernel_rfl)]
                  go_simp
                  refine (l1Once_anyB p a n c 2 (by omega) (by omega) z0dba Iz0dba.out.cur).mono ?_
                  rintro e z0dbac ⟨⟨bv, rfl⟩, hC1, hO1⟩
                  have Iz0dbac : Hid (ScIn w W2 b q p a n c L [0] X v1 (.slice (some ⟨gk, 0, none⟩) 1 1) v3 T1 T2 T3 z0dbac) := Iz0dba.out.only hO1 hC1
                  have Y9z0dbac := boxO Y9z0dba hO1 (by have := A9.out.ge; have := Iz0dba.out.hp; have := Iz0dba.out.hw; omega)
                  have Y5z0dbac := boxO Y5z0dba hO1 (by have := A5.out.ge; have := Iz0dba.out.hp; have := Iz0dba.out.hw; omega)
                  have Y0z0dbac := boxO Y0z0dba hO1 (by have := A0.out.ge; have := Iz0dba.out.hp; have := Iz0dba.out.hw; omega)
                  clear hC1 hO1
                  refine hK.out _ _ ((Y0z0dbac.out.cell k).trans HNM3.out) (fun hHeld => ?_)
                  clear hK K
                  (try simp only [Act.put, List.setIfInBounds_toArray, List.set_cons_zero, List.set_cons_succ])
                  refine wpAnyH_take (i := 8) (oi := _) (v := .agg #[.string nm3, .slice (some ⟨gz0db, 0, none⟩) 1 1, .bool bv]) (by rw [List.getElem?_toArray]; exact rfl) (by kernel_rfl) (by kernel_rfl) (by kernel_rfl) (by intro _ _ _ h; exact h) (Or.inl ⟨by kernel_rfl, ?y88_8⟩) hHeld ?_
                  case y88_8 =>
                    intro w hSw
                    clear hSw
                    go_simp
                    (try with_reducible rfl)
                  (try simp only [Act.put, List.setIfInBounds_toArray, List.set_cons_zero, List.set_cons_succ])
                  refine wpAnyH_ready (rs := [10]) (by kernel_rfl) (by simp) ?_
                  refine AllReadyH.cons (o := _) (by rw [List.getElem?_toArray]; exact rfl) (fun K hK => ?_) AllReadyH.nil
                  have q0 := Y9z0dbac.out.cell 0
                  have q1 := Y9z0dbac.out.cell 1
                  have q2 := Y9z0dbac.out.cell 2
                  have f0 := Y9z0dbac.out.frozen 0
                  have f1 := Y9z0dbac.out.frozen 1
                  have f2 := Y9z0dbac.out.frozen 2
                  obtain ⟨Z0, ZR⟩ := Iz0dbac.out.index Y9z0dbac.out Y5z0dbac.out Y0z0dbac.out (by decide) A9.out A5.out nm3 bv
                  rw [if_pos (by kernel_rfl)]
                  go_simp
                  refine hK.out _ _ ((Z0.out.cell k).trans HNM3.out) (fun hHeld => ?_)
                  clear hK K
                  (try simp only [Act.put, List.setIfInBounds_toArray, List.set_cons_zero, List.set_cons_succ])
                  refine wpAnyH_done (by kernel_rfl) ?_ _
                  (try simp only [Exit.then])
                  exact ⟨rfl, gz0d, gz0db, nm3, bv, rfl, HN13.out, ZR⟩
                · rw [if_pos (by kernel_rfl)]
                  go_simp
                  refine (l1Once_anyB p a n c 2 (by omega) (by omega) z0db Iz0db.out.cur).mono ?_
                  rintro e z0dbc ⟨⟨bv, rfl⟩, hC1, hO1⟩
                  have Iz0dbc : Hid (ScIn w W2 b q p a n c L [0] X v1 (.slice (some ⟨gk, 0, none⟩) 1 1) v3 T1 T2 T3 z0dbc) := Iz0db.out.only hO1 hC1
                  have Y9z0dbc := boxO Y9z0db hO1 (by have := A9.out.ge; have := Iz0db.out.hp; have := Iz0db.out.hw; omega)
                  have Y5z0dbc := boxO Y5z0db hO1 (by have := A5.out.ge; have := Iz0db.out.hp; have := Iz0db.out.hw; omega)
                  clear hC1 hO1
                  refine hK.out _ _ trivial (fun hHeld => ?_)
                  clear hK K
                  (try simp only [Act.put, List.setIfInBounds_toArray, List.set_cons_zero, List.set_cons_succ])
                  refine wpAnyH_ready (rs := [0]) (by kernel_rfl) (by simp) ?_
                  refine AllReadyH.cons (o := _) (by rw [List.getElem?_toArray]; exact rfl) (fun K hK => ?_) AllReadyH.nil
                  rw [if_pos (by kernel_rfl)]
                  go_simp
                  obtain ⟨gz0dbca, z0dbca, Gz0dbca, Wz0dbca, Bz0dbca, Iz0dbca, Y0z0dbca, A0⟩ := Iz0dbc.out.laid #[.string (⟨#[120]⟩ : ByteArray), .string (⟨#[121]⟩ : ByteArray), .string (⟨#[122]⟩ : ByteArray)] 9
                  have Y9z0dbca := boxB Y9z0dbc Bz0dbca
                  have Y5z0dbca := boxB Y5z0dbc Bz0dbca
                  rw [Wz0dbca.out, Gz0dbca.out]
                  refine hK.out _ _ trivial (fun hHeld => ?_)
                  clear hK K
                  (try simp only [Act.put, List.setIfInBounds_toArray, List.set_cons_zero, List.set_cons_succ])
                  refine wpAnyH_take (i := 2) (oi := _) (v := .pointer (some ⟨gz0dbca, k, none⟩)) (by rw [List.getElem?_toArray]; exact rfl) (by kernel_rfl) (by kernel_rfl) (by kernel_rfl) (by intro _ _ _ h; exact h) (Or.inl ⟨by kernel_rfl, ?y89_2⟩) hHeld ?_
                  case y89_2 =>
                    intro w hSw
                    clear hSw
                    go_simp
                    (try with_reducible rfl)
                  (try simp only [Act.put, List.setIfInBounds_toArray, List.set_cons_zero, List.set_cons_succ])
                  refine wpAnyH_strong (S' := fun z => z.cell? ⟨gz0dbca, k, none⟩ = some (.string nm3)) (fun _ _ => trivial) _ _ _ _ ?_
                  have hHeld : z0dbca.cell? ⟨gz0dbca, k, none⟩ = some (.string nm3) := (Y0z0dbca.out.cell k).trans HNM3.out
                  refine wpAnyH_take (i := 3) (oi := _) (v := .string nm3) (by rw [List.getElem?_toArray]; exact rfl) (by kernel_rfl) (by kernel_rfl) (by kernel_rfl) (by intro _ _ _ h; exact h) (Or.inl ⟨by kernel_rfl, ?y89_3⟩) hHeld ?_
                  case y89_3 =>
                    intro w hSw
                    obtain hnm3 := hSw
                    go_simp
                    (try with_reducible rfl)
                  (try simp only [Act.put, List.setIfInBounds_toArray, List.set_cons_zero, List.set_cons_succ])
                  refine wpAnyH_take (i := 8) (oi := _) (v := .agg #[.string nm3, .slice (some ⟨gz0db, 0, none⟩) 1 1, .bool bv]) (by rw [List.getElem?_toArray]; exact rfl) (by kernel_rfl) (by kernel_rfl) (by kernel_rfl) (by intro _ _ _ h; exact h) (Or.inl ⟨by kernel_rfl, ?y90_8⟩) hHeld ?_
                  case y90_8 =>
                    intro w hSw
                    clear hSw
                    go_simp
                    (try with_reducible rfl)
                  (try simp only [Act.put, List.setIfInBounds_toArray, List.set_cons_zero, List.set_cons_succ])
                  refine wpAnyH_ready (rs := [10]) (by kernel_rfl) (by simp) ?_
                  refine AllReadyH.cons (o := _) (by rw [List.getElem?_toArray]; exact rfl) (fun K hK => ?_) AllReadyH.nil
                  have q0 := Y9z0dbca.out.cell 0
                  have q1 := Y9z0dbca.out.cell 1
                  have q2 := Y9z0dbca.out.cell 2
                  have f0 := Y9z0dbca.out.frozen 0
                  have f1 := Y9z0dbca.out.frozen 1
                  have f2 := Y9z0dbca.out.frozen 2
                  obtain ⟨Z0, ZR⟩ := Iz0dbca.out.index Y9z0dbca.out Y5z0dbca.out Y0z0dbca.out (by decide) A9.out A5.out nm3 bv
                  rw [if_pos (by kernel_rfl)]
                  go_simp
                  refine hK.out _ _ ((Z0.out.cell k).trans HNM3.out) (fun hHeld => ?_)
                  clear hK K
                  (try simp only [Act.put, List.setIfInBounds_toArray, List.set_cons_zero, List.set_cons_succ])
                  refine wpAnyH_done (by kernel_rfl) ?_ _
                  (try simp only [Exit.then])
                  exact ⟨rfl, gz0d, gz0db, nm3, bv, rfl, HN13.out, ZR⟩
              · rw [if_pos (by kernel_rfl)]
                go_simp
                refine (l1Once_anyB p a n c 2 (by omega) (by omega) z0d Iz0d.out.cur).mono ?_
                rintro e z0dc ⟨⟨bv, rfl⟩, hC1, hO1⟩
                have Iz0dc : Hid (ScIn w W2 b q p a n c L [0] X v1 (.slice (some ⟨gk, 0, none⟩) 1 1) v3 T1 T2 T3 z0dc) := Iz0d.out.only hO1 hC1
                have Y9z0dc := boxO Y9z0d hO1 (by have := A9.out.ge; have := Iz0d.out.hp; have := Iz0d.out.hw; omega)
                clear hC1 hO1
                refine hK.out _ _ trivial (fun hHeld => ?_)
                clear hK K
                (try simp only [Act.put, List.setIfInBounds_toArray, List.set_cons_zero, List.set_cons_succ])
                refine wpAnyH_ready (rs := [0, 5]) (by kernel_rfl) (by simp) ?_
                refine AllReadyH.cons (o := _) (by rw [List.getElem?_toArray]; exact rfl) (fun K hK => ?_) (AllReadyH.cons (o := _) (by rw [List.getElem?_toArray]; exact rfl) (fun K hK => ?_) AllReadyH.nil)
                · rw [if_pos (by kernel_rfl)]
                  go_simp
                  obtain ⟨gz0dca, z0dca, Gz0dca, Wz0dca, Bz0dca, Iz0dca, Y0z0dca, A0⟩ := Iz0dc.out.laid #[.string (⟨#[120]⟩ : ByteArray), .string (⟨#[121]⟩ : ByteArray), .string (⟨#[122]⟩ : ByteArray)] 9
                  have Y9z0dca := boxB Y9z0dc Bz0dca
                  rw [Wz0dca.out, Gz0dca.out]
                  refine hK.out _ _ trivial (fun hHeld => ?_)
                  clear hK K
                  (try simp only [Act.put, List.setIfInBounds_toArray, List.set_cons_zero, List.set_cons_succ])
                  refine wpAnyH_take (i := 2) (oi := _) (v := .pointer (some ⟨gz0dca, k, none⟩)) (by rw [List.getElem?_toArray]; exact rfl) (by kernel_rfl) (by kernel_rfl) (by kernel_rfl) (by intro _ _ _ h; exact h) (Or.inl ⟨by kernel_rfl, ?y91_2⟩) hHeld ?_
                  case y91_2 =>
                    intro w hSw
                    clear hSw
                    go_simp
                    (try with_reducible rfl)
                  (try simp only [Act.put, List.setIfInBounds_toArray, List.set_cons_zero, List.set_cons_succ])
                  refine wpAnyH_strong (S' := fun z => z.cell? ⟨gz0dca, k, none⟩ = some (.string nm3)) (fun _ _ => trivial) _ _ _ _ ?_
                  have hHeld : z0dca.cell? ⟨gz0dca, k, none⟩ = some (.string nm3) := (Y0z0dca.out.cell k).trans HNM3.out
                  refine wpAnyH_take (i := 3) (oi := _) (v := .string nm3) (by rw [List.getElem?_toArray]; exact rfl) (by kernel_rfl) (by kernel_rfl) (by kernel_rfl) (by intro _ _ _ h; exact h) (Or.inl ⟨by kernel_rfl, ?y91_3⟩) hHeld ?_
                  case y91_3 =>
                    intro w hSw
                    obtain hnm3 := hSw
                    go_simp
                    (try with_reducible rfl)
                  (try simp only [Act.put, List.setIfInBounds_toArray, List.set_cons_zero, List.set_cons_succ])
                  refine wpAnyH_ready (rs := [5]) (by kernel_rfl) (by simp) ?_
                  refine AllReadyH.cons (o := _) (by rw [List.getElem?_toArray]; exact rfl) (fun K hK => ?_) AllReadyH.nil
                  rw [if_pos (by kernel_rfl)]
                  go_simp
                  obtain ⟨gz0dcab, z0dcab, Gz0dcab, Wz0dcab, Bz0dcab, Iz0dcab, Y5z0dcab, A5⟩ := Iz0dca.out.laid #[.int .i64 av] 3
                  have Y9z0dcab := boxB Y9z0dca Bz0dcab
                  have Y0z0dcab := boxB Y0z0dca Bz0dcab
                  rw [Wz0dcab.out, Gz0dcab.out]
                  refine hK.out _ _ ((Y0z0dcab.out.cell k).trans HNM3.out) (fun hHeld => ?_)
                  clear hK K
                  (try simp only [Act.put, List.setIfInBounds_toArray, List.set_cons_zero, List.set_cons_succ])
                  refine wpAnyH_take (i := 8) (oi := _) (v := .agg #[.string nm3, .slice (some ⟨gz0dcab, 0, none⟩) 1 1, .bool bv]) (by rw [List.getElem?_toArray]; exact rfl) (by kernel_rfl) (by kernel_rfl) (by kernel_rfl) (by intro _ _ _ h; exact h) (Or.inl ⟨by kernel_rfl, ?y92_8⟩) hHeld ?_
                  case y92_8 =>
                    intro w hSw
                    clear hSw
                    go_simp
                    (try with_reducible rfl)
                  (try simp only [Act.put, List.setIfInBounds_toArray, List.set_cons_zero, List.set_cons_succ])
                  refine wpAnyH_ready (rs := [10]) (by kernel_rfl) (by simp) ?_
                  refine AllReadyH.cons (o := _) (by rw [List.getElem?_toArray]; exact rfl) (fun K hK => ?_) AllReadyH.nil
                  have q0 := Y9z0dcab.out.cell 0
                  have q1 := Y9z0dcab.out.cell 1
                  have q2 := Y9z0dcab.out.cell 2
                  have f0 := Y9z0dcab.out.frozen 0
                  have f1 := Y9z0dcab.out.frozen 1
                  have f2 := Y9z0dcab.out.frozen 2
                  obtain ⟨Z0, ZR⟩ := Iz0dcab.out.index Y9z0dcab.out Y5z0dcab.out Y0z0dcab.out (by decide) A9.out A5.out nm3 bv
                  rw [if_pos (by kernel_rfl)]
                  go_simp
                  refine hK.out _ _ ((Z0.out.cell k).trans HNM3.out) (fun hHeld => ?_)
                  clear hK K
                  (try simp only [Act.put, List.setIfInBounds_toArray, List.set_cons_zero, List.set_cons_succ])
                  refine wpAnyH_done (by kernel_rfl) ?_ _
                  (try simp only [Exit.then])
                  exact ⟨rfl, gz0d, gz0dcab, nm3, bv, rfl, HN13.out, ZR⟩
                · rw [if_pos (by kernel_rfl)]
                  go_simp
                  obtain ⟨gz0dcb, z0dcb, Gz0dcb, Wz0dcb, Bz0dcb, Iz0dcb, Y5z0dcb, A5⟩ := Iz0dc.out.laid #[.int .i64 av] 3
                  have Y9z0dcb := boxB Y9z0dc Bz0dcb
                  rw [Wz0dcb.out, Gz0dcb.out]
                  refine hK.out _ _ trivial (fun hHeld => ?_)
                  clear hK K
                  (try simp only [Act.put, List.setIfInBounds_toArray, List.set_cons_zero, List.set_cons_succ])
                  refine wpAnyH_ready (rs := [0]) (by kernel_rfl) (by simp) ?_
                  refine AllReadyH.cons (o := _) (by rw [List.getElem?_toArray]; exact rfl) (fun K hK => ?_) AllReadyH.nil
                  rw [if_pos (by kernel_rfl)]
                  go_simp
                  obtain ⟨gz0dcba, z0dcba, Gz0dcba, Wz0dcba, Bz0dcba, Iz0dcba, Y0z0dcba, A0⟩ := Iz0dcb.out.laid #[.string (⟨#[120]⟩ : ByteArray), .string (⟨#[121]⟩ : ByteArray), .string (⟨#[122]⟩ : ByteArray)] 9
                  have Y9z0dcba := boxB Y9z0dcb Bz0dcba
                  have Y5z0dcba := boxB Y5z0dcb Bz0dcba
                  rw [Wz0dcba.out, Gz0dcba.out]
                  refine hK.out _ _ trivial (fun hHeld => ?_)
                  clear hK K
                  (try simp only [Act.put, List.setIfInBounds_toArray, List.set_cons_zero, List.set_cons_succ])
                  refine wpAnyH_take (i := 2) (oi := _) (v := .pointer (some ⟨gz0dcba, k, none⟩)) (by rw [List.getElem?_toArray]; exact rfl) (by kernel_rfl) (by kernel_rfl) (by kernel_rfl) (by intro _ _ _ h; exact h) (Or.inl ⟨by kernel_rfl, ?y93_2⟩) hHeld ?_
                  case y93_2 =>
                    intro w hSw
                    clear hSw
                    go_simp
                    (try with_reducible rfl)
                  (try simp only [Act.put, List.setIfInBounds_toArray, List.set_cons_zero, List.set_cons_succ])
                  refine wpAnyH_strong (S' := fun z => z.cell? ⟨gz0dcba, k, none⟩ = some (.string nm3)) (fun _ _ => trivial) _ _ _ _ ?_
                  have hHeld : z0dcba.cell? ⟨gz0dcba, k, none⟩ = some (.string nm3) := (Y0z0dcba.out.cell k).trans HNM3.out
                  refine wpAnyH_take (i := 3) (oi := _) (v := .string nm3) (by rw [List.getElem?_toArray]; exact rfl) (by kernel_rfl) (by kernel_rfl) (by kernel_rfl) (by intro _ _ _ h; exact h) (Or.inl ⟨by kernel_rfl, ?y93_3⟩) hHeld ?_
                  case y93_3 =>
                    intro w hSw
                    obtain hnm3 := hSw
                    go_simp
                    (try with_reducible rfl)
                  (try simp only [Act.put, List.setIfInBounds_toArray, List.set_cons_zero, List.set_cons_succ])
                  refine wpAnyH_take (i := 8) (oi := _) (v := .agg #[.string nm3, .slice (some ⟨gz0dcb, 0, none⟩) 1 1, .bool bv]) (by rw [List.getElem?_toArray]; exact rfl) (by kernel_rfl) (by kernel_rfl) (by kernel_rfl) (by intro _ _ _ h; exact h) (Or.inl ⟨by kernel_rfl, ?y94_8⟩) hHeld ?_
                  case y94_8 =>
                    intro w hSw
                    clear hSw
                    go_simp
                    (try with_reducible rfl)
                  (try simp only [Act.put, List.setIfInBounds_toArray, List.set_cons_zero, List.set_cons_succ])
                  refine wpAnyH_ready (rs := [10]) (by kernel_rfl) (by simp) ?_
                  refine AllReadyH.cons (o := _) (by rw [List.getElem?_toArray]; exact rfl) (fun K hK => ?_) AllReadyH.nil
                  have q0 := Y9z0dcba.out.cell 0
                  have q1 := Y9z0dcba.out.cell 1
                  have q2 := Y9z0dcba.out.cell 2
                  have f0 := Y9z0dcba.out.frozen 0
                  have f1 := Y9z0dcba.out.frozen 1
                  have f2 := Y9z0dcba.out.frozen 2
                  obtain ⟨Z0, ZR⟩ := Iz0dcba.out.index Y9z0dcba.out Y5z0dcba.out Y0z0dcba.out (by decide) A9.out A5.out nm3 bv
                  rw [if_pos (by kernel_rfl)]
                  go_simp
                  refine hK.out _ _ ((Z0.out.cell k).trans HNM3.out) (fun hHeld => ?_)
                  clear hK K
                  (try simp only [Act.put, List.setIfInBounds_toArray, List.set_cons_zero, List.set_cons_succ])
                  refine wpAnyH_done (by kernel_rfl) ?_ _
                  (try simp only [Exit.then])
                  exact ⟨rfl, gz0d, gz0dcb, nm3, bv, rfl, HN13.out, ZR⟩
          · rintro a9 z9 ⟨ha, gx, gl, nm, bv, h9, hns, hbx, hol, hI, hax, hal, hne⟩
            obtain ⟨us, rfl⟩ : ∃ us : Nat → Value, a9 = ⟨#[.pointer (some ⟨p, 0, none⟩), undef, .pointer (some ⟨g, 0, none⟩), .pointer (some ⟨q, 0, none⟩), .slice (some ⟨nb, 0, none⟩) 4 4, .int .i64 (j : Int), .int .i64 (j : Int), .int .i64 (k : Int), .int .i64 av, us 9, .agg #[.slice none 0 0, .slice none 0 0, .slice none 0 0], .slice (some ⟨nb, 0, none⟩) 4 4, .pointer (some ⟨p, 0, none⟩), .int .i64 (x : Int), .int .i64 (j : Int), .int .i64 (j : Int), .int .i64 (j : Int), .bool false, u18, u19, u20, u21, u22, u23, u24, u25, u26, u27, u28, u29, u30, u31, u32, u33, u34, u35, u36, u37, u38, (.slice (some ⟨gk, 0, none⟩) 1 1), .pointer (some ⟨q, 1, none⟩), us 41, us 42, us 43, us 44, us 45, us 46, us 47, us 48, us 49, us 50, us 51, us 52, us 53, us 54, us 55, us 56, us 57, us 58, us 59, us 60, us 61, us 62, us 63, us 64, us 65, us 66, us 67, us 68, us 69, us 70, us 71, us 72, us 73, us 74, us 75, us 76, us 77, undef, undef, undef, undef, undef, undef, undef, undef], []⟩ := ⟨fun i => a9.tmps.getD i undef, ha⟩
            have e9 : us 9 = .pointer (some ⟨gx, 0, none⟩) := h9
            rw [e9]
            have HNS : Hid (nm.size ≤ 13) := hns
            have I9 : Hid (ScIn w W2 b q p a n c L [0] X v1 (.slice (some ⟨gk, 0, none⟩) 1 1) v3 T1 T2 T3 z9) := hI
            have XB : Hid (Box z9 gx #[.string nm, .slice (some ⟨gl, 0, none⟩) 1 1, .bool bv] 105) := hbx
            have XO : Hid (IOwn z9 b (.slice (some ⟨gl, 0, none⟩) 1 1) [av]) := hol
            have AX : Hid (Apart b q T1 T2 T3 gx) := hax
            have AL : Hid (Apart b q T1 T2 T3 gl) := hal
            have HNE : Hid (gx ≠ gl) := hne
            clear ha h9 e9 hns hbx hol hI hax hal hne
            go_wp2_with fail
            refine (l1Once_anyB p a n c 2 (by omega) (by omega) z9 I9.out.cur).mono ?_
            rintro e z10 ⟨⟨b10, rfl⟩, hC1, hO1⟩
            have HPB : Hid (p < b) := by have := I9.out.hp; have := I9.out.hw; show _ < _; omega
            have I10 : Hid (ScIn w W2 b q p a n c L [0] X v1 (.slice (some ⟨gk, 0, none⟩) 1 1) v3 T1 T2 T3 z10) := I9.out.only hO1 hC1
            have X10 : Hid (Box z10 gx #[.string nm, .slice (some ⟨gl, 0, none⟩) 1 1, .bool bv] 105) := XB.out.only hO1 (by have := AX.out.ge; have := HPB.out; omega)
            have O10 : Hid (IOwn z10 b (.slice (some ⟨gl, 0, none⟩) 1 1) [av]) := own_only XO.out (far_only hO1) HPB.out
            obtain ⟨TL, hTL⟩ : ∃ T : Nat → Prop, (fun x => (Value.slice (some ⟨gl, 0, none⟩) 1 1).ownBlock = some x) = T := ⟨_, rfl⟩
            have U10 : Hid (Own z10 b (.slice (some ⟨gl, 0, none⟩) 1 1) (.l 3 1 1 (iE [av])) TL) := by rw [← hTL]; exact own_intsE O10.out (by simp)
            have HSU : Hid (∀ x, TL x → Apart b q T1 T2 T3 x ∧ x ≠ gx) := fun x e => by
              rw [← hTL] at e
              have e1 : gl = x := Option.some.inj e
              rw [← e1]
              exact ⟨AL.out, fun e => HNE.out e.symm⟩
            clear hC1 hO1 hTL
            cases b10
            case false =>
              obtain ⟨gy, hgy⟩ : ∃ g, z10.heap.size = g := ⟨_, rfl⟩
              obtain ⟨Zy, hZy⟩ : ∃ W, z10.alloc (.cells #[.string nm, .slice (some ⟨gl, 0, none⟩) 1 1, .bool bv] 105) = W := ⟨_, rfl⟩
              have HGY : Hid (z10.heap.size = gy) := hgy
              have HZY : Hid (z10.alloc (.cells #[.string nm, .slice (some ⟨gl, 0, none⟩) 1 1, .bool bv] 105) = Zy) := hZy
              have BY : Hid (Below z10.heap.size z10 Zy) := by rw [← hZy]; exact (Below.refl _ _).alloc (Nat.le_refl _) _
              have IY : Hid (ScIn w W2 b q p a n c L [0] X v1 (.slice (some ⟨gk, 0, none⟩) 1 1) v3 T1 T2 T3 Zy) := I10.out.below BY.out
              have XY : Box Zy gy #[.string nm, .slice (some ⟨gl, 0, none⟩) 1 1, .bool bv] 105 := by rw [← hZy, ← hgy]; exact box_of z10 _ _
              have N0 : Hid (Zy.cell? ((⟨gy, 0, none⟩ : Addr).add 0) = some (.string nm)) := by rw [add_plain]; exact XY.cell 0
              have N1 : Hid (Zy.cell? ((⟨gy, 0, none⟩ : Addr).add 1) = some (.slice (some ⟨gl, 0, none⟩) 1 1)) := by rw [add_plain]; exact XY.cell 1
              have N2 : Hid (Zy.cell? ((⟨gy, 0, none⟩ : Addr).add 2) = some (.bool bv)) := by rw [add_plain]; exact XY.cell 2
              have UY : Hid (Own Zy b (.slice (some ⟨gl, 0, none⟩) 1 1) (.l 3 1 ([av] : List Int).length (iE [av])) TL) := U10.out.on BY.out (Nat.le_refl _)
              have c2 : z10.cell? ⟨q, 2, none⟩ = some v3 := I10.out.box.cell 2
              have x0 := X10.out.cell 0
              have x1 := X10.out.cell 1
              have x2 := X10.out.cell 2
              clear hgy hZy XY
              go_wp2_with
                (at_builtin
                 rw [HZY.out, HGY.out]
                 refine list_appIx Zy rfl _ _ rfl b v3 X.length (idsE X) T3 rfl IY.out.o3 ⟨gy, 0, none⟩ 1 rfl nm (.slice (some ⟨gl, 0, none⟩) 1 1) bv [av] TL N0.out N1.out N2.out UY.out (fun x h => (HSU.out x h).1.n3) rfl (by have := HLK.out; have := HK1.out; omega) IY.out.hs ?_
                 intro vv w16 T' hown hT hgrow
                 obtain ⟨va, vc, rfl, -⟩ := hown.slice
                 have XQ : Hid (Box w16 q #[v1, (.slice (some ⟨gk, 0, none⟩) 1 1), v3] 28) := IY.out.boxG hgrow (own_inT IY.out.o3) IY.out.n3
                 have I17 : Hid (ScIn w W2 b q p a n c L [0] (X ++ [(nm, [av], bv)]) v1 (.slice (some ⟨gk, 0, none⟩) 1 1) (.slice va (X.length + 1) vc) T1 T2 T' (w16.setCell ⟨q, 2, none⟩ (.slice va (X.length + 1) vc))) := IY.out.put3 hgrow (own_inT IY.out.o3) (by rw [List.length_append, idsE_app]; exact hown) (fun x hx => (hT x hx).elim .inl (fun h => .inr (h.elim (fun h => (HSU.out x h).1) (fun h => IY.out.fresh (Nat.le_of_eq h.symm)))))
                 have q2 := XQ.out.cell 2
                 have f2 := XQ.out.frozen 2
                 clear hown hT hgrow c2 x0 x1 x2)
              exact ⟨⟨k + 1, X ++ [(nm, [av], bv)], _, T', by have := HK1.out; omega, by go_num, by rw [List.length_append]; show X.length + 1 = k + 1; have := HLK.out; omega, (fun x hx => (List.mem_append.1 hx).elim (HSX.out x) (fun h1 => by rw [List.mem_singleton.1 h1]; exact ⟨HNS.out, by simp⟩)), I17.out⟩, by have := HK1.out; simp [RowKit.intOf]; omega⟩
            case true =>
              have hjn : ¬ (j = 0) := by have := HN.out; omega
              have hj0 : (0 : Int) ≤ (j : Int) := by omega
              go_upto_region 15 with (fail)
              have Iz0 : Hid (ScIn w W2 b q p a n c L [0] X v1 (.slice (some ⟨gk, 0, none⟩) 1 1) v3 T1 T2 T3 z10.drew) := I10.out.drew
              have Xz0 : Hid (Box z10.drew gx #[.string nm, .slice (some ⟨gl, 0, none⟩) 1 1, .bool bv] 105) := X10.out
              have Uz0 : Hid (Own z10.drew b (.slice (some ⟨gl, 0, none⟩) 1 1) (.l 3 1 1 (iE [av])) TL) := U10.out.on (Below.refl _ _).drew (Nat.le_refl _)
              obtain ⟨z0, hz0⟩ : ∃ z, z10.drew = z := ⟨_, rfl⟩
              have HZ0 : Hid (z10.drew = z0) := hz0
              rw [hz0] at Iz0 Xz0 Uz0
              clear hz0
              have xqz0 : z0.cell? ⟨gx, 1, none⟩ = some (.slice (some ⟨gl, 0, none⟩) 1 1) := Xz0.out.cell 1
              refine wp_region_held_drew (S := fun _ => True) (by kernel_rfl) trivial (fun hHeld => ?_)
              rw [HZ0.out]
              refine wpAnyH_take (i := 0) (oi := _) (v := .pointer (some ⟨gx, 1, none⟩)) (by rw [List.getElem?_toArray]; exact rfl) (by kernel_rfl) (by kernel_rfl) (by kernel_rfl) (by intro _ _ _ h; exact h) (Or.inl ⟨by kernel_rfl, ?y96_0⟩) hHeld ?_
              case y96_0 =>
                intro w hSw
                clear hSw
                go_simp
                (try with_reducible rfl)
              (try simp only [Act.put, List.setIfInBounds_toArray, List.set_cons_zero, List.set_cons_succ])
              refine wpAnyH_take (i := 2) (oi := _) (v := .int .i64 av) (by rw [List.getElem?_toArray]; exact rfl) (by kernel_rfl) (by kernel_rfl) (by kernel_rfl) (by intro _ _ _ h; exact h) (Or.inl ⟨by kernel_rfl, ?y97_2⟩) hHeld ?_
              case y97_2 =>
                intro w hSw
                clear hSw
                go_simp
                (try with_reducible rfl)
              (try simp only [Act.put, List.setIfInBounds_toArray, List.set_cons_zero, List.set_cons_succ])
              refine wpAnyH_take (i := 4) (oi := _) (v := .int .i64 (j : Int)) (by rw [List.getElem?_toArray]; exact rfl) (by kernel_rfl) (by kernel_rfl) (by kernel_rfl) (by intro _ _ _ h; exact h) (Or.inl ⟨by kernel_rfl, ?y98_4⟩) hHeld ?_
              case y98_4 =>
                intro w hSw
                clear hSw
                go_simp
                (try with_reducible rfl)
              (try simp only [Act.put, List.setIfInBounds_toArray, List.set_cons_zero, List.set_cons_succ])
              refine wpAnyH_take (i := 3) (oi := _) (v := .int .i64 (IntKind.i64.wrap (av + 1))) (by rw [List.getElem?_toArray]; exact rfl) (by kernel_rfl) (by kernel_rfl) (by kernel_rfl) (by intro _ _ _ h; exact h) (Or.inl ⟨by kernel_rfl, ?y99_3⟩) hHeld ?_
              case y99_3 =>
                intro w hSw
                clear hSw
                go_simp
                (try with_reducible rfl)
              (try simp only [Act.put, List.setIfInBounds_toArray, List.set_cons_zero, List.set_cons_succ])
              refine wpAnyH_take (i := 5) (oi := _) (v := .int .i64 ((IntKind.i64.wrap (av + 1)).tmod (j : Int))) (by rw [List.getElem?_toArray]; exact rfl) (by kernel_rfl) (by kernel_rfl) (by kernel_rfl) (by intro _ _ _ h; exact h) (Or.inl ⟨by kernel_rfl, ?y100_5⟩) hHeld ?_
              case y100_5 =>
                intro w hSw
                clear hSw
                go_simp
                (try with_reducible rfl)
              (try simp only [Act.put, List.setIfInBounds_toArray, List.set_cons_zero, List.set_cons_succ])
              obtain ⟨aw, haw⟩ : ∃ k, (IntKind.i64.wrap (av + 1)).tmod (j : Int) = k := ⟨_, rfl⟩
              rw [haw]
              clear haw
              refine wpAnyH_ready (rs := [1, 6]) (by kernel_rfl) (by simp) ?_
              refine AllReadyH.cons (o := _) (by rw [List.getElem?_toArray]; exact rfl) (fun K hK => ?_) (AllReadyH.cons (o := _) (by rw [List.getElem?_toArray]; exact rfl) (fun K hK => ?_) AllReadyH.nil)
              · rw [if_pos (by kernel_rfl)]
                go_simp
                refine hK.out _ _ trivial (fun hHeld => ?_)
                clear hK K
                (try simp only [Act.put, List.setIfInBounds_toArray, List.set_cons_zero, List.set_cons_succ])
                refine wpAnyH_ready (rs := [6]) (by kernel_rfl) (by simp) ?_
                refine AllReadyH.cons (o := _) (by rw [List.getElem?_toArray]; exact rfl) (fun K hK => ?_) AllReadyH.nil
                rw [if_pos (by kernel_rfl)]
                go_simp
                obtain ⟨gm, hgm⟩ : ∃ g, z0.heap.size = g := ⟨_, rfl⟩
                have GM : Hid (z0.heap.size = gm) := hgm
                obtain ⟨z1, hz1⟩ : ∃ W, z0.alloc (.cells #[.int .i64 aw] 3) = W := ⟨_, rfl⟩
                have WM : Hid (z0.alloc (.cells #[.int .i64 aw] 3) = z1) := hz1
                have Bz1 : Hid (Below z0.heap.size z0 z1) := by rw [← hz1]; exact (Below.refl _ _).alloc (Nat.le_refl _) _
                have Iz1 : Hid (ScIn w W2 b q p a n c L [0] X v1 (.slice (some ⟨gk, 0, none⟩) 1 1) v3 T1 T2 T3 z1) := Iz0.out.below Bz1.out
                have XM : Box z1 gm #[.int .i64 aw] 3 := by rw [← hz1, ← hgm]; exact box_of z0 _ _
                have NM0 : Hid (z1.cell? ((⟨gm, 0, none⟩ : Addr).add 0) = some (.int .i64 aw)) := by rw [add_plain]; exact XM.cell 0
                have Xz1 : Hid (Box z1 gx #[.string nm, .slice (some ⟨gl, 0, none⟩) 1 1, .bool bv] 105) := Xz0.out.below Bz1.out Xz0.out.lt
                have xqz1 : z1.cell? ⟨gx, 1, none⟩ = some (.slice (some ⟨gl, 0, none⟩) 1 1) := Xz1.out.cell 1
                clear hgm hz1 XM
                rw [WM.out, GM.out]
                refine hK.out _ _ trivial (fun hHeld => ?_)
                clear hK K
                (try simp only [Act.put, List.setIfInBounds_toArray, List.set_cons_zero, List.set_cons_succ])
                refine wpAnyH_ready (rs := [7]) (by kernel_rfl) (by simp) ?_
                refine AllReadyH.cons (o := _) (by rw [List.getElem?_toArray]; exact rfl) (fun K hK => ?_) AllReadyH.nil
                refine step_appIn z1 rfl _ _ rfl b (.slice (some ⟨gl, 0, none⟩) 1 1) 1 (iE [av]) TL rfl (Uz0.out.on Bz1.out (Nat.le_refl _)) ⟨gm, 0, none⟩ 1 rfl aw NM0.out (by omega) Iz1.out.hs ?_
                intro vv z2 T' hown hT hgrow
                obtain ⟨va, vc, rfl, -⟩ := hown.slice
                have hbl : ∀ x, (Value.slice (some ⟨gl, 0, none⟩) 1 1).ownBlock = some x → Apart b q T1 T2 T3 x ∧ x ≠ gx := fun x e => HSU.out x (own_inT Uz0.out x e)
                have Iz2 : Hid (ScIn w W2 b q p a n c L [0] X v1 (.slice (some ⟨gk, 0, none⟩) 1 1) v3 T1 T2 T3 z2) := Iz1.out.side hgrow (fun k e => (hbl k e).1)
                have XZ : Hid (Box z2 gx #[.string nm, .slice (some ⟨gl, 0, none⟩) 1 1, .bool bv] 105) := (hgrow.block gx Xz1.out.lt (fun e => (hbl gx e.symm).2 rfl)).trans Xz1.out
                have HSV : Hid (∀ x, T' x → Apart b q T1 T2 T3 x ∧ x ≠ gx) := fun x hx => (hT x hx).elim (HSU.out x) (fun h => h.elim False.elim (fun h => ⟨Iz1.out.fresh (Nat.le_of_eq h.symm), fun e => by have := Xz1.out.lt; omega⟩))
                have x1 := XZ.out.cell 1
                have f1 := XZ.out.frozen 1
                have Iz3 : Hid (ScIn w W2 b q p a n c L [0] X v1 (.slice (some ⟨gk, 0, none⟩) 1 1) v3 T1 T2 T3 (z2.setCell ⟨gx, 1, none⟩ (.slice va 2 vc))) := Iz2.out.side (far_cell3 _ _ _ _) (fun k e => by cases e; exact AX.out)
                have Xz3 : Hid (Box (z2.setCell ⟨gx, 1, none⟩ (.slice va 2 vc)) gx #[.string nm, .slice va 2 vc, .bool bv] 105) := XZ.out.put 1 _
                have Uz3 : Hid (Own (z2.setCell ⟨gx, 1, none⟩ (.slice va 2 vc)) b (.slice va 2 vc) (.l 3 1 2 (iE [av, aw])) T') := hown.heap fun x hx => Below.heap_setCell _ _ _ _ (fun e => (HSV.out x hx).2 e)
                clear hown hT hgrow hbl
                refine hK.out _ _ trivial (fun hHeld => ?_)
                clear hK K
                (try simp only [Act.put, List.setIfInBounds_toArray, List.set_cons_zero, List.set_cons_succ])
                refine wpAnyH_take (i := 8) (oi := _) (v := .pointer (some ⟨gx, 1, none⟩)) (by rw [List.getElem?_toArray]; exact rfl) (by kernel_rfl) (by kernel_rfl) (by kernel_rfl) (by intro _ _ _ h; exact h) (Or.inl ⟨by kernel_rfl, ?y101_8⟩) hHeld ?_
                case y101_8 =>
                  intro w hSw
                  clear hSw
                  go_simp
                  (try with_reducible rfl)
                (try simp only [Act.put, List.setIfInBounds_toArray, List.set_cons_zero, List.set_cons_succ])
                refine wpAnyH_ready (rs := [9]) (by kernel_rfl) (by simp) ?_
                refine AllReadyH.cons (o := _) (by rw [List.getElem?_toArray]; exact rfl) (fun K hK => ?_) AllReadyH.nil
                rw [if_pos (by kernel_rfl)]
                go_simp
                refine hK.out _ _ trivial (fun hHeld => ?_)
                clear hK K
                (try simp only [Act.put, List.setIfInBounds_toArray, List.set_cons_zero, List.set_cons_succ])
                refine wpAnyH_done (by kernel_rfl) ?_ _
                (try simp only [Exit.then])
                obtain ⟨z3, hz3⟩ : ∃ z, z2.setCell ⟨gx, 1, none⟩ (.slice va 2 vc) = z := ⟨_, rfl⟩
                rw [hz3] at Iz3 Xz3 Uz3 ⊢
                clear hz3 x1 f1
                obtain ⟨gy, hgy⟩ : ∃ g, z3.heap.size = g := ⟨_, rfl⟩
                obtain ⟨Zy, hZy⟩ : ∃ W, z3.alloc (.cells #[.string nm, .slice va 2 vc, .bool bv] 105) = W := ⟨_, rfl⟩
                have HGY : Hid (z3.heap.size = gy) := hgy
                have HZY : Hid (z3.alloc (.cells #[.string nm, .slice va 2 vc, .bool bv] 105) = Zy) := hZy
                have BY : Hid (Below z3.heap.size z3 Zy) := by rw [← hZy]; exact (Below.refl _ _).alloc (Nat.le_refl _) _
                have IY : Hid (ScIn w W2 b q p a n c L [0] X v1 (.slice (some ⟨gk, 0, none⟩) 1 1) v3 T1 T2 T3 Zy) := Iz3.out.below BY.out
                have XY : Box Zy gy #[.string nm, .slice va 2 vc, .bool bv] 105 := by rw [← hZy, ← hgy]; exact box_of z3 _ _
                have N0 : Hid (Zy.cell? ((⟨gy, 0, none⟩ : Addr).add 0) = some (.string nm)) := by rw [add_plain]; exact XY.cell 0
                have N1 : Hid (Zy.cell? ((⟨gy, 0, none⟩ : Addr).add 1) = some (.slice va 2 vc)) := by rw [add_plain]; exact XY.cell 1
                have N2 : Hid (Zy.cell? ((⟨gy, 0, none⟩ : Addr).add 2) = some (.bool bv)) := by rw [add_plain]; exact XY.cell 2
                have UY : Hid (Own Zy b (.slice va 2 vc) (.l 3 1 ([av, aw] : List Int).length (iE [av, aw])) T') := Uz3.out.on BY.out (Nat.le_refl _)
                have c2 : z3.cell? ⟨q, 2, none⟩ = some v3 := Iz3.out.box.cell 2
                have x0 := Xz3.out.cell 0
                have x1 := Xz3.out.cell 1
                have x2 := Xz3.out.cell 2
                clear hgy hZy XY
                go_wp2_with
                  (at_builtin
                   rw [HZY.out, HGY.out]
                   refine list_appIx Zy rfl _ _ rfl b v3 X.length (idsE X) T3 rfl IY.out.o3 ⟨gy, 0, none⟩ 1 rfl nm (.slice va 2 vc) bv [av, aw] T' N0.out N1.out N2.out UY.out (fun x h => (HSV.out x h).1.n3) rfl (by have := HLK.out; have := HK1.out; omega) IY.out.hs ?_
                   intro vv w16 T' hown hT hgrow
                   obtain ⟨va, vc, rfl, -⟩ := hown.slice
                   have XQ : Hid (Box w16 q #[v1, (.slice (some ⟨gk, 0, none⟩) 1 1), v3] 28) := IY.out.boxG hgrow (own_inT IY.out.o3) IY.out.n3
                   have I17 : Hid (ScIn w W2 b q p a n c L [0] (X ++ [(nm, [av, aw], bv)]) v1 (.slice (some ⟨gk, 0, none⟩) 1 1) (.slice va (X.length + 1) vc) T1 T2 T' (w16.setCell ⟨q, 2, none⟩ (.slice va (X.length + 1) vc))) := IY.out.put3 hgrow (own_inT IY.out.o3) (by rw [List.length_append, idsE_app]; exact hown) (fun x hx => (hT x hx).elim .inl (fun h => .inr (h.elim (fun h => (HSV.out x h).1) (fun h => IY.out.fresh (Nat.le_of_eq h.symm)))))
                   have q2 := XQ.out.cell 2
                   have f2 := XQ.out.frozen 2
                   clear hown hT hgrow c2 x0 x1 x2)
                exact ⟨⟨k + 1, X ++ [(nm, [av, aw], bv)], _, T', by have := HK1.out; omega, by go_num, by rw [List.length_append]; show X.length + 1 = k + 1; have := HLK.out; omega, (fun x hx => (List.mem_append.1 hx).elim (HSX.out x) (fun h1 => by rw [List.mem_singleton.1 h1]; exact ⟨HNS.out, by simp⟩)), I17.out⟩, by have := HK1.out; simp [RowKit.intOf]; omega⟩
              · rw [if_pos (by kernel_rfl)]
                go_simp
                obtain ⟨gm, hgm⟩ : ∃ g, z0.heap.size = g := ⟨_, rfl⟩
                have GM : Hid (z0.heap.size = gm) := hgm
                obtain ⟨z1, hz1⟩ : ∃ W, z0.alloc (.cells #[.int .i64 aw] 3) = W := ⟨_, rfl⟩
                have WM : Hid (z0.alloc (.cells #[.int .i64 aw] 3) = z1) := hz1
                have Bz1 : Hid (Below z0.heap.size z0 z1) := by rw [← hz1]; exact (Below.refl _ _).alloc (Nat.le_refl _) _
                have Iz1 : Hid (ScIn w W2 b q p a n c L [0] X v1 (.slice (some ⟨gk, 0, none⟩) 1 1) v3 T1 T2 T3 z1) := Iz0.out.below Bz1.out
                have XM : Box z1 gm #[.int .i64 aw] 3 := by rw [← hz1, ← hgm]; exact box_of z0 _ _
                have NM0 : Hid (z1.cell? ((⟨gm, 0, none⟩ : Addr).add 0) = some (.int .i64 aw)) := by rw [add_plain]; exact XM.cell 0
                have Xz1 : Hid (Box z1 gx #[.string nm, .slice (some ⟨gl, 0, none⟩) 1 1, .bool bv] 105) := Xz0.out.below Bz1.out Xz0.out.lt
                have xqz1 : z1.cell? ⟨gx, 1, none⟩ = some (.slice (some ⟨gl, 0, none⟩) 1 1) := Xz1.out.cell 1
                clear hgm hz1 XM
                rw [WM.out, GM.out]
                refine hK.out _ _ trivial (fun hHeld => ?_)
                clear hK K
                (try simp only [Act.put, List.setIfInBounds_toArray, List.set_cons_zero, List.set_cons_succ])
                refine wpAnyH_ready (rs := [1]) (by kernel_rfl) (by simp) ?_
                refine AllReadyH.cons (o := _) (by rw [List.getElem?_toArray]; exact rfl) (fun K hK => ?_) AllReadyH.nil
                rw [if_pos (by kernel_rfl)]
                go_simp
                refine hK.out _ _ trivial (fun hHeld => ?_)
                clear hK K
                (try simp only [Act.put, List.setIfInBounds_toArray, List.set_cons_zero, List.set_cons_succ])
                refine wpAnyH_ready (rs := [7]) (by kernel_rfl) (by simp) ?_
                refine AllReadyH.cons (o := _) (by rw [List.getElem?_toArray]; exact rfl) (fun K hK => ?_) AllReadyH.nil
                refine step_appIn z1 rfl _ _ rfl b (.slice (some ⟨gl, 0, none⟩) 1 1) 1 (iE [av]) TL rfl (Uz0.out.on Bz1.out (Nat.le_refl _)) ⟨gm, 0, none⟩ 1 rfl aw NM0.out (by omega) Iz1.out.hs ?_
                intro vv z2 T' hown hT hgrow
                obtain ⟨va, vc, rfl, -⟩ := hown.slice
                have hbl : ∀ x, (Value.slice (some ⟨gl, 0, none⟩) 1 1).ownBlock = some x → Apart b q T1 T2 T3 x ∧ x ≠ gx := fun x e => HSU.out x (own_inT Uz0.out x e)
                have Iz2 : Hid (ScIn w W2 b q p a n c L [0] X v1 (.slice (some ⟨gk, 0, none⟩) 1 1) v3 T1 T2 T3 z2) := Iz1.out.side hgrow (fun k e => (hbl k e).1)
                have XZ : Hid (Box z2 gx #[.string nm, .slice (some ⟨gl, 0, none⟩) 1 1, .bool bv] 105) := (hgrow.block gx Xz1.out.lt (fun e => (hbl gx e.symm).2 rfl)).trans Xz1.out
                have HSV : Hid (∀ x, T' x → Apart b q T1 T2 T3 x ∧ x ≠ gx) := fun x hx => (hT x hx).elim (HSU.out x) (fun h => h.elim False.elim (fun h => ⟨Iz1.out.fresh (Nat.le_of_eq h.symm), fun e => by have := Xz1.out.lt; omega⟩))
                have x1 := XZ.out.cell 1
                have f1 := XZ.out.frozen 1
                have Iz3 : Hid (ScIn w W2 b q p a n c L [0] X v1 (.slice (some ⟨gk, 0, none⟩) 1 1) v3 T1 T2 T3 (z2.setCell ⟨gx, 1, none⟩ (.slice va 2 vc))) := Iz2.out.side (far_cell3 _ _ _ _) (fun k e => by cases e; exact AX.out)
                have Xz3 : Hid (Box (z2.setCell ⟨gx, 1, none⟩ (.slice va 2 vc)) gx #[.string nm, .slice va 2 vc, .bool bv] 105) := XZ.out.put 1 _
                have Uz3 : Hid (Own (z2.setCell ⟨gx, 1, none⟩ (.slice va 2 vc)) b (.slice va 2 vc) (.l 3 1 2 (iE [av, aw])) T') := hown.heap fun x hx => Below.heap_setCell _ _ _ _ (fun e => (HSV.out x hx).2 e)
                clear hown hT hgrow hbl
                refine hK.out _ _ trivial (fun hHeld => ?_)
                clear hK K
                (try simp only [Act.put, List.setIfInBounds_toArray, List.set_cons_zero, List.set_cons_succ])
                refine wpAnyH_take (i := 8) (oi := _) (v := .pointer (some ⟨gx, 1, none⟩)) (by rw [List.getElem?_toArray]; exact rfl) (by kernel_rfl) (by kernel_rfl) (by kernel_rfl) (by intro _ _ _ h; exact h) (Or.inl ⟨by kernel_rfl, ?y102_8⟩) hHeld ?_
                case y102_8 =>
                  intro w hSw
                  clear hSw
                  go_simp
                  (try with_reducible rfl)
                (try simp only [Act.put, List.setIfInBounds_toArray, List.set_cons_zero, List.set_cons_succ])
                refine wpAnyH_ready (rs := [9]) (by kernel_rfl) (by simp) ?_
                refine AllReadyH.cons (o := _) (by rw [List.getElem?_toArray]; exact rfl) (fun K hK => ?_) AllReadyH.nil
                rw [if_pos (by kernel_rfl)]
                go_simp
                refine hK.out _ _ trivial (fun hHeld => ?_)
                clear hK K
                (try simp only [Act.put, List.setIfInBounds_toArray, List.set_cons_zero, List.set_cons_succ])
                refine wpAnyH_done (by kernel_rfl) ?_ _
                (try simp only [Exit.then])
                obtain ⟨z3, hz3⟩ : ∃ z, z2.setCell ⟨gx, 1, none⟩ (.slice va 2 vc) = z := ⟨_, rfl⟩
                rw [hz3] at Iz3 Xz3 Uz3 ⊢
                clear hz3 x1 f1
                obtain ⟨gy, hgy⟩ : ∃ g, z3.heap.size = g := ⟨_, rfl⟩
                obtain ⟨Zy, hZy⟩ : ∃ W, z3.alloc (.cells #[.string nm, .slice va 2 vc, .bool bv] 105) = W := ⟨_, rfl⟩
                have HGY : Hid (z3.heap.size = gy) := hgy
                have HZY : Hid (z3.alloc (.cells #[.string nm, .slice va 2 vc, .bool bv] 105) = Zy) := hZy
                have BY : Hid (Below z3.heap.size z3 Zy) := by rw [← hZy]; exact (Below.refl _ _).alloc (Nat.le_refl _) _
                have IY : Hid (ScIn w W2 b q p a n c L [0] X v1 (.slice (some ⟨gk, 0, none⟩) 1 1) v3 T1 T2 T3 Zy) := Iz3.out.below BY.out
                have XY : Box Zy gy #[.string nm, .slice va 2 vc, .bool bv] 105 := by rw [← hZy, ← hgy]; exact box_of z3 _ _
                have N0 : Hid (Zy.cell? ((⟨gy, 0, none⟩ : Addr).add 0) = some (.string nm)) := by rw [add_plain]; exact XY.cell 0
                have N1 : Hid (Zy.cell? ((⟨gy, 0, none⟩ : Addr).add 1) = some (.slice va 2 vc)) := by rw [add_plain]; exact XY.cell 1
                have N2 : Hid (Zy.cell? ((⟨gy, 0, none⟩ : Addr).add 2) = some (.bool bv)) := by rw [add_plain]; exact XY.cell 2
                have UY : Hid (Own Zy b (.slice va 2 vc) (.l 3 1 ([av, aw] : List Int).length (iE [av, aw])) T') := Uz3.out.on BY.out (Nat.le_refl _)
                have c2 : z3.cell? ⟨q, 2, none⟩ = some v3 := Iz3.out.box.cell 2
                have x0 := Xz3.out.cell 0
                have x1 := Xz3.out.cell 1
                have x2 := Xz3.out.cell 2
                clear hgy hZy XY
                go_wp2_with
                  (at_builtin
                   rw [HZY.out, HGY.out]
                   refine list_appIx Zy rfl _ _ rfl b v3 X.length (idsE X) T3 rfl IY.out.o3 ⟨gy, 0, none⟩ 1 rfl nm (.slice va 2 vc) bv [av, aw] T' N0.out N1.out N2.out UY.out (fun x h => (HSV.out x h).1.n3) rfl (by have := HLK.out; have := HK1.out; omega) IY.out.hs ?_
                   intro vv w16 T' hown hT hgrow
                   obtain ⟨va, vc, rfl, -⟩ := hown.slice
                   have XQ : Hid (Box w16 q #[v1, (.slice (some ⟨gk, 0, none⟩) 1 1), v3] 28) := IY.out.boxG hgrow (own_inT IY.out.o3) IY.out.n3
                   have I17 : Hid (ScIn w W2 b q p a n c L [0] (X ++ [(nm, [av, aw], bv)]) v1 (.slice (some ⟨gk, 0, none⟩) 1 1) (.slice va (X.length + 1) vc) T1 T2 T' (w16.setCell ⟨q, 2, none⟩ (.slice va (X.length + 1) vc))) := IY.out.put3 hgrow (own_inT IY.out.o3) (by rw [List.length_append, idsE_app]; exact hown) (fun x hx => (hT x hx).elim .inl (fun h => .inr (h.elim (fun h => (HSV.out x h).1) (fun h => IY.out.fresh (Nat.le_of_eq h.symm)))))
                   have q2 := XQ.out.cell 2
                   have f2 := XQ.out.frozen 2
                   clear hown hT hgrow c2 x0 x1 x2)
                exact ⟨⟨k + 1, X ++ [(nm, [av, aw], bv)], _, T', by have := HK1.out; omega, by go_num, by rw [List.length_append]; show X.length + 1 = k + 1; have := HLK.out; omega, (fun x hx => (List.mem_append.1 hx).elim (HSX.out x) (fun h1 => by rw [List.mem_singleton.1 h1]; exact ⟨HNS.out, by simp⟩)), I17.out⟩, by have := HK1.out; simp [RowKit.intOf]; omega⟩
        · have hki : ¬ ((k : Int) < (y : Int)) := by omega
          clear hlt hy
          have HKL : Hid (X.length ≤ 2) := by have := HLK.out; show _ ≤ _; omega
          clear hk
          go_upto_region 17 with (fail)
          rcases I4.out.o1.forms with ⟨_, h0, _⟩ | ⟨bb, cb, rfl, _, _⟩
          · have := HLJ.out; have := HN.out; omega
          obtain ⟨xa, xc, rfl, -⟩ := I4.out.o3.slice
          have Iz0 : Hid (ScIn w W2 b q p a n c L [0] X (.slice (some ⟨bb, 0, none⟩) L.length cb) (.slice (some ⟨gk, 0, none⟩) 1 1) (.slice xa X.length xc) T1 T2 T3 w4.drew) := I4.out.drew
          obtain ⟨z0, hz0⟩ : ∃ z, w4.drew = z := ⟨_, rfl⟩
          have HZ0 : Hid (w4.drew = z0) := hz0
          rw [hz0] at Iz0
          have HGB : Hid (g < b) := by have := HNB.out; show _ < _; omega
          have HGQ : Hid (g ≠ q) := by have := HNB.out; show _ ≠ _; omega
          clear hz0
          refine wp_region_held_drew (S := fun z => z.cell? ⟨q, 0, none⟩ = some (.slice (some ⟨bb, 0, none⟩) L.length cb)) (by kernel_rfl) (by rw [HZ0.out]; exact Iz0.out.box.cell 0) (fun hHeld => ?_)
          rw [HZ0.out] at hHeld ⊢
          refine wpAnyH_take (i := 0) (oi := _) (v := .pointer (some ⟨q, 0, none⟩)) (by rw [List.getElem?_toArray]; exact rfl) (by kernel_rfl) (by kernel_rfl) (by kernel_rfl) (by intro _ _ _ h; exact h) (Or.inl ⟨by kernel_rfl, ?y46_0⟩) hHeld ?_
          case y46_0 =>
            intro w hSw
            clear hSw
            go_simp
            (try with_reducible rfl)
          (try simp only [Act.put, List.setIfInBounds_toArray, List.set_cons_zero, List.set_cons_succ])
          refine wpAnyH_take (i := 1) (oi := _) (v := .slice (some ⟨bb, 0, none⟩) L.length cb) (by rw [List.getElem?_toArray]; exact rfl) (by kernel_rfl) (by kernel_rfl) (by kernel_rfl) (by intro _ _ _ h; exact h) (Or.inl ⟨by kernel_rfl, ?y47_1⟩) hHeld ?_
          case y47_1 =>
            intro w hSw
            obtain hq0 := hSw
            go_simp
            (try with_reducible rfl)
          (try simp only [Act.put, List.setIfInBounds_toArray, List.set_cons_zero, List.set_cons_succ])
          refine wpAnyH_take (i := 2) (oi := _) (v := .pointer (some ⟨p, 0, none⟩)) (by rw [List.getElem?_toArray]; exact rfl) (by kernel_rfl) (by kernel_rfl) (by kernel_rfl) (by intro _ _ _ h; exact h) (Or.inl ⟨by kernel_rfl, ?y48_2⟩) hHeld ?_
          case y48_2 =>
            intro w hSw
            clear hSw
            go_simp
            (try with_reducible rfl)
          (try simp only [Act.put, List.setIfInBounds_toArray, List.set_cons_zero, List.set_cons_succ])
          refine wpAnyH_ready (rs := [3]) (by kernel_rfl) (by simp) ?_
          refine AllReadyH.cons (o := _) (by rw [List.getElem?_toArray]; exact rfl) (fun K hK => ?_) AllReadyH.nil
          rw [if_pos (by kernel_rfl)]
          go_simp
          obtain ⟨gi, hgi⟩ : ∃ g, z0.heap.size = g := ⟨_, rfl⟩
          have GI : Hid (z0.heap.size = gi) := hgi
          obtain ⟨z1, hz1⟩ : ∃ W, z0.alloc (.cells #[.int .i64 2, .int .i64 3] 3) = W := ⟨_, rfl⟩
          have WI : Hid (z0.alloc (.cells #[.int .i64 2, .int .i64 3] 3) = z1) := hz1
          have Bz1 : Hid (Below z0.heap.size z0 z1) := by rw [← hz1]; exact (Below.refl _ _).alloc (Nat.le_refl _) _
          have Iz1 : Hid (ScIn w W2 b q p a n c L [0] X (.slice (some ⟨bb, 0, none⟩) L.length cb) (.slice (some ⟨gk, 0, none⟩) 1 1) (.slice xa X.length xc) T1 T2 T3 z1) := Iz0.out.below Bz1.out
          have XI : Hid (Box z1 gi #[.int .i64 2, .int .i64 3] 3) := by rw [← hz1, ← hgi]; exact box_of z0 _ _
          have HGI : Hid (gi ≠ p) := by have := Iz0.out.hs; have := Iz0.out.hp; have := Iz0.out.hw; show _ ≠ _; omega
          clear hgi hz1
          rw [WI.out, GI.out]
          refine hK.out _ _ (Iz1.out.box.cell 0) (fun hHeld => ?_)
          clear hK K
          (try simp only [Act.put, List.setIfInBounds_toArray, List.set_cons_zero, List.set_cons_succ])
          refine wpAnyH_ready (rs := [4]) (by kernel_rfl) (by simp) ?_
          refine AllReadyH.cons (o := _) (by rw [List.getElem?_toArray]; exact rfl) (fun K hK => ?_) AllReadyH.nil
          rw [if_pos (by kernel_rfl)]
          go_simp
          refine (l1PickInt_any p a n c gi 2 2 [2, 3] (by omega) (by omega) z1 Iz1.out.cur HGI.out (fun i hi => by
            rcases (show i = 0 ∨ i = 1 by omega) with rfl | rfl
            · exact XI.out.cell 0
            · exact XI.out.cell 1)).mono ?_
          rintro e z2 ⟨y8, -, rfl, hC1, hO1⟩
          obtain ⟨kd, hkd⟩ : ∃ k, ([2, 3] : List Int).getD y8 0 = k := ⟨_, rfl⟩
          rw [hkd]
          have Iz2 : Hid (ScIn w W2 b q p a n c L [0] X (.slice (some ⟨bb, 0, none⟩) L.length cb) (.slice (some ⟨gk, 0, none⟩) 1 1) (.slice xa X.length xc) T1 T2 T3 z2) := Iz1.out.only hO1 hC1
          clear hC1 hO1 hkd
          refine hK.out _ _ (Iz2.out.box.cell 0) (fun hHeld => ?_)
          clear hK K
          (try simp only [Act.put, List.setIfInBounds_toArray, List.set_cons_zero, List.set_cons_succ])
          have hLn : ¬ L = [] := fun e => by have h1 := HLJ.out; rw [e] at h1; have := HN.out; simp at h1; omega
          refine wpAnyH_take (i := 5) (oi := _) (v := .pointer (some ⟨bb, 0, none⟩)) (by rw [List.getElem?_toArray]; exact rfl) (by kernel_rfl) (by kernel_rfl) (by kernel_rfl) (by intro _ _ _ h; exact h) (Or.inl ⟨by kernel_rfl, ?y49_5⟩) hHeld ?_
          case y49_5 =>
            intro w hSw
            clear hSw
            go_simp
            (try with_reducible rfl)
          (try simp only [Act.put, List.setIfInBounds_toArray, List.set_cons_zero, List.set_cons_succ])
          refine wpAnyH_take (i := 6) (oi := _) (v := .pointer (some ⟨bb, 1, none⟩)) (by rw [List.getElem?_toArray]; exact rfl) (by kernel_rfl) (by kernel_rfl) (by kernel_rfl) (by intro _ _ _ h; exact h) (Or.inl ⟨by kernel_rfl, ?y50_6⟩) hHeld ?_
          case y50_6 =>
            intro w hSw
            clear hSw
            go_simp
            (try with_reducible rfl)
          (try simp only [Act.put, List.setIfInBounds_toArray, List.set_cons_zero, List.set_cons_succ])
          obtain ⟨xi, hxi⟩ : ∃ x, L[0]? = some x := ⟨_, List.getElem?_eq_getElem (by have := HLJ.out; have := HN.out; omega)⟩
          have hci := (clsE_at hxi).2.1
          have ho1 := Iz2.out.o1
          obtain ⟨uo, _, f0, f1, _⟩ := ho1.cell hci
          have hop := ho1.putI hci kd
          have hT1 : T1 bb := own_inT ho1 bb rfl
          have Iz3 : Hid (ScIn w W2 b q p a n c (L.set 0 (xi.1, kd, xi.2.2)) [0] X (.slice (some ⟨bb, 0, none⟩) L.length cb) (.slice (some ⟨gk, 0, none⟩) 1 1) (.slice xa X.length xc) T1 T2 T3 (z2.setCell ⟨bb, 1, none⟩ (.int .i64 kd))) := Iz2.out.turn1 hT1 (by rw [List.length_set, clsE_set1 _ hxi]; exact hop)
          have HXI : Hid (L[0]? = some xi) := hxi
          clear hci ho1 hop hT1 hxi
          refine wpAnyH_ready (rs := [7]) (by kernel_rfl) (by simp) ?_
          refine AllReadyH.cons (o := _) (by rw [List.getElem?_toArray]; exact rfl) (fun K hK => ?_) AllReadyH.nil
          rw [if_pos (by kernel_rfl)]
          go_simp
          refine hK.out _ _ (Iz3.out.box.cell 0) (fun hHeld => ?_)
          clear hK K
          (try simp only [Act.put, List.setIfInBounds_toArray, List.set_cons_zero, List.set_cons_succ])
          refine wpAnyH_done (by kernel_rfl) ?_ _
          (try simp only [Exit.then])
          obtain ⟨z4, hz4⟩ : ∃ z, z2.setCell ⟨bb, 1, none⟩ (.int .i64 kd) = z := ⟨_, rfl⟩
          rw [hz4] at Iz3 ⊢
          clear hz4 f0 f1 hLn
          have HDR : Hid (ScDr 1 2 ⟨L.set 0 (xi.1, kd, xi.2.2), [0], X⟩) := ⟨by show 2 ≤ (L.set 0 _).length ∧ (L.set 0 _).length ≤ 4; rw [List.length_set]; have := HLJ.out; have := HN.out; omega, ⟨by simp, HKL.out⟩, fun x hx => (List.mem_or_eq_of_mem_set hx).elim (HSM.out x) (fun e => by rw [e]; exact HSM.out xi (List.mem_of_getElem? HXI.out)), HSX.out⟩
          obtain ⟨r0, r1, r2⟩ := Iz3.out.box.triV
          have XG := (Iz3.out.lib XR.out HGB.out (by have := HPG.out; omega) HGQ.out)
          obtain ⟨y0, y1, y2'⟩ := XG.triV
          have fy0 := XG.frozen 0
          have fy1 := XG.frozen 1
          have fy2 := XG.frozen 2
          have XF := ((XG.put 0 (.slice (some ⟨bb, 0, none⟩) L.length cb)).put 1 (.slice (some ⟨gk, 0, none⟩) 1 1)).put 2 (.slice xa X.length xc)
          go_wp2
          exact bodyPost_ret (results_cell_row Try.results77 _ _ g 28 _ _ _ rfl XF Try.underlying28 rfl (by kernel_rfl)) rfl (Iz3.out.out HG.out HGB.out HDR.out)
end
end Go.Proofs.Ytmgofehafjogfaa
