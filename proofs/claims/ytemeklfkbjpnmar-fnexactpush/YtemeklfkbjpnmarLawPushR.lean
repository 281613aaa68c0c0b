/- Three regions of the law FnExactPush that draw their order. -/
import Derived.Test.YtemeklfkbjpnmarRows
import Derived.Test.YtemeklfkbjpnmarLawT
import Derived.Test.YtemeklfkbjpnmarLawTH
import Derived.OpenShut
import Derived.ChangeOld
import Derived.Below
import Derived.Lib.SmallJoins
import Derived.Deep.RegionHeld3
namespace Go.Proofs.Ytemeklfkbjpnmar
open Go.ChangeShapes Go.WideShapes Go.ChangeAt Go.RowKit Go.Joins

namespace fnExactPush
theorem own_ : ownKnob Try.prog.godebug = none := by kernel_rfl
theorem laidOut_ : laidOutB Try.prog = true := by kernel_rfl
noncomputable def reg5L : List Oper := match Try.f7.body with
  | some (.seq _ (.seq _ (.seq _ (.seq _ (.seq (.region _ ops _) _))))) => ops.toList
  | _ => []
set_option maxHeartbeats 4000000 in
set_option maxRecDepth 100000 in
theorem reg5_wp {j0 j1 j4 j5 j6 j7 j8 j9 j10 j11 j12 j13 j14 j15 j16 j17 j18 j19 j20 j21 j22 j23 j24 j25 j26 j27 j28 j29 j30 j31 j32 j33 j34 j35 j36 j37 j38 j39 j40 j41 j42 j43 j44 j45 j46 j47 j48 j49 j50 j51 j52 j53 j54 j55 j56 j57 j58 j59 j60 j61 j62 j63 j64 j65 j66 j67 j68 j69 j70 j71 j72 j73 j74 j75 j76 : Value} (sz : Nat) (a0 a1 a2 : Option Addr) (c0 c1 c2 : Nat) (n0 n1 n2 : Nat) (fs gs hs : List Int) (pc : Int) (on : Bool) (h : Nat → Int) (T : TD) (w1 : World) (SM : TD.Small ⟨n0, fs, pc, on, n1, gs, n2, hs⟩)
    (CEL : ∀ y, Below w1.heap.size w1 y → (y.cell? ⟨sz, 0, none⟩ = some (.slice a0 n0 c0) ∧ y.cell? ⟨sz, 1, none⟩ = some (.int .i64 pc) ∧ y.cell? ⟨sz, 2, none⟩ = some (.bool on) ∧ y.cell? ⟨sz, 3, none⟩ = some (.slice a1 n1 c1) ∧ y.cell? ⟨sz, 4, none⟩ = some (.slice a2 n2 c2)) ∧ y.cell? ⟨sz + 1, 0, none⟩ = some (.int .i64 (h 0)) ∧ y.cell? ⟨sz + 1, 1, none⟩ = some (.int .i64 (h 1)) ∧ y.cell? ⟨sz + 1, 2, none⟩ = some (.int .i64 (h 2)) ∧ y.cell? ⟨sz + 1, 3, none⟩ = some (.int .i64 (h 3))) (INS : ∀ y, Below w1.heap.size w1 y → ThIn y a0 a1 a2 ⟨n0, fs, pc, on, n1, gs, n2, hs⟩) 
    (FN : ∀ v0 v1 v2 y, ThAt y v0 v1 v2 ⟨n0, fs, pc, on, n1, gs, n2, hs⟩ → Calls Try.prog 29 #[ThV v0 v1 v2 pc on, HelpV h] y (ThAns y T)) :
    Code.wp Try.prog (Code.region 5 (List.toArray reg5L) true) (Exit.then (fun a' y => ∃ (s1 s3 v0 v1 v2 : Value) (q : Nat), a' = ⟨List.toArray (j0 :: j1 :: .pointer (some ⟨sz, 0, none⟩) :: .pointer (some ⟨sz + 1, 0, none⟩) :: j4 :: j5 :: .pointer (some ⟨q, 0, none⟩) :: j7 :: j8 :: j9 :: j10 :: j11 :: j12 :: j13 :: j14 :: j15 :: j16 :: j17 :: .agg #[.slice a0 n0 c0, .int .i64 pc, .bool on, .slice a1 n1 c1, .slice a2 n2 c2] :: s1 :: .agg #[.int .i64 (h 0), .int .i64 (h 1), .int .i64 (h 2), .int .i64 (h 3)] :: s3 :: ThV v0 v1 v2 T.pc T.on :: j23 :: j24 :: j25 :: j26 :: j27 :: j28 :: j29 :: j30 :: j31 :: j32 :: j33 :: j34 :: j35 :: j36 :: j37 :: j38 :: j39 :: j40 :: j41 :: j42 :: j43 :: j44 :: j45 :: j46 :: j47 :: j48 :: j49 :: j50 :: j51 :: j52 :: j53 :: j54 :: j55 :: j56 :: j57 :: j58 :: j59 :: j60 :: j61 :: j62 :: j63 :: j64 :: j65 :: j66 :: j67 :: j68 :: j69 :: j70 :: j71 :: j72 :: j73 :: j74 :: j75 :: j76 :: []), []⟩ ∧ Box y q #[v0, .int .i64 T.pc, .bool T.on, v1, v2] 46 ∧ ThO y w1.heap.size v0 v1 v2 T ∧ ¬ In3 v0 v1 v2 q ∧ w1.heap.size ≤ q ∧ Below w1.heap.size w1 y) (fun _ _ _ => False)) ⟨List.toArray (j0 :: j1 :: .pointer (some ⟨sz, 0, none⟩) :: .pointer (some ⟨sz + 1, 0, none⟩) :: j4 :: j5 :: j6 :: j7 :: j8 :: j9 :: j10 :: j11 :: j12 :: j13 :: j14 :: j15 :: j16 :: j17 :: j18 :: j19 :: j20 :: j21 :: j22 :: j23 :: j24 :: j25 :: j26 :: j27 :: j28 :: j29 :: j30 :: j31 :: j32 :: j33 :: j34 :: j35 :: j36 :: j37 :: j38 :: j39 :: j40 :: j41 :: j42 :: j43 :: j44 :: j45 :: j46 :: j47 :: j48 :: j49 :: j50 :: j51 :: j52 :: j53 :: j54 :: j55 :: j56 :: j57 :: j58 :: j59 :: j60 :: j61 :: j62 :: j63 :: j64 :: j65 :: j66 :: j67 :: j68 :: j69 :: j70 :: j71 :: j72 :: j73 :: j74 :: j75 :: j76 :: []), []⟩ w1 := by
  refine wp_region_held_drew (S := fun w' => (w'.cell? ⟨sz, 0, none⟩ = some (.slice a0 n0 c0) ∧ w'.cell? ⟨sz, 1, none⟩ = some (.int .i64 pc) ∧ w'.cell? ⟨sz, 2, none⟩ = some (.bool on) ∧ w'.cell? ⟨sz, 3, none⟩ = some (.slice a1 n1 c1) ∧ w'.cell? ⟨sz, 4, none⟩ = some (.slice a2 n2 c2)) ∧ w'.cell? ⟨sz + 1, 0, none⟩ = some (.int .i64 (h 0)) ∧ w'.cell? ⟨sz + 1, 1, none⟩ = some (.int .i64 (h 1)) ∧ w'.cell? ⟨sz + 1, 2, none⟩ = some (.int .i64 (h 2)) ∧ w'.cell? ⟨sz + 1, 3, none⟩ = some (.int .i64 (h 3))) (by kernel_rfl) (CEL _ (Below.refl _ _).drew) (fun hHeld => ?_)
  refine wpAnyH_take (i := 0) (oi := _) (v := .agg #[.slice a0 n0 c0, .int .i64 pc, .bool on, .slice a1 n1 c1, .slice a2 n2 c2]) (by rw [List.getElem?_toArray]; exact rfl) (by kernel_rfl) (by kernel_rfl) (by kernel_rfl) (by intro _ _ _ h; exact h) (Or.inl ⟨by kernel_rfl, ?_⟩) hHeld ?_
  · intro w hSw; obtain ⟨⟨c0, c1, c2, c3, c4⟩, d0, d1, d2, d3⟩ := hSw; go_simp
  (try simp only [Act.put, List.setIfInBounds_toArray, List.set_cons_zero, List.set_cons_succ])
  refine wpAnyH_take (i := 2) (oi := _) (v := .agg #[.int .i64 (h 0), .int .i64 (h 1), .int .i64 (h 2), .int .i64 (h 3)]) (by rw [List.getElem?_toArray]; exact rfl) (by kernel_rfl) (by kernel_rfl) (by kernel_rfl) (by intro _ _ _ h; exact h) (Or.inl ⟨by kernel_rfl, ?_⟩) hHeld ?_
  · intro w hSw; obtain ⟨⟨c0, c1, c2, c3, c4⟩, d0, d1, d2, d3⟩ := hSw; go_simp
  (try simp only [Act.put, List.setIfInBounds_toArray, List.set_cons_zero, List.set_cons_succ])
  refine wpAnyH_inv (z := 6) (R := fun l a y => ∃ (b1 b3 b4 b5 : Bool) (s1 s3 s4 s5 : Value), l = #[true, b1, true, b3, b4, b5, false] ∧ a = ⟨List.toArray (j0 :: j1 :: .pointer (some ⟨sz, 0, none⟩) :: .pointer (some ⟨sz + 1, 0, none⟩) :: j4 :: j5 :: s5 :: j7 :: j8 :: j9 :: j10 :: j11 :: j12 :: j13 :: j14 :: j15 :: j16 :: j17 :: .agg #[.slice a0 n0 c0, .int .i64 pc, .bool on, .slice a1 n1 c1, .slice a2 n2 c2] :: s1 :: .agg #[.int .i64 (h 0), .int .i64 (h 1), .int .i64 (h 2), .int .i64 (h 3)] :: s3 :: s4 :: j23 :: j24 :: j25 :: j26 :: j27 :: j28 :: j29 :: j30 :: j31 :: j32 :: j33 :: j34 :: j35 :: j36 :: j37 :: j38 :: j39 :: j40 :: j41 :: j42 :: j43 :: j44 :: j45 :: j46 :: j47 :: j48 :: j49 :: j50 :: j51 :: j52 :: j53 :: j54 :: j55 :: j56 :: j57 :: j58 :: j59 :: j60 :: j61 :: j62 :: j63 :: j64 :: j65 :: j66 :: j67 :: j68 :: j69 :: j70 :: j71 :: j72 :: j73 :: j74 :: j75 :: j76 :: []), []⟩ ∧ R5 w1 ⟨n0, fs, pc, on, n1, gs, n2, hs⟩ T h b1 b3 b4 b5 s1 s3 s4 s5 y) (by kernel_rfl) ?_ (of_decide_eq_true (by kernel_rfl)) (waits_at (by kernel_rfl)) ?_ ?_ _ _ _ _ (by kernel_rfl) (of_decide_eq_true (by kernel_rfl)) (by kernel_rfl) (by kernel_rfl) ?_
  · rintro l a w' ⟨b1, b3, b4, b5, s1, s3, s4, s5, rfl, rfl, J⟩
    exact CEL _ J.bel
  · rw [show (List.range (List.toArray reg5L).size).filter (· != 6) = [0, 1, 2, 3, 4, 5] by kernel_rfl]
    refine StepAll.skip (fun l a w' => by rintro ⟨b1, b3, b4, b5, s1, s3, s4, s5, rfl, rfl, J⟩; rfl) ?_
    refine StepAll.cons (o := _) (by rw [List.getElem?_toArray]; exact rfl) ?_ ?_
    · rintro K' l a wx ⟨b1, b3, b4, b5, s1, s3, s4, s5, rfl, rfl, J⟩ hf he hK
      rw [if_pos (by kernel_rfl)]
      go_simp
      refine (toThread_any a0 a1 a2 c0 c1 c2 ⟨n0, fs, pc, on, n1, gs, n2, hs⟩ _ (INS _ J.bel)).mono ?_
      rintro e y' ⟨v0, v1, v2, rfl, o, hb⟩
      refine hK.out _ _ ?_
      exact ⟨true, b3, b4, b5, _, s3, s4, s5, rfl, rfl, J.thread o hb⟩
    refine StepAll.skip (fun l a w' => by rintro ⟨b1, b3, b4, b5, s1, s3, s4, s5, rfl, rfl, J⟩; rfl) ?_
    refine StepAll.cons (o := _) (by rw [List.getElem?_toArray]; exact rfl) ?_ ?_
    · rintro K' l a wx ⟨b1, b3, b4, b5, s1, s3, s4, s5, rfl, rfl, J⟩ hf he hK
      rw [if_pos (by kernel_rfl)]
      go_simp
      refine (kToHelp (h 0) (h 1) (h 2) (h 3) _).mono ?_
      rintro e y' ⟨rfl, hb⟩
      refine hK.out _ _ ?_
      exact ⟨b1, true, b4, b5, s1, _, s4, s5, rfl, rfl, J.help hb⟩
    refine StepAll.cons (o := _) (by rw [List.getElem?_toArray]; exact rfl) ?_ ?_
    · rintro K' l a wx ⟨b1, b3, b4, b5, s1, s3, s4, s5, rfl, rfl, J⟩ hf he hK
      have h3 : b3 = true := by simpa using he ⟨3, .data⟩ (by simp) rfl
      obtain rfl := J.c3 h3
      have h1 : b1 = true := by simpa using he ⟨1, .data⟩ (by simp) rfl
      obtain ⟨z0, z1, z2, rfl, zo⟩ := J.c1 h1
      have A := zo.at SM
      rw [if_pos (by kernel_rfl)]
      go_simp
      refine (FN _ _ _ _ A).mono ?_
      rintro e y' ⟨v0, v1, v2, rfl, o, hb⟩
      refine hK.out _ _ ?_
      exact ⟨b1, b3, true, b5, _, _, _, s5, rfl, rfl, J.call o hb⟩
    refine StepAll.cons (o := _) (by rw [List.getElem?_toArray]; exact rfl) ?_ ?_
    · rintro K' l a wx ⟨b1, b3, b4, b5, s1, s3, s4, s5, rfl, rfl, J⟩ hf he hK
      rw [if_pos (by kernel_rfl)]
      go_simp
      refine hK.out _ _ ?_
      exact ⟨b1, b3, b4, true, s1, s3, s4, _, rfl, rfl, J.box⟩
    exact StepAll.nil
  · refine last_step (o := _) (by rw [List.getElem?_toArray]; exact rfl) ?_
    rintro K' l a y ⟨b1, b3, b4, b5, s1, s3, s4, s5, rfl, rfl, J⟩ hall hK
    have h4 : b4 = true := by simpa using hall 4 (of_decide_eq_true (by kernel_rfl)) (by decide)
    have h5 : b5 = true := by simpa using hall 5 (of_decide_eq_true (by kernel_rfl)) (by decide)
    obtain ⟨q, rfl, bx, lq⟩ := J.c5 h5
    obtain ⟨v0, v1, v2, rfl, o, nq⟩ := J.c4 h4
    have nq' := nq h5 q rfl
    have hbel := J.bel
    obtain ⟨p0, e0, p1, e1, p2, e2, rfl, rfl, rfl⟩ := o.forms
    obtain ⟨r0, r1, r2, r3, r4, f0, f1, f2, f3, f4⟩ := bx.five
    have BX : Hid (Box y q #[.slice none 0 0, .int .i64 0, .bool false, .slice none 0 0, .slice none 0 0] 46) := bx
    have HO : Hid (ThO y w1.heap.size _ _ _ T) := o
    have NQ : Hid (¬ In3 _ _ _ q) := nq'
    have HB : Hid (Below w1.heap.size w1 y) := hbel
    have LQ : Hid (w1.heap.size ≤ q) := lq
    clear J hall bx o nq nq' hbel lq
    rw [if_pos (by kernel_rfl)]
    go_simp
    have HB' := below_set5 HB.out LQ.out (.slice p0 T.n0 e0) (.int .i64 T.pc) (.bool T.on) (.slice p1 T.n1 e1) (.slice p2 T.n2 e2)
    refine hK.out _ _ (CEL _ HB') ?_
    exact ⟨s1, s3, _, _, _, q, rfl, ((((BX.out.put 0 _).put 1 _).put 2 _).put 3 _).put 4 _, HO.out.set5 NQ.out _ _ _ _ _, NQ.out, LQ.out, HB'⟩
  · exact ⟨false, false, false, false, j19, j21, j22, j6, rfl, rfl, R5.begin _ _ _ _ _ _ _ _⟩
noncomputable def reg7L : List Oper := match Try.f7.body with
  | some (.seq _ (.seq _ (.seq _ (.seq _ (.seq _ (.seq _ (.seq (.region _ ops _) _))))))) => ops.toList
  | _ => []
set_option maxHeartbeats 4000000 in
set_option maxRecDepth 100000 in
theorem reg7_wp {j0 j1 j4 j5 j6 j8 j9 j10 j11 j12 j13 j14 j15 j16 j17 j18 j19 j20 j21 j22 j23 j24 j25 j26 j27 j28 j29 j30 j31 j32 j33 j34 j35 j36 j37 j38 j39 j40 j41 j42 j43 j44 j45 j46 j47 j48 j49 j50 j51 j52 j53 j54 j55 j56 j57 j58 j59 j60 j61 j62 j63 j64 j65 j66 j67 j68 j69 j70 j71 j72 j73 j74 j75 j76 : Value} (sz : Nat) (up0 up1 up2 : Option Addr) (ud0 ud1 ud2 q5 : Nat) (n0 n1 n2 : Nat) (fs gs hs : List Int) (pc : Int) (on : Bool) (h : Nat → Int) (T : TD) (w1 : World)
    (CEL : ∀ y, Below w1.heap.size w1 y → (y.cell? ⟨q5, 0, none⟩ = some (.slice up0 n0 ud0) ∧ y.cell? ⟨q5, 1, none⟩ = some (.int .i64 pc) ∧ y.cell? ⟨q5, 2, none⟩ = some (.bool on) ∧ y.cell? ⟨q5, 3, none⟩ = some (.slice up1 n1 ud1) ∧ y.cell? ⟨q5, 4, none⟩ = some (.slice up2 n2 ud2)) ∧ y.cell? ⟨sz + 1, 0, none⟩ = some (.int .i64 (h 0)) ∧ y.cell? ⟨sz + 1, 1, none⟩ = some (.int .i64 (h 1)) ∧ y.cell? ⟨sz + 1, 2, none⟩ = some (.int .i64 (h 2)) ∧ y.cell? ⟨sz + 1, 3, none⟩ = some (.int .i64 (h 3))) (UA : ThAt w1 (.slice up0 n0 ud0) (.slice up1 n1 ud1) (.slice up2 n2 ud2) ⟨n0, fs, pc, on, n1, gs, n2, hs⟩) 
    (FN : ∀ v0 v1 v2 y, ThAt y v0 v1 v2 ⟨n0, fs, pc, on, n1, gs, n2, hs⟩ → Calls Try.prog 31 #[ThV v0 v1 v2 pc on, HelpV h] y (ThAns y T)) :
    Code.wp Try.prog (Code.region 7 (List.toArray reg7L) true) (Exit.then (fun a' y => ∃ (s3 v0 v1 v2 : Value) (q : Nat), a' = ⟨List.toArray (j0 :: j1 :: .pointer (some ⟨sz, 0, none⟩) :: .pointer (some ⟨sz + 1, 0, none⟩) :: j4 :: j5 :: j6 :: .pointer (some ⟨q5, 0, none⟩) :: .pointer (some ⟨q, 0, none⟩) :: j9 :: j10 :: j11 :: j12 :: j13 :: j14 :: j15 :: j16 :: j17 :: j18 :: j19 :: j20 :: j21 :: j22 :: j23 :: j24 :: .agg #[.slice up0 n0 ud0, .int .i64 pc, .bool on, .slice up1 n1 ud1, .slice up2 n2 ud2] :: .agg #[.int .i64 (h 0), .int .i64 (h 1), .int .i64 (h 2), .int .i64 (h 3)] :: s3 :: ThV v0 v1 v2 T.pc T.on :: j29 :: j30 :: j31 :: j32 :: j33 :: j34 :: j35 :: j36 :: j37 :: j38 :: j39 :: j40 :: j41 :: j42 :: j43 :: j44 :: j45 :: j46 :: j47 :: j48 :: j49 :: j50 :: j51 :: j52 :: j53 :: j54 :: j55 :: j56 :: j57 :: j58 :: j59 :: j60 :: j61 :: j62 :: j63 :: j64 :: j65 :: j66 :: j67 :: j68 :: j69 :: j70 :: j71 :: j72 :: j73 :: j74 :: j75 :: j76 :: []), []⟩ ∧ Box y q #[v0, .int .i64 T.pc, .bool T.on, v1, v2] 46 ∧ ThO y w1.heap.size v0 v1 v2 T ∧ ¬ In3 v0 v1 v2 q ∧ w1.heap.size ≤ q ∧ Below w1.heap.size w1 y) (fun _ _ _ => False)) ⟨List.toArray (j0 :: j1 :: .pointer (some ⟨sz, 0, none⟩) :: .pointer (some ⟨sz + 1, 0, none⟩) :: j4 :: j5 :: j6 :: .pointer (some ⟨q5, 0, none⟩) :: j8 :: j9 :: j10 :: j11 :: j12 :: j13 :: j14 :: j15 :: j16 :: j17 :: j18 :: j19 :: j20 :: j21 :: j22 :: j23 :: j24 :: j25 :: j26 :: j27 :: j28 :: j29 :: j30 :: j31 :: j32 :: j33 :: j34 :: j35 :: j36 :: j37 :: j38 :: j39 :: j40 :: j41 :: j42 :: j43 :: j44 :: j45 :: j46 :: j47 :: j48 :: j49 :: j50 :: j51 :: j52 :: j53 :: j54 :: j55 :: j56 :: j57 :: j58 :: j59 :: j60 :: j61 :: j62 :: j63 :: j64 :: j65 :: j66 :: j67 :: j68 :: j69 :: j70 :: j71 :: j72 :: j73 :: j74 :: j75 :: j76 :: []), []⟩ w1 := by
  refine wp_region_held_drew (S := fun w' => (w'.cell? ⟨q5, 0, none⟩ = some (.slice up0 n0 ud0) ∧ w'.cell? ⟨q5, 1, none⟩ = some (.int .i64 pc) ∧ w'.cell? ⟨q5, 2, none⟩ = some (.bool on) ∧ w'.cell? ⟨q5, 3, none⟩ = some (.slice up1 n1 ud1) ∧ w'.cell? ⟨q5, 4, none⟩ = some (.slice up2 n2 ud2)) ∧ w'.cell? ⟨sz + 1, 0, none⟩ = some (.int .i64 (h 0)) ∧ w'.cell? ⟨sz + 1, 1, none⟩ = some (.int .i64 (h 1)) ∧ w'.cell? ⟨sz + 1, 2, none⟩ = some (.int .i64 (h 2)) ∧ w'.cell? ⟨sz + 1, 3, none⟩ = some (.int .i64 (h 3))) (by kernel_rfl) (CEL _ (Below.refl _ _).drew) (fun hHeld => ?_)
  refine wpAnyH_take (i := 0) (oi := _) (v := .agg #[.slice up0 n0 ud0, .int .i64 pc, .bool on, .slice up1 n1 ud1, .slice up2 n2 ud2]) (by rw [List.getElem?_toArray]; exact rfl) (by kernel_rfl) (by kernel_rfl) (by kernel_rfl) (by intro _ _ _ h; exact h) (Or.inl ⟨by kernel_rfl, ?_⟩) hHeld ?_
  · intro w hSw; obtain ⟨⟨c0, c1, c2, c3, c4⟩, d0, d1, d2, d3⟩ := hSw; go_simp
  (try simp only [Act.put, List.setIfInBounds_toArray, List.set_cons_zero, List.set_cons_succ])
  refine wpAnyH_take (i := 1) (oi := _) (v := .agg #[.int .i64 (h 0), .int .i64 (h 1), .int .i64 (h 2), .int .i64 (h 3)]) (by rw [List.getElem?_toArray]; exact rfl) (by kernel_rfl) (by kernel_rfl) (by kernel_rfl) (by intro _ _ _ h; exact h) (Or.inl ⟨by kernel_rfl, ?_⟩) hHeld ?_
  · intro w hSw; obtain ⟨⟨c0, c1, c2, c3, c4⟩, d0, d1, d2, d3⟩ := hSw; go_simp
  (try simp only [Act.put, List.setIfInBounds_toArray, List.set_cons_zero, List.set_cons_succ])
  refine wpAnyH_inv (z := 5) (R := fun l a y => ∃ (b3 b4 b5 : Bool) (s3 s4 s5 : Value), l = #[true, true, b3, b4, b5, false] ∧ a = ⟨List.toArray (j0 :: j1 :: .pointer (some ⟨sz, 0, none⟩) :: .pointer (some ⟨sz + 1, 0, none⟩) :: j4 :: j5 :: j6 :: .pointer (some ⟨q5, 0, none⟩) :: s5 :: j9 :: j10 :: j11 :: j12 :: j13 :: j14 :: j15 :: j16 :: j17 :: j18 :: j19 :: j20 :: j21 :: j22 :: j23 :: j24 :: .agg #[.slice up0 n0 ud0, .int .i64 pc, .bool on, .slice up1 n1 ud1, .slice up2 n2 ud2] :: .agg #[.int .i64 (h 0), .int .i64 (h 1), .int .i64 (h 2), .int .i64 (h 3)] :: s3 :: s4 :: j29 :: j30 :: j31 :: j32 :: j33 :: j34 :: j35 :: j36 :: j37 :: j38 :: j39 :: j40 :: j41 :: j42 :: j43 :: j44 :: j45 :: j46 :: j47 :: j48 :: j49 :: j50 :: j51 :: j52 :: j53 :: j54 :: j55 :: j56 :: j57 :: j58 :: j59 :: j60 :: j61 :: j62 :: j63 :: j64 :: j65 :: j66 :: j67 :: j68 :: j69 :: j70 :: j71 :: j72 :: j73 :: j74 :: j75 :: j76 :: []), []⟩ ∧ R5 w1 ⟨n0, fs, pc, on, n1, gs, n2, hs⟩ T h false b3 b4 b5 (ThV (.slice up0 n0 ud0) (.slice up1 n1 ud1) (.slice up2 n2 ud2) pc on) s3 s4 s5 y) (by kernel_rfl) ?_ (of_decide_eq_true (by kernel_rfl)) (waits_at (by kernel_rfl)) ?_ ?_ _ _ _ _ (by kernel_rfl) (of_decide_eq_true (by kernel_rfl)) (by kernel_rfl) (by kernel_rfl) ?_
  · rintro l a w' ⟨b3, b4, b5, s3, s4, s5, rfl, rfl, J⟩
    exact CEL _ J.bel
  · rw [show (List.range (List.toArray reg7L).size).filter (· != 5) = [0, 1, 2, 3, 4] by kernel_rfl]
    refine StepAll.skip (fun l a w' => by rintro ⟨b3, b4, b5, s3, s4, s5, rfl, rfl, J⟩; rfl) ?_
    refine StepAll.skip (fun l a w' => by rintro ⟨b3, b4, b5, s3, s4, s5, rfl, rfl, J⟩; rfl) ?_
    refine StepAll.cons (o := _) (by rw [List.getElem?_toArray]; exact rfl) ?_ ?_
    · rintro K' l a wx ⟨b3, b4, b5, s3, s4, s5, rfl, rfl, J⟩ hf he hK
      rw [if_pos (by kernel_rfl)]
      go_simp
      refine (kToHelp (h 0) (h 1) (h 2) (h 3) _).mono ?_
      rintro e y' ⟨rfl, hb⟩
      refine hK.out _ _ ?_
      exact ⟨true, b4, b5, _, s4, s5, rfl, rfl, J.help hb⟩
    refine StepAll.cons (o := _) (by rw [List.getElem?_toArray]; exact rfl) ?_ ?_
    · rintro K' l a wx ⟨b3, b4, b5, s3, s4, s5, rfl, rfl, J⟩ hf he hK
      have h3 : b3 = true := by simpa using he ⟨2, .data⟩ (by simp) rfl
      obtain rfl := J.c3 h3
      have A := UA.below J.bel (Nat.le_refl _)
      rw [if_pos (by kernel_rfl)]
      go_simp
      refine (FN _ _ _ _ A).mono ?_
      rintro e y' ⟨v0, v1, v2, rfl, o, hb⟩
      refine hK.out _ _ ?_
      exact ⟨b3, true, b5, _, _, s5, rfl, rfl, J.call o hb⟩
    refine StepAll.cons (o := _) (by rw [List.getElem?_toArray]; exact rfl) ?_ ?_
    · rintro K' l a wx ⟨b3, b4, b5, s3, s4, s5, rfl, rfl, J⟩ hf he hK
      rw [if_pos (by kernel_rfl)]
      go_simp
      refine hK.out _ _ ?_
      exact ⟨b3, b4, true, s3, s4, _, rfl, rfl, J.box⟩
    exact StepAll.nil
  · refine last_step (o := _) (by rw [List.getElem?_toArray]; exact rfl) ?_
    rintro K' l a y ⟨b3, b4, b5, s3, s4, s5, rfl, rfl, J⟩ hall hK
    have h4 : b4 = true := by simpa using hall 3 (of_decide_eq_true (by kernel_rfl)) (by decide)
    have h5 : b5 = true := by simpa using hall 4 (of_decide_eq_true (by kernel_rfl)) (by decide)
    obtain ⟨q, rfl, bx, lq⟩ := J.c5 h5
    obtain ⟨v0, v1, v2, rfl, o, nq⟩ := J.c4 h4
    have nq' := nq h5 q rfl
    have hbel := J.bel
    obtain ⟨p0, e0, p1, e1, p2, e2, rfl, rfl, rfl⟩ := o.forms
    obtain ⟨r0, r1, r2, r3, r4, f0, f1, f2, f3, f4⟩ := bx.five
    have BX : Hid (Box y q #[.slice none 0 0, .int .i64 0, .bool false, .slice none 0 0, .slice none 0 0] 46) := bx
    have HO : Hid (ThO y w1.heap.size _ _ _ T) := o
    have NQ : Hid (¬ In3 _ _ _ q) := nq'
    have HB : Hid (Below w1.heap.size w1 y) := hbel
    have LQ : Hid (w1.heap.size ≤ q) := lq
    clear J hall bx o nq nq' hbel lq
    rw [if_pos (by kernel_rfl)]
    go_simp
    have HB' := below_set5 HB.out LQ.out (.slice p0 T.n0 e0) (.int .i64 T.pc) (.bool T.on) (.slice p1 T.n1 e1) (.slice p2 T.n2 e2)
    refine hK.out _ _ (CEL _ HB') ?_
    exact ⟨s3, _, _, _, q, rfl, ((((BX.out.put 0 _).put 1 _).put 2 _).put 3 _).put 4 _, HO.out.set5 NQ.out _ _ _ _ _, NQ.out, LQ.out, HB'⟩
  · exact ⟨false, false, false, j27, j28, j8, rfl, rfl, R5.begin7 _ _ _ _ _ _ _ _⟩
noncomputable def reg24L : List Oper := match Try.f7.body with
  | some (.seq _ (.seq _ (.seq _ (.seq _ (.seq _ (.seq _ (.seq _ (.seq _ (.seq _ (.seq _ (.seq _ (.seq _ (.seq _ (.seq _ (.seq _ (.seq _ (.seq _ (.seq _ (.seq (.region _ ops _) _))))))))))))))))))) => ops.toList
  | _ => []
set_option maxHeartbeats 4000000 in
set_option maxRecDepth 100000 in
theorem reg24_wp {j0 j1 j4 j5 j6 j7 j8 j9 j10 j11 j12 j13 j14 j15 j16 j17 j18 j19 j20 j21 j22 j23 j24 j25 j26 j27 j28 j29 j30 j31 j32 j33 j34 j35 j36 j37 j38 j39 j40 j41 j42 j43 j44 j45 j46 j47 j48 j49 j50 j51 j52 j53 j54 j55 j56 j57 j58 j59 j60 j61 j62 j63 j64 j65 j66 j67 j68 j69 j70 j71 j72 j73 j74 j75 j76 : Value} (sz : Nat) (a0 a1 a2 : Option Addr) (c0 c1 c2 : Nat) (n0 n1 n2 : Nat) (fs gs hs : List Int) (pc : Int) (on : Bool) (h : Nat → Int) (T : TD) (w1 : World) (SM : TD.Small ⟨n0, fs, pc, on, n1, gs, n2, hs⟩)
    (CEL : ∀ y, Below w1.heap.size w1 y → (y.cell? ⟨sz, 0, none⟩ = some (.slice a0 n0 c0) ∧ y.cell? ⟨sz, 1, none⟩ = some (.int .i64 pc) ∧ y.cell? ⟨sz, 2, none⟩ = some (.bool on) ∧ y.cell? ⟨sz, 3, none⟩ = some (.slice a1 n1 c1) ∧ y.cell? ⟨sz, 4, none⟩ = some (.slice a2 n2 c2)) ∧ y.cell? ⟨sz + 1, 0, none⟩ = some (.int .i64 (h 0)) ∧ y.cell? ⟨sz + 1, 1, none⟩ = some (.int .i64 (h 1)) ∧ y.cell? ⟨sz + 1, 2, none⟩ = some (.int .i64 (h 2)) ∧ y.cell? ⟨sz + 1, 3, none⟩ = some (.int .i64 (h 3))) (INS : ∀ y, Below w1.heap.size w1 y → ThIn y a0 a1 a2 ⟨n0, fs, pc, on, n1, gs, n2, hs⟩) 
    (FN : ∀ v0 v1 v2 y, ThAt y v0 v1 v2 ⟨n0, fs, pc, on, n1, gs, n2, hs⟩ → Calls Try.prog 31 #[ThV v0 v1 v2 pc on, HelpV h] y (ThAns y T)) :
    Code.wp Try.prog (Code.region 24 (List.toArray reg24L) true) (Exit.then (fun a' y => ∃ (s1 s3 v0 v1 v2 : Value) (q : Nat), a' = ⟨List.toArray (j0 :: j1 :: .pointer (some ⟨sz, 0, none⟩) :: .pointer (some ⟨sz + 1, 0, none⟩) :: j4 :: j5 :: j6 :: j7 :: j8 :: j9 :: j10 :: j11 :: .pointer (some ⟨q, 0, none⟩) :: j13 :: j14 :: j15 :: j16 :: j17 :: j18 :: j19 :: j20 :: j21 :: j22 :: j23 :: j24 :: j25 :: j26 :: j27 :: j28 :: j29 :: j30 :: j31 :: j32 :: j33 :: j34 :: j35 :: j36 :: j37 :: j38 :: j39 :: j40 :: j41 :: j42 :: j43 :: j44 :: j45 :: j46 :: j47 :: j48 :: j49 :: j50 :: j51 :: j52 :: j53 :: j54 :: j55 :: j56 :: j57 :: j58 :: j59 :: .agg #[.slice a0 n0 c0, .int .i64 pc, .bool on, .slice a1 n1 c1, .slice a2 n2 c2] :: s1 :: .agg #[.int .i64 (h 0), .int .i64 (h 1), .int .i64 (h 2), .int .i64 (h 3)] :: s3 :: ThV v0 v1 v2 T.pc T.on :: j65 :: j66 :: j67 :: j68 :: j69 :: j70 :: j71 :: j72 :: j73 :: j74 :: j75 :: j76 :: []), []⟩ ∧ Box y q #[v0, .int .i64 T.pc, .bool T.on, v1, v2] 46 ∧ ThO y w1.heap.size v0 v1 v2 T ∧ ¬ In3 v0 v1 v2 q ∧ w1.heap.size ≤ q ∧ Below w1.heap.size w1 y) (fun _ _ _ => False)) ⟨List.toArray (j0 :: j1 :: .pointer (some ⟨sz, 0, none⟩) :: .pointer (some ⟨sz + 1, 0, none⟩) :: j4 :: j5 :: j6 :: j7 :: j8 :: j9 :: j10 :: j11 :: j12 :: j13 :: j14 :: j15 :: j16 :: j17 :: j18 :: j19 :: j20 :: j21 :: j22 :: j23 :: j24 :: j25 :: j26 :: j27 :: j28 :: j29 :: j30 :: j31 :: j32 :: j33 :: j34 :: j35 :: j36 :: j37 :: j38 :: j39 :: j40 :: j41 :: j42 :: j43 :: j44 :: j45 :: j46 :: j47 :: j48 :: j49 :: j50 :: j51 :: j52 :: j53 :: j54 :: j55 :: j56 :: j57 :: j58 :: j59 :: j60 :: j61 :: j62 :: j63 :: j64 :: j65 :: j66 :: j67 :: j68 :: j69 :: j70 :: j71 :: j72 :: j73 :: j74 :: j75 :: j76 :: []), []⟩ w1 := by
  refine wp_region_held_drew (S := fun w' => (w'.cell? ⟨sz, 0, none⟩ = some (.slice a0 n0 c0) ∧ w'.cell? ⟨sz, 1, none⟩ = some (.int .i64 pc) ∧ w'.cell? ⟨sz, 2, none⟩ = some (.bool on) ∧ w'.cell? ⟨sz, 3, none⟩ = some (.slice a1 n1 c1) ∧ w'.cell? ⟨sz, 4, none⟩ = some (.slice a2 n2 c2)) ∧ w'.cell? ⟨sz + 1, 0, none⟩ = some (.int .i64 (h 0)) ∧ w'.cell? ⟨sz + 1, 1, none⟩ = some (.int .i64 (h 1)) ∧ w'.cell? ⟨sz + 1, 2, none⟩ = some (.int .i64 (h 2)) ∧ w'.cell? ⟨sz + 1, 3, none⟩ = some (.int .i64 (h 3))) (by kernel_rfl) (CEL _ (Below.refl _ _).drew) (fun hHeld => ?_)
  refine wpAnyH_take (i := 0) (oi := _) (v := .agg #[.slice a0 n0 c0, .int .i64 pc, .bool on, .slice a1 n1 c1, .slice a2 n2 c2]) (by rw [List.getElem?_toArray]; exact rfl) (by kernel_rfl) (by kernel_rfl) (by kernel_rfl) (by intro _ _ _ h; exact h) (Or.inl ⟨by kernel_rfl, ?_⟩) hHeld ?_
  · intro w hSw; obtain ⟨⟨c0, c1, c2, c3, c4⟩, d0, d1, d2, d3⟩ := hSw; go_simp
  (try simp only [Act.put, List.setIfInBounds_toArray, List.set_cons_zero, List.set_cons_succ])
  refine wpAnyH_take (i := 2) (oi := _) (v := .agg #[.int .i64 (h 0), .int .i64 (h 1), .int .i64 (h 2), .int .i64 (h 3)]) (by rw [List.getElem?_toArray]; exact rfl) (by kernel_rfl) (by kernel_rfl) (by kernel_rfl) (by intro _ _ _ h; exact h) (Or.inl ⟨by kernel_rfl, ?_⟩) hHeld ?_
  · intro w hSw; obtain ⟨⟨c0, c1, c2, c3, c4⟩, d0, d1, d2, d3⟩ := hSw; go_simp
  (try simp only [Act.put, List.setIfInBounds_toArray, List.set_cons_zero, List.set_cons_succ])
  refine wpAnyH_inv (z := 6) (R := fun l a y => ∃ (b1 b3 b4 b5 : Bool) (s1 s3 s4 s5 : Value), l = #[true, b1, true, b3, b4, b5, false] ∧ a = ⟨List.toArray (j0 :: j1 :: .pointer (some ⟨sz, 0, none⟩) :: .pointer (some ⟨sz + 1, 0, none⟩) :: j4 :: j5 :: j6 :: j7 :: j8 :: j9 :: j10 :: j11 :: s5 :: j13 :: j14 :: j15 :: j16 :: j17 :: j18 :: j19 :: j20 :: j21 :: j22 :: j23 :: j24 :: j25 :: j26 :: j27 :: j28 :: j29 :: j30 :: j31 :: j32 :: j33 :: j34 :: j35 :: j36 :: j37 :: j38 :: j39 :: j40 :: j41 :: j42 :: j43 :: j44 :: j45 :: j46 :: j47 :: j48 :: j49 :: j50 :: j51 :: j52 :: j53 :: j54 :: j55 :: j56 :: j57 :: j58 :: j59 :: .agg #[.slice a0 n0 c0, .int .i64 pc, .bool on, .slice a1 n1 c1, .slice a2 n2 c2] :: s1 :: .agg #[.int .i64 (h 0), .int .i64 (h 1), .int .i64 (h 2), .int .i64 (h 3)] :: s3 :: s4 :: j65 :: j66 :: j67 :: j68 :: j69 :: j70 :: j71 :: j72 :: j73 :: j74 :: j75 :: j76 :: []), []⟩ ∧ R5 w1 ⟨n0, fs, pc, on, n1, gs, n2, hs⟩ T h b1 b3 b4 b5 s1 s3 s4 s5 y) (by kernel_rfl) ?_ (of_decide_eq_true (by kernel_rfl)) (waits_at (by kernel_rfl)) ?_ ?_ _ _ _ _ (by kernel_rfl) (of_decide_eq_true (by kernel_rfl)) (by kernel_rfl) (by kernel_rfl) ?_
  · rintro l a w' ⟨b1, b3, b4, b5, s1, s3, s4, s5, rfl, rfl, J⟩
    exact CEL _ J.bel
  · rw [show (List.range (List.toArray reg24L).size).filter (· != 6) = [0, 1, 2, 3, 4, 5] by kernel_rfl]
    refine StepAll.skip (fun l a w' => by rintro ⟨b1, b3, b4, b5, s1, s3, s4, s5, rfl, rfl, J⟩; rfl) ?_
    refine StepAll.cons (o := _) (by rw [List.getElem?_toArray]; exact rfl) ?_ ?_
    · rintro K' l a wx ⟨b1, b3, b4, b5, s1, s3, s4, s5, rfl, rfl, J⟩ hf he hK
      rw [if_pos (by kernel_rfl)]
      go_simp
      refine (toThread_any a0 a1 a2 c0 c1 c2 ⟨n0, fs, pc, on, n1, gs, n2, hs⟩ _ (INS _ J.bel)).mono ?_
      rintro e y' ⟨v0, v1, v2, rfl, o, hb⟩
      refine hK.out _ _ ?_
      exact ⟨true, b3, b4, b5, _, s3, s4, s5, rfl, rfl, J.thread o hb⟩
    refine StepAll.skip (fun l a w' => by rintro ⟨b1, b3, b4, b5, s1, s3, s4, s5, rfl, rfl, J⟩; rfl) ?_
    refine StepAll.cons (o := _) (by rw [List.getElem?_toArray]; exact rfl) ?_ ?_
    · rintro K' l a wx ⟨b1, b3, b4, b5, s1, s3, s4, s5, rfl, rfl, J⟩ hf he hK
      rw [if_pos (by kernel_rfl)]
      go_simp
      refine (kToHelp (h 0) (h 1) (h 2) (h 3) _).mono ?_
      rintro e y' ⟨rfl, hb⟩
      refine hK.out _ _ ?_
      exact ⟨b1, true, b4, b5, s1, _, s4, s5, rfl, rfl, J.help hb⟩
    refine StepAll.cons (o := _) (by rw [List.getElem?_toArray]; exact rfl) ?_ ?_
    · rintro K' l a wx ⟨b1, b3, b4, b5, s1, s3, s4, s5, rfl, rfl, J⟩ hf he hK
      have h3 : b3 = true := by simpa using he ⟨3, .data⟩ (by simp) rfl
      obtain rfl := J.c3 h3
      have h1 : b1 = true := by simpa using he ⟨1, .data⟩ (by simp) rfl
      obtain ⟨z0, z1, z2, rfl, zo⟩ := J.c1 h1
      have A := zo.at SM
      rw [if_pos (by kernel_rfl)]
      go_simp
      refine (FN _ _ _ _ A).mono ?_
      rintro e y' ⟨v0, v1, v2, rfl, o, hb⟩
      refine hK.out _ _ ?_
      exact ⟨b1, b3, true, b5, _, _, _, s5, rfl, rfl, J.call o hb⟩
    refine StepAll.cons (o := _) (by rw [List.getElem?_toArray]; exact rfl) ?_ ?_
    · rintro K' l a wx ⟨b1, b3, b4, b5, s1, s3, s4, s5, rfl, rfl, J⟩ hf he hK
      rw [if_pos (by kernel_rfl)]
      go_simp
      refine hK.out _ _ ?_
      exact ⟨b1, b3, b4, true, s1, s3, s4, _, rfl, rfl, J.box⟩
    exact StepAll.nil
  · refine last_step (o := _) (by rw [List.getElem?_toArray]; exact rfl) ?_
    rintro K' l a y ⟨b1, b3, b4, b5, s1, s3, s4, s5, rfl, rfl, J⟩ hall hK
    have h4 : b4 = true := by simpa using hall 4 (of_decide_eq_true (by kernel_rfl)) (by decide)
    have h5 : b5 = true := by simpa using hall 5 (of_decide_eq_true (by kernel_rfl)) (by decide)
    obtain ⟨q, rfl, bx, lq⟩ := J.c5 h5
    obtain ⟨v0, v1, v2, rfl, o, nq⟩ := J.c4 h4
    have nq' := nq h5 q rfl
    have hbel := J.bel
    obtain ⟨p0, e0, p1, e1, p2, e2, rfl, rfl, rfl⟩ := o.forms
    obtain ⟨r0, r1, r2, r3, r4, f0, f1, f2, f3, f4⟩ := bx.five
    have BX : Hid (Box y q #[.slice none 0 0, .int .i64 0, .bool false, .slice none 0 0, .slice none 0 0] 46) := bx
    have HO : Hid (ThO y w1.heap.size _ _ _ T) := o
    have NQ : Hid (¬ In3 _ _ _ q) := nq'
    have HB : Hid (Below w1.heap.size w1 y) := hbel
    have LQ : Hid (w1.heap.size ≤ q) := lq
    clear J hall bx o nq nq' hbel lq
    rw [if_pos (by kernel_rfl)]
    go_simp
    have HB' := below_set5 HB.out LQ.out (.slice p0 T.n0 e0) (.int .i64 T.pc) (.bool T.on) (.slice p1 T.n1 e1) (.slice p2 T.n2 e2)
    refine hK.out _ _ (CEL _ HB') ?_
    exact ⟨s1, s3, _, _, _, q, rfl, ((((BX.out.put 0 _).put 1 _).put 2 _).put 3 _).put 4 _, HO.out.set5 NQ.out _ _ _ _ _, NQ.out, LQ.out, HB'⟩
  · exact ⟨false, false, false, false, j61, j63, j64, j12, rfl, rfl, R5.begin _ _ _ _ _ _ _ _⟩
end fnExactPush
end Go.Proofs.Ytemeklfkbjpnmar
