/- The law FnProjects, walked from what the program's Project is said to answer. -/
import Derived.Test.YtmgofehafjogfaaRows
import Derived.Test.YtmgofehafjogfaaDrawPj
import Derived.Test.YtmgofehafjogfaaAppVL
import Derived.Test.YtmgofehafjogfaaAt1
import Derived.Test.YtmgofehafjogfaaSameT
import Derived.Test.YtmgofehafjogfaaSameI
import Derived.Test.YtmgofehafjogfaaSpecPj
import Derived.WalkKit
import Derived.ProofKit
import Derived.OpenShut
import Derived.ChangeOld
import Derived.Below
import Derived.Lib.SmallJoins
import Derived.Deep.RegionHeld3
import Derived.Deep.Cut
namespace Go.Proofs.Ytmgofehafjogfaa
open Go.ChangeShapes Go.WideShapes Go.ChangeAt Go.RowKit Go.Joins

namespace fnProjects
theorem own : ownKnob Try.prog.godebug = none := by kernel_rfl
theorem laidOut : laidOutB Try.prog = true := by kernel_rfl
/-- What the law asks of the program's function. -/
def Asked : Prop := ∀ (a : Option Addr) (n c : Nat) (L : List Va3) (b : Option Addr) (m d : Nat) (xs : List Int) (w : World), VasAt w a n L → n ≤ c → VasSz L → IntAt w b m xs → m ≤ d → m ≤ 1048576 → Calls Try.prog 28 #[.slice a n c, .slice b m d] w fun e w' => (∃ v, e = .returned v ∧ VOwn w' w.heap.size v (projL L xs)) ∧ Below w.heap.size w w'
theorem bytes_nowP {w w' : World} {a : Option Addr} {n : Nat} (h : BytesAt w w.heap.size a n) (hb : Below w.heap.size w w') : BytesAt w' w'.heap.size a n :=
  (h.keep fun k hk => hb.block k hk).mono hb.size
theorem int_front {w : World} {a : Option Addr} {n : Nat} {xs : List Int} (h : IntAt w a n xs) {k : Nat} (hk : k ≤ n) : IntAt w a k (xs.take k) := by
  obtain ⟨h1, h2, h3⟩ := h
  refine ⟨by rw [List.length_take]; omega, by omega, ?_⟩
  rcases h3 with h3 | ⟨b, o, h4, h5⟩
  · exact .inl (by omega)
  · refine .inr ⟨b, o, h4, fun i hi => ?_⟩
    rw [h5 i (by omega)]
    simp [List.getD, hi]
theorem int_back {w : World} {g n c : Nat} {xs : List Int} (h : IntAt w (some ⟨g, 0, none⟩) n xs) {k : Nat} (hk : k ≤ n) (hc : n ≤ c) : IntAt w (if c = k then some ⟨g, 0, none⟩ else (some (⟨g, 0, none⟩ : Addr)).map (·.add (k * 1))) (n - k) (xs.drop k) := by
  obtain ⟨h1, h2, h3⟩ := h
  refine ⟨by rw [List.length_drop]; omega, by omega, ?_⟩
  rcases h3 with h3 | ⟨b, o, h4, h5⟩
  · exact .inl (by omega)
  · cases h4
    by_cases hck : c = k
    · exact .inl (by omega)
    · refine .inr ⟨g, k, by rw [if_neg hck, Option.map_some, add_plain]; simp, fun i hi => ?_⟩
      have h8 := h5 (k + i) (by omega)
      rw [Nat.zero_add] at h8
      rw [h8]
      simp [List.getD, List.getElem?_drop]
set_option maxHeartbeats 8000000 in
set_option maxRecDepth 100000 in
theorem walk (a : Option Addr) (n c : Nat) (w : World) (hB : BytesAt w w.heap.size a n) (iC : Asked) :
    Calls Try.prog 4 #[.slice a n c] w fun e w' => e = .returned (.bool true) ∧ Below w.heap.size w w' := by
  have HB : Hid (BytesAt w w.heap.size a n) := hB
  have IC : Hid (∀ (a : Option Addr) (n c : Nat) (L : List Va3) (b : Option Addr) (m d : Nat) (xs : List Int) (w : World), VasAt w a n L → n ≤ c → VasSz L → IntAt w b m xs → m ≤ d → m ≤ 1048576 → Calls Try.prog 28 #[.slice a n c, .slice b m d] w fun e w' => (∃ v, e = .returned v ∧ VOwn w' w.heap.size v (projL L xs)) ∧ Below w.heap.size w w') := iC
  clear hB iC
  by_cases hbig : 1048576 < n
  · go_enter Try.func4, Try.ntmps4
    go_wp2_with fail
    refine (bigI a n c w).mono ?_
    rintro e w0 ⟨rfl, hw⟩
    rw [hw, decide_eq_true hbig]
    go_wp2
    go_ret
    exact ⟨rfl, Below.refl _ _⟩
  have hn : n ≤ 1048576 := by omega
  go_enter Try.func4, Try.ntmps4
  go_wp2_with fail
  refine (bigI a n c w).mono ?_
  rintro e w0 ⟨rfl, hw⟩
  rw [hw, decide_eq_false hbig]
  clear hw hbig
  go_wp2_with fail
  refine (drawProject_any a n c _ hn HB.out).mono ?_
  rintro e w1 ⟨⟨v1, u1, L, xs, rfl, o1, i1, l1, l2, hnn, hvz⟩, hb⟩
  have B1 : Hid (Below w.heap.size w w1) := hb
  obtain ⟨a1, c1, rfl, hc1, hv1⟩ := own_vas o1 (by omega)
  have V1 : Hid (VasAt w1 a1 L.length L) := hv1
  have HC1 : Hid (L.length ≤ c1) := hc1
  have HVZ : Hid (VasSz L) := hvz
  obtain ⟨gc, cp, rfl⟩ : ∃ g cap, u1 = .slice (some ⟨g, 0, none⟩) xs.length cap := by
    rcases owns_forms i1 with ⟨h1, _⟩ | h1
    · exact absurd h1 hnn
    · exact h1
  obtain ⟨_, _, hq, hcp, hi1⟩ := iown_at i1 (by omega)
  cases hq
  have I1 : Hid (IntAt w1 (some ⟨gc, 0, none⟩) xs.length xs) := hi1
  have HCP : Hid (xs.length ≤ cp) := hcp
  have HX3 : Hid (xs.length ≤ 3) := l2
  obtain ⟨P, hP⟩ : ∃ P, projL L xs = P := ⟨_, rfl⟩
  have HP : Hid (projL L xs = P) := hP
  have HPM : Hid (P.length ≤ xs.length) := by show _ ≤ _; rw [← hP]; exact proj_len _ _
  have hpl : (P.length : Int) ≤ (xs.length : Int) := by have := HPM.out; omega
  clear hb hvz o1 i1 l1 hv1 hc1 hi1 hcp hnn hP
  go_wp2_with fail
  refine (IC.out a1 L.length c1 L (some ⟨gc, 0, none⟩) xs.length cp xs _ V1.out HC1.out HVZ.out I1.out HCP.out (by omega)).mono ?_
  rintro e w2 ⟨⟨v2, rfl, ho⟩, hb⟩
  rw [HP.out] at ho
  have O2 : Hid (VOwn w2 w1.heap.size v2 P) := ho
  clear ho
  have HST2 : Hid (Below w1.heap.size w1 w2) := hb
  have B2 : Hid (Below w.heap.size w w2) := B1.out.trans (hb.mono B1.out.size)
  clear hb
  go_wp2_with fail
  refine (specProject_any a1 L.length c1 L (some ⟨gc, 0, none⟩) xs.length cp xs _ (V1.out.below HST2.out (Nat.le_refl _)) (I1.out.below HST2.out (Nat.le_refl _)) (by omega)).mono ?_
  rintro e w3 ⟨⟨v3, rfl, ho⟩, hb⟩
  rw [HP.out] at ho
  have O3 : Hid (VOwn w3 w2.heap.size v3 P) := ho
  clear ho
  have HST3 : Hid (Below w2.heap.size w2 w3) := hb
  have B3 : Hid (Below w.heap.size w w3) := B2.out.trans (hb.mono B2.out.size)
  clear hb
  obtain ⟨xa, xc, hx, -, ax⟩ := own_vas (owns_below O2.out HST3.out (Nat.le_refl _)) (by omega)
  obtain ⟨ya, yc, hy, -, ay⟩ := own_vas O3.out (by omega)
  have AX : Hid (VasAt w3 xa P.length P) := ax
  have AY : Hid (VasAt w3 ya P.length P) := ay
  have EQX : Hid (v2 = .slice xa P.length xc) := hx
  have EQY : Hid (v3 = .slice ya P.length yc) := hy
  clear ax ay hx hy
  go_wp2_with
    (go_at_call 23
     rw [EQX.out, EQY.out]
     refine (sameT_any xa ya P.length P.length xc yc P P _ AX.out AY.out).mono ?_
     rintro e w4 ⟨rfl, hb⟩
     rw [decide_eq_true (rfl : P = P), ← EQX.out]
     have HST4 : Hid (Below w3.heap.size w3 w4) := hb
     have B4 : Hid (Below w.heap.size w w4) := B3.out.trans (hb.mono B3.out.size)
     clear hb)
  refine (at_one a n c _ hn (bytes_nowP HB.out B4.out)).mono ?_
  rintro e w5 ⟨r, hr, rfl, rfl⟩
  have V4 : Hid (VasAt w5 a1 L.length L) := ((V1.out.below HST2.out (Nat.le_refl _)).below HST3.out (Nat.le_refl _)).below HST4.out (Nat.le_refl _)
  have I4 : Hid (IntAt w5 (some ⟨gc, 0, none⟩) xs.length xs) := ((I1.out.below HST2.out (Nat.le_refl _)).below HST3.out (Nat.le_refl _)).below HST4.out (Nat.le_refl _)
  have O4 : Hid (VOwn w5 w1.heap.size v2 P) := owns_below (owns_below O2.out HST3.out (Nat.le_refl _)) HST4.out (Nat.le_refl _)
  obtain ⟨k, hk⟩ : ∃ k, r % (xs.length + 1) = k := ⟨_, rfl⟩
  have hkl : k ≤ xs.length := by have := Nat.mod_lt r (show 0 < xs.length + 1 by omega); omega
  have hkr : (r : Int) % ((xs.length : Int) + 1) = (k : Int) := by rw [← hk]; push_cast; rfl
  have hz1 : ¬ ((xs.length : Int) + 1 = 0) := by omega
  have hx4 : (xs.length : Int) ≤ 3 := by omega
  have hr0 : (0 : Int) ≤ (r : Int) := by omega
  have hn0 : (0 : Int) ≤ (xs.length : Int) + 1 := by omega
  have hk0 : (0 : Int) ≤ (k : Int) := by omega
  have hkc : k ≤ cp := Nat.le_trans hkl HCP.out
  obtain ⟨b1, hb1⟩ : ∃ b1, (if cp = k then some ⟨gc, 0, none⟩ else (some (⟨gc, 0, none⟩ : Addr)).map (·.add (k * 1))) = b1 := ⟨_, rfl⟩
  have hsf : ∀ w : World, (Instr.slice 25 (.slice (some ⟨gc, 0, none⟩) xs.length cp) none (some (.int .i64 (k : Int))) none).run Try.prog w = .ok (.slice (some ⟨gc, 0, none⟩) k cp) w := fun w => by
    rw [run_slice_h w 25 (some ⟨gc, 0, none⟩) xs.length cp Try.underlying25 .i64 (k : Int) (by omega) (by omega), show Try.prog.elem 25 = 3 from rfl, Try.sizeOf3 w]
    simp [Result.andThen, sliced, Addr.add]
  have hsb : ∀ w : World, (Instr.slice 25 (.slice (some ⟨gc, 0, none⟩) xs.length cp) (some (.int .i64 (k : Int))) none none).run Try.prog w = .ok (.slice b1 (xs.length - k) (cp - k)) w := fun w => by
    rw [run_slice_l w 25 (some ⟨gc, 0, none⟩) xs.length cp Try.underlying25 .i64 (k : Int) (by omega) (by omega), show Try.prog.elem 25 = 3 from rfl, Try.sizeOf3 w, ← hb1]
    simp [Result.andThen, sliced]
  have IF : Hid (IntAt w5 (some ⟨gc, 0, none⟩) k (xs.take k)) := int_front I4.out hkl
  have IK : Hid (IntAt w5 b1 (xs.length - k) (xs.drop k)) := by rw [← hb1]; exact int_back I4.out hkl HCP.out
  have HKB : Hid (xs.length - k ≤ cp - k) := Nat.sub_le_sub_right HCP.out k
  have HKC : Hid (k ≤ cp) := hkc
  have HKL : Hid (k ≤ xs.length) := hkl
  obtain ⟨lf, hlf⟩ : ∃ l, projL L (xs.take k) = l := ⟨_, rfl⟩
  obtain ⟨lb, hlb⟩ : ∃ l, projL L (xs.drop k) = l := ⟨_, rfl⟩
  have TF : Hid (projL L (xs.take k) = lf) := hlf
  have TB : Hid (projL L (xs.drop k) = lb) := hlb
  have TT : Hid (lf ++ lb = P) := by show _ = _; rw [← hlf, ← hlb, ← proj_append, List.take_append_drop]; exact HP.out
  have LF : Hid (lf.length + lb.length ≤ 3) := by have h1 := congrArg List.length TT.out; rw [List.length_append] at h1; have := HPM.out; show _ ≤ _; omega
  obtain ⟨g0, hg0⟩ : ∃ g, w5.heap.size = g := ⟨_, rfl⟩
  obtain ⟨W3, hW3⟩ : ∃ W, w5.alloc (.cells #[] 43) = W := ⟨_, rfl⟩
  have HG0 : Hid (w5.heap.size = g0) := hg0
  have HW3 : Hid (w5.alloc (.cells #[] 43) = W3) := hW3
  have Z3 : Hid (Below g0 w5 W3) := by rw [← hW3, ← hg0]; exact (Below.refl _ _).alloc (Nat.le_refl _) _
  have E3 : Hid (VOwn W3 g0 (.slice (some ⟨g0, 0, none⟩) 0 0) []) := by rw [← hW3]; exact vown_nil w5 hg0 (Nat.le_refl _)
  have G3 : Hid (g0 ≤ W3.heap.size) := by show _ ≤ _; rw [← hW3, World.size_alloc, hg0]; exact Nat.le_succ _
  clear hk hb1 hlf hlb hg0 hW3 hr
  go_upto_region 8 with (fail)
  go_upto_region 9 with (first
    | (go_at_call 28
       rw [HW3.out]
       refine (IC.out a1 L.length c1 L (some ⟨gc, 0, none⟩) k cp (xs.take k) _ (V4.out.below Z3.out (Nat.le_of_eq HG0.out)) HC1.out HVZ.out (IF.out.below Z3.out (Nat.le_of_eq HG0.out)) HKC.out (by have := HX3.out; have := HKL.out; omega)).mono ?_
       rintro e z1 ⟨⟨v6, rfl, ho⟩, hb⟩
       rw [TF.out] at ho
       have O6 : Hid (VOwn z1 W3.heap.size v6 lf) := ho
       have E1 : Hid (VOwn z1 g0 (.slice (some ⟨g0, 0, none⟩) 0 0) []) := owns_below E3.out hb (Nat.le_refl _)
       have Z1 : Hid (Below g0 w5 z1) := Z3.out.trans (hb.mono G3.out)
       have G1 : Hid (g0 ≤ z1.heap.size) := Nat.le_trans G3.out hb.size
       clear ho hb)
    | (at_builtin
       rw [HG0.out]
       refine list_appVL _ rfl _ _ rfl g0 W3.heap.size (.slice (some ⟨g0, 0, none⟩) 0 0) v6 [] lf rfl E1.out rfl O6.out (by have := LF.out; simp; omega) G1.out ?_
       intro v7 z2 ho hbel
       have O7 : Hid (VOwn z2 g0 v7 lf) := ho
       have Z2 : Hid (Below g0 w5 z2) := hbel w5 g0 (Nat.le_refl _) Z1.out
       clear ho hbel))
  have G2 : Hid (g0 ≤ z2.heap.size) := by have := Z2.out.size; rw [← HG0.out]; exact this
  have PL : Hid (∀ k, v2.ownBlock = some k → k < g0) := by rw [← HG0.out]; exact own_lt O4.out
  go_wp2_with (first
    | (go_at_call 28
       refine (IC.out a1 L.length c1 L b1 (xs.length - k) (cp - k) (xs.drop k) _ (V4.out.below Z2.out (Nat.le_of_eq HG0.out)) HC1.out HVZ.out (IK.out.below Z2.out (Nat.le_of_eq HG0.out)) HKB.out (by have := HX3.out; omega)).mono ?_
       rintro e z3 ⟨⟨v8, rfl, ho⟩, hb⟩
       rw [TB.out] at ho
       have O8 : Hid (VOwn z3 z2.heap.size v8 lb) := ho
       have E4 : Hid (VOwn z3 g0 v7 lf) := owns_below O7.out hb (Nat.le_refl _)
       have Z4 : Hid (Below g0 w5 z3) := Z2.out.trans (hb.mono G2.out)
       have G4 : Hid (g0 ≤ z3.heap.size) := Nat.le_trans G2.out hb.size
       clear ho hb)
    | (at_builtin
       refine list_appVL _ rfl _ _ rfl g0 z2.heap.size v7 v8 lf lb rfl E4.out rfl O8.out (by have := LF.out; omega) G4.out ?_
       intro v9 z4 ho hbel
       rw [TT.out] at ho
       have O9 : Hid (VOwn z4 g0 v9 P) := ho
       have Z5 : Hid (Below g0 w5 z4) := hbel w5 g0 (Nat.le_refl _) Z4.out
       have O10 : Hid (VOwn z4 w1.heap.size v2 P) := own_low O4.out PL.out Z5.out
       obtain ⟨sa, sc, hs9, -, as9⟩ := own_vas ho (by have := HPM.out; omega)
       obtain ⟨ta, tc, ht9, -, at9⟩ := own_vas O10.out (by have := HPM.out; omega)
       have AS : Hid (VasAt z4 sa P.length P) := as9
       have AT : Hid (VasAt z4 ta P.length P) := at9
       have EQS : Hid (v9 = .slice sa P.length sc) := hs9
       have EQT : Hid (v2 = .slice ta P.length tc) := ht9
       clear ho hbel hs9 ht9 as9 at9)
    | (go_at_call 23
       rw [EQS.out, EQT.out]
       refine (sameT_any sa ta P.length P.length sc tc P P _ AS.out AT.out).mono ?_
       rintro e z5 ⟨rfl, hb⟩
       rw [decide_eq_true (rfl : P = P)]
       have B9 : Hid (Below w.heap.size w z5) := B4.out.trans ((Z5.out.trans (hb.mono (Nat.le_trans G4.out (Nat.le_of_eq rfl) |> fun h => by have := Z5.out.size; rw [← HG0.out]; exact this))).mono (by rw [← HG0.out]; exact B4.out.size))
       clear hb))
  go_ret
  exact ⟨rfl, B9.out⟩

set_option maxHeartbeats 1000000 in
set_option maxRecDepth 100000 in
theorem lifted (iC : Asked) (os : Os) (started : os.Started) (H : Type) (enc : TypeId × Value → H) :
    ReturnsInHanded {} Try.checked os 4 .any (Rows.fnProjectsSpec.pre6 enc Try.prog Try.f4 Rows.fnProjectsRow.domain false) (Rows.fnProjectsSpec.post enc Try.prog Try.f4 false true false false) := by
  refine returnsInHanded_of_change (C := Try.checked) own started (by kernel_rfl) Try.func4
    (ChangeSpec.witness6 (enc := enc) (C := Try.checked) false ⟨#[], #[.slice none 0 0], []⟩ 8 (by kernel_rfl) (by kernel_rfl) (by kernel_rfl) (by kernel_rfl)) ?_
  intro W base args ds gs before hval0 hW hcnd _
  have hval : ∀ (j : Nat) t v, Try.f4.params[j]? = some t → args[j]? = some v → Value.okWide Try.prog W .any base t v := hval0
  have hW' := hW
  obtain ⟨p, q, hA0, hV, rfl, hfz, hnd⟩ := hW
  have hA : DataW.TrodAll enc Try.prog W 0 (fun _ => true) true Try.f4.params.toList args.toList ds p := hA0
  rw [Try.params4] at hA hval
  obtain ⟨v0, d0, rfl, rfl, h0⟩ := trodAll_one hA
  obtain ⟨rfl, rfl⟩ := trodVars_none hV
  obtain ⟨a0, n, c, rfl⟩ := okWide_slice Try.underlying22 (hval 0 22 v0 rfl rfl)
  have k0 := h0
  have lt0 : ∀ x ∈ p, x.block < W.heap.size := by obtain ⟨m, hm⟩ := k0; exact DataW.trod_lt m _ _ _ hm
  have hB : BytesAt W W.heap.size a0 n := by
    obtain ⟨fuel, hf⟩ := h0
    rcases open_ints Try.underlying22 Try.underlying5 (by kernel_rfl) hf with ⟨hcs, _⟩ | ⟨x, l, cc, zs, hcs, _, hl, hm, hz, _, hcell, hwz⟩
    · simp [Value.cells] at hcs
      obtain ⟨rfl, rfl, rfl⟩ := hcs
      exact .inl rfl
    · simp [Value.cells] at hcs
      obtain ⟨rfl, rfl, rfl⟩ := hcs
      by_cases h0 : n = 0
      · exact .inl h0
      · simp at hz
        obtain ⟨b, o, rfl, hc⟩ := ints_at hcell (by omega)
        refine .inr ⟨b, o, rfl, World.block_lt_of_cell? W _ (hc 0 (by omega)), fun i hi => ?_⟩
        have hzi : i < zs.length := by omega
        have bd := bounds_u8 (hwz zs[i] (List.getElem_mem hzi))
        refine ⟨zs[i].toNat, by omega, ?_⟩
        rw [hc i hzi, show ((zs[i].toNat : Nat) : Int) = zs[i] by omega]
        simp [List.getD, hzi]
  refine (walk a0 n c W hB iC).mono fun e W' ⟨he, bel⟩ => ?_
  subst he
  exact ⟨_, rfl, _, _, _, [], _, [], hW', trodAll_mk1 (shut_bool Try.underlying4 _), (trodAll_cons_mk (Below.trod laidOut (by kernel_rfl) (of_decide_eq_true (by kernel_rfl)) k0 bel lt0) trodAll_mk0), rfl, bel.frame _, fun h => by cases h⟩

theorem over (iC : Asked) : Rows.FnProjectsSaid :=
  OpenClaim.holds_of_wide 4 Try.f4 rfl rfl rfl rfl rfl rfl rfl ⟨rfl, rfl, rfl, rfl, rfl⟩ rfl rfl rfl rfl rfl (by kernel_rfl) Try.func4 (by kernel_rfl)
    (of_decide_eq_true (by kernel_rfl)) (by unfold Func.isWrapper; first | (rw [if_pos (by decide +kernel)]; kernel_rfl) | (rw [if_neg (by decide +kernel)]; exact ⟨rfl, rfl⟩))
    (fun os started H enc _ => lifted iC os started H enc)

end fnProjects
end Go.Proofs.Ytmgofehafjogfaa
