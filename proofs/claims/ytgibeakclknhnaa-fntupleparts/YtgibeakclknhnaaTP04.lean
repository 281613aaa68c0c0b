/- Texts joined: LawTpp, SpecVs, Within, ImplVo, ImplTok. -/
import Derived.Test.YtgibeakclknhnaaRows
import Derived.Test.YtgibeakclknhnaaTP03
import Derived.WalkKit
import Derived.ProofKit
import Derived.OpenShut
import Derived.ChangeOld
import Derived.Below
import Derived.Lib.SmallJoins
import Derived.Deep.RegionHeld3
import Derived.Deep.Cut
import Derived.Test.YtgibeakclknhnaaTP01
import Derived.Laws.StructEq
import Derived.Test.YtgibeakclknhnaaTP02
set_option maxHeartbeats 8000000
set_option maxRecDepth 100000
namespace Go.Proofs.Ytgibeakclknhnaa
open Go.ChangeShapes Go.WideShapes Go.ChangeAt Go.RowKit Go.Joins

namespace fnTupleParts
theorem own : ownKnob Try.prog.godebug = none := by kernel_rfl
theorem laidOut : laidOutB Try.prog = true := by kernel_rfl
def AskOk : Prop := ∀ (a : Option Addr) (n c : Nat) (L : List Va3) (w : World), VasAt w a n L → n ≤ c → Calls Try.prog 12 #[.slice a n c] w fun e w' => e = .returned (.bool (decide (TupGood L))) ∧ Below w.heap.size w w'
def AskL : Prop := ∀ (a b : Option Addr) (n c n' c' : Nat) (L M : List Va3) (w : World), VasAt w a n L → n ≤ c → VasAt w b n' M → n' ≤ c' → Calls Try.prog 10 #[.slice a n c, .slice b n' c'] w fun e w' => e = .returned (.bool (tupLess L M)) ∧ Below w.heap.size w w'
def AskB : Prop := ∀ (a : Option Addr) (n c : Nat) (L : List Va3) (w : World), VasAt w a n L → n ≤ c → Calls Try.prog 13 #[.slice a n c] w fun e w' => VbSays w (tupBytes L) e w'
theorem vas_front {w : World} {a : Option Addr} {n : Nat} {L : List Va3} (h : VasAt w a n L) {k : Nat} (hk : k ≤ n) : VasAt w a k (L.take k) := by
  obtain ⟨h1, h2, h3⟩ := h
  refine ⟨by rw [List.length_take]; omega, by omega, ?_⟩
  rcases h3 with h3 | ⟨b, o, h4, h5⟩
  · exact .inl (by omega)
  · refine .inr ⟨b, o, h4, fun i x hi => h5 i x ?_⟩
    rw [List.getElem?_take] at hi
    split at hi
    · exact hi
    · cases hi
theorem vas_back {w : World} {a : Option Addr} {n c : Nat} {L : List Va3} (h : VasAt w a n L) {k : Nat} (hk : k ≤ n) (hc : n ≤ c) : VasAt w (if c = k then a else a.map (·.add (k * 3))) (n - k) (L.drop k) := by
  obtain ⟨h1, h2, h3⟩ := h
  refine ⟨by rw [List.length_drop]; omega, by omega, ?_⟩
  rcases h3 with h3 | ⟨b, o, rfl, h5⟩
  · exact .inl (by omega)
  · by_cases hck : c = k
    · exact .inl (by omega)
    · refine .inr ⟨b, o + k * 3, by rw [if_neg hck, Option.map_some, add_plain], fun i x hi => ?_⟩
      rw [List.getElem?_drop] at hi
      have h8 := h5 (k + i) x hi
      rw [show o + (k + i) * 3 = o + k * 3 + i * 3 by omega] at h8
      exact h8
theorem same_self (x : Va3) : sameV x.1 x.2.1 x.2.2 x.1 x.2.1 x.2.2 = true := decide_eq_true ⟨rfl, rfl, rfl⟩
theorem less_front : ∀ (L : List Va3) (k : Nat), k < L.length → tupLess (L.take k) L = true
  | [], k, h => by simp at h
  | x :: L, 0, _ => by simp [tupLess]
  | x :: L, k + 1, h => by
    rw [List.take_succ_cons, tupLess, if_pos (same_self x)]
    exact less_front L k (by simpa using h)
theorem walk (a : Option Addr) (n c : Nat) (w : World) (hB : BytesAt w w.heap.size a n) (iOk : AskOk) (iL : AskL) (iB : AskB) :
    Calls Try.prog 4 #[.slice a n c] w fun e w' => e = .returned (.bool true) ∧ Below w.heap.size w w' := by
  have HB : Hid (BytesAt w w.heap.size a n) := hB
  have IOk : Hid (∀ (a : Option Addr) (n c : Nat) (L : List Va3) (w : World), VasAt w a n L → n ≤ c → Calls Try.prog 12 #[.slice a n c] w fun e w' => e = .returned (.bool (decide (TupGood L))) ∧ Below w.heap.size w w') := iOk
  have IL : Hid (∀ (a b : Option Addr) (n c n' c' : Nat) (L M : List Va3) (w : World), VasAt w a n L → n ≤ c → VasAt w b n' M → n' ≤ c' → Calls Try.prog 10 #[.slice a n c, .slice b n' c'] w fun e w' => e = .returned (.bool (tupLess L M)) ∧ Below w.heap.size w w') := iL
  have IB : Hid (∀ (a : Option Addr) (n c : Nat) (L : List Va3) (w : World), VasAt w a n L → n ≤ c → Calls Try.prog 13 #[.slice a n c] w fun e w' => VbSays w (tupBytes L) e w') := iB
  clear hB iOk iL iB
  by_cases hbig : 1048576 < n
  · go_enter Try.func4, Try.ntmps4
    go_wp2_with fail
    refine (bigI a n c w).mono ?_
    rintro e w0 ⟨rfl, hw⟩
    rw [hw, decide_eq_true hbig]
    go_wp2
    go_ret
    exact ⟨rfl, Below.refl _ _⟩
  have hn : n ≤ 1048576 := by omega
  go_enter Try.func4, Try.ntmps4
  go_wp2_with fail
  refine (bigI a n c w).mono ?_
  rintro e w0 ⟨rfl, hw⟩
  rw [hw, decide_eq_false hbig]
  clear hw hbig
  go_wp2_with fail
  refine (drawTupleBytes_any a n c _ hn HB.out).mono ?_
  rintro e w1 ⟨⟨v1, L, rfl, o1, l1⟩, hb⟩
  have B1 : Hid (Below w.heap.size w w1) := hb
  obtain ⟨a1, c1, rfl, hc1, hv1⟩ := own_vas o1 (by omega)
  have V1 : Hid (VasAt w1 a1 L.length L) := hv1
  have HC1 : Hid (L.length ≤ c1) := hc1
  have HF : Hid ((a1 = none ∧ L.length = 0 ∧ c1 = 0) ∨ ∃ g, a1 = some ⟨g, 0, none⟩) := by
    rcases owns_forms o1 with ⟨h1, h2⟩ | ⟨g, cap, h1⟩
    · injection h1 with h3 h4 h5
      exact .inl ⟨h3, h2, h5⟩
    · injection h1 with h3 h4 h5
      exact .inr ⟨g, h3⟩
  clear hb o1 hv1 hc1 l1
  go_wp2_with fail
  refine (IOk.out a1 L.length c1 L _ V1.out HC1.out).mono ?_
  rintro e w2 ⟨rfl, hb⟩
  have B2 : Hid (Below w.heap.size w w2) := B1.out.trans (hb.mono B1.out.size)
  have V2 : Hid (VasAt w2 a1 L.length L) := V1.out.below hb (Nat.le_refl _)
  clear hb
  by_cases hgL : TupGood L
  case neg =>
    rw [decide_eq_false hgL]
    go_wp2_with fail
    refine (IOk.out a1 L.length c1 L _ V2.out HC1.out).mono ?_
    rintro e w3 ⟨rfl, hb⟩
    rw [decide_eq_false hgL]
    have B3 : Hid (Below w.heap.size w w3) := B2.out.trans (hb.mono B2.out.size)
    have V3 : Hid (VasAt w3 a1 L.length L) := V2.out.below hb (Nat.le_refl _)
    clear hb
    go_wp2_with fail
    refine (specTupleOk_any a1 L.length c1 L _ V3.out).mono ?_
    rintro e w4 ⟨rfl, hb⟩
    rw [decide_eq_false hgL]
    have B4 : Hid (Below w.heap.size w w4) := B3.out.trans (hb.mono B3.out.size)
    clear hb
    go_wp2
    go_ret
    exact ⟨rfl, B4.out⟩
  rw [decide_eq_true hgL]
  have HGL : Hid (TupGood L) := hgL
  go_wp2_with fail
  refine (at_one a n c _ hn (bytes_nowV HB.out B2.out)).mono ?_
  rintro e w3 ⟨r, hr, rfl, hw⟩
  rw [hw]
  clear hw
  obtain ⟨k, hk⟩ : ∃ k, r % (L.length + 1) = k := ⟨_, rfl⟩
  have hl4 : L.length ≤ 4 := hgL.2
  have hkl : k ≤ L.length := by have := Nat.mod_lt r (show 0 < L.length + 1 by omega); omega
  have hkr : (r : Int) % ((L.length : Int) + 1) = (k : Int) := by rw [← hk]; push_cast; rfl
  have hz1 : ¬ ((L.length : Int) + 1 = 0) := by omega
  have hkc : k ≤ c1 := Nat.le_trans hkl HC1.out
  have hr0 : (0 : Int) ≤ (r : Int) := by omega
  have hn0 : (0 : Int) ≤ (L.length : Int) + 1 := by omega
  have hk0 : (0 : Int) ≤ (k : Int) := by omega
  obtain ⟨b1, hb1⟩ : ∃ b1, (if c1 = k then a1 else a1.map (·.add (k * 3))) = b1 := ⟨_, rfl⟩
  have hsf : ∀ w : World, (Instr.slice 24 (.slice a1 L.length c1) none (some (.int .i64 (k : Int))) none).run Try.prog w = .ok (.slice a1 k c1) w := fun w => by
    rw [run_slice_h w 24 a1 L.length c1 Try.underlying24 .i64 (k : Int) (by omega) (by omega), show Try.prog.elem 24 = 44 from rfl, Try.sizeOf44 w]
    rcases HF.out with ⟨h1, h2, h3⟩ | ⟨g, h1⟩
    · subst h1 h3
      simp [Result.andThen, sliced]
    · subst h1
      simp [Result.andThen, sliced, Addr.add]
  have hsb : ∀ w : World, (Instr.slice 24 (.slice a1 L.length c1) (some (.int .i64 (k : Int))) none none).run Try.prog w = .ok (.slice b1 (L.length - k) (c1 - k)) w := fun w => by
    rw [run_slice_l w 24 a1 L.length c1 Try.underlying24 .i64 (k : Int) (by omega) (by omega), show Try.prog.elem 24 = 44 from rfl, Try.sizeOf44 w, ← hb1]
    simp [Result.andThen, sliced]
  have VB : Hid (VasAt w2 b1 (L.length - k) (L.drop k)) := by rw [← hb1]; exact vas_back V2.out hkl HC1.out
  have VF : Hid (VasAt w2 a1 k (L.take k)) := vas_front V2.out hkl
  have HKB : Hid (L.length - k ≤ c1 - k) := Nat.sub_le_sub_right HC1.out k
  have HKC : Hid (k ≤ c1) := hkc
  have HKL : Hid (k ≤ L.length) := hkl
  obtain ⟨lf, hlf⟩ : ∃ l, tupB (L.take k) = l := ⟨_, rfl⟩
  obtain ⟨lb, hlb⟩ : ∃ l, tupB (L.drop k) = l := ⟨_, rfl⟩
  have hgF : TupGood (L.take k) := TupGood.take hgL k
  have hgB : TupGood (L.drop k) := ⟨fun x hx => hgL.1 x (List.mem_of_mem_drop hx), by rw [List.length_drop]; have := hgL.2; omega⟩
  have TF : Hid (tupBytes (L.take k) = lf) := by show _ = _; rw [← hlf]; exact if_pos hgF
  have TB : Hid (tupBytes (L.drop k) = lb) := by show _ = _; rw [← hlb]; exact if_pos hgB
  have TT : Hid (tupBytes L = lf ++ lb) := by show _ = _; rw [← hlf, ← hlb, ← tupB_append, List.take_append_drop]; exact if_pos hgL
  have LF : Hid (lf.length ≤ 172) := by show _ ≤ _; rw [← hlf]; exact tupB_le hgF
  have LB : Hid (lb.length ≤ 172) := by show _ ≤ _; rw [← hlb]; exact tupB_le hgB
  obtain ⟨ta, hta⟩ : ∃ t, (⟨(lf ++ lb).toArray⟩ : ByteArray) = t := ⟨_, rfl⟩
  have HTA : Hid ((⟨(lf ++ lb).toArray⟩ : ByteArray) = ta) := hta
  obtain ⟨g0, hg0⟩ : ∃ g, w2.heap.size = g := ⟨_, rfl⟩
  obtain ⟨W3, hW3⟩ : ∃ W, w2.alloc (.cells #[] 5) = W := ⟨_, rfl⟩
  have HG0 : Hid (w2.heap.size = g0) := hg0
  have HW3 : Hid (w2.alloc (.cells #[] 5) = W3) := hW3
  have Z3 : Hid (Below g0 w2 W3) := by rw [← hW3, ← hg0]; exact (Below.refl _ _).alloc (Nat.le_refl _) _
  have E3 : Hid (BOwn W3 g0 (.slice (some ⟨g0, 0, none⟩) 0 0) []) := by rw [← hW3]; exact bown_new w2 hg0 rfl (Nat.le_refl _) (by simp)
  have G3 : Hid (g0 ≤ W3.heap.size) := by show _ ≤ _; rw [← hW3, World.size_alloc, hg0]; exact Nat.le_succ _
  have VF3 : Hid (VasAt W3 a1 k (L.take k)) := VF.out.below Z3.out (Nat.le_of_eq hg0)
  clear hk hb1 hlf hlb hta hg0 hW3 hgF hgB
  go_upto_region 7 with (fail)
  
  go_upto_region 8 with (first
    | (go_at_call 13
       rw [HW3.out]
       refine (IB.out a1 k c1 (L.take k) _ VF3.out HKC.out).mono ?_
       rintro e z1 ⟨v3, rfl, ho, hb⟩
       rw [TF.out] at ho
       have O1 : Hid (BOwn z1 W3.heap.size v3 lf) := ho
       have E1 : Hid (BOwn z1 g0 (.slice (some ⟨g0, 0, none⟩) 0 0) []) := owns_below E3.out hb (Nat.le_refl _)
       have Z1 : Hid (Below g0 w2 z1) := Z3.out.trans (hb.mono G3.out)
       have G1 : Hid (g0 ≤ z1.heap.size) := Nat.le_trans G3.out hb.size
       clear ho hb)
    | (at_builtin
       rw [HG0.out]
       refine list_appL _ rfl _ _ rfl g0 W3.heap.size (.slice (some ⟨g0, 0, none⟩) 0 0) v3 [] lf rfl E1.out rfl O1.out (by have := LF.out; simp; omega) G1.out ?_
       intro v5 z2 ho hbel
       have O2 : Hid (BOwn z2 g0 v5 lf) := ho
       have Z2 : Hid (Below g0 w2 z2) := hbel w2 g0 (Nat.le_refl _) Z1.out
       clear ho hbel))
  have VB2 : Hid (VasAt z2 b1 (L.length - k) (L.drop k)) := VB.out.below Z2.out (Nat.le_of_eq HG0.out)
  have G2 : Hid (g0 ≤ z2.heap.size) := by have := Z2.out.size; rw [← HG0.out]; exact this
  go_upto_region 9 with (first
    | (go_at_call 13
       refine (IB.out b1 (L.length - k) (c1 - k) (L.drop k) _ VB2.out HKB.out).mono ?_
       rintro e z3 ⟨v6, rfl, ho, hb⟩
       rw [TB.out] at ho
       have O3 : Hid (BOwn z3 z2.heap.size v6 lb) := ho
       have E4 : Hid (BOwn z3 g0 v5 lf) := owns_below O2.out hb (Nat.le_refl _)
       have Z4 : Hid (Below g0 w2 z3) := Z2.out.trans (hb.mono G2.out)
       have G4 : Hid (g0 ≤ z3.heap.size) := Nat.le_trans G2.out hb.size
       clear ho hb)
    | (at_builtin
       refine list_appL _ rfl _ _ rfl g0 z2.heap.size v5 v6 lf lb rfl E4.out rfl O3.out (by have := LF.out; have := LB.out; omega) G4.out ?_
       intro v7 z4 ho hbel
       have O4 : Hid (BOwn z4 g0 v7 (lf ++ lb)) := ho
       have Z5 : Hid (Below g0 w2 z4) := hbel w2 g0 (Nat.le_refl _) Z4.out
       clear ho hbel))
  have B5 : Hid (Below w.heap.size w z4) := B2.out.trans (Z5.out.mono (by rw [← HG0.out]; exact B2.out.size))
  have V5 : Hid (VasAt z4.drew a1 L.length L) := (V2.out.below Z5.out (Nat.le_of_eq HG0.out)).below (Below.refl _ _).drew (Nat.le_refl _)
  have VF5 : Hid (VasAt z4.drew a1 k (L.take k)) := vas_front V5.out HKL.out
  have O5 : Hid (BOwn z4.drew g0 v7 (lf ++ lb)) := owns_below O4.out (Below.refl _ _).drew (Nat.le_refl _)
  have B6 : Hid (Below w.heap.size w z4.drew) := B5.out.drew
  have K0 : Hid ((convert 22 9 v7).run Try.prog z4.drew = .ok (.string ta) z4.drew) := by have h := bown_text O5.out; rw [HTA.out] at h; exact h
  by_cases hke : k = L.length
  · have hkq : ((k : Int) == (L.length : Int)) = true := by simp [hke]
    clear hke
    refine wp_region_held_drew (S := fun w' => (convert 22 9 v7).run Try.prog w' = .ok (.string ta) w') (by kernel_rfl) K0.out (fun hHeld => ?_)
    refine wpAnyH_take (i := 0) (oi := _) (v := v7) (by rw [List.getElem?_toArray]; exact rfl) (by kernel_rfl) (by kernel_rfl) (by kernel_rfl) (by intro _ _ _ h; exact h) (Or.inl ⟨by kernel_rfl, ?_⟩) hHeld ?_
    · intro w hSw; go_simp
    (try simp only [Act.put, List.setIfInBounds_toArray, List.set_cons_zero, List.set_cons_succ])
    refine wpAnyH_take (i := 1) (oi := _) (v := .string ta) (by rw [List.getElem?_toArray]; exact rfl) (by kernel_rfl) (by kernel_rfl) (by kernel_rfl) (by intro _ _ _ h; exact h) (Or.inl ⟨by kernel_rfl, ?_⟩) hHeld ?_
    · intro w hSw; go_simp
    (try simp only [Act.put, List.setIfInBounds_toArray, List.set_cons_zero, List.set_cons_succ])
    refine wpAnyH_take (i := 2) (oi := _) (v := .slice a1 L.length c1) (by rw [List.getElem?_toArray]; exact rfl) (by kernel_rfl) (by kernel_rfl) (by kernel_rfl) (by intro _ _ _ h; exact h) (Or.inl ⟨by kernel_rfl, ?_⟩) hHeld ?_
    · intro w hSw; go_simp
    (try simp only [Act.put, List.setIfInBounds_toArray, List.set_cons_zero, List.set_cons_succ])
    refine wpAnyH_ready (rs := [3]) (by kernel_rfl) (by simp) ?_
    refine AllReadyH.cons (o := _) (by rw [List.getElem?_toArray]; exact rfl) (fun K hK => ?_) AllReadyH.nil
    rw [if_pos (by kernel_rfl)]
    go_simp
    refine (IB.out a1 L.length c1 L _ V5.out HC1.out).mono ?_
    rintro e z5 ⟨v8, rfl, ho, hb⟩
    rw [TT.out] at ho
    have O6 : Hid (BOwn z5 g0 v7 (lf ++ lb)) := owns_below O5.out hb (Nat.le_refl _)
    have K1 : Hid ((convert 22 9 v7).run Try.prog z5 = .ok (.string ta) z5) := by have h := bown_text O6.out; rw [HTA.out] at h; exact h
    have F8 := bown_text ho
    rw [HTA.out] at F8
    have B7 : Hid (Below w.heap.size w z5) := B6.out.trans (hb.mono B6.out.size)
    clear ho hb
    refine hK.out _ _ K1.out (fun hHeld => ?_)
    clear hK K
    (try simp only [Act.put, List.setIfInBounds_toArray, List.set_cons_zero, List.set_cons_succ])
    refine wpAnyH_ready (rs := [4]) (by kernel_rfl) (by simp) ?_
    refine AllReadyH.cons (o := _) (by rw [List.getElem?_toArray]; exact rfl) (fun K hK => ?_) AllReadyH.nil
    rw [if_pos (by kernel_rfl)]
    go_simp
    refine hK.out _ _ hHeld (fun hHeld => ?_)
    clear hK K
    (try simp only [Act.put, List.setIfInBounds_toArray, List.set_cons_zero, List.set_cons_succ])
    refine wpAnyH_ready (rs := [5]) (by kernel_rfl) (by simp) ?_
    refine AllReadyH.cons (o := _) (by rw [List.getElem?_toArray]; exact rfl) (fun K hK => ?_) AllReadyH.nil
    rw [if_pos (by kernel_rfl)]
    go_simp
    refine hK.out _ _ hHeld (fun hHeld => ?_)
    clear hK K
    (try simp only [Act.put, List.setIfInBounds_toArray, List.set_cons_zero, List.set_cons_succ])
    refine wpAnyH_ready (rs := [6]) (by kernel_rfl) (by simp) ?_
    refine AllReadyH.cons (o := _) (by rw [List.getElem?_toArray]; exact rfl) (fun K hK => ?_) AllReadyH.nil
    rw [if_pos (by kernel_rfl)]
    go_simp
    refine hK.out _ _ hHeld (fun hHeld => ?_)
    clear hK K
    (try simp only [Act.put, List.setIfInBounds_toArray, List.set_cons_zero, List.set_cons_succ])
    refine wpAnyH_take (i := 7) (oi := _) (v := .int .i64 (k : Int)) (by rw [List.getElem?_toArray]; exact rfl) (by kernel_rfl) (by kernel_rfl) (by kernel_rfl) (by intro _ _ _ h; exact h) (Or.inl ⟨by kernel_rfl, ?_⟩) hHeld ?_
    · intro w hSw; go_simp
    (try simp only [Act.put, List.setIfInBounds_toArray, List.set_cons_zero, List.set_cons_succ])
    refine wpAnyH_take (i := 8) (oi := _) (v := .slice a1 L.length c1) (by rw [List.getElem?_toArray]; exact rfl) (by kernel_rfl) (by kernel_rfl) (by kernel_rfl) (by intro _ _ _ h; exact h) (Or.inl ⟨by kernel_rfl, ?_⟩) hHeld ?_
    · intro w hSw; go_simp
    (try simp only [Act.put, List.setIfInBounds_toArray, List.set_cons_zero, List.set_cons_succ])
    refine wpAnyH_ready (rs := [9]) (by kernel_rfl) (by simp) ?_
    refine AllReadyH.cons (o := _) (by rw [List.getElem?_toArray]; exact rfl) (fun K hK => ?_) AllReadyH.nil
    rw [if_pos (by kernel_rfl)]
    go_simp
    refine hK.out _ _ hHeld (fun hHeld => ?_)
    clear hK K
    (try simp only [Act.put, List.setIfInBounds_toArray, List.set_cons_zero, List.set_cons_succ])
    refine wpAnyH_ready (rs := [10]) (by kernel_rfl) (by simp) ?_
    refine AllReadyH.cons (o := _) (by rw [List.getElem?_toArray]; exact rfl) (fun K hK => ?_) AllReadyH.nil
    rw [if_pos (by kernel_rfl)]
    go_simp
    refine hK.out _ _ hHeld (fun hHeld => ?_)
    clear hK K
    (try simp only [Act.put, List.setIfInBounds_toArray, List.set_cons_zero, List.set_cons_succ])
    refine wpAnyH_ready (rs := [11]) (by kernel_rfl) (by simp) ?_
    refine AllReadyH.cons (o := _) (by rw [List.getElem?_toArray]; exact rfl) (fun K hK => ?_) AllReadyH.nil
    rw [if_pos (by kernel_rfl)]
    go_simp
    refine hK.out _ _ hHeld (fun hHeld => ?_)
    clear hK K
    (try simp only [Act.put, List.setIfInBounds_toArray, List.set_cons_zero, List.set_cons_succ])
    refine wpAnyH_take (i := 12) (oi := _) (v := undef) (by rw [List.getElem?_toArray]; exact rfl) (by kernel_rfl) (by kernel_rfl) (by kernel_rfl) (by intro _ _ _ h; exact h) (Or.inr ⟨by kernel_rfl, rfl⟩) hHeld ?_
    (try simp only [Act.put, List.setIfInBounds_toArray, List.set_cons_zero, List.set_cons_succ])
    refine wpAnyH_take (i := 13) (oi := _) (v := undef) (by rw [List.getElem?_toArray]; exact rfl) (by kernel_rfl) (by kernel_rfl) (by kernel_rfl) (by intro _ _ _ h; exact h) (Or.inr ⟨by kernel_rfl, rfl⟩) hHeld ?_
    (try simp only [Act.put, List.setIfInBounds_toArray, List.set_cons_zero, List.set_cons_succ])
    refine wpAnyH_take (i := 14) (oi := _) (v := undef) (by rw [List.getElem?_toArray]; exact rfl) (by kernel_rfl) (by kernel_rfl) (by kernel_rfl) (by intro _ _ _ h; exact h) (Or.inr ⟨by kernel_rfl, rfl⟩) hHeld ?_
    (try simp only [Act.put, List.setIfInBounds_toArray, List.set_cons_zero, List.set_cons_succ])
    refine wpAnyH_take (i := 15) (oi := _) (v := undef) (by rw [List.getElem?_toArray]; exact rfl) (by kernel_rfl) (by kernel_rfl) (by kernel_rfl) (by intro _ _ _ h; exact h) (Or.inr ⟨by kernel_rfl, rfl⟩) hHeld ?_
    (try simp only [Act.put, List.setIfInBounds_toArray, List.set_cons_zero, List.set_cons_succ])
    refine wpAnyH_ready (rs := [16]) (by kernel_rfl) (by simp) ?_
    refine AllReadyH.cons (o := _) (by rw [List.getElem?_toArray]; exact rfl) (fun K hK => ?_) AllReadyH.nil
    rw [if_neg (by rw [show Region.wanted _ _ = false by kernel_rfl]; decide)]
    refine hK.out _ _ hHeld (fun hHeld => ?_)
    clear hK K
    (try simp only [Act.put, List.setIfInBounds_toArray, List.set_cons_zero, List.set_cons_succ])
    refine wpAnyH_ready (rs := [17]) (by kernel_rfl) (by simp) ?_
    refine AllReadyH.cons (o := _) (by rw [List.getElem?_toArray]; exact rfl) (fun K hK => ?_) AllReadyH.nil
    rw [if_pos (by kernel_rfl)]
    go_simp
    refine hK.out _ _ hHeld (fun hHeld => ?_)
    clear hK K
    (try simp only [Act.put, List.setIfInBounds_toArray, List.set_cons_zero, List.set_cons_succ])
    refine wpAnyH_ready (rs := [18]) (by kernel_rfl) (by simp) ?_
    refine AllReadyH.cons (o := _) (by rw [List.getElem?_toArray]; exact rfl) (fun K hK => ?_) AllReadyH.nil
    rw [if_pos (by kernel_rfl)]
    go_simp
    refine hK.out _ _ hHeld (fun hHeld => ?_)
    clear hK K
    (try simp only [Act.put, List.setIfInBounds_toArray, List.set_cons_zero, List.set_cons_succ])
    refine wpAnyH_ready (rs := [19]) (by kernel_rfl) (by simp) ?_
    refine AllReadyH.cons (o := _) (by rw [List.getElem?_toArray]; exact rfl) (fun K hK => ?_) AllReadyH.nil
    rw [if_pos (by kernel_rfl)]
    go_simp
    refine hK.out _ _ hHeld (fun hHeld => ?_)
    clear hK K
    (try simp only [Act.put, List.setIfInBounds_toArray, List.set_cons_zero, List.set_cons_succ])
    refine wpAnyH_done (by kernel_rfl) ?_ _
    (try simp only [Exit.then])
    go_wp2
    go_ret
    exact ⟨rfl, B7.out⟩
  · have hkq : ((k : Int) == (L.length : Int)) = false := by simp; omega
    have HLS : Hid (tupLess (L.take k) L = true) := less_front L k (by have := HKL.out; omega)
    clear hke
    refine wp_region_held_drew (S := fun w' => (convert 22 9 v7).run Try.prog w' = .ok (.string ta) w') (by kernel_rfl) K0.out (fun hHeld => ?_)
    refine wpAnyH_take (i := 0) (oi := _) (v := v7) (by rw [List.getElem?_toArray]; exact rfl) (by kernel_rfl) (by kernel_rfl) (by kernel_rfl) (by intro _ _ _ h; exact h) (Or.inl ⟨by kernel_rfl, ?_⟩) hHeld ?_
    · intro w hSw; go_simp
    (try simp only [Act.put, List.setIfInBounds_toArray, List.set_cons_zero, List.set_cons_succ])
    refine wpAnyH_take (i := 1) (oi := _) (v := .string ta) (by rw [List.getElem?_toArray]; exact rfl) (by kernel_rfl) (by kernel_rfl) (by kernel_rfl) (by intro _ _ _ h; exact h) (Or.inl ⟨by kernel_rfl, ?_⟩) hHeld ?_
    · intro w hSw; go_simp
    (try simp only [Act.put, List.setIfInBounds_toArray, List.set_cons_zero, List.set_cons_succ])
    refine wpAnyH_take (i := 2) (oi := _) (v := .slice a1 L.length c1) (by rw [List.getElem?_toArray]; exact rfl) (by kernel_rfl) (by kernel_rfl) (by kernel_rfl) (by intro _ _ _ h; exact h) (Or.inl ⟨by kernel_rfl, ?_⟩) hHeld ?_
    · intro w hSw; go_simp
    (try simp only [Act.put, List.setIfInBounds_toArray, List.set_cons_zero, List.set_cons_succ])
    refine wpAnyH_ready (rs := [3]) (by kernel_rfl) (by simp) ?_
    refine AllReadyH.cons (o := _) (by rw [List.getElem?_toArray]; exact rfl) (fun K hK => ?_) AllReadyH.nil
    rw [if_pos (by kernel_rfl)]
    go_simp
    refine (IB.out a1 L.length c1 L _ V5.out HC1.out).mono ?_
    rintro e z5 ⟨v8, rfl, ho, hb⟩
    rw [TT.out] at ho
    have O6 : Hid (BOwn z5 g0 v7 (lf ++ lb)) := owns_below O5.out hb (Nat.le_refl _)
    have K1 : Hid ((convert 22 9 v7).run Try.prog z5 = .ok (.string ta) z5) := by have h := bown_text O6.out; rw [HTA.out] at h; exact h
    have F8 := bown_text ho
    rw [HTA.out] at F8
    have B7 : Hid (Below w.heap.size w z5) := B6.out.trans (hb.mono B6.out.size)
    have V7 : Hid (VasAt z5 a1 L.length L) := V5.out.below hb (Nat.le_refl _)
    have VF7 : Hid (VasAt z5 a1 k (L.take k)) := VF5.out.below hb (Nat.le_refl _)
    clear ho hb
    refine hK.out _ _ K1.out (fun hHeld => ?_)
    clear hK K
    (try simp only [Act.put, List.setIfInBounds_toArray, List.set_cons_zero, List.set_cons_succ])
    refine wpAnyH_ready (rs := [4]) (by kernel_rfl) (by simp) ?_
    refine AllReadyH.cons (o := _) (by rw [List.getElem?_toArray]; exact rfl) (fun K hK => ?_) AllReadyH.nil
    rw [if_pos (by kernel_rfl)]
    go_simp
    refine hK.out _ _ hHeld (fun hHeld => ?_)
    clear hK K
    (try simp only [Act.put, List.setIfInBounds_toArray, List.set_cons_zero, List.set_cons_succ])
    refine wpAnyH_ready (rs := [5]) (by kernel_rfl) (by simp) ?_
    refine AllReadyH.cons (o := _) (by rw [List.getElem?_toArray]; exact rfl) (fun K hK => ?_) AllReadyH.nil
    rw [if_pos (by kernel_rfl)]
    go_simp
    refine hK.out _ _ hHeld (fun hHeld => ?_)
    clear hK K
    (try simp only [Act.put, List.setIfInBounds_toArray, List.set_cons_zero, List.set_cons_succ])
    refine wpAnyH_ready (rs := [6]) (by kernel_rfl) (by simp) ?_
    refine AllReadyH.cons (o := _) (by rw [List.getElem?_toArray]; exact rfl) (fun K hK => ?_) AllReadyH.nil
    rw [if_pos (by kernel_rfl)]
    go_simp
    refine hK.out _ _ hHeld (fun hHeld => ?_)
    clear hK K
    (try simp only [Act.put, List.setIfInBounds_toArray, List.set_cons_zero, List.set_cons_succ])
    refine wpAnyH_take (i := 7) (oi := _) (v := .int .i64 (k : Int)) (by rw [List.getElem?_toArray]; exact rfl) (by kernel_rfl) (by kernel_rfl) (by kernel_rfl) (by intro _ _ _ h; exact h) (Or.inl ⟨by kernel_rfl, ?_⟩) hHeld ?_
    · intro w hSw; go_simp
    (try simp only [Act.put, List.setIfInBounds_toArray, List.set_cons_zero, List.set_cons_succ])
    refine wpAnyH_take (i := 8) (oi := _) (v := .slice a1 L.length c1) (by rw [List.getElem?_toArray]; exact rfl) (by kernel_rfl) (by kernel_rfl) (by kernel_rfl) (by intro _ _ _ h; exact h) (Or.inl ⟨by kernel_rfl, ?_⟩) hHeld ?_
    · intro w hSw; go_simp
    (try simp only [Act.put, List.setIfInBounds_toArray, List.set_cons_zero, List.set_cons_succ])
    refine wpAnyH_ready (rs := [9]) (by kernel_rfl) (by simp) ?_
    refine AllReadyH.cons (o := _) (by rw [List.getElem?_toArray]; exact rfl) (fun K hK => ?_) AllReadyH.nil
    rw [if_pos (by kernel_rfl)]
    go_simp
    refine hK.out _ _ hHeld (fun hHeld => ?_)
    clear hK K
    (try simp only [Act.put, List.setIfInBounds_toArray, List.set_cons_zero, List.set_cons_succ])
    refine wpAnyH_ready (rs := [10]) (by kernel_rfl) (by simp) ?_
    refine AllReadyH.cons (o := _) (by rw [List.getElem?_toArray]; exact rfl) (fun K hK => ?_) AllReadyH.nil
    rw [if_pos (by kernel_rfl)]
    go_simp
    refine hK.out _ _ hHeld (fun hHeld => ?_)
    clear hK K
    (try simp only [Act.put, List.setIfInBounds_toArray, List.set_cons_zero, List.set_cons_succ])
    refine wpAnyH_ready (rs := [11]) (by kernel_rfl) (by simp) ?_
    refine AllReadyH.cons (o := _) (by rw [List.getElem?_toArray]; exact rfl) (fun K hK => ?_) AllReadyH.nil
    rw [if_pos (by kernel_rfl)]
    go_simp
    refine hK.out _ _ hHeld (fun hHeld => ?_)
    clear hK K
    (try simp only [Act.put, List.setIfInBounds_toArray, List.set_cons_zero, List.set_cons_succ])
    refine wpAnyH_take (i := 12) (oi := _) (v := .slice a1 L.length c1) (by rw [List.getElem?_toArray]; exact rfl) (by kernel_rfl) (by kernel_rfl) (by kernel_rfl) (by intro _ _ _ h; exact h) (Or.inl ⟨by kernel_rfl, ?_⟩) hHeld ?_
    · intro w hSw; go_simp
    (try simp only [Act.put, List.setIfInBounds_toArray, List.set_cons_zero, List.set_cons_succ])
    refine wpAnyH_take (i := 13) (oi := _) (v := .int .i64 (k : Int)) (by rw [List.getElem?_toArray]; exact rfl) (by kernel_rfl) (by kernel_rfl) (by kernel_rfl) (by intro _ _ _ h; exact h) (Or.inl ⟨by kernel_rfl, ?_⟩) hHeld ?_
    · intro w hSw; go_simp
    (try simp only [Act.put, List.setIfInBounds_toArray, List.set_cons_zero, List.set_cons_succ])
    refine wpAnyH_take (i := 14) (oi := _) (v := .slice a1 k c1) (by rw [List.getElem?_toArray]; exact rfl) (by kernel_rfl) (by kernel_rfl) (by kernel_rfl) (by intro _ _ _ h; exact h) (Or.inl ⟨by kernel_rfl, ?_⟩) hHeld ?_
    · intro w hSw; go_simp
    (try simp only [Act.put, List.setIfInBounds_toArray, List.set_cons_zero, List.set_cons_succ])
    refine wpAnyH_take (i := 15) (oi := _) (v := .slice a1 L.length c1) (by rw [List.getElem?_toArray]; exact rfl) (by kernel_rfl) (by kernel_rfl) (by kernel_rfl) (by intro _ _ _ h; exact h) (Or.inl ⟨by kernel_rfl, ?_⟩) hHeld ?_
    · intro w hSw; go_simp
    (try simp only [Act.put, List.setIfInBounds_toArray, List.set_cons_zero, List.set_cons_succ])
    refine wpAnyH_ready (rs := [16]) (by kernel_rfl) (by simp) ?_
    refine AllReadyH.cons (o := _) (by rw [List.getElem?_toArray]; exact rfl) (fun K hK => ?_) AllReadyH.nil
    rw [if_pos (by kernel_rfl)]
    go_simp
    refine (IL.out a1 a1 k c1 L.length c1 (L.take k) L _ VF7.out HKC.out V7.out HC1.out).mono ?_
    rintro e z6 ⟨rfl, hb⟩
    rw [HLS.out]
    have K2 : Hid ((convert 22 9 v7).run Try.prog z6 = .ok (.string ta) z6) := by have h := bown_text (owns_below O6.out hb (Nat.le_refl _)); rw [HTA.out] at h; exact h
    have B8 : Hid (Below w.heap.size w z6) := B7.out.trans (hb.mono B7.out.size)
    clear hb
    refine hK.out _ _ K2.out (fun hHeld => ?_)
    clear hK K
    (try simp only [Act.put, List.setIfInBounds_toArray, List.set_cons_zero, List.set_cons_succ])
    refine wpAnyH_ready (rs := [17]) (by kernel_rfl) (by simp) ?_
    refine AllReadyH.cons (o := _) (by rw [List.getElem?_toArray]; exact rfl) (fun K hK => ?_) AllReadyH.nil
    rw [if_pos (by kernel_rfl)]
    go_simp
    refine hK.out _ _ hHeld (fun hHeld => ?_)
    clear hK K
    (try simp only [Act.put, List.setIfInBounds_toArray, List.set_cons_zero, List.set_cons_succ])
    refine wpAnyH_ready (rs := [18]) (by kernel_rfl) (by simp) ?_
    refine AllReadyH.cons (o := _) (by rw [List.getElem?_toArray]; exact rfl) (fun K hK => ?_) AllReadyH.nil
    rw [if_pos (by kernel_rfl)]
    go_simp
    refine hK.out _ _ hHeld (fun hHeld => ?_)
    clear hK K
    (try simp only [Act.put, List.setIfInBounds_toArray, List.set_cons_zero, List.set_cons_succ])
    refine wpAnyH_ready (rs := [19]) (by kernel_rfl) (by simp) ?_
    refine AllReadyH.cons (o := _) (by rw [List.getElem?_toArray]; exact rfl) (fun K hK => ?_) AllReadyH.nil
    rw [if_pos (by kernel_rfl)]
    go_simp
    refine hK.out _ _ hHeld (fun hHeld => ?_)
    clear hK K
    (try simp only [Act.put, List.setIfInBounds_toArray, List.set_cons_zero, List.set_cons_succ])
    refine wpAnyH_done (by kernel_rfl) ?_ _
    (try simp only [Exit.then])
    go_wp2
    go_ret
    exact ⟨rfl, B8.out⟩


theorem lifted (iOk : AskOk) (iL : AskL) (iB : AskB) (os : Os) (started : os.Started) (H : Type) (enc : TypeId × Value → H) :
    ReturnsInHanded {} Try.checked os 4 .any (Rows.fnTuplePartsSpec.pre6 enc Try.prog Try.f4 Rows.fnTuplePartsRow.domain false) (Rows.fnTuplePartsSpec.post enc Try.prog Try.f4 false true false false) := by
  refine returnsInHanded_of_change (C := Try.checked) own started (by kernel_rfl) Try.func4
    (ChangeSpec.witness6 (enc := enc) (C := Try.checked) false ⟨#[], #[.slice none 0 0], []⟩ 8 (by kernel_rfl) (by kernel_rfl) (by kernel_rfl) (by kernel_rfl)) ?_
  intro W base args ds gs before hval0 hW hcnd _
  have hval : ∀ (j : Nat) t v, Try.f4.params[j]? = some t → args[j]? = some v → Value.okWide Try.prog W .any base t v := hval0
  have hW' := hW
  obtain ⟨p, q, hA0, hV, rfl, hfz, hnd⟩ := hW
  have hA : DataW.TrodAll enc Try.prog W 0 (fun _ => true) true Try.f4.params.toList args.toList ds p := hA0
  rw [Try.params4] at hA hval
  obtain ⟨v0, d0, rfl, rfl, h0⟩ := trodAll_one hA
  obtain ⟨rfl, rfl⟩ := trodVars_none hV
  obtain ⟨a0, n, c, rfl⟩ := okWide_slice Try.underlying22 (hval 0 22 v0 rfl rfl)
  have k0 := h0
  have lt0 : ∀ x ∈ p, x.block < W.heap.size := by obtain ⟨m, hm⟩ := k0; exact DataW.trod_lt m _ _ _ hm
  have hB : BytesAt W W.heap.size a0 n := by
    obtain ⟨fuel, hf⟩ := h0
    rcases open_ints Try.underlying22 Try.underlying5 (by kernel_rfl) hf with ⟨hcs, _⟩ | ⟨x, l, cc, zs, hcs, _, hl, hm, hz, _, hcell, hwz⟩
    · simp [Value.cells] at hcs
      obtain ⟨rfl, rfl, rfl⟩ := hcs
      exact .inl rfl
    · simp [Value.cells] at hcs
      obtain ⟨rfl, rfl, rfl⟩ := hcs
      by_cases h0 : n = 0
      · exact .inl h0
      · simp at hz
        obtain ⟨b, o, rfl, hc⟩ := ints_at hcell (by omega)
        refine .inr ⟨b, o, rfl, World.block_lt_of_cell? W _ (hc 0 (by omega)), fun i hi => ?_⟩
        have hzi : i < zs.length := by omega
        have bd := bounds_u8 (hwz zs[i] (List.getElem_mem hzi))
        refine ⟨zs[i].toNat, by omega, ?_⟩
        rw [hc i hzi, show ((zs[i].toNat : Nat) : Int) = zs[i] by omega]
        simp [List.getD, hzi]
  refine (walk a0 n c W hB iOk iL iB).mono fun e W' ⟨he, bel⟩ => ?_
  subst he
  exact ⟨_, rfl, _, _, _, [], _, [], hW', trodAll_mk1 (shut_bool Try.underlying4 _), (trodAll_cons_mk (Below.trod laidOut (by kernel_rfl) (of_decide_eq_true (by kernel_rfl)) k0 bel lt0) trodAll_mk0), rfl, bel.frame _, fun h => by cases h⟩

theorem over (iOk : AskOk) (iL : AskL) (iB : AskB) : Rows.FnTuplePartsSaid :=
  OpenClaim.holds_of_wide 4 Try.f4 rfl rfl rfl rfl rfl rfl rfl ⟨rfl, rfl, rfl, rfl, rfl⟩ rfl rfl rfl rfl rfl (by kernel_rfl) Try.func4 (by kernel_rfl)
    (of_decide_eq_true (by kernel_rfl)) (by unfold Func.isWrapper; first | (rw [if_pos (by decide +kernel)]; kernel_rfl) | (rw [if_neg (by decide +kernel)]; exact ⟨rfl, rfl⟩))
    (fun os started H enc _ => lifted iOk iL iB os started H enc)

end fnTupleParts
end Go.Proofs.Ytgibeakclknhnaa
namespace Go.Proofs.Ytgibeakclknhnaa
section
open Go.ChangeShapes Go.WideShapes Go.ChangeAt Go.RowKit
theorem str_ne {s s' : ByteArray} (h : ¬ s = s') : (s.toList == s'.toList) = false := by
  simp only [ByteArray.toList_eq]
  rw [beq_eq_false_iff_ne]
  exact fun e => h (str_eq e)
theorem equalIn_va (k n : Int) (s : ByteArray) (k' n' : Int) (s' : ByteArray) (w : World) : (Op.equalIn 10000 44 (.agg #[.int .i64 k, .int .i64 n, .string s]) (.agg #[.int .i64 k', .int .i64 n', .string s'])).run Try.prog w = .ok (sameV k n s k' n' s') w := by
  have hS : Try.prog.underlying 44 = some (.struct (Try.prog.fieldsOf 44)) := by kernel_rfl
  have hp : Try.prog.stoodInHeld 44 = false := by kernel_rfl
  have u3 := Try.underlying3
  have u9 := Try.underlying9
  rw [show (10000 : Nat) = 9999 + 1 from rfl, run_equalIn_agg w 9999 44 _ _ hS hp]
  simp only [Program.fieldsOf, Try.underlying44]
  unfold sameV
  by_cases hk : k = k'
  · subst hk
    by_cases hn : n = n'
    · subst hn
      by_cases hs : s = s'
      · subst hs
        rw [decide_eq_true ⟨rfl, rfl, rfl⟩]
        go_simp
      · have h1 := str_ne hs
        rw [decide_eq_false (fun h => hs h.2.2)]
        go_simp
    · have h1 : (n == n') = false := by simpa using hn
      rw [decide_eq_false (fun h => hn h.2.1)]
      go_simp
  · have h1 : (k == k') = false := by simpa using hk
    rw [decide_eq_false (fun h => hk h.1)]
    go_simp
theorem eql_va (k n : Int) (s : ByteArray) (k' n' : Int) (s' : ByteArray) (w : World) : (binOp .eql 44 (.agg #[.int .i64 k, .int .i64 n, .string s]) (.agg #[.int .i64 k', .int .i64 n', .string s'])).run Try.prog w = .ok (.bool (sameV k n s k' n' s')) w := by
  rw [run_eql_struct, equalIn_va]
  rfl
theorem within_g (x lo hi : Int) (w : World) : Calls Try.prog 50 #[.int .i64 x, .int .i64 lo, .int .i64 hi] w fun e w' => e = .returned (.bool (inB x lo hi)) ∧ w' = w := by
  by_cases h0 : lo ≤ x
  · by_cases h1 : x ≤ hi
    · rw [inB_yes ⟨h0, h1⟩]
      go_enter Try.func50, Try.ntmps50
      go_wp2
      go_ret
      exact ⟨rfl, rfl⟩
    · rw [inB_no (fun h => h1 h.2)]
      go_enter Try.func50, Try.ntmps50
      go_wp2
      go_ret
      exact ⟨rfl, rfl⟩
  · rw [inB_no (fun h => h0 h.1)]
    go_enter Try.func50, Try.ntmps50
    go_wp2
    go_ret
    exact ⟨rfl, rfl⟩
theorem same_yes {k n : Int} {s : ByteArray} {k' n' : Int} {s' : ByteArray} (h : k = k' ∧ n = n' ∧ s = s') : sameV k n s k' n' s' = true := decide_eq_true h
theorem same_no {k n : Int} {s : ByteArray} {k' n' : Int} {s' : ByteArray} (h : ¬ (k = k' ∧ n = n' ∧ s = s')) : sameV k n s k' n' s' = false := decide_eq_false h
theorem str_sz {s : ByteArray} (h : s = ⟨#[]⟩) : s.size = 0 := by subst h; rfl
theorem implValueOk_any (k n : Int) (s : ByteArray) (w : World) :
    Calls Try.prog 35 #[VaV k n s] w fun e w' => e = .returned (.bool (decide (VaGood k n s))) ∧ Below w.heap.size w w' := by
  obtain ⟨B, hB⟩ : ∃ B, decide (VaGood k n s) = B := ⟨_, rfl⟩
  rw [hB]
  have HB : Hid (decide (VaGood k n s) = B) := hB
  clear hB
  obtain ⟨W, hW⟩ : ∃ W, w.alloc (.cells #[.int .i64 k, .int .i64 n, .string s] 44) = W := ⟨_, rfl⟩
  have HB0 : Hid (Below w.heap.size w W) := by rw [← hW]; exact (Below.refl _ w).alloc (Nat.le_refl _) _
  have X0 : Hid (Box W w.heap.size #[.int .i64 k, .int .i64 n, .string s] 44) := by rw [← hW]; exact box_of w _ _
  have HW : Hid (w.alloc (.cells #[.int .i64 k, .int .i64 n, .string s] 44) = W) := hW
  obtain ⟨c0, c1, c2⟩ := X0.out.triV
  clear hW
  have e1 : ∀ w : World, (binOp .eql 44 (.agg #[.int .i64 k, .int .i64 n, .string s]) (.agg #[.int .i64 0, .int .i64 0, .string ⟨#[]⟩])).run Try.prog w = .ok (.bool (sameV k n s 0 0 ⟨#[]⟩)) w := eql_va k n s 0 0 ⟨#[]⟩
  have e2 : ∀ w : World, (binOp .eql 44 (.agg #[.int .i64 k, .int .i64 n, .string s]) (.agg #[.int .i64 1, .int .i64 n, .string ⟨#[]⟩])).run Try.prog w = .ok (.bool (sameV k n s 1 n ⟨#[]⟩)) w := eql_va k n s 1 n ⟨#[]⟩
  have e3 : ∀ w : World, (binOp .eql 44 (.agg #[.int .i64 k, .int .i64 n, .string s]) (.agg #[.int .i64 2, .int .i64 n, .string ⟨#[]⟩])).run Try.prog w = .ok (.bool (sameV k n s 2 n ⟨#[]⟩)) w := eql_va k n s 2 n ⟨#[]⟩
  have e4 : ∀ w : World, (binOp .eql 44 (.agg #[.int .i64 k, .int .i64 n, .string s]) (.agg #[.int .i64 3, .int .i64 0, .string s])).run Try.prog w = .ok (.bool (sameV k n s 3 0 s)) w := eql_va k n s 3 0 s
  by_cases h1 : k = 0 ∧ n = 0 ∧ s = ⟨#[]⟩
  · have HBV : Hid (B = true) := by
      show _ = _
      rw [← HB.out]
      exact decide_eq_true (by have := str_sz h1.2.2; unfold VaGood; omega)
    rw [HBV.out]
    have q1 := same_yes h1
    rw [q1] at e1
    clear e2 e3 e4 h1 q1
    go_enter Try.func35, Try.ntmps35
    go_upto_region 1 with (fail)
    rw [HW.out]
    go_wp2
    go_ret
    exact ⟨rfl, HB0.out⟩
  rw [same_no h1] at e1
  by_cases h2 : k = 1 ∧ n = n ∧ s = ⟨#[]⟩
  · have HBV : Hid (B = inB n 0 1) := by
      show _ = _
      rw [← HB.out]
      have h5 := str_sz h2.2.2
      have h6 := h2.1
      by_cases hn : 0 ≤ n ∧ n ≤ 1
      · rw [inB_yes hn]
        exact decide_eq_true (by unfold VaGood; omega)
      · rw [inB_no hn]
        exact decide_eq_false (by unfold VaGood; omega)
    rw [HBV.out]
    rw [same_yes h2] at e2
    clear e3 e4 h1 h2
    go_enter Try.func35, Try.ntmps35
    go_upto_region 1 with (fail)
    rw [HW.out]
    go_wp2_with fail
    refine (within_g n 0 1 _).mono ?_
    rintro e w1 ⟨rfl, rfl⟩
    go_wp2
    go_ret
    exact ⟨rfl, HB0.out⟩
  rw [same_no h2] at e2
  by_cases h3 : k = 2 ∧ n = n ∧ s = ⟨#[]⟩
  · have HBV : Hid (B = inB n (-1000000000000) 1000000000000) := by
      show _ = _
      rw [← HB.out]
      have h5 := str_sz h3.2.2
      have h6 := h3.1
      by_cases hn : -1000000000000 ≤ n ∧ n ≤ 1000000000000
      · rw [inB_yes hn]
        exact decide_eq_true (by unfold VaGood; omega)
      · rw [inB_no hn]
        exact decide_eq_false (by unfold VaGood; omega)
    rw [HBV.out]
    rw [same_yes h3] at e3
    clear e4 h1 h2 h3
    go_enter Try.func35, Try.ntmps35
    go_upto_region 1 with (fail)
    rw [HW.out]
    go_wp2_with fail
    refine (within_g n (-1000000000000) 1000000000000 _).mono ?_
    rintro e w1 ⟨rfl, rfl⟩
    go_wp2
    go_ret
    exact ⟨rfl, HB0.out⟩
  rw [same_no h3] at e3
  by_cases h4 : k = 3 ∧ n = 0 ∧ s = s
  · rw [same_yes h4] at e4
    by_cases hs : s.size ≤ 20
    · have HBV : Hid (B = true) := by
        show _ = _
        rw [← HB.out]
        exact decide_eq_true (by unfold VaGood; omega)
      rw [HBV.out]
      have hsz : ((s.size : Int) ≤ 20) := by omega
      clear h1 h2 h3 h4
      go_enter Try.func35, Try.ntmps35
      go_upto_region 1 with (fail)
      rw [HW.out]
      go_wp2
      go_ret
      exact ⟨rfl, HB0.out⟩
    · have HBV : Hid (B = false) := by
        show _ = _
        rw [← HB.out]
        exact decide_eq_false (by unfold VaGood; omega)
      rw [HBV.out]
      have hsz : ¬ ((s.size : Int) ≤ 20) := by omega
      clear h1 h2 h3 h4
      go_enter Try.func35, Try.ntmps35
      go_upto_region 1 with (fail)
      rw [HW.out]
      go_wp2
      go_ret
      exact ⟨rfl, HB0.out⟩
  rw [same_no h4] at e4
  have HBV : Hid (B = false) := by
    show _ = _
    rw [← HB.out]
    refine decide_eq_false ?_
    unfold VaGood
    rintro (⟨r1, r2, r3⟩ | ⟨r1, r2, r3⟩ | ⟨r1, r2, r3⟩ | ⟨r1, r2, r3⟩)
    · exact h1 ⟨r1, r2, str_nil r3⟩
    · exact h2 ⟨r1, rfl, str_nil r3⟩
    · exact h3 ⟨r1, rfl, str_nil r3⟩
    · exact h4 ⟨r1, r2, rfl⟩
  rw [HBV.out]
  clear h1 h2 h3 h4
  go_enter Try.func35, Try.ntmps35
  go_upto_region 1 with (fail)
  rw [HW.out]
  go_wp2
  go_ret
  exact ⟨rfl, HB0.out⟩
theorem tokBad_any (k n : Int) (s : ByteArray) (w : World) :
    Calls Try.prog 34 #[VaV k n s] w fun e w' => e = .returned (.bool !(decide (VaGood k n s))) ∧ Below w.heap.size w w' := by
  obtain ⟨B, hB⟩ : ∃ B, decide (VaGood k n s) = B := ⟨_, rfl⟩
  rw [hB]
  have HB : Hid (decide (VaGood k n s) = B) := hB
  clear hB
  obtain ⟨W, hW⟩ : ∃ W, w.alloc (.cells #[.int .i64 k, .int .i64 n, .string s] 44) = W := ⟨_, rfl⟩
  have HB0 : Hid (Below w.heap.size w W) := by rw [← hW]; exact (Below.refl _ w).alloc (Nat.le_refl _) _
  have X0 : Hid (Box W w.heap.size #[.int .i64 k, .int .i64 n, .string s] 44) := by rw [← hW]; exact box_of w _ _
  have HW : Hid (w.alloc (.cells #[.int .i64 k, .int .i64 n, .string s] 44) = W) := hW
  obtain ⟨c0, c1, c2⟩ := X0.out.triV
  clear hW
  go_enter Try.func34, Try.ntmps34
  go_upto_region 1 with (fail)
  rw [HW.out]
  go_wp2_with fail
  refine (implValueOk_any k n s _).mono ?_
  rintro e w1 ⟨rfl, hb1⟩
  rw [HB.out]
  have HB1 : Hid (Below w.heap.size w w1) := HB0.out.trans (hb1.mono HB0.out.size)
  clear hb1 c0 c1 c2
  go_wp2
  go_ret
  exact ⟨rfl, HB1.out⟩
theorem tokIndex_any (a : Option Addr) (n c : Nat) (L : List Va3) (w : World) (h : VasAt w a n L) :
    Calls Try.prog 51 #[.slice a n c, .func (.func 34) #[] #[]] w fun e w' => ∃ r : Int, (e = .returned (.int .i64 r) ∧ (0 ≤ r ↔ ¬ ∀ x ∈ L, VaGood x.1 x.2.1 x.2.2)) ∧ Below w.heap.size w w' := by
  have HL : Hid (VasAt w a n L) := h
  have hl := h.1
  have hn := h.2.1
  clear h
  go_enter Try.func51, Try.ntmps51
  go_wp2
  go_loopw [8] (fun i wr => ∃ j : Nat, j ≤ n ∧ i = .int .i64 (j : Int) ∧ (∀ x ∈ L.take j, VaGood x.1 x.2.1 x.2.2) ∧ Below w.heap.size w wr) (fun i _ => n - (RowKit.intOf i).toNat)
  case atStart => exact ⟨0, Nat.zero_le _, rfl, fun x hx => by simp at hx, Below.refl _ _⟩
  case round =>
    obtain ⟨j, hj, rfl, hg, hb⟩ := hrel
    have HG : Hid (∀ x ∈ L.take j, VaGood x.1 x.2.1 x.2.2) := hg
    have HBW : Hid (Below w.heap.size w wr) := hb
    clear hg hb
    by_cases hlt : j < n
    · rcases (HL.out.below HBW.out (Nat.le_refl _)).2.2 with h0 | ⟨p1, o1, rfl, g1⟩
      · omega
      obtain ⟨x, hx⟩ : ∃ x, L[j]? = some x := ⟨_, List.getElem?_eq_getElem (by omega)⟩
      obtain ⟨e0, e1, e2⟩ := g1 j x hx
      have HX : Hid (L[j]? = some x) := hx
      have HT : Hid (L.take (j + 1) = L.take j ++ [x]) := by
        show _ = _
        rw [List.take_succ_eq_append_getElem (by omega), ← (List.getElem?_eq_some_iff.1 hx).2]
      obtain ⟨k, m, s⟩ := x
      dsimp only at e0 e1 e2
      have hk0 : (0 : Int) ≤ (j : Int) := by omega
      have hk1 : (j : Int) < (n : Int) := by omega
      clear g1 hx
      go_wp2_with fail
      refine (tokBad_any k m s _).mono ?_
      rintro e w2 ⟨rfl, hb2⟩
      have HB2 : Hid (Below w.heap.size w w2) := HBW.out.trans (hb2.mono HBW.out.size)
      clear hb2 e0 e1 e2
      by_cases hv : VaGood k m s
      · rw [decide_eq_true hv]
        have hall : ∀ x ∈ L.take (j + 1), VaGood x.1 x.2.1 x.2.2 := by
          rw [HT.out]
          intro x hx
          rcases List.mem_append.1 hx with h1 | h1
          · exact HG.out x h1
          · simp at h1; subst h1; exact hv
        go_wp2
        go_roundw
        case rel => exact ⟨j + 1, by omega, by go_num, hall, HB2.out⟩
        case measure => simp [RowKit.intOf]; omega
      · rw [decide_eq_false hv]
        have HV : Hid (¬ ∀ x ∈ L, VaGood x.1 x.2.1 x.2.2) := fun h => hv (h _ (List.mem_of_getElem? HX.out))
        clear hv
        go_wp2
        go_ret
        exact ⟨(j : Int), ⟨rfl, ⟨fun _ => HV.out, fun _ => by omega⟩⟩, HB2.out⟩
    · obtain rfl : j = n := by omega
      have HALL : Hid (∀ x ∈ L, VaGood x.1 x.2.1 x.2.2) := by
        have h1 := HG.out
        rwa [List.take_of_length_le (by omega)] at h1
      go_wp2
      go_ret
      exact ⟨-1, ⟨rfl, ⟨fun h => by omega, fun h => absurd HALL.out h⟩⟩, HBW.out⟩
theorem tokContains_any (a : Option Addr) (n c : Nat) (L : List Va3) (w : World) (h : VasAt w a n L) :
    Calls Try.prog 36 #[.slice a n c, .func (.func 34) #[] #[]] w fun e w' => e = .returned (.bool !(decide (∀ x ∈ L, VaGood x.1 x.2.1 x.2.2))) ∧ Below w.heap.size w w' := by
  have HL : Hid (VasAt w a n L) := h
  clear h
  obtain ⟨B, hB⟩ : ∃ B, decide (∀ x ∈ L, VaGood x.1 x.2.1 x.2.2) = B := ⟨_, rfl⟩
  rw [hB]
  have HB : Hid (decide (∀ x ∈ L, VaGood x.1 x.2.1 x.2.2) = B) := hB
  clear hB
  go_enter Try.func36, Try.ntmps36
  go_wp2_with fail
  refine (tokIndex_any a n c L w HL.out).mono ?_
  rintro e w1 ⟨r, ⟨rfl, hr⟩, hb1⟩
  have HB1 : Hid (Below w.heap.size w w1) := hb1
  by_cases hall : ∀ x ∈ L, VaGood x.1 x.2.1 x.2.2
  · obtain rfl : true = B := (decide_eq_true hall).symm.trans HB.out
    have h1 : Hid (decide (0 ≤ r) = false) := decide_eq_false fun h => hr.1 h hall
    clear hr hall hb1
    go_wp2
    go_ret
    exact ⟨by show Ending.returned (.bool (decide (0 ≤ r))) = _; rw [h1.out]; rfl, HB1.out⟩
  · obtain rfl : false = B := (decide_eq_false hall).symm.trans HB.out
    have h1 : Hid (decide (0 ≤ r) = true) := decide_eq_true (hr.2 hall)
    clear hr hall hb1
    go_wp2
    go_ret
    exact ⟨by show Ending.returned (.bool (decide (0 ≤ r))) = _; rw [h1.out]; rfl, HB1.out⟩
theorem implTupleOk_any (a : Option Addr) (n c : Nat) (L : List Va3) (w : World) (h : VasAt w a n L) :
    Calls Try.prog 12 #[.slice a n c] w fun e w' => e = .returned (.bool (decide (TupGood L))) ∧ Below w.heap.size w w' := by
  have HL : Hid (VasAt w a n L) := h
  have hl := h.1
  have hn := h.2.1
  clear h
  by_cases h4 : n ≤ 4
  · have h5 : (n : Int) ≤ 4 := by omega
    have HD : Hid (decide (TupGood L) = decide (∀ x ∈ L, VaGood x.1 x.2.1 x.2.2)) := decide_eq_decide.2 ⟨fun h => h.1, fun h => ⟨h, by omega⟩⟩
    rw [HD.out]
    obtain ⟨B, hB⟩ : ∃ B, decide (∀ x ∈ L, VaGood x.1 x.2.1 x.2.2) = B := ⟨_, rfl⟩
    have HB : Hid (decide (∀ x ∈ L, VaGood x.1 x.2.1 x.2.2) = B) := hB
    rw [hB]
    clear hB
    go_enter Try.func12, Try.ntmps12
    go_wp2_with fail
    refine (tokContains_any a n c L w HL.out).mono ?_
    rintro e w1 ⟨rfl, hb1⟩
    rw [HB.out]
    have HB1 : Hid (Below w.heap.size w w1) := hb1
    clear hb1
    go_wp2
    go_ret
    cases B <;> exact ⟨rfl, HB1.out⟩
  · have h5 : ¬ (n : Int) ≤ 4 := by omega
    have HD : Hid (decide (TupGood L) = false) := decide_eq_false fun h => by have := h.2; omega
    rw [HD.out]
    go_enter Try.func12, Try.ntmps12
    go_wp2
    go_ret
    exact ⟨rfl, Below.refl _ _⟩
end
end Go.Proofs.Ytgibeakclknhnaa
