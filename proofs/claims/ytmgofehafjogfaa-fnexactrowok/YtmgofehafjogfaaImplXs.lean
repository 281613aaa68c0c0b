/- indexesOk: indexes are not too many, each has a name of its own and places that are right. -/
import Derived.Test.YtmgofehafjogfaaImplNo
import Derived.Test.YtmgofehafjogfaaImplKp
import Derived.Test.YtmgofehafjogfaaImplCh
namespace Go.Proofs.Ytmgofehafjogfaa
open Go.ChangeShapes Go.WideShapes Go.ChangeAt Go.RowKit Go.Maps

theorem OrdAt.below {w w' : World} {v : Value} {zs : List Int} (h : OrdAt w v zs) {B : Nat} (hb : Below B w w') (hB : w.heap.size ≤ B) : OrdAt w' v zs := by
  obtain ⟨a, n, c, h1, h2, h3, h4, h5⟩ := h
  exact ⟨a, n, c, h1, h2, h3, h4.below hb hB, h5⟩
set_option maxHeartbeats 8000000 in
set_option maxRecDepth 100000 in
theorem xsBad_any (s : ByteArray) (a1 : Option Addr) (m1 d1 : Nat) (fl : Bool) (l1 : List Int) (r : Nat) (b : Option Addr) (m d : Nat) (zs : List Int) (w : World) (hx : IntAt w a1 m1 l1) (hmd : m1 ≤ d1) (hm : m1 ≤ 2097152) (hr : Box w r #[.slice b m d] 25) (ho : OrdAt w (.slice b m d) zs) :
    Calls Try.prog 89 #[.agg #[.string s, .slice a1 m1 d1, .bool fl], .pointer (some ⟨r, 0, none⟩)] w fun e w' => e = .returned (.bool !(decide (ChGood zs l1 3))) ∧ Below w.heap.size w w' := by
  obtain ⟨W, hW⟩ : ∃ W, w.alloc (.cells #[.string s, .slice a1 m1 d1, .bool fl] 105) = W := ⟨_, rfl⟩
  have HB0 : Hid (Below w.heap.size w W) := by rw [← hW]; exact (Below.refl _ w).alloc (Nat.le_refl _) _
  have X0 : Hid (Box W w.heap.size #[.string s, .slice a1 m1 d1, .bool fl] 105) := by rw [← hW]; exact box_of w _ _
  have HW : Hid (w.alloc (.cells #[.string s, .slice a1 m1 d1, .bool fl] 105) = W) := hW
  have c1 : W.cell? ⟨w.heap.size, 1, none⟩ = some (.slice a1 m1 d1) := X0.out.cell 1
  obtain ⟨B, hB⟩ : ∃ B, decide (ChGood zs l1 3) = B := ⟨_, rfl⟩
  rw [hB]
  have HBV : Hid (decide (ChGood zs l1 3) = B) := hB
  clear hB
  have c2 : W.cell? ⟨r, 0, none⟩ = some (.slice b m d) := (hr.below HB0.out hr.lt).cell 0
  have HX : Hid (IntAt W a1 m1 l1) := hx.below HB0.out (Nat.le_refl _)
  have HO : Hid (OrdAt W (.slice b m d) zs) := ho.below HB0.out (Nat.le_refl _)
  clear hW hx hr ho
  go_enter Try.func89, Try.ntmps89
  go_upto_region 1 with (fail)
  rw [HW.out]
  go_wp2_with fail
  refine (chosenOk_any a1 m1 d1 l1 3 _ zs _ HX.out hmd hm HO.out).mono ?_
  rintro e w1 ⟨rfl, rfl⟩
  clear c1 c2
  rw [HBV.out]
  go_wp2
  go_ret
  exact ⟨rfl, HB0.out⟩
set_option maxHeartbeats 8000000 in
set_option maxRecDepth 100000 in
theorem ixIndex_any (a : Option Addr) (n c : Nat) (L : List Idx3) (r : Nat) (b : Option Addr) (m d : Nat) (zs : List Int) (w : World) (h : IdxAt w a n L) (hr : Box w r #[.slice b m d] 25) (ho : OrdAt w (.slice b m d) zs) :
    Calls Try.prog 106 #[.slice a n c, .func (.func 89) #[] #[.pointer (some ⟨r, 0, none⟩)]] w fun e w' => ∃ q : Int, (e = .returned (.int .i64 q) ∧ (0 ≤ q ↔ ¬ ∀ x ∈ L, ChGood zs x.2.1 3)) ∧ Below w.heap.size w w' := by
  have HL : Hid (IdxAt w a n L) := h
  have HR : Hid (Box w r #[.slice b m d] 25) := hr
  have HO : Hid (OrdAt w (.slice b m d) zs) := ho
  clear hr ho
  have hl := h.1
  have hn := h.2.1
  clear h
  go_enter Try.func106, Try.ntmps106
  go_wp2
  go_loopw [8] (fun i wr => ∃ j : Nat, j ≤ n ∧ i = .int .i64 (j : Int) ∧ (∀ x ∈ L.take j, ChGood zs x.2.1 3) ∧ Below w.heap.size w wr) (fun i _ => n - (RowKit.intOf i).toNat)
  case atStart => exact ⟨0, Nat.zero_le _, rfl, fun x hx => by simp at hx, Below.refl _ _⟩
  case round =>
    obtain ⟨j, hj, rfl, hg, hb⟩ := hrel
    have HG : Hid (∀ x ∈ L.take j, ChGood zs x.2.1 3) := hg
    have HBW : Hid (Below w.heap.size w wr) := hb
    clear hg hb
    by_cases hlt : j < n
    · rcases (HL.out.below HBW.out (Nat.le_refl _)).2.2 with h0 | ⟨p1, o1, rfl, g1⟩
      · omega
      obtain ⟨x, hx⟩ : ∃ x, L[j]? = some x := ⟨_, List.getElem?_eq_getElem (by omega)⟩
      obtain ⟨e0, e1, e2⟩ := g1 j x hx
      have HX : Hid (L[j]? = some x) := hx
      obtain ⟨s, l1, fl⟩ := x
      obtain ⟨a1, m1, d1, e1, hmd1, hm1, hia⟩ := e1
      have HIA : Hid (IntAt wr a1 m1 l1) := hia
      clear hia
      dsimp only at e0 e1 e2
      have hk0 : (0 : Int) ≤ (j : Int) := by omega
      have hk1 : (j : Int) < (n : Int) := by omega
      clear g1 hx
      go_wp2_with fail
      refine (xsBad_any s a1 m1 d1 fl l1 r b m d zs _ HIA.out hmd1 hm1 (HR.out.below HBW.out HR.out.lt) (HO.out.below HBW.out (Nat.le_refl _))).mono ?_
      rintro e w2 ⟨rfl, hb2⟩
      have HB2 : Hid (Below w.heap.size w w2) := HBW.out.trans (hb2.mono HBW.out.size)
      clear hb2 e0 e1 e2
      by_cases hv : ChGood zs ((s, l1, fl) : Idx3).2.1 3
      · rw [decide_eq_true hv]
        have hall : ∀ x ∈ L.take (j + 1), ChGood zs x.2.1 3 := take_all HG.out HX.out hv
        have HALL : Hid (∀ x ∈ L.take (j + 1), ChGood zs x.2.1 3) := hall
        clear hall hv
        go_wp2
        go_roundw
        case rel => exact ⟨j + 1, by omega, by go_num, HALL.out, HB2.out⟩
        case measure => simp [RowKit.intOf]; omega
      · rw [decide_eq_false hv]
        have HV : Hid (¬ ∀ x ∈ L, ChGood zs x.2.1 3) := fun h => hv (h _ (List.mem_of_getElem? HX.out))
        clear hv
        go_wp2
        go_ret
        exact ⟨(j : Int), ⟨rfl, ⟨fun _ => HV.out, fun _ => by omega⟩⟩, HB2.out⟩
    · obtain rfl : j = n := by omega
      have HALL : Hid (∀ x ∈ L, ChGood zs x.2.1 3) := by
        have h1 := HG.out
        rwa [List.take_of_length_le (by omega)] at h1
      go_wp2
      go_ret
      exact ⟨-1, ⟨rfl, ⟨fun h => by omega, fun h => absurd HALL.out h⟩⟩, HBW.out⟩
set_option maxHeartbeats 8000000 in
set_option maxRecDepth 100000 in
theorem cfIndex_any (a : Option Addr) (n c : Nat) (L : List Idx3) (r : Nat) (b : Option Addr) (m d : Nat) (zs : List Int) (w : World) (h : IdxAt w a n L) (hr : Box w r #[.slice b m d] 25) (ho : OrdAt w (.slice b m d) zs) :
    Calls Try.prog 91 #[.slice a n c, .func (.func 89) #[] #[.pointer (some ⟨r, 0, none⟩)]] w fun e w' => e = .returned (.bool !(decide (∀ x ∈ L, ChGood zs x.2.1 3))) ∧ Below w.heap.size w w' := by
  have HL : Hid (IdxAt w a n L) := h
  have HR : Hid (Box w r #[.slice b m d] 25) := hr
  have HO : Hid (OrdAt w (.slice b m d) zs) := ho
  clear hr ho
  clear h
  go_enter Try.func91, Try.ntmps91
  go_wp2_with fail
  refine (ixIndex_any a n c L r b m d zs _ HL.out HR.out HO.out).mono ?_
  rintro e w1 ⟨q, ⟨rfl, hr⟩, hb1⟩
  have HB1 : Hid (Below w.heap.size w w1) := hb1
  have HV : Hid (decide (0 ≤ q) = !(decide (∀ x ∈ L, ChGood zs x.2.1 3))) := by
    show _ = _
    by_cases hall : ∀ x ∈ L, ChGood zs x.2.1 3
    · rw [decide_eq_true hall, decide_eq_false (fun h => hr.1 h hall)]; rfl
    · rw [decide_eq_false hall, decide_eq_true (hr.2 hall)]; rfl
  clear hr hb1
  go_wp2
  go_ret
  exact ⟨by rw [HV.out]; rfl, HB1.out⟩
theorem posN_all (L : List Col3) (n : Nat) (x : Int) : (∃ t, x ∈ posN (L.map (·.1)) n t) ↔ 0 ≤ x ∧ x < (n : Int) := by
  constructor
  · rintro ⟨t, ht⟩
    obtain ⟨i, hi, _, rfl⟩ := posN_mem.1 ht
    omega
  · rintro ⟨h0, h1⟩
    exact ⟨((L.map (·.1) : List ByteArray).getD x.toNat ⟨#[]⟩).data.toList, posN_mem.2 ⟨x.toNat, by omega, rfl, by omega⟩⟩
set_option maxHeartbeats 8000000 in
set_option maxRecDepth 100000 in
theorem indexesOk_any (a : Option Addr) (n c : Nat) (X : List Idx3) (a1 : Option Addr) (n1 c1 : Nat) (L : List Col3) (w : World) (h : IdxAt w a n X) (hL : ColsAt w a1 n1 L) (h12 : n1 ≤ 12) (hsz : ∀ x ∈ X, x.1.size ≤ 1048576) (hszL : ∀ x ∈ L, x.1.size ≤ 1048576) :
    Calls Try.prog 53 #[.slice a n c, .slice a1 n1 c1] w fun e w' => e = .returned (.bool (decide (IxGood n1 X))) ∧ Below w.heap.size w w' := by
  have HA : Hid (IdxAt w a n X) := h
  have HL : Hid (ColsAt w a1 n1 L) := hL
  have HSZ : Hid (∀ x ∈ X, x.1.size ≤ 1048576) := hsz
  have HSL : Hid (∀ x ∈ L, x.1.size ≤ 1048576) := hszL
  have hl := h.1
  have hll := hL.1
  obtain ⟨B, hB⟩ : ∃ B, decide (IxGood n1 X) = B := ⟨_, rfl⟩
  rw [hB]
  have HB : Hid (decide (IxGood n1 X) = B) := hB
  clear h hL hsz hszL hB
  go_enter Try.func53, Try.ntmps53
  go_wp2_with fail
  refine (byNameCol_any a1 n1 c1 L _ HL.out HSL.out).mono ?_
  rintro e w2 ⟨⟨rfl, D, hown, hd⟩, hb2⟩
  have HM : Hid (MapN w2 w.heap.size n1 (w.heap.size + 1) (posN (L.map (·.1)) n1)) := mapN_groups hown hd
  have HB2 : Hid (Below w.heap.size w w2) := hb2
  clear hown hd hb2
  go_wp2_with fail
  refine (inOrder_any _ _ n1 _ n1 _ HM.out h12 (fun t x hx => by obtain ⟨i, hi, _, rfl⟩ := posN_mem.1 hx; omega) (fun t t' x hx hx' => by
    obtain ⟨i, _, e1, rfl⟩ := posN_mem.1 hx
    obtain ⟨j, _, e2, e3⟩ := posN_mem.1 hx'
    obtain rfl : i = j := by omega
    rw [← e1, ← e2]) (posN_nodup _ _)).mono ?_
  rintro e w3 ⟨⟨v, zs, rfl, ho, hmem⟩, hb3⟩
  have HME : Hid (∀ x, x ∈ zs ↔ 0 ≤ x ∧ x < (n1 : Int)) := fun x => (hmem x).trans (posN_all L n1 x)
  have HB3 : Hid (Below w.heap.size w w3) := HB2.out.trans (hb3.mono HB2.out.size)
  have HO3 : Hid (OrdAt w3 v zs) := ho
  obtain ⟨b, m, d, rfl, _⟩ := ho
  clear hmem hb3
  obtain ⟨r, hr⟩ : ∃ r, w3.heap.size = r := ⟨_, rfl⟩
  obtain ⟨W, hW⟩ : ∃ W, w3.alloc (.cells #[.slice b m d] 25) = W := ⟨_, rfl⟩
  have HX0 : Hid (Box W r #[.slice b m d] 25) := by rw [← hW, ← hr]; exact box_of w3 _ _
  have HBW0 : Hid (Below w3.heap.size w3 W) := by rw [← hW]; exact (Below.refl _ _).alloc (Nat.le_refl _) _
  have HW : Hid (w3.alloc (.cells #[.slice b m d] 25) = W) := hW
  have HRQ : Hid (w3.heap.size = r) := hr
  have HOW : Hid (OrdAt W (.slice b m d) zs) := HO3.out.below HBW0.out (Nat.le_refl _)
  have HBW : Hid (Below w.heap.size w W) := HB3.out.trans (HBW0.out.mono HB3.out.size)
  clear hW hr
  go_upto_region 2 with (fail)
  rw [HW.out, HRQ.out]
  by_cases h3 : (n : Int) ≤ 3
  · have H3 : Hid (X.length ≤ 3) := by show _ ≤ _; omega
    go_wp2_with fail
    refine (byNameIndex_any a n c X _ (HA.out.below HBW.out (Nat.le_refl _)) HSZ.out).mono ?_
    rintro e w4 ⟨⟨rfl, D2, hown, hd⟩, hb4⟩
    have HM4 : Hid (MapN w4 W.heap.size n (W.heap.size + 1) (posN (X.map (·.1)) n)) := mapN_groups hown hd
    have HB4 : Hid (Below W.heap.size W w4) := hb4
    clear hown hd hb4 h3
    go_wp2_with fail
    refine (namesOk_any _ _ n _ n (X.map (·.1)) HM4.out (by rw [List.length_map]; exact hl) (fun x hx => by obtain ⟨y, hy, rfl⟩ := List.mem_map.1 hx; exact HSZ.out y hy)).mono ?_
    rintro e w5 ⟨rfl, hb5⟩
    have HB5 : Hid (Below W.heap.size W w5) := HB4.out.trans (hb5.mono HB4.out.size)
    have HB5W : Hid (Below w.heap.size w w5) := HBW.out.trans (HB5.out.mono HBW.out.size)
    clear hb5
    by_cases hnm : NmGood (X.map (·.1))
    · rw [decide_eq_true hnm]
      have HNM : Hid (NmGood (X.map (·.1))) := hnm
      clear hnm
      go_wp2_with fail
      refine (cfIndex_any a n c X r b m d zs _ ((HA.out.below HBW.out (Nat.le_refl _)).below HB5.out (Nat.le_refl _)) (HX0.out.below HB5.out HX0.out.lt) (HOW.out.below HB5.out (Nat.le_refl _))).mono ?_
      rintro e w6 ⟨rfl, hb6⟩
      have HB6 : Hid (Below w.heap.size w w6) := HB5W.out.trans (hb6.mono HB5W.out.size)
      have HV : Hid (decide (∀ x ∈ X, ChGood zs x.2.1 3) = B) := by
        show _ = _
        rw [← HB.out]
        refine decide_eq_decide.2 ⟨fun h => ⟨fun x hx => ⟨HNM.out.1 _ (List.mem_map.2 ⟨x, hx, rfl⟩), fun y hy => (HME.out y).1 ((h x hx).1 y hy), (h x hx).2.1, (h x hx).2.2.1, by have := (h x hx).2.2.2; omega⟩, HNM.out.2, H3.out⟩, fun h x hx => ⟨fun y hy => (HME.out y).2 ((h.1 x hx).2.1 y hy), (h.1 x hx).2.2.1, (h.1 x hx).2.2.2.1, by have := (h.1 x hx).2.2.2.2; omega⟩⟩
      rw [HV.out]
      clear hb6
      go_wp2
      go_ret
      cases B <;> exact ⟨rfl, HB6.out⟩
    · rw [decide_eq_false hnm]
      have HV : Hid (false = B) := by
        show _ = _
        rw [← HB.out]
        exact (decide_eq_false (p := IxGood n1 X) fun h => hnm ⟨fun x hx => by obtain ⟨y, hy, rfl⟩ := List.mem_map.1 hx; exact (h.1 y hy).1, h.2.1⟩).symm
      clear hnm
      go_wp2
      go_ret
      exact ⟨by rw [HV.out]; rfl, HB5W.out⟩
  · have HV : Hid (false = B) := by
      show _ = _
      rw [← HB.out]
      exact (decide_eq_false fun h => h3 (by have := h.2.2; omega)).symm
    go_wp2
    go_ret
    exact ⟨by rw [HV.out]; rfl, HBW.out⟩
end Go.Proofs.Ytmgofehafjogfaa
