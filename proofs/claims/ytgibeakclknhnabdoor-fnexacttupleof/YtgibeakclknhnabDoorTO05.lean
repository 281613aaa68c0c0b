/- Texts joined: SpecVa, Sp18a, Sp18t, RegTail, Sp18o, DatVs. -/
import Derived.Test.YtgibeakclknhnabDoorTO01
import Derived.Test.YtgibeakclknhnabDoorTO04
import Derived.Test.YtgibeakclknhnabDoorRows
import Derived.Deep.Cut
import Derived.Deep.RegionHeld3
import Derived.Test.YtgibeakclknhnabDoorTO02
import Derived.Test.YtgibeakclknhnabDoorTO03
import Derived.Handy
set_option maxHeartbeats 4000000
set_option maxRecDepth 100000
namespace Go.Proofs.YtgibeakclknhnabDoor
section
open Go.ChangeShapes Go.WideShapes Go.ChangeAt Go.RowKit
theorem specValueOk_any (k n : Int) (s : ByteArray) (w : World) :
    Calls Tryd.prog 30 #[VaV k n s] w fun e w' => e = .returned (.bool (decide (VaGood k n s))) ∧ Below w.heap.size w w' := by
  obtain ⟨B, hB⟩ : ∃ B, decide (VaGood k n s) = B := ⟨_, rfl⟩
  rw [hB]
  have HB : Hid (decide (VaGood k n s) = B) := hB
  clear hB
  obtain ⟨W, hW⟩ : ∃ W, w.alloc (.cells #[.int .i64 k, .int .i64 n, .string s] 38) = W := ⟨_, rfl⟩
  have HB0 : Hid (Below w.heap.size w W) := by rw [← hW]; exact (Below.refl _ w).alloc (Nat.le_refl _) _
  have X0 : Hid (Box W w.heap.size #[.int .i64 k, .int .i64 n, .string s] 38) := by rw [← hW]; exact box_of w _ _
  have HW : Hid (w.alloc (.cells #[.int .i64 k, .int .i64 n, .string s] 38) = W) := hW
  clear hW
  have hk : k = 0 ∨ k = 1 ∨ k = 2 ∨ k = 3 ∨ (¬ k = 0 ∧ ¬ k = 1 ∧ ¬ k = 2 ∧ ¬ k = 3) := by omega
  rcases hk with rfl | rfl | rfl | rfl | ⟨hk0, hk1, hk2, hk3⟩
  · by_cases hn : n = 0 <;> by_cases hs : s.size = 0
    · have HBV : Hid (B = true) := by
        show _ = _
        rw [← HB.out]
        exact decide_eq_true (by unfold VaGood; omega)
      rw [HBV.out]
      obtain rfl := str_nil hs
      subst hn
      obtain ⟨c0, c1, c2⟩ := X0.out.triV
      go_enter Tryd.func30, Tryd.ntmps30
      go_upto_region 1 with (fail)
      rw [HW.out]
      go_wp2
      go_ret
      exact ⟨rfl, HB0.out⟩
    · have HBV : Hid (B = false) := by
        show _ = _
        rw [← HB.out]
        exact decide_eq_false (by unfold VaGood; omega)
      rw [HBV.out]
      have hse := str_some hs
      subst hn
      obtain ⟨c0, c1, c2⟩ := X0.out.triV
      go_enter Tryd.func30, Tryd.ntmps30
      go_upto_region 1 with (fail)
      rw [HW.out]
      go_wp2
      go_ret
      exact ⟨rfl, HB0.out⟩
    · have HBV : Hid (B = false) := by
        show _ = _
        rw [← HB.out]
        exact decide_eq_false (by unfold VaGood; omega)
      rw [HBV.out]
      obtain rfl := str_nil hs
      obtain ⟨c0, c1, c2⟩ := X0.out.triV
      have hnb : (n == 0) = false := by simpa using hn
      go_enter Tryd.func30, Tryd.ntmps30
      go_upto_region 1 with (fail)
      rw [HW.out]
      go_wp2
      go_ret
      exact ⟨rfl, HB0.out⟩
    · have HBV : Hid (B = false) := by
        show _ = _
        rw [← HB.out]
        exact decide_eq_false (by unfold VaGood; omega)
      rw [HBV.out]
      have hse := str_some hs
      obtain ⟨c0, c1, c2⟩ := X0.out.triV
      have hnb : (n == 0) = false := by simpa using hn
      go_enter Tryd.func30, Tryd.ntmps30
      go_upto_region 1 with (fail)
      rw [HW.out]
      go_wp2
      go_ret
      exact ⟨rfl, HB0.out⟩
  · by_cases hn : 0 ≤ n ∧ n ≤ 1 <;> by_cases hs : s.size = 0
    · have HBV : Hid (B = true) := by
        show _ = _
        rw [← HB.out]
        exact decide_eq_true (by unfold VaGood; omega)
      rw [HBV.out]
      obtain rfl := str_nil hs
      have hin : inB n 0 1 = true := inB_yes hn
      obtain ⟨c0, c1, c2⟩ := X0.out.triV
      go_enter Tryd.func30, Tryd.ntmps30
      go_upto_region 1 with (fail)
      rw [HW.out]
      go_wp2_with fail
      refine (l1In_g n 0 1 _).mono ?_
      rintro e w1 ⟨rfl, hw1⟩
      rw [hw1, hin]
      clear hw1
      go_wp2
      go_ret
      exact ⟨rfl, HB0.out⟩
    · have HBV : Hid (B = false) := by
        show _ = _
        rw [← HB.out]
        exact decide_eq_false (by unfold VaGood; omega)
      rw [HBV.out]
      have hse := str_some hs
      have hin : inB n 0 1 = true := inB_yes hn
      obtain ⟨c0, c1, c2⟩ := X0.out.triV
      go_enter Tryd.func30, Tryd.ntmps30
      go_upto_region 1 with (fail)
      rw [HW.out]
      go_wp2_with fail
      refine (l1In_g n 0 1 _).mono ?_
      rintro e w1 ⟨rfl, hw1⟩
      rw [hw1, hin]
      clear hw1
      go_wp2
      go_ret
      exact ⟨rfl, HB0.out⟩
    · have HBV : Hid (B = false) := by
        show _ = _
        rw [← HB.out]
        exact decide_eq_false (by unfold VaGood; omega)
      rw [HBV.out]
      obtain rfl := str_nil hs
      have hin : inB n 0 1 = false := inB_no hn
      obtain ⟨c0, c1, c2⟩ := X0.out.triV
      go_enter Tryd.func30, Tryd.ntmps30
      go_upto_region 1 with (fail)
      rw [HW.out]
      go_wp2_with fail
      refine (l1In_g n 0 1 _).mono ?_
      rintro e w1 ⟨rfl, hw1⟩
      rw [hw1, hin]
      clear hw1
      go_wp2
      go_ret
      exact ⟨rfl, HB0.out⟩
    · have HBV : Hid (B = false) := by
        show _ = _
        rw [← HB.out]
        exact decide_eq_false (by unfold VaGood; omega)
      rw [HBV.out]
      have hse := str_some hs
      have hin : inB n 0 1 = false := inB_no hn
      obtain ⟨c0, c1, c2⟩ := X0.out.triV
      go_enter Tryd.func30, Tryd.ntmps30
      go_upto_region 1 with (fail)
      rw [HW.out]
      go_wp2_with fail
      refine (l1In_g n 0 1 _).mono ?_
      rintro e w1 ⟨rfl, hw1⟩
      rw [hw1, hin]
      clear hw1
      go_wp2
      go_ret
      exact ⟨rfl, HB0.out⟩
  · by_cases hn : -1000000000000 ≤ n ∧ n ≤ 1000000000000 <;> by_cases hs : s.size = 0
    · have HBV : Hid (B = true) := by
        show _ = _
        rw [← HB.out]
        exact decide_eq_true (by unfold VaGood; omega)
      rw [HBV.out]
      obtain rfl := str_nil hs
      have hin : inB n (-1000000000000) 1000000000000 = true := inB_yes hn
      obtain ⟨c0, c1, c2⟩ := X0.out.triV
      go_enter Tryd.func30, Tryd.ntmps30
      go_upto_region 1 with (fail)
      rw [HW.out]
      go_wp2_with fail
      refine (l1In_g n (-1000000000000) 1000000000000 _).mono ?_
      rintro e w1 ⟨rfl, hw1⟩
      rw [hw1, hin]
      clear hw1
      go_wp2
      go_ret
      exact ⟨rfl, HB0.out⟩
    · have HBV : Hid (B = false) := by
        show _ = _
        rw [← HB.out]
        exact decide_eq_false (by unfold VaGood; omega)
      rw [HBV.out]
      have hse := str_some hs
      have hin : inB n (-1000000000000) 1000000000000 = true := inB_yes hn
      obtain ⟨c0, c1, c2⟩ := X0.out.triV
      go_enter Tryd.func30, Tryd.ntmps30
      go_upto_region 1 with (fail)
      rw [HW.out]
      go_wp2_with fail
      refine (l1In_g n (-1000000000000) 1000000000000 _).mono ?_
      rintro e w1 ⟨rfl, hw1⟩
      rw [hw1, hin]
      clear hw1
      go_wp2
      go_ret
      exact ⟨rfl, HB0.out⟩
    · have HBV : Hid (B = false) := by
        show _ = _
        rw [← HB.out]
        exact decide_eq_false (by unfold VaGood; omega)
      rw [HBV.out]
      obtain rfl := str_nil hs
      have hin : inB n (-1000000000000) 1000000000000 = false := inB_no hn
      obtain ⟨c0, c1, c2⟩ := X0.out.triV
      go_enter Tryd.func30, Tryd.ntmps30
      go_upto_region 1 with (fail)
      rw [HW.out]
      go_wp2_with fail
      refine (l1In_g n (-1000000000000) 1000000000000 _).mono ?_
      rintro e w1 ⟨rfl, hw1⟩
      rw [hw1, hin]
      clear hw1
      go_wp2
      go_ret
      exact ⟨rfl, HB0.out⟩
    · have HBV : Hid (B = false) := by
        show _ = _
        rw [← HB.out]
        exact decide_eq_false (by unfold VaGood; omega)
      rw [HBV.out]
      have hse := str_some hs
      have hin : inB n (-1000000000000) 1000000000000 = false := inB_no hn
      obtain ⟨c0, c1, c2⟩ := X0.out.triV
      go_enter Tryd.func30, Tryd.ntmps30
      go_upto_region 1 with (fail)
      rw [HW.out]
      go_wp2_with fail
      refine (l1In_g n (-1000000000000) 1000000000000 _).mono ?_
      rintro e w1 ⟨rfl, hw1⟩
      rw [hw1, hin]
      clear hw1
      go_wp2
      go_ret
      exact ⟨rfl, HB0.out⟩
  · by_cases hn : n = 0 <;> by_cases hs : s.size ≤ 20
    · have HBV : Hid (B = true) := by
        show _ = _
        rw [← HB.out]
        exact decide_eq_true (by unfold VaGood; omega)
      rw [HBV.out]
      have hsz : ((s.size : Int) ≤ 20) := by omega
      subst hn
      obtain ⟨c0, c1, c2⟩ := X0.out.triV
      go_enter Tryd.func30, Tryd.ntmps30
      go_upto_region 1 with (fail)
      rw [HW.out]
      go_wp2
      go_ret
      exact ⟨rfl, HB0.out⟩
    · have HBV : Hid (B = false) := by
        show _ = _
        rw [← HB.out]
        exact decide_eq_false (by unfold VaGood; omega)
      rw [HBV.out]
      have hsz : ¬ ((s.size : Int) ≤ 20) := by omega
      subst hn
      obtain ⟨c0, c1, c2⟩ := X0.out.triV
      go_enter Tryd.func30, Tryd.ntmps30
      go_upto_region 1 with (fail)
      rw [HW.out]
      go_wp2
      go_ret
      exact ⟨rfl, HB0.out⟩
    · have HBV : Hid (B = false) := by
        show _ = _
        rw [← HB.out]
        exact decide_eq_false (by unfold VaGood; omega)
      rw [HBV.out]
      have hsz : ((s.size : Int) ≤ 20) := by omega
      obtain ⟨c0, c1, c2⟩ := X0.out.triV
      have hnb : (n == 0) = false := by simpa using hn
      go_enter Tryd.func30, Tryd.ntmps30
      go_upto_region 1 with (fail)
      rw [HW.out]
      go_wp2
      go_ret
      exact ⟨rfl, HB0.out⟩
    · have HBV : Hid (B = false) := by
        show _ = _
        rw [← HB.out]
        exact decide_eq_false (by unfold VaGood; omega)
      rw [HBV.out]
      have hsz : ¬ ((s.size : Int) ≤ 20) := by omega
      obtain ⟨c0, c1, c2⟩ := X0.out.triV
      have hnb : (n == 0) = false := by simpa using hn
      go_enter Tryd.func30, Tryd.ntmps30
      go_upto_region 1 with (fail)
      rw [HW.out]
      go_wp2
      go_ret
      exact ⟨rfl, HB0.out⟩
  · have HBV : Hid (B = false) := by
      show _ = _
      rw [← HB.out]
      exact decide_eq_false (by unfold VaGood; omega)
    rw [HBV.out]
    obtain ⟨c0, c1, c2⟩ := X0.out.triV
    go_enter Tryd.func30, Tryd.ntmps30
    go_upto_region 1 with (fail)
    rw [HW.out]
    go_wp2
    go_ret
    exact ⟨rfl, HB0.out⟩
theorem specTupleOk_any (a : Option Addr) (n c : Nat) (L : List Va3) (w : World) (h : VasAt w a n L) :
    Calls Tryd.prog 18 #[.slice a n c] w fun e w' => e = .returned (.bool (decide (TupGood L))) ∧ Below w.heap.size w w' := by
  obtain ⟨B, hB⟩ : ∃ B, decide (TupGood L) = B := ⟨_, rfl⟩
  rw [hB]
  have HB : Hid (decide (TupGood L) = B) := hB
  have HL : Hid (VasAt w a n L) := h
  have hl := h.1
  have hn := h.2.1
  clear hB h
  go_enter Tryd.func18, Tryd.ntmps18
  go_wp2
  go_loopw [3] (fun i wr => ∃ j : Nat, j ≤ n ∧ i = .int .i64 (j : Int) ∧ (∀ x ∈ L.take j, VaGood x.1 x.2.1 x.2.2) ∧ Below w.heap.size w wr) (fun i _ => n - (RowKit.intOf i).toNat)
  case atStart => exact ⟨0, Nat.zero_le _, rfl, fun x hx => by simp at hx, Below.refl _ _⟩
  case round =>
    obtain ⟨j, hj, rfl, hg, hb⟩ := hrel
    have HG : Hid (∀ x ∈ L.take j, VaGood x.1 x.2.1 x.2.2) := hg
    have HBW : Hid (Below w.heap.size w wr) := hb
    clear hg hb
    by_cases hlt : j < n
    · rcases (HL.out.below HBW.out (Nat.le_refl _)).2.2 with h0 | ⟨p1, o1, rfl, g1⟩
      · omega
      obtain ⟨x, hx⟩ : ∃ x, L[j]? = some x := ⟨_, List.getElem?_eq_getElem (by omega)⟩
      obtain ⟨e0, e1, e2⟩ := g1 j x hx
      have HX : Hid (L[j]? = some x) := hx
      have HT : Hid (L.take (j + 1) = L.take j ++ [x]) := by
        show _ = _
        rw [List.take_succ_eq_append_getElem (by omega), ← (List.getElem?_eq_some_iff.1 hx).2]
      obtain ⟨k, m, s⟩ := x
      dsimp only at e0 e1 e2
      have hk0 : (0 : Int) ≤ (j : Int) := by omega
      have hk1 : (j : Int) < (n : Int) := by omega
      clear g1 hx
      go_wp2_with fail
      refine (specValueOk_any k m s _).mono ?_
      rintro e w2 ⟨rfl, hb2⟩
      have HB2 : Hid (Below w.heap.size w w2) := HBW.out.trans (hb2.mono HBW.out.size)
      clear hb2 e0 e1 e2
      by_cases hv : VaGood k m s
      · rw [decide_eq_true hv]
        have hall : ∀ x ∈ L.take (j + 1), VaGood x.1 x.2.1 x.2.2 := by
          rw [HT.out]
          intro x hx
          rcases List.mem_append.1 hx with h1 | h1
          · exact HG.out x h1
          · simp at h1; subst h1; exact hv
        go_wp2
        go_roundw
        case rel => exact ⟨j + 1, by omega, by go_num, hall, HB2.out⟩
        case measure => simp [RowKit.intOf]; omega
      · rw [decide_eq_false hv]
        have HBV : Hid (B = false) := by
          show _ = _
          rw [← HB.out]
          exact decide_eq_false fun h => hv (h.1 _ (List.mem_of_getElem? HX.out))
        go_wp2
        go_ret
        exact ⟨by rw [HBV.out]; rfl, HB2.out⟩
    · obtain rfl : j = n := by omega
      have hall : ∀ x ∈ L, VaGood x.1 x.2.1 x.2.2 := by
        have h1 := HG.out
        rwa [List.take_of_length_le (by omega)] at h1
      have HBV : Hid (decide ((j : Int) ≤ 4) = B) := by
        show _ = _
        rw [← HB.out]
        refine decide_eq_decide.2 ⟨fun h => ⟨hall, by omega⟩, fun h => by have := h.2; omega⟩
      clear hall
      go_wp2
      go_ret
      exact ⟨by rw [← HBV.out]; rfl, HBW.out⟩
open Go.Lib (byteCells byteCells_length byteCells_append)

theorem tup_succ {L : List Va3} {j : Nat} {x : Va3} (h : L[j]? = some x) : tupB (L.take (j + 1)) = tupB (L.take j) ++ vaB x := by
  have hl : j < L.length := (List.getElem?_eq_some_iff.1 h).1
  rw [List.take_succ_eq_append_getElem hl, tupB_append, (List.getElem?_eq_some_iff.1 h).2]
  show _ ++ (vaB x ++ []) = _
  rw [List.append_nil]
theorem TupGood.take {L : List Va3} (h : TupGood L) (j : Nat) : TupGood (L.take j) := ⟨fun x hx => h.1 x (List.mem_of_mem_take hx), by rw [List.length_take]; have := h.2; omega⟩
def tupBytes (L : List Va3) : List UInt8 := if TupGood L then tupB L else []
theorem specTupleBytes_any (a : Option Addr) (n c : Nat) (L : List Va3) (w : World) (h : VasAt w a n L) :
    Calls Tryd.prog 19 #[.slice a n c] w fun e w' => VbSays w (tupBytes L) e w' := by
  have HL : Hid (VasAt w a n L) := h
  have hl := h.1
  have hn := h.2.1
  obtain ⟨W, hW⟩ : ∃ W, w.alloc (.cells #[] 5) = W := ⟨_, rfl⟩
  obtain ⟨g, hg⟩ : ∃ g, w.heap.size = g := ⟨_, rfl⟩
  have HG : Hid (w.heap.size = g) := hg
  have HO0 : Hid (BOwn W g (.slice (some ⟨g, 0, none⟩) 0 0) []) := by rw [← hW]; exact bown_new w (l := []) hg rfl (Nat.le_refl _) (by decide)
  have HB0 : Hid (Below g w W) := by rw [← hW]; exact (Below.refl _ w).alloc (Nat.le_of_eq hg.symm) _
  have HW : Hid (w.alloc (.cells #[] 5) = W) := hW
  have HS0 : Hid (g ≤ W.heap.size) := by show g ≤ W.heap.size; rw [← hW, World.size_alloc, hg]; exact Nat.le_succ _
  clear h hW hg
  by_cases hg : TupGood L
  · have HT : Hid (decide (TupGood L) = true) := decide_eq_true hg
    have HTG : Hid (TupGood L) := hg
    have HE : Hid (tupBytes L = tupB L) := if_pos hg
    rw [HE.out]
    have h4 : n ≤ 4 := by have := hg.2; omega
    clear hg
    go_enter Tryd.func19, Tryd.ntmps19
    go_upto_region 2 with (fail)
    rw [HW.out, HG.out]
    go_wp2
    go_loopw [3, 4] (fun v i wr => ∃ j : Nat, j ≤ n ∧ i = .int .i64 (j : Int) ∧ BOwn wr g v (tupB (L.take j)) ∧ Below g w wr ∧ g ≤ wr.heap.size) (fun _ i _ => n - (RowKit.intOf i).toNat)
    case atStart => exact ⟨0, Nat.zero_le _, rfl, HO0.out, HB0.out, HS0.out⟩
    case round =>
      obtain ⟨j, hj, rfl, ho, hb, hz⟩ := hrel
      have HO : Hid (BOwn wr g u3 (tupB (L.take j))) := ho
      have HBW : Hid (Below g w wr) := hb
      have HSZ : Hid (g ≤ wr.heap.size) := hz
      have HLW : Hid (VasAt wr a n L) := HL.out.below hb (Nat.le_of_eq HG.out)
      have HLEN : Hid ((tupB (L.take j)).length ≤ 172) := tupB_le (HTG.out.take j)
      clear ho hb hz
      by_cases hlt : j < n
      · have hk1 : (j : Int) < (n : Int) := by omega
        go_upto_region 5 with
          (go_at_call 18
           refine (specTupleOk_any a n c L wr HLW.out).mono ?_
           rintro e w1 ⟨rfl, hb1⟩
           rw [HT.out]
           have HB1 : Hid (Below wr.heap.size wr w1) := hb1
           clear hb1)
        have hz1 : g ≤ w1.heap.size := Nat.le_trans HSZ.out HB1.out.size
        have HZ1 : Hid (g ≤ w1.heap.size) := hz1
        have HO1 : Hid (BOwn w1 g u3 (tupB (L.take j))) := owns_below HO.out HB1.out (Nat.le_refl _)
        have HBW1 : Hid (Below g w w1) := HBW.out.trans (HB1.out.mono HSZ.out)
        rcases (HLW.out.below HB1.out (Nat.le_refl _)).2.2 with h0 | ⟨p1, o1, rfl, g1⟩
        · omega
        obtain ⟨x, hx⟩ : ∃ x, L[j]? = some x := ⟨_, List.getElem?_eq_getElem (by omega)⟩
        obtain ⟨e0, e1, e2⟩ := g1 j x hx
        have HXG : Hid (VaGood x.1 x.2.1 x.2.2) := HTG.out.1 x (List.mem_of_getElem? hx)
        have HNEW : Hid (tupB (L.take j) ++ vaB x = tupB (L.take (j + 1))) := (tup_succ hx).symm
        have hk0 : (0 : Int) ≤ (j : Int) := by omega
        clear g1 hx hz1
        go_wp2_with (first
          | (go_at_call 31
             refine (l18Value_any x HXG.out w1).mono ?_
             rintro e w2 ⟨v2, rfl, ho2, hb2⟩
             have HO2 : Hid (BOwn w2 w1.heap.size v2 (vaB x)) := ho2
             have HB2 : Hid (Below w1.heap.size w1 w2) := hb2
             have HO1' : Hid (BOwn w2 g u3 (tupB (L.take j))) := owns_below HO1.out HB2.out (Nat.le_refl _)
             clear ho2 hb2
             rcases owns_forms HO2.out with ⟨_, h0⟩ | ⟨g2, c2, rfl⟩
             · exfalso
               obtain ⟨_, _, hc⟩ := vaB_some x
               rw [hc] at h0
               simp at h0)
          | (at_builtin
             refine list_appB _ rfl _ _ rfl g u3 _ rfl HO1'.out ⟨g2, 0, none⟩ c2 (vaB x) rfl (fun i u hi => by rw [add_plain, Nat.zero_add]; exact own_cellV HO2.out hi) (by have h1 := vaB_le HXG.out; have h2 := HLEN.out; omega) (Nat.le_trans HZ1.out HB2.out.size) ?_
             intro v3 w3 hown hbel _
             rw [HNEW.out] at hown
             have HO3 : Hid (BOwn w3 g v3 (tupB (L.take (j + 1)))) := hown
             have HB3 : Hid (Below g w w3) := hbel w g (Nat.le_refl _) (HBW1.out.trans (HB2.out.mono HZ1.out))
             have HZ3 : Hid (g ≤ w3.heap.size) := Nat.le_trans (Nat.le_trans HZ1.out HB2.out.size) (hbel w2 0 (Nat.zero_le _) (Below.refl 0 w2)).size
             clear hown hbel))
        go_roundw
        case rel => exact ⟨j + 1, by omega, by go_num, HO3.out, HB3.out, HZ3.out⟩
        case measure => simp [RowKit.intOf]; omega
      · obtain rfl : n = j := by omega
        have HE2 : Hid (tupB (L.take n) = tupB L) := by show _ = _; rw [List.take_of_length_le (by omega)]
        rw [HE2.out] at HO
        go_wp2
        go_ret
        have ho := HO.out
        have hb := HBW.out
        have hg := HG.out
        subst hg
        exact ⟨_, rfl, ho, hb⟩
  · have HT : Hid (decide (TupGood L) = false) := decide_eq_false hg
    have HE : Hid (tupBytes L = []) := if_neg hg
    rw [HE.out]
    have h0 : 0 < n := by
      rcases Nat.eq_zero_or_pos n with h0 | h0
      · exfalso
        apply hg
        have h1 : L = [] := List.length_eq_zero_iff.1 (by omega)
        rw [h1]
        exact ⟨fun x hx => (by cases hx), by decide⟩
      · exact h0
    clear hg
    go_enter Tryd.func19, Tryd.ntmps19
    go_upto_region 2 with (fail)
    rw [HW.out, HG.out]
    go_wp2
    go_loopw [3, 4] (fun v i wr => v = .slice (some ⟨g, 0, none⟩) 0 0 ∧ i = .int .i64 0 ∧ wr = W) (fun _ _ _ => 0)
    case atStart => exact ⟨rfl, rfl, rfl⟩
    case round =>
      obtain ⟨rfl, rfl, rfl⟩ := hrel
      have hk1 : (0 : Int) < (n : Int) := by omega
      go_wp2_with
        (go_at_call 18
         refine (specTupleOk_any a n c L wr (HL.out.below HB0.out (Nat.le_of_eq HG.out))).mono ?_
         rintro e w1 ⟨rfl, hb1⟩
         rw [HT.out]
         have HB1 : Hid (Below wr.heap.size wr w1) := hb1
         clear hb1)
      go_ret
      have ho := owns_below HO0.out HB1.out (Nat.le_refl _)
      have hb := HB0.out.trans (HB1.out.mono HS0.out)
      have hg := HG.out
      subst hg
      exact ⟨_, rfl, ho, hb⟩
end
def pureVal (a : Act) : Op → Option Value
  | .move x => some (a.eval x)
  | .assign x => some (a.eval x)
  | .pick c x y => match a.eval c with
    | .bool true => some (a.eval x)
    | .bool false => some (a.eval y)
    | _ => none
  | _ => none
def tailVal (ops : Array Oper) (a : Act) (o : Oper) : Option Value := if Region.wanted o (yielded ops a.tmps) = true then pureVal a o.op else some undef
def tailA (ops : Array Oper) : List Nat → Act → Act
  | [], a => a
  | i :: U, a => match ops[i]? with
    | some o => match tailVal ops a o with
      | some v => tailA ops U (a.put o.dst v)
      | none => a
    | none => a
def tailL : List Nat → Array Bool → Array Bool
  | [], L => L
  | i :: U, L => tailL U (L.setIfInBounds i true)
def tailB (md : Region.Mode) (ops : Array Oper) : List Nat → Array Bool → Act → Bool
  | [], _, _ => true
  | i :: U, L, a => match ops[i]? with
    | some o => match tailVal ops a o with
      | some v => Region.free md ops L i && (Region.ready md ops L).contains i && tailB md ops U (L.setIfInBounds i true) (a.put o.dst v)
      | none => false
    | none => false
section
open Go.ChangeShapes Go.WideShapes Go.ChangeAt Go.RowKit
open Go.Lib (byteCells byteCells_length byteCells_append)

theorem specTupleOf_any (a : Option Addr) (n c : Nat) (l : List UInt8) (w : World) (h : BysAt w a n l) :
    Calls Tryd.prog 5 #[.slice a n c] w fun e w' => TupAns l w e w' ∧ Below w.heap.size w w' := by
  have HL : Hid (BysAt w a n l) := h
  have hl := h.1
  have hn := h.2.1
  have hn2 : (n : Int) ≤ 2097152 := by omega
  obtain ⟨W, hW⟩ : ∃ W, w.alloc (.cells #[] 38) = W := ⟨_, rfl⟩
  obtain ⟨g, hg⟩ : ∃ g, w.heap.size = g := ⟨_, rfl⟩
  have HG : Hid (w.heap.size = g) := hg
  have HO0 : Hid (VOwn W g (.slice (some ⟨g, 0, none⟩) 0 0) []) := by rw [← hW]; exact vown_nil w hg (Nat.le_refl _)
  have HB0 : Hid (Below g w W) := by rw [← hW]; exact (Below.refl _ w).alloc (Nat.le_of_eq hg.symm) _
  have HW : Hid (w.alloc (.cells #[] 38) = W) := hW
  have HS0 : Hid (g ≤ W.heap.size) := by show g ≤ W.heap.size; rw [← hW, World.size_alloc, hg]; exact Nat.le_succ _
  rw [hg]
  clear h hW hg
  go_enter Tryd.func5, Tryd.ntmps5
  go_upto_region 2 with (fail)
  rw [HW.out, HG.out]
  go_upto_region 3 with (fail)
  go_loopw [4, 5] (fun v i wr => ∃ (L : List Va3) (j : Nat), i = .int .i64 (j : Int) ∧ j ≤ n + 9 ∧ L.length ≤ 5 ∧ RdTup l L j ∧ VOwn wr g v L ∧ Below g w wr ∧ g ≤ wr.heap.size) (fun _ i _ => n + 10 - (RowKit.intOf i).toNat)
  case atStart => exact ⟨[], 0, rfl, Nat.zero_le _, Nat.zero_le _, RdTup.start l, HO0.out, HB0.out, HS0.out⟩
  case round =>
    obtain ⟨L, j, rfl, hj, hL5, hr, ho, hb, hz⟩ := hrel
    have HR : Hid (RdTup l L j) := hr
    have HO : Hid (VOwn wr g u4 L) := ho
    have HBW : Hid (Below g w wr) := hb
    have HSZ : Hid (g ≤ wr.heap.size) := hz
    have HLW : Hid (BysAt wr a n l) := HL.out.below hb (Nat.le_of_eq HG.out)
    obtain ⟨va, vc, rfl, hvc, hvas⟩ := own_vas ho (by omega)
    have HV : Hid (VasAt wr va L.length L) := hvas
    have hj0 : (0 : Int) ≤ (j : Int) := by omega
    clear hr ho hb hz hvas
    by_cases hlt : j < n ∧ L.length ≤ 4
    · obtain ⟨hjn, hL4⟩ := hlt
      have hk1 : (j : Int) < (n : Int) := by omega
      have hk2 : (L.length : Int) ≤ 4 := by omega
      go_upto_region 5 with
        (go_at_call 17
         refine (l18Read_any a n c j l wr HLW.out hjn).mono ?_
         rintro e w1 ⟨⟨x, nx, rfl, hx1, hx2⟩, hb1⟩
         have HX : Hid (RdSays l j x nx) := hx1
         have HB1 : Hid (Below wr.heap.size wr w1) := hb1
         have hnx : nx ≤ n + 9 := by omega
         clear hb1 hx1)
      obtain ⟨k, m, s⟩ := x
      dsimp only at HX ⊢
      obtain ⟨W3, hW3⟩ : ∃ W3, w1.alloc (.cells #[.int .i64 k, .int .i64 m, .string s] 38) = W3 := ⟨_, rfl⟩
      have HW3 : Hid (w1.alloc (.cells #[.int .i64 k, .int .i64 m, .string s] 38) = W3) := hW3
      have X3 : Hid (Box W3 w1.heap.size #[.int .i64 k, .int .i64 m, .string s] 38) := by rw [← hW3]; exact box_of _ _ _
      have hz1 : g ≤ w1.heap.size := Nat.le_trans HSZ.out HB1.out.size
      have HB3 : Hid (Below g w W3) := by rw [← hW3]; exact (HBW.out.trans (HB1.out.mono HSZ.out)).alloc hz1 _
      have HO3 : Hid (VOwn W3 g (.slice va L.length vc) L) := by rw [← hW3]; exact (owns_below HO.out HB1.out (Nat.le_refl _)).alloc _
      have HZ3 : Hid (g ≤ W3.heap.size) := by rw [← hW3]; exact Nat.le_trans hz1 (by simp)
      rw [HW3.out]
      clear hW3 hz1
      obtain ⟨c0, c1, c2⟩ := X3.out.triV
      go_wp2_with
        (at_builtin
         refine list_appV _ rfl _ _ rfl g (.slice va L.length vc) L rfl (HO3.out.alloc _) ⟨W3.heap.size, 0, none⟩ 1 1 [(k, m, s)] rfl rfl (vnews _ _ rfl (k, m, s)) (by omega) (by have := HZ3.out; simp; omega) ?_
         intro v' w' hown hbel _
         have HO4 : Hid (VOwn w' g v' (L ++ [(k, m, s)])) := hown
         have HB4 : Hid (Below g w w') := hbel w g (Nat.le_refl _) (HB3.out.alloc HZ3.out _)
         have HZ4 : Hid (g ≤ w'.heap.size) := Nat.le_trans HZ3.out (hbel W3 0 (Nat.zero_le _) ((Below.refl 0 W3).alloc (Nat.zero_le _) _)).size
         clear hown hbel)
      go_roundw
      case rel => exact ⟨L ++ [(k, m, s)], nx, rfl, hnx, by rw [List.length_append]; show L.length + 1 ≤ 5; omega, HR.out.next (by omega) HX.out, HO4.out, HB4.out, HZ4.out⟩
      case measure =>
        have := HX.out.1
        simp [RowKit.intOf]; omega
    · skip
      have hdone : ∀ x : Unit, ¬ (j < l.length ∧ L.length ≤ 4) := fun _ => by rw [hl]; exact hlt
      have HDN : Hid (¬ (j < l.length ∧ L.length ≤ 4)) := hdone ()
      have hgr : ¬ (j < n) ∨ (j < n ∧ ¬ (L.length ≤ 4)) := by omega
      have hcnd : ((j : Int) < (n : Int) ∧ ¬ ((L.length : Int) ≤ 4)) ∨ ¬ ((j : Int) < (n : Int)) := by omega
      have hLi : (L.length : Int) ≤ 5 := by omega
      have hji : (j : Int) ≤ 3000000 := by omega
      clear hdone hgr
      by_cases hjn : j = n
      · have hjb : ((j : Int) == (n : Int)) = true := by rw [beq_iff_eq]; omega
        have hjc : ((j : Int) != (n : Int)) = false := by rw [bne, hjb]; rfl
        have hc2 : ¬ ((j : Int) < (n : Int)) := by omega
        clear hcnd
        by_cases hT : TupGood L
        · by_cases hE : tupB L = l
          · have HTD : Hid (decide (TupGood L) = true) := decide_eq_true hT
            have HTB : Hid (tupBytes L = tupB L) := if_pos hT
            have HIS : Hid (TupIs l L) := ⟨hT, hE⟩
            have HE : Hid (tupB L = l) := hE
            clear hE hT
            go_upto_region 7 with (fail)
            refine wp_region_held_drew (S := fun w' => (convert 22 9 (.slice a n c)).run Tryd.prog w' = .ok (.string ⟨l.toArray⟩) w') (by kernel_rfl) (bys_text HLW.out) (fun hHeld => ?_)
            refine wpAnyH_take (i := 0) (oi := _) (v := .int .i64 (j : Int)) (by rw [List.getElem?_toArray]; exact rfl) (by kernel_rfl) (by kernel_rfl) (by kernel_rfl) (by intro _ _ _ h; exact h) (Or.inl ⟨by kernel_rfl, ?_⟩) hHeld ?_
            · intro w hSw; go_simp
            simp only [Act.put, List.setIfInBounds_toArray, List.set_cons_zero, List.set_cons_succ]
            refine wpAnyH_take (i := 1) (oi := _) (v := .slice a n c) (by rw [List.getElem?_toArray]; exact rfl) (by kernel_rfl) (by kernel_rfl) (by kernel_rfl) (by intro _ _ _ h; exact h) (Or.inl ⟨by kernel_rfl, ?_⟩) hHeld ?_
            · intro w hSw; go_simp
            simp only [Act.put, List.setIfInBounds_toArray, List.set_cons_zero, List.set_cons_succ]
            refine wpAnyH_take (i := 2) (oi := _) (v := .int .i64 (n : Int)) (by rw [List.getElem?_toArray]; exact rfl) (by kernel_rfl) (by kernel_rfl) (by kernel_rfl) (by intro _ _ _ h; exact h) (Or.inl ⟨by kernel_rfl, ?_⟩) hHeld ?_
            · intro w hSw; go_simp
            simp only [Act.put, List.setIfInBounds_toArray, List.set_cons_zero, List.set_cons_succ]
            refine wpAnyH_take (i := 3) (oi := _) (v := .bool false) (by rw [List.getElem?_toArray]; exact rfl) (by kernel_rfl) (by kernel_rfl) (by kernel_rfl) (by intro _ _ _ h; exact h) (Or.inl ⟨by kernel_rfl, ?_⟩) hHeld ?_
            · intro w hSw; go_simp
            simp only [Act.put, List.setIfInBounds_toArray, List.set_cons_zero, List.set_cons_succ]
            refine wpAnyH_take (i := 4) (oi := _) (v := .bool false) (by rw [List.getElem?_toArray]; exact rfl) (by kernel_rfl) (by kernel_rfl) (by kernel_rfl) (by intro _ _ _ h; exact h) (Or.inl ⟨by kernel_rfl, ?_⟩) hHeld ?_
            · intro w hSw; go_simp
            simp only [Act.put, List.setIfInBounds_toArray, List.set_cons_zero, List.set_cons_succ]
            refine wpAnyH_take (i := 5) (oi := _) (v := .slice va L.length vc) (by rw [List.getElem?_toArray]; exact rfl) (by kernel_rfl) (by kernel_rfl) (by kernel_rfl) (by intro _ _ _ h; exact h) (Or.inl ⟨by kernel_rfl, ?_⟩) hHeld ?_
            · intro w hSw; go_simp
            simp only [Act.put, List.setIfInBounds_toArray, List.set_cons_zero, List.set_cons_succ]
            refine wpAnyH_ready (rs := [6]) (by kernel_rfl) (by simp) ?_
            refine AllReadyH.cons (o := _) (by rw [List.getElem?_toArray]; exact rfl) (fun K hK => ?_) AllReadyH.nil
            rw [if_pos (by kernel_rfl)]
            go_simp
            refine (specTupleOk_any va L.length vc L wr.drew HV.out).mono ?_
            rintro e w1 ⟨rfl, hb1⟩
            have HB1 : Hid (Below wr.heap.size wr w1) := (Below.refl _ wr).drew.trans hb1
            rw [HTD.out]
            clear hb1
            go_simp
            refine hK.out _ _ ?_ (fun hHeld => ?_)
            · exact bys_text (HLW.out.below HB1.out (Nat.le_refl _))
            clear hK K
            (try simp only [Act.put, List.setIfInBounds_toArray, List.set_cons_zero, List.set_cons_succ])
            refine wpAnyH_take (i := 7) (oi := _) (v := .bool false) (by rw [List.getElem?_toArray]; exact rfl) (by kernel_rfl) (by kernel_rfl) (by kernel_rfl) (by intro _ _ _ h; exact h) (Or.inl ⟨by kernel_rfl, ?_⟩) hHeld ?_
            · intro w hSw; go_simp
            simp only [Act.put, List.setIfInBounds_toArray, List.set_cons_zero, List.set_cons_succ]
            refine wpAnyH_take (i := 8) (oi := _) (v := .bool false) (by rw [List.getElem?_toArray]; exact rfl) (by kernel_rfl) (by kernel_rfl) (by kernel_rfl) (by intro _ _ _ h; exact h) (Or.inl ⟨by kernel_rfl, ?_⟩) hHeld ?_
            · intro w hSw; go_simp
            simp only [Act.put, List.setIfInBounds_toArray, List.set_cons_zero, List.set_cons_succ]
            refine wpAnyH_take (i := 9) (oi := _) (v := .bool false) (by rw [List.getElem?_toArray]; exact rfl) (by kernel_rfl) (by kernel_rfl) (by kernel_rfl) (by intro _ _ _ h; exact h) (Or.inl ⟨by kernel_rfl, ?_⟩) hHeld ?_
            · intro w hSw; go_simp
            simp only [Act.put, List.setIfInBounds_toArray, List.set_cons_zero, List.set_cons_succ]
            refine wpAnyH_take (i := 10) (oi := _) (v := .slice va L.length vc) (by rw [List.getElem?_toArray]; exact rfl) (by kernel_rfl) (by kernel_rfl) (by kernel_rfl) (by intro _ _ _ h; exact h) (Or.inl ⟨by kernel_rfl, ?_⟩) hHeld ?_
            · intro w hSw; go_simp
            simp only [Act.put, List.setIfInBounds_toArray, List.set_cons_zero, List.set_cons_succ]
            refine wpAnyH_take (i := 13) (oi := _) (v := .slice a n c) (by rw [List.getElem?_toArray]; exact rfl) (by kernel_rfl) (by kernel_rfl) (by kernel_rfl) (by intro _ _ _ h; exact h) (Or.inl ⟨by kernel_rfl, ?_⟩) hHeld ?_
            · intro w hSw; go_simp
            simp only [Act.put, List.setIfInBounds_toArray, List.set_cons_zero, List.set_cons_succ]
            refine wpAnyH_take (i := 14) (oi := _) (v := .string ⟨l.toArray⟩) (by rw [List.getElem?_toArray]; exact rfl) (by kernel_rfl) (by kernel_rfl) (by kernel_rfl) (by intro _ _ _ h; exact h) (Or.inl ⟨by kernel_rfl, ?_⟩) hHeld ?_
            · intro w hSw; go_simp
            simp only [Act.put, List.setIfInBounds_toArray, List.set_cons_zero, List.set_cons_succ]
            refine wpAnyH_ready (rs := [11]) (by kernel_rfl) (by simp) ?_
            refine AllReadyH.cons (o := _) (by rw [List.getElem?_toArray]; exact rfl) (fun K hK => ?_) AllReadyH.nil
            rw [if_pos (by kernel_rfl)]
            go_simp
            refine (specTupleBytes_any va L.length vc L w1 (HV.out.below HB1.out (Nat.le_refl _))).mono ?_
            rintro e w2 ⟨v2, rfl, ho2, hb2⟩
            rw [HTB.out] at ho2
            have HB2 : Hid (Below w1.heap.size w1 w2) := hb2
            have hcv := bown_text ho2
            clear hb2 ho2
            go_simp
            refine hK.out _ _ ?_ (fun hHeld => ?_)
            · exact bys_text ((HLW.out.below HB1.out (Nat.le_refl _)).below HB2.out (Nat.le_refl _))
            clear hK K
            (try simp only [Act.put, List.setIfInBounds_toArray, List.set_cons_zero, List.set_cons_succ])
            refine wpAnyH_ready (rs := [12]) (by kernel_rfl) (by simp) ?_
            refine AllReadyH.cons (o := _) (by rw [List.getElem?_toArray]; exact rfl) (fun K hK => ?_) AllReadyH.nil
            rw [if_pos (by kernel_rfl)]
            go_simp
            refine hK.out _ _ ?_ (fun hHeld => ?_)
            · exact bys_text ((HLW.out.below HB1.out (Nat.le_refl _)).below HB2.out (Nat.le_refl _))
            clear hK K
            (try simp only [Act.put, List.setIfInBounds_toArray, List.set_cons_zero, List.set_cons_succ])
            refine wpAnyH_take (i := 15) (oi := _) (v := .bool false) (by rw [List.getElem?_toArray]; exact rfl) (by kernel_rfl) (by kernel_rfl) (by kernel_rfl) (by intro _ _ _ h; exact h) (Or.inl ⟨by kernel_rfl, ?_⟩) hHeld ?_
            · intro w hSw; go_simp; exact HE.out
            simp only [Act.put, List.setIfInBounds_toArray, List.set_cons_zero, List.set_cons_succ]
            refine wpAnyH_take (i := 16) (oi := _) (v := .bool false) (by rw [List.getElem?_toArray]; exact rfl) (by kernel_rfl) (by kernel_rfl) (by kernel_rfl) (by intro _ _ _ h; exact h) (Or.inl ⟨by kernel_rfl, ?_⟩) hHeld ?_
            · intro w hSw; go_simp
            simp only [Act.put, List.setIfInBounds_toArray, List.set_cons_zero, List.set_cons_succ]
            refine wpAnyH_done (by kernel_rfl) ?_ _
            have HZ1 := Nat.le_trans HSZ.out HB1.out.size
            have HZ2 := Nat.le_trans HZ1 HB2.out.size
            have ho := owns_below (owns_below HO.out HB1.out (Nat.le_refl _)) HB2.out (Nat.le_refl _)
            go_wp2
            go_ret2
            refine ⟨⟨_, true, L, rfl, ?_, .inl ⟨rfl, HIS.out⟩⟩, (HBW.out.trans (HB1.out.mono HSZ.out)).trans (HB2.out.mono HZ1)⟩
            exact own_weaken ho (Nat.le_of_eq HG.out)
          · have HTD : Hid (decide (TupGood L) = true) := decide_eq_true hT
            have HTB : Hid (tupBytes L = tupB L) := if_pos hT
            have HNO : Hid (∀ M, ¬ TupIs l M) := HR.out.none HDN.out (fun e => hE e.2.2)
            have HE : Hid (¬ tupB L = l) := hE
            clear hE hT
            go_upto_region 7 with (fail)
            refine wp_region_held_drew (S := fun w' => (convert 22 9 (.slice a n c)).run Tryd.prog w' = .ok (.string ⟨l.toArray⟩) w') (by kernel_rfl) (bys_text HLW.out) (fun hHeld => ?_)
            refine wpAnyH_take (i := 0) (oi := _) (v := .int .i64 (j : Int)) (by rw [List.getElem?_toArray]; exact rfl) (by kernel_rfl) (by kernel_rfl) (by kernel_rfl) (by intro _ _ _ h; exact h) (Or.inl ⟨by kernel_rfl, ?_⟩) hHeld ?_
            · intro w hSw; go_simp
            simp only [Act.put, List.setIfInBounds_toArray, List.set_cons_zero, List.set_cons_succ]
            refine wpAnyH_take (i := 1) (oi := _) (v := .slice a n c) (by rw [List.getElem?_toArray]; exact rfl) (by kernel_rfl) (by kernel_rfl) (by kernel_rfl) (by intro _ _ _ h; exact h) (Or.inl ⟨by kernel_rfl, ?_⟩) hHeld ?_
            · intro w hSw; go_simp
            simp only [Act.put, List.setIfInBounds_toArray, List.set_cons_zero, List.set_cons_succ]
            refine wpAnyH_take (i := 2) (oi := _) (v := .int .i64 (n : Int)) (by rw [List.getElem?_toArray]; exact rfl) (by kernel_rfl) (by kernel_rfl) (by kernel_rfl) (by intro _ _ _ h; exact h) (Or.inl ⟨by kernel_rfl, ?_⟩) hHeld ?_
            · intro w hSw; go_simp
            simp only [Act.put, List.setIfInBounds_toArray, List.set_cons_zero, List.set_cons_succ]
            refine wpAnyH_take (i := 3) (oi := _) (v := .bool false) (by rw [List.getElem?_toArray]; exact rfl) (by kernel_rfl) (by kernel_rfl) (by kernel_rfl) (by intro _ _ _ h; exact h) (Or.inl ⟨by kernel_rfl, ?_⟩) hHeld ?_
            · intro w hSw; go_simp
            simp only [Act.put, List.setIfInBounds_toArray, List.set_cons_zero, List.set_cons_succ]
            refine wpAnyH_take (i := 4) (oi := _) (v := .bool false) (by rw [List.getElem?_toArray]; exact rfl) (by kernel_rfl) (by kernel_rfl) (by kernel_rfl) (by intro _ _ _ h; exact h) (Or.inl ⟨by kernel_rfl, ?_⟩) hHeld ?_
            · intro w hSw; go_simp
            simp only [Act.put, List.setIfInBounds_toArray, List.set_cons_zero, List.set_cons_succ]
            refine wpAnyH_take (i := 5) (oi := _) (v := .slice va L.length vc) (by rw [List.getElem?_toArray]; exact rfl) (by kernel_rfl) (by kernel_rfl) (by kernel_rfl) (by intro _ _ _ h; exact h) (Or.inl ⟨by kernel_rfl, ?_⟩) hHeld ?_
            · intro w hSw; go_simp
            simp only [Act.put, List.setIfInBounds_toArray, List.set_cons_zero, List.set_cons_succ]
            refine wpAnyH_ready (rs := [6]) (by kernel_rfl) (by simp) ?_
            refine AllReadyH.cons (o := _) (by rw [List.getElem?_toArray]; exact rfl) (fun K hK => ?_) AllReadyH.nil
            rw [if_pos (by kernel_rfl)]
            go_simp
            refine (specTupleOk_any va L.length vc L wr.drew HV.out).mono ?_
            rintro e w1 ⟨rfl, hb1⟩
            have HB1 : Hid (Below wr.heap.size wr w1) := (Below.refl _ wr).drew.trans hb1
            rw [HTD.out]
            clear hb1
            go_simp
            refine hK.out _ _ ?_ (fun hHeld => ?_)
            · exact bys_text (HLW.out.below HB1.out (Nat.le_refl _))
            clear hK K
            (try simp only [Act.put, List.setIfInBounds_toArray, List.set_cons_zero, List.set_cons_succ])
            refine wpAnyH_take (i := 7) (oi := _) (v := .bool false) (by rw [List.getElem?_toArray]; exact rfl) (by kernel_rfl) (by kernel_rfl) (by kernel_rfl) (by intro _ _ _ h; exact h) (Or.inl ⟨by kernel_rfl, ?_⟩) hHeld ?_
            · intro w hSw; go_simp
            simp only [Act.put, List.setIfInBounds_toArray, List.set_cons_zero, List.set_cons_succ]
            refine wpAnyH_take (i := 8) (oi := _) (v := .bool false) (by rw [List.getElem?_toArray]; exact rfl) (by kernel_rfl) (by kernel_rfl) (by kernel_rfl) (by intro _ _ _ h; exact h) (Or.inl ⟨by kernel_rfl, ?_⟩) hHeld ?_
            · intro w hSw; go_simp
            simp only [Act.put, List.setIfInBounds_toArray, List.set_cons_zero, List.set_cons_succ]
            refine wpAnyH_take (i := 9) (oi := _) (v := .bool false) (by rw [List.getElem?_toArray]; exact rfl) (by kernel_rfl) (by kernel_rfl) (by kernel_rfl) (by intro _ _ _ h; exact h) (Or.inl ⟨by kernel_rfl, ?_⟩) hHeld ?_
            · intro w hSw; go_simp
            simp only [Act.put, List.setIfInBounds_toArray, List.set_cons_zero, List.set_cons_succ]
            refine wpAnyH_take (i := 10) (oi := _) (v := .slice va L.length vc) (by rw [List.getElem?_toArray]; exact rfl) (by kernel_rfl) (by kernel_rfl) (by kernel_rfl) (by intro _ _ _ h; exact h) (Or.inl ⟨by kernel_rfl, ?_⟩) hHeld ?_
            · intro w hSw; go_simp
            simp only [Act.put, List.setIfInBounds_toArray, List.set_cons_zero, List.set_cons_succ]
            refine wpAnyH_take (i := 13) (oi := _) (v := .slice a n c) (by rw [List.getElem?_toArray]; exact rfl) (by kernel_rfl) (by kernel_rfl) (by kernel_rfl) (by intro _ _ _ h; exact h) (Or.inl ⟨by kernel_rfl, ?_⟩) hHeld ?_
            · intro w hSw; go_simp
            simp only [Act.put, List.setIfInBounds_toArray, List.set_cons_zero, List.set_cons_succ]
            refine wpAnyH_take (i := 14) (oi := _) (v := .string ⟨l.toArray⟩) (by rw [List.getElem?_toArray]; exact rfl) (by kernel_rfl) (by kernel_rfl) (by kernel_rfl) (by intro _ _ _ h; exact h) (Or.inl ⟨by kernel_rfl, ?_⟩) hHeld ?_
            · intro w hSw; go_simp
            simp only [Act.put, List.setIfInBounds_toArray, List.set_cons_zero, List.set_cons_succ]
            refine wpAnyH_ready (rs := [11]) (by kernel_rfl) (by simp) ?_
            refine AllReadyH.cons (o := _) (by rw [List.getElem?_toArray]; exact rfl) (fun K hK => ?_) AllReadyH.nil
            rw [if_pos (by kernel_rfl)]
            go_simp
            refine (specTupleBytes_any va L.length vc L w1 (HV.out.below HB1.out (Nat.le_refl _))).mono ?_
            rintro e w2 ⟨v2, rfl, ho2, hb2⟩
            rw [HTB.out] at ho2
            have HB2 : Hid (Below w1.heap.size w1 w2) := hb2
            have hcv := bown_text ho2
            clear hb2 ho2
            go_simp
            refine hK.out _ _ ?_ (fun hHeld => ?_)
            · exact bys_text ((HLW.out.below HB1.out (Nat.le_refl _)).below HB2.out (Nat.le_refl _))
            clear hK K
            (try simp only [Act.put, List.setIfInBounds_toArray, List.set_cons_zero, List.set_cons_succ])
            refine wpAnyH_ready (rs := [12]) (by kernel_rfl) (by simp) ?_
            refine AllReadyH.cons (o := _) (by rw [List.getElem?_toArray]; exact rfl) (fun K hK => ?_) AllReadyH.nil
            rw [if_pos (by kernel_rfl)]
            go_simp
            refine hK.out _ _ ?_ (fun hHeld => ?_)
            · exact bys_text ((HLW.out.below HB1.out (Nat.le_refl _)).below HB2.out (Nat.le_refl _))
            clear hK K
            (try simp only [Act.put, List.setIfInBounds_toArray, List.set_cons_zero, List.set_cons_succ])
            refine wpAnyH_take (i := 15) (oi := _) (v := .bool true) (by rw [List.getElem?_toArray]; exact rfl) (by kernel_rfl) (by kernel_rfl) (by kernel_rfl) (by intro _ _ _ h; exact h) (Or.inl ⟨by kernel_rfl, ?_⟩) hHeld ?_
            · intro w hSw; go_simp; exact HE.out
            simp only [Act.put, List.setIfInBounds_toArray, List.set_cons_zero, List.set_cons_succ]
            refine wpAnyH_take (i := 16) (oi := _) (v := .bool true) (by rw [List.getElem?_toArray]; exact rfl) (by kernel_rfl) (by kernel_rfl) (by kernel_rfl) (by intro _ _ _ h; exact h) (Or.inl ⟨by kernel_rfl, ?_⟩) hHeld ?_
            · intro w hSw; go_simp
            simp only [Act.put, List.setIfInBounds_toArray, List.set_cons_zero, List.set_cons_succ]
            refine wpAnyH_done (by kernel_rfl) ?_ _
            have HZ1 := Nat.le_trans HSZ.out HB1.out.size
            have HZ2 := Nat.le_trans HZ1 HB2.out.size
            go_wp2
            go_ret2
            refine ⟨⟨_, false, [], rfl, vown_nil _ rfl ?_, .inr ⟨rfl, rfl, HNO.out⟩⟩, ?_⟩
            · exact Nat.le_trans (Nat.le_of_eq HG.out) HZ2
            · exact ((HBW.out.trans (HB1.out.mono HSZ.out)).trans (HB2.out.mono HZ1)).alloc HZ2 _
        · have HTD : Hid (decide (TupGood L) = false) := decide_eq_false hT
          have HNO : Hid (∀ M, ¬ TupIs l M) := HR.out.none HDN.out (fun e => hT e.2.1)
          go_upto_region 7 with (fail)
          refine wp_region_held_drew (S := fun w' => (convert 22 9 (.slice a n c)).run Tryd.prog w' = .ok (.string ⟨l.toArray⟩) w') (by kernel_rfl) (bys_text HLW.out) (fun hHeld => ?_)
          refine wpAnyH_take (i := 0) (oi := _) (v := .int .i64 (j : Int)) (by rw [List.getElem?_toArray]; exact rfl) (by kernel_rfl) (by kernel_rfl) (by kernel_rfl) (by intro _ _ _ h; exact h) (Or.inl ⟨by kernel_rfl, ?_⟩) hHeld ?_
          · intro w hSw; go_simp
          simp only [Act.put, List.setIfInBounds_toArray, List.set_cons_zero, List.set_cons_succ]
          refine wpAnyH_take (i := 1) (oi := _) (v := .slice a n c) (by rw [List.getElem?_toArray]; exact rfl) (by kernel_rfl) (by kernel_rfl) (by kernel_rfl) (by intro _ _ _ h; exact h) (Or.inl ⟨by kernel_rfl, ?_⟩) hHeld ?_
          · intro w hSw; go_simp
          simp only [Act.put, List.setIfInBounds_toArray, List.set_cons_zero, List.set_cons_succ]
          refine wpAnyH_take (i := 2) (oi := _) (v := .int .i64 (n : Int)) (by rw [List.getElem?_toArray]; exact rfl) (by kernel_rfl) (by kernel_rfl) (by kernel_rfl) (by intro _ _ _ h; exact h) (Or.inl ⟨by kernel_rfl, ?_⟩) hHeld ?_
          · intro w hSw; go_simp
          simp only [Act.put, List.setIfInBounds_toArray, List.set_cons_zero, List.set_cons_succ]
          refine wpAnyH_take (i := 3) (oi := _) (v := .bool false) (by rw [List.getElem?_toArray]; exact rfl) (by kernel_rfl) (by kernel_rfl) (by kernel_rfl) (by intro _ _ _ h; exact h) (Or.inl ⟨by kernel_rfl, ?_⟩) hHeld ?_
          · intro w hSw; go_simp
          simp only [Act.put, List.setIfInBounds_toArray, List.set_cons_zero, List.set_cons_succ]
          refine wpAnyH_take (i := 4) (oi := _) (v := .bool false) (by rw [List.getElem?_toArray]; exact rfl) (by kernel_rfl) (by kernel_rfl) (by kernel_rfl) (by intro _ _ _ h; exact h) (Or.inl ⟨by kernel_rfl, ?_⟩) hHeld ?_
          · intro w hSw; go_simp
          simp only [Act.put, List.setIfInBounds_toArray, List.set_cons_zero, List.set_cons_succ]
          refine wpAnyH_take (i := 5) (oi := _) (v := .slice va L.length vc) (by rw [List.getElem?_toArray]; exact rfl) (by kernel_rfl) (by kernel_rfl) (by kernel_rfl) (by intro _ _ _ h; exact h) (Or.inl ⟨by kernel_rfl, ?_⟩) hHeld ?_
          · intro w hSw; go_simp
          simp only [Act.put, List.setIfInBounds_toArray, List.set_cons_zero, List.set_cons_succ]
          refine wpAnyH_ready (rs := [6]) (by kernel_rfl) (by simp) ?_
          refine AllReadyH.cons (o := _) (by rw [List.getElem?_toArray]; exact rfl) (fun K hK => ?_) AllReadyH.nil
          rw [if_pos (by kernel_rfl)]
          go_simp
          refine (specTupleOk_any va L.length vc L wr.drew HV.out).mono ?_
          rintro e w1 ⟨rfl, hb1⟩
          have HB1 : Hid (Below wr.heap.size wr w1) := (Below.refl _ wr).drew.trans hb1
          rw [HTD.out]
          clear hb1
          go_simp
          refine hK.out _ _ ?_ (fun hHeld => ?_)
          · exact bys_text (HLW.out.below HB1.out (Nat.le_refl _))
          clear hK K
          (try simp only [Act.put, List.setIfInBounds_toArray, List.set_cons_zero, List.set_cons_succ])
          refine wpAnyH_take (i := 7) (oi := _) (v := .bool true) (by rw [List.getElem?_toArray]; exact rfl) (by kernel_rfl) (by kernel_rfl) (by kernel_rfl) (by intro _ _ _ h; exact h) (Or.inl ⟨by kernel_rfl, ?_⟩) hHeld ?_
          · intro w hSw; go_simp
          simp only [Act.put, List.setIfInBounds_toArray, List.set_cons_zero, List.set_cons_succ]
          refine wpAnyH_take (i := 8) (oi := _) (v := .bool true) (by rw [List.getElem?_toArray]; exact rfl) (by kernel_rfl) (by kernel_rfl) (by kernel_rfl) (by intro _ _ _ h; exact h) (Or.inl ⟨by kernel_rfl, ?_⟩) hHeld ?_
          · intro w hSw; go_simp
          simp only [Act.put, List.setIfInBounds_toArray, List.set_cons_zero, List.set_cons_succ]
          refine wpAnyH_take (i := 9) (oi := _) (v := .bool true) (by rw [List.getElem?_toArray]; exact rfl) (by kernel_rfl) (by kernel_rfl) (by kernel_rfl) (by intro _ _ _ h; exact h) (Or.inl ⟨by kernel_rfl, ?_⟩) hHeld ?_
          · intro w hSw; go_simp
          simp only [Act.put, List.setIfInBounds_toArray, List.set_cons_zero, List.set_cons_succ]
          refine wpAnyH_take (i := 10) (oi := _) (v := undef) (by rw [List.getElem?_toArray]; exact rfl) (by kernel_rfl) (by kernel_rfl) (by kernel_rfl) (by intro _ _ _ h; exact h) (Or.inr ⟨by kernel_rfl, rfl⟩) hHeld ?_
          simp only [Act.put, List.setIfInBounds_toArray, List.set_cons_zero, List.set_cons_succ]
          refine wpAnyH_take (i := 11) (oi := _) (v := undef) (by rw [List.getElem?_toArray]; exact rfl) (by kernel_rfl) (by kernel_rfl) (by kernel_rfl) (by intro _ _ _ h; exact h) (Or.inr ⟨by kernel_rfl, rfl⟩) hHeld ?_
          simp only [Act.put, List.setIfInBounds_toArray, List.set_cons_zero, List.set_cons_succ]
          refine wpAnyH_take (i := 12) (oi := _) (v := undef) (by rw [List.getElem?_toArray]; exact rfl) (by kernel_rfl) (by kernel_rfl) (by kernel_rfl) (by intro _ _ _ h; exact h) (Or.inr ⟨by kernel_rfl, rfl⟩) hHeld ?_
          simp only [Act.put, List.setIfInBounds_toArray, List.set_cons_zero, List.set_cons_succ]
          refine wpAnyH_take (i := 13) (oi := _) (v := undef) (by rw [List.getElem?_toArray]; exact rfl) (by kernel_rfl) (by kernel_rfl) (by kernel_rfl) (by intro _ _ _ h; exact h) (Or.inr ⟨by kernel_rfl, rfl⟩) hHeld ?_
          simp only [Act.put, List.setIfInBounds_toArray, List.set_cons_zero, List.set_cons_succ]
          refine wpAnyH_take (i := 14) (oi := _) (v := undef) (by rw [List.getElem?_toArray]; exact rfl) (by kernel_rfl) (by kernel_rfl) (by kernel_rfl) (by intro _ _ _ h; exact h) (Or.inr ⟨by kernel_rfl, rfl⟩) hHeld ?_
          simp only [Act.put, List.setIfInBounds_toArray, List.set_cons_zero, List.set_cons_succ]
          refine wpAnyH_take (i := 15) (oi := _) (v := undef) (by rw [List.getElem?_toArray]; exact rfl) (by kernel_rfl) (by kernel_rfl) (by kernel_rfl) (by intro _ _ _ h; exact h) (Or.inr ⟨by kernel_rfl, rfl⟩) hHeld ?_
          simp only [Act.put, List.setIfInBounds_toArray, List.set_cons_zero, List.set_cons_succ]
          refine wpAnyH_take (i := 16) (oi := _) (v := .bool true) (by rw [List.getElem?_toArray]; exact rfl) (by kernel_rfl) (by kernel_rfl) (by kernel_rfl) (by intro _ _ _ h; exact h) (Or.inl ⟨by kernel_rfl, ?_⟩) hHeld ?_
          · intro w hSw; go_simp
          simp only [Act.put, List.setIfInBounds_toArray, List.set_cons_zero, List.set_cons_succ]
          refine wpAnyH_done (by kernel_rfl) ?_ _
          have HZ1 := Nat.le_trans HSZ.out HB1.out.size
          go_wp2
          go_ret2
          refine ⟨⟨_, false, [], rfl, vown_nil _ rfl ?_, .inr ⟨rfl, rfl, HNO.out⟩⟩, ?_⟩
          · exact Nat.le_trans (Nat.le_of_eq HG.out) HZ1
          · exact (HBW.out.trans (HB1.out.mono HSZ.out)).alloc HZ1 _
      · have hjb : ((j : Int) == (n : Int)) = false := by rw [beq_eq_false_iff_ne]; omega
        have hjc : ((j : Int) != (n : Int)) = true := by rw [bne, hjb]; rfl
        have HNO : Hid (∀ M, ¬ TupIs l M) := HR.out.none HDN.out (fun e => hjn (by rw [← hl]; exact e.1))
        rcases hcnd with ⟨hm1, hm2⟩ | hm1
        all_goals
          go_upto_region 7 with (fail)
          refine wp_region_held_drew (S := fun _ => True) (by kernel_rfl) trivial (fun hHeld => ?_)
          refine wpAnyH_take (i := 0) (oi := _) (v := .int .i64 (j : Int)) (by rw [List.getElem?_toArray]; exact rfl) (by kernel_rfl) (by kernel_rfl) (by kernel_rfl) (by intro _ _ _ h; exact h) (Or.inl ⟨by kernel_rfl, ?_⟩) hHeld ?_
          · intro w hSw; go_simp
          simp only [Act.put, List.setIfInBounds_toArray, List.set_cons_zero, List.set_cons_succ]
          refine wpAnyH_take (i := 1) (oi := _) (v := .slice a n c) (by rw [List.getElem?_toArray]; exact rfl) (by kernel_rfl) (by kernel_rfl) (by kernel_rfl) (by intro _ _ _ h; exact h) (Or.inl ⟨by kernel_rfl, ?_⟩) hHeld ?_
          · intro w hSw; go_simp
          simp only [Act.put, List.setIfInBounds_toArray, List.set_cons_zero, List.set_cons_succ]
          refine wpAnyH_take (i := 2) (oi := _) (v := .int .i64 (n : Int)) (by rw [List.getElem?_toArray]; exact rfl) (by kernel_rfl) (by kernel_rfl) (by kernel_rfl) (by intro _ _ _ h; exact h) (Or.inl ⟨by kernel_rfl, ?_⟩) hHeld ?_
          · intro w hSw; go_simp
          simp only [Act.put, List.setIfInBounds_toArray, List.set_cons_zero, List.set_cons_succ]
          refine wpAnyH_take (i := 3) (oi := _) (v := .bool true) (by rw [List.getElem?_toArray]; exact rfl) (by kernel_rfl) (by kernel_rfl) (by kernel_rfl) (by intro _ _ _ h; exact h) (Or.inl ⟨by kernel_rfl, ?_⟩) hHeld ?_
          · intro w hSw; go_simp
          simp only [Act.put, List.setIfInBounds_toArray, List.set_cons_zero, List.set_cons_succ]
          refine wpAnyH_take (i := 4) (oi := _) (v := .bool true) (by rw [List.getElem?_toArray]; exact rfl) (by kernel_rfl) (by kernel_rfl) (by kernel_rfl) (by intro _ _ _ h; exact h) (Or.inl ⟨by kernel_rfl, ?_⟩) hHeld ?_
          · intro w hSw; go_simp
          simp only [Act.put, List.setIfInBounds_toArray, List.set_cons_zero, List.set_cons_succ]
          refine wpAnyH_take (i := 5) (oi := _) (v := undef) (by rw [List.getElem?_toArray]; exact rfl) (by kernel_rfl) (by kernel_rfl) (by kernel_rfl) (by intro _ _ _ h; exact h) (Or.inr ⟨by kernel_rfl, rfl⟩) hHeld ?_
          simp only [Act.put, List.setIfInBounds_toArray, List.set_cons_zero, List.set_cons_succ]
          refine wpAnyH_take (i := 6) (oi := _) (v := undef) (by rw [List.getElem?_toArray]; exact rfl) (by kernel_rfl) (by kernel_rfl) (by kernel_rfl) (by intro _ _ _ h; exact h) (Or.inr ⟨by kernel_rfl, rfl⟩) hHeld ?_
          simp only [Act.put, List.setIfInBounds_toArray, List.set_cons_zero, List.set_cons_succ]
          refine wpAnyH_take (i := 7) (oi := _) (v := undef) (by rw [List.getElem?_toArray]; exact rfl) (by kernel_rfl) (by kernel_rfl) (by kernel_rfl) (by intro _ _ _ h; exact h) (Or.inr ⟨by kernel_rfl, rfl⟩) hHeld ?_
          simp only [Act.put, List.setIfInBounds_toArray, List.set_cons_zero, List.set_cons_succ]
          refine wpAnyH_take (i := 8) (oi := _) (v := .bool true) (by rw [List.getElem?_toArray]; exact rfl) (by kernel_rfl) (by kernel_rfl) (by kernel_rfl) (by intro _ _ _ h; exact h) (Or.inl ⟨by kernel_rfl, ?_⟩) hHeld ?_
          · intro w hSw; go_simp
          simp only [Act.put, List.setIfInBounds_toArray, List.set_cons_zero, List.set_cons_succ]
          refine wpAnyH_take (i := 9) (oi := _) (v := .bool true) (by rw [List.getElem?_toArray]; exact rfl) (by kernel_rfl) (by kernel_rfl) (by kernel_rfl) (by intro _ _ _ h; exact h) (Or.inl ⟨by kernel_rfl, ?_⟩) hHeld ?_
          · intro w hSw; go_simp
          simp only [Act.put, List.setIfInBounds_toArray, List.set_cons_zero, List.set_cons_succ]
          refine wpAnyH_take (i := 10) (oi := _) (v := undef) (by rw [List.getElem?_toArray]; exact rfl) (by kernel_rfl) (by kernel_rfl) (by kernel_rfl) (by intro _ _ _ h; exact h) (Or.inr ⟨by kernel_rfl, rfl⟩) hHeld ?_
          simp only [Act.put, List.setIfInBounds_toArray, List.set_cons_zero, List.set_cons_succ]
          refine wpAnyH_take (i := 11) (oi := _) (v := undef) (by rw [List.getElem?_toArray]; exact rfl) (by kernel_rfl) (by kernel_rfl) (by kernel_rfl) (by intro _ _ _ h; exact h) (Or.inr ⟨by kernel_rfl, rfl⟩) hHeld ?_
          simp only [Act.put, List.setIfInBounds_toArray, List.set_cons_zero, List.set_cons_succ]
          refine wpAnyH_take (i := 12) (oi := _) (v := undef) (by rw [List.getElem?_toArray]; exact rfl) (by kernel_rfl) (by kernel_rfl) (by kernel_rfl) (by intro _ _ _ h; exact h) (Or.inr ⟨by kernel_rfl, rfl⟩) hHeld ?_
          simp only [Act.put, List.setIfInBounds_toArray, List.set_cons_zero, List.set_cons_succ]
          refine wpAnyH_take (i := 13) (oi := _) (v := undef) (by rw [List.getElem?_toArray]; exact rfl) (by kernel_rfl) (by kernel_rfl) (by kernel_rfl) (by intro _ _ _ h; exact h) (Or.inr ⟨by kernel_rfl, rfl⟩) hHeld ?_
          simp only [Act.put, List.setIfInBounds_toArray, List.set_cons_zero, List.set_cons_succ]
          refine wpAnyH_take (i := 14) (oi := _) (v := undef) (by rw [List.getElem?_toArray]; exact rfl) (by kernel_rfl) (by kernel_rfl) (by kernel_rfl) (by intro _ _ _ h; exact h) (Or.inr ⟨by kernel_rfl, rfl⟩) hHeld ?_
          simp only [Act.put, List.setIfInBounds_toArray, List.set_cons_zero, List.set_cons_succ]
          refine wpAnyH_take (i := 15) (oi := _) (v := undef) (by rw [List.getElem?_toArray]; exact rfl) (by kernel_rfl) (by kernel_rfl) (by kernel_rfl) (by intro _ _ _ h; exact h) (Or.inr ⟨by kernel_rfl, rfl⟩) hHeld ?_
          simp only [Act.put, List.setIfInBounds_toArray, List.set_cons_zero, List.set_cons_succ]
          refine wpAnyH_take (i := 16) (oi := _) (v := .bool true) (by rw [List.getElem?_toArray]; exact rfl) (by kernel_rfl) (by kernel_rfl) (by kernel_rfl) (by intro _ _ _ h; exact h) (Or.inl ⟨by kernel_rfl, ?_⟩) hHeld ?_
          · intro w hSw; go_simp
          simp only [Act.put, List.setIfInBounds_toArray, List.set_cons_zero, List.set_cons_succ]
          refine wpAnyH_done (by kernel_rfl) ?_ _
          go_wp2
          go_ret2
          refine ⟨⟨_, false, [], rfl, vown_nil _ rfl ?_, .inr ⟨rfl, rfl, HNO.out⟩⟩, ?_⟩
          · exact Nat.le_trans (Nat.le_of_eq HG.out) HSZ.out
          · exact HBW.out.drew.alloc HSZ.out _
end
section
open Go.ChangeShapes Go.WideShapes Go.ChangeAt Go.RowKit Go.Joins
set_option linter.unusedSimpArgs false
end
end Go.Proofs.YtgibeakclknhnabDoor
