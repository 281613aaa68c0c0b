/- spec.TupleBytes, walked. -/
import Derived.Test.YtgibeakclknhnaaSp18v
import Derived.Test.YtgibeakclknhnaaSp18a
import Derived.Deep.RegionHeld3
import Derived.Deep.Cut
namespace Go.Proofs.Ytgibeakclknhnaa
open Go.ChangeShapes Go.WideShapes Go.ChangeAt Go.RowKit
open Go.Lib (byteCells byteCells_length byteCells_append)

theorem tup_succ {L : List Va3} {j : Nat} {x : Va3} (h : L[j]? = some x) : tupB (L.take (j + 1)) = tupB (L.take j) ++ vaB x := by
  have hl : j < L.length := (List.getElem?_eq_some_iff.1 h).1
  rw [List.take_succ_eq_append_getElem hl, tupB_append, (List.getElem?_eq_some_iff.1 h).2]
  show _ ++ (vaB x ++ []) = _
  rw [List.append_nil]
theorem TupGood.take {L : List Va3} (h : TupGood L) (j : Nat) : TupGood (L.take j) := ⟨fun x hx => h.1 x (List.mem_of_mem_take hx), by rw [List.length_take]; have := h.2; omega⟩
/-- The bytes of a tuple; none where it is not right. -/
def tupBytes (L : List Va3) : List UInt8 := if TupGood L then tupB L else []
set_option maxHeartbeats 4000000 in
set_option maxRecDepth 100000 in
theorem specTupleBytes_any (a : Option Addr) (n c : Nat) (L : List Va3) (w : World) (h : VasAt w a n L) :
    Calls Try.prog 21 #[.slice a n c] w fun e w' => VbSays w (tupBytes L) e w' := by
  have HL : Hid (VasAt w a n L) := h
  have hl := h.1
  have hn := h.2.1
  obtain ⟨W, hW⟩ : ∃ W, w.alloc (.cells #[] 5) = W := ⟨_, rfl⟩
  obtain ⟨g, hg⟩ : ∃ g, w.heap.size = g := ⟨_, rfl⟩
  have HG : Hid (w.heap.size = g) := hg
  have HO0 : Hid (BOwn W g (.slice (some ⟨g, 0, none⟩) 0 0) []) := by rw [← hW]; exact bown_new w (l := []) hg rfl (Nat.le_refl _) (by decide)
  have HB0 : Hid (Below g w W) := by rw [← hW]; exact (Below.refl _ w).alloc (Nat.le_of_eq hg.symm) _
  have HW : Hid (w.alloc (.cells #[] 5) = W) := hW
  have HS0 : Hid (g ≤ W.heap.size) := by show g ≤ W.heap.size; rw [← hW, World.size_alloc, hg]; exact Nat.le_succ _
  clear h hW hg
  by_cases hg : TupGood L
  · have HT : Hid (decide (TupGood L) = true) := decide_eq_true hg
    have HTG : Hid (TupGood L) := hg
    have HE : Hid (tupBytes L = tupB L) := if_pos hg
    rw [HE.out]
    have h4 : n ≤ 4 := by have := hg.2; omega
    clear hg
    go_enter Try.func21, Try.ntmps21
    go_upto_region 2 with (fail)
    rw [HW.out, HG.out]
    go_wp2
    go_loopw [3, 4] (fun v i wr => ∃ j : Nat, j ≤ n ∧ i = .int .i64 (j : Int) ∧ BOwn wr g v (tupB (L.take j)) ∧ Below g w wr ∧ g ≤ wr.heap.size) (fun _ i _ => n - (RowKit.intOf i).toNat)
    case atStart => exact ⟨0, Nat.zero_le _, rfl, HO0.out, HB0.out, HS0.out⟩
    case round =>
      obtain ⟨j, hj, rfl, ho, hb, hz⟩ := hrel
      have HO : Hid (BOwn wr g u3 (tupB (L.take j))) := ho
      have HBW : Hid (Below g w wr) := hb
      have HSZ : Hid (g ≤ wr.heap.size) := hz
      have HLW : Hid (VasAt wr a n L) := HL.out.below hb (Nat.le_of_eq HG.out)
      have HLEN : Hid ((tupB (L.take j)).length ≤ 172) := tupB_le (HTG.out.take j)
      clear ho hb hz
      by_cases hlt : j < n
      · have hk1 : (j : Int) < (n : Int) := by omega
        go_upto_region 5 with
          (go_at_call 16
           refine (specTupleOk_any a n c L wr HLW.out).mono ?_
           rintro e w1 ⟨rfl, hb1⟩
           rw [HT.out]
           have HB1 : Hid (Below wr.heap.size wr w1) := hb1
           clear hb1)
        have hz1 : g ≤ w1.heap.size := Nat.le_trans HSZ.out HB1.out.size
        have HZ1 : Hid (g ≤ w1.heap.size) := hz1
        have HO1 : Hid (BOwn w1 g u3 (tupB (L.take j))) := owns_below HO.out HB1.out (Nat.le_refl _)
        have HBW1 : Hid (Below g w w1) := HBW.out.trans (HB1.out.mono HSZ.out)
        rcases (HLW.out.below HB1.out (Nat.le_refl _)).2.2 with h0 | ⟨p1, o1, rfl, g1⟩
        · omega
        obtain ⟨x, hx⟩ : ∃ x, L[j]? = some x := ⟨_, List.getElem?_eq_getElem (by omega)⟩
        obtain ⟨e0, e1, e2⟩ := g1 j x hx
        have HXG : Hid (VaGood x.1 x.2.1 x.2.2) := HTG.out.1 x (List.mem_of_getElem? hx)
        have HNEW : Hid (tupB (L.take j) ++ vaB x = tupB (L.take (j + 1))) := (tup_succ hx).symm
        have hk0 : (0 : Int) ≤ (j : Int) := by omega
        clear g1 hx hz1
        go_wp2_with (first
          | (go_at_call 42
             refine (l18Value_any x HXG.out w1).mono ?_
             rintro e w2 ⟨v2, rfl, ho2, hb2⟩
             have HO2 : Hid (BOwn w2 w1.heap.size v2 (vaB x)) := ho2
             have HB2 : Hid (Below w1.heap.size w1 w2) := hb2
             have HO1' : Hid (BOwn w2 g u3 (tupB (L.take j))) := owns_below HO1.out HB2.out (Nat.le_refl _)
             clear ho2 hb2
             rcases owns_forms HO2.out with ⟨_, h0⟩ | ⟨g2, c2, rfl⟩
             · exfalso
               obtain ⟨_, _, hc⟩ := vaB_some x
               rw [hc] at h0
               simp at h0)
          | (at_builtin
             refine list_appB _ rfl _ _ rfl g u3 _ rfl HO1'.out ⟨g2, 0, none⟩ c2 (vaB x) rfl (fun i u hi => by rw [add_plain, Nat.zero_add]; exact own_cellV HO2.out hi) (by have h1 := vaB_le HXG.out; have h2 := HLEN.out; omega) (Nat.le_trans HZ1.out HB2.out.size) ?_
             intro v3 w3 hown hbel _
             rw [HNEW.out] at hown
             have HO3 : Hid (BOwn w3 g v3 (tupB (L.take (j + 1)))) := hown
             have HB3 : Hid (Below g w w3) := hbel w g (Nat.le_refl _) (HBW1.out.trans (HB2.out.mono HZ1.out))
             have HZ3 : Hid (g ≤ w3.heap.size) := Nat.le_trans (Nat.le_trans HZ1.out HB2.out.size) (hbel w2 0 (Nat.zero_le _) (Below.refl 0 w2)).size
             clear hown hbel))
        go_roundw
        case rel => exact ⟨j + 1, by omega, by go_num, HO3.out, HB3.out, HZ3.out⟩
        case measure => simp [RowKit.intOf]; omega
      · obtain rfl : n = j := by omega
        have HE2 : Hid (tupB (L.take n) = tupB L) := by show _ = _; rw [List.take_of_length_le (by omega)]
        rw [HE2.out] at HO
        go_wp2
        go_ret
        have ho := HO.out
        have hb := HBW.out
        have hg := HG.out
        subst hg
        exact ⟨_, rfl, ho, hb⟩
  · have HT : Hid (decide (TupGood L) = false) := decide_eq_false hg
    have HE : Hid (tupBytes L = []) := if_neg hg
    rw [HE.out]
    have h0 : 0 < n := by
      rcases Nat.eq_zero_or_pos n with h0 | h0
      · exfalso
        apply hg
        have h1 : L = [] := List.length_eq_zero_iff.1 (by omega)
        rw [h1]
        exact ⟨fun x hx => (by cases hx), by decide⟩
      · exact h0
    clear hg
    go_enter Try.func21, Try.ntmps21
    go_upto_region 2 with (fail)
    rw [HW.out, HG.out]
    go_wp2
    go_loopw [3, 4] (fun v i wr => v = .slice (some ⟨g, 0, none⟩) 0 0 ∧ i = .int .i64 0 ∧ wr = W) (fun _ _ _ => 0)
    case atStart => exact ⟨rfl, rfl, rfl⟩
    case round =>
      obtain ⟨rfl, rfl, rfl⟩ := hrel
      have hk1 : (0 : Int) < (n : Int) := by omega
      go_wp2_with
        (go_at_call 16
         refine (specTupleOk_any a n c L wr (HL.out.below HB0.out (Nat.le_of_eq HG.out))).mono ?_
         rintro e w1 ⟨rfl, hb1⟩
         rw [HT.out]
         have HB1 : Hid (Below wr.heap.size wr w1) := hb1
         clear hb1)
      go_ret
      have ho := owns_below HO0.out HB1.out (Nat.le_refl _)
      have hb := HB0.out.trans (HB1.out.mono HS0.out)
      have hg := HG.out
      subst hg
      exact ⟨_, rfl, ho, hb⟩
end Go.Proofs.Ytgibeakclknhnaa
