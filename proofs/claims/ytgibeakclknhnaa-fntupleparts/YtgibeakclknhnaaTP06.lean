/- Texts joined: ImplTb. -/
import Derived.Test.YtgibeakclknhnaaTP05
import Derived.Test.YtgibeakclknhnaaTP04
import Derived.Test.YtgibeakclknhnaaTP03
set_option maxHeartbeats 4000000
set_option maxRecDepth 100000
namespace Go.Proofs.Ytgibeakclknhnaa
section
open Go.ChangeShapes Go.WideShapes Go.ChangeAt Go.RowKit
open Go.Lib (byteCells byteCells_length byteCells_append)

theorem implTupleBytes_any (a : Option Addr) (n c : Nat) (L : List Va3) (w : World) (h : VasAt w a n L) :
    Calls Try.prog 13 #[.slice a n c] w fun e w' => VbSays w (tupBytes L) e w' := by
  have HL : Hid (VasAt w a n L) := h
  have hl := h.1
  have hn := h.2.1
  clear h
  by_cases hg : TupGood L
  · have HTG : Hid (TupGood L) := hg
    have HT : Hid (decide (TupGood L) = true) := decide_eq_true hg
    have HE : Hid (tupBytes L = tupB L) := if_pos hg
    rw [HE.out]
    have h4 : n ≤ 4 := by have := hg.2; omega
    clear hg
    go_enter Try.func13, Try.ntmps13
    go_wp2_with fail
    refine (implTupleOk_any a n c L w HL.out).mono ?_
    rintro e w1 ⟨rfl, hb1⟩
    rw [HT.out]
    have HB1 : Hid (Below w.heap.size w w1) := hb1
    clear hb1
    go_wp2
    go_loopw [3, 11] (fun v i wr => ∃ j : Nat, j ≤ n ∧ i = .int .i64 (j : Int) ∧ BOwn wr w.heap.size v (tupB (L.take j)) ∧ Below w.heap.size w wr) (fun _ i _ => n - (RowKit.intOf i).toNat)
    case atStart => exact ⟨0, Nat.zero_le _, rfl, ⟨rfl, .inl ⟨rfl, rfl⟩⟩, HB1.out⟩
    case round =>
      obtain ⟨j, hj, rfl, ho, hb⟩ := hrel
      have HO : Hid (BOwn wr w.heap.size u3 (tupB (L.take j))) := ho
      have HBW : Hid (Below w.heap.size w wr) := hb
      have HLEN : Hid ((tupB (L.take j)).length ≤ 172) := tupB_le (HTG.out.take j)
      clear ho hb
      by_cases hlt : j < n
      · rcases (HL.out.below HBW.out (Nat.le_refl _)).2.2 with h0 | ⟨p1, o1, rfl, g1⟩
        · omega
        obtain ⟨x, hx⟩ : ∃ x, L[j]? = some x := ⟨_, List.getElem?_eq_getElem (by omega)⟩
        obtain ⟨e0, e1, e2⟩ := g1 j x hx
        have HX : Hid (tupB (L.take (j + 1)) = tupB (L.take j) ++ vaB x) := tup_succ hx
        have HV : Hid (VaGood x.1 x.2.1 x.2.2) := HTG.out.1 x (List.mem_of_getElem? hx)
        obtain ⟨W, hW⟩ : ∃ W, wr.alloc (.cells #[.int .i64 x.1, .int .i64 x.2.1, .string x.2.2] 44) = W := ⟨_, rfl⟩
        have HO' : Hid (BOwn W w.heap.size u3 (tupB (L.take j))) := by rw [← hW]; exact HO.out.alloc _
        have HBW' : Hid (Below w.heap.size w W) := by rw [← hW]; exact HBW.out.alloc HBW.out.size _
        have X0 : Hid (Box W wr.heap.size #[.int .i64 x.1, .int .i64 x.2.1, .string x.2.2] 44) := by rw [← hW]; exact box_of wr _ _
        have HW : Hid (wr.alloc (.cells #[.int .i64 x.1, .int .i64 x.2.1, .string x.2.2] 44) = W) := hW
        have hk0 : (0 : Int) ≤ (j : Int) := by omega
        have hk1 : (j : Int) < (n : Int) := by omega
        clear g1 hx hW
        go_upto_region 7 with (fail)
        rw [HW.out]
        obtain ⟨c0, c1, c2⟩ := X0.out.triV
        clear e0 e1 e2
        go_wp2_with fail
        refine (appendValue_any w.heap.size u3 _ x HV.out W HO'.out (by have := HLEN.out; omega) HBW'.out.size).mono ?_
        rintro e w3 ⟨v3, rfl, hown, hg⟩
        rw [← HX.out] at hown
        have HO3 : Hid (BOwn w3 w.heap.size v3 (tupB (L.take (j + 1)))) := hown
        have HB3 : Hid (Below w.heap.size w w3) := hg.bel HBW'.out HBW'.out.size (own_block HO'.out)
        clear hown hg c0 c1 c2
        go_wp2
        go_roundw
        case rel => exact ⟨j + 1, by omega, by go_num, HO3.out, HB3.out⟩
        case measure => simp [RowKit.intOf]; omega
      · obtain rfl : n = j := by omega
        have HE2 : Hid (tupB (L.take n) = tupB L) := by show _ = _; rw [List.take_of_length_le (by omega)]
        rw [HE2.out] at HO
        go_wp2
        go_ret
        exact ⟨_, rfl, HO.out, HBW.out⟩
  · have HT : Hid (decide (TupGood L) = false) := decide_eq_false hg
    have HE : Hid (tupBytes L = []) := if_neg hg
    rw [HE.out]
    clear hg
    go_enter Try.func13, Try.ntmps13
    go_wp2_with fail
    refine (implTupleOk_any a n c L w HL.out).mono ?_
    rintro e w1 ⟨rfl, hb1⟩
    rw [HT.out]
    have HB1 : Hid (Below w.heap.size w w1) := hb1
    clear hb1
    go_wp2
    go_ret
    exact ⟨_, rfl, ⟨rfl, .inl ⟨rfl, rfl⟩⟩, HB1.out⟩
end
end Go.Proofs.Ytgibeakclknhnaa
