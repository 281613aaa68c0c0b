/- The laws' own sameTuple, walked. -/
import Derived.Test.YtmgofehafjogfaaVasL
import Derived.Test.YtmgofehafjogfaaTup18
import Derived.Test.YtmgofehafjogfaaSpecVs
import Derived.Deep.RegionHeld3
import Derived.Handy
import Derived.Below
namespace Go.Proofs.Ytmgofehafjogfaa
open Go.ChangeShapes Go.WideShapes Go.ChangeAt Go.RowKit

theorem neq_va (k n : Int) (s : ByteArray) (k' n' : Int) (s' : ByteArray) (w : World) : (binOp .neq 43 (.agg #[.int .i64 k, .int .i64 n, .string s]) (.agg #[.int .i64 k', .int .i64 n', .string s'])).run Try.prog w = .ok (.bool (!sameV k n s k' n' s')) w := by
  rw [run_neq_struct, equalIn_va]
  rfl
theorem take_nextT {L M : List Va3} {k : Nat} {x y : Va3} (hx : L[k]? = some x) (hy : M[k]? = some y) (h : L.take k = M.take k) (e : x = y) : L.take (k + 1) = M.take (k + 1) := by
  rw [List.take_add_one, List.take_add_one, h, hx, hy, e]
set_option maxHeartbeats 2000000 in
theorem sameT_any (a1 a2 : Option Addr) (n1 n2 c1 c2 : Nat) (L M : List Va3) (w : World) (h1 : VasAt w a1 n1 L) (h2 : VasAt w a2 n2 M) :
    Calls Try.prog 23 #[.slice a1 n1 c1, .slice a2 n2 c2] w fun e w' => e = .returned (.bool (decide (L = M))) ∧ Below w.heap.size w w' := by
  have H1 : Hid (VasAt w a1 n1 L) := h1
  have H2 : Hid (VasAt w a2 n2 M) := h2
  have L1 : Hid (L.length = n1) := h1.1
  have L2 : Hid (M.length = n2) := h2.1
  have b1 := h1.2.1
  have b2 := h2.2.1
  obtain ⟨B, hB⟩ : ∃ B, decide (L = M) = B := ⟨_, rfl⟩
  rw [hB]
  have HB : Hid (decide (L = M) = B) := hB
  clear h1 h2 hB
  by_cases hn : n1 = n2
  · subst hn
    go_enter Try.func23, Try.ntmps23
    go_wp2
    go_loopw [5] (fun i wr => ∃ k : Nat, k ≤ n1 ∧ i = .int .i64 k ∧ L.take k = M.take k ∧ Below w.heap.size w wr) (fun i _ => n1 - (RowKit.intOf i).toNat)
    case atStart => exact ⟨0, Nat.zero_le _, rfl, rfl, Below.refl _ _⟩
    case round =>
      obtain ⟨k, hk1, rfl, ht, hb⟩ := hrel
      have HT : Hid (L.take k = M.take k) := ht
      have HBW : Hid (Below w.heap.size w wr) := hb
      clear ht hb
      by_cases hlt1 : k < n1
      · rcases (H1.out.below HBW.out (Nat.le_refl _)).2.2 with h | ⟨p1, o1, rfl, g1⟩
        · omega
        rcases (H2.out.below HBW.out (Nat.le_refl _)).2.2 with h | ⟨p2, o2, rfl, g2⟩
        · omega
        obtain ⟨x, hx⟩ : ∃ x, L[k]? = some x := ⟨_, List.getElem?_eq_getElem (by have := L1.out; omega)⟩
        obtain ⟨y, hy⟩ : ∃ y, M[k]? = some y := ⟨_, List.getElem?_eq_getElem (by have := L2.out; omega)⟩
        obtain ⟨e0, e1, e2⟩ := g1 k x hx
        obtain ⟨f0, f1, f2⟩ := g2 k y hy
        have HX : Hid (L[k]? = some x) := hx
        have HY : Hid (M[k]? = some y) := hy
        obtain ⟨x0, x1, x2⟩ := x
        obtain ⟨y0, y1, y2⟩ := y
        dsimp only at e0 e1 e2 f0 f1 f2
        obtain ⟨b, hb⟩ : ∃ b, (!sameV x0 x1 x2 y0 y1 y2) = b := ⟨_, rfl⟩
        have hne : ∀ w : World, (binOp .neq 43 (.agg #[.int .i64 x0, .int .i64 x1, .string x2]) (.agg #[.int .i64 y0, .int .i64 y1, .string y2])).run Try.prog w = .ok (.bool b) w := fun w => by rw [← hb]; exact neq_va x0 x1 x2 y0 y1 y2 w
        have HBB : Hid ((!sameV x0 x1 x2 y0 y1 y2) = b) := hb
        clear g1 g2 hx hy hb
        go_wp2
        go_region
        rcases b with _ | _
        · go_wp2
          have hs : sameV x0 x1 x2 y0 y1 y2 = true := by have := HBB.out; simpa using this
          have hxy := of_decide_eq_true hs
          exact ⟨⟨k + 1, by omega, by go_num, take_nextT HX.out HY.out HT.out (by rw [hxy.1, hxy.2.1, hxy.2.2]), HBW.out.drew⟩, by simp [RowKit.intOf]; omega⟩
        · go_wp2
          go_ret
          refine ⟨?_, HBW.out.drew⟩
          have hs : sameV x0 x1 x2 y0 y1 y2 = false := by have := HBB.out; simpa using this
          have hxy := of_decide_eq_false hs
          have e : L ≠ M := fun e => by
            have h1 := HX.out
            rw [e, HY.out] at h1
            injection h1 with h1
            injection h1 with h1 h2
            injection h2 with h2 h3
            exact hxy ⟨h1.symm, h2.symm, h3.symm⟩
          rw [← HB.out]
          simp [e]
      · obtain rfl : k = n1 := by omega
        go_wp2
        go_ret
        refine ⟨?_, HBW.out⟩
        have l1 := L1.out
        have l2 := L2.out
        have e : L = M := by
          have e0 := HT.out
          rwa [List.take_of_length_le (by omega), List.take_of_length_le (by omega)] at e0
        rw [← HB.out]
        simp [e]
  · have hne : ((n1 : Int) != (n2 : Int)) = true := by simp; omega
    have hxy : L ≠ M := fun e => by have l1 := L1.out; have l2 := L2.out; rw [e] at l1; omega
    have HX : Hid (L ≠ M) := hxy
    clear hxy
    go_enter Try.func23, Try.ntmps23
    go_wp2
    go_ret
    refine ⟨?_, Below.refl _ _⟩
    rw [← HB.out]
    simp [HX.out]
end Go.Proofs.Ytmgofehafjogfaa
