/- spec.ColAt, walked. -/
import Derived.Test.YtmgofehafjogfabSchL
import Derived.Test.YtmgofehafjogfabEqText
import Derived.Test.YtmgofehafjogfabRows
import Derived.Deep.Cut
namespace Go.Proofs.Ytmgofehafjogfab
open Go.ChangeShapes Go.WideShapes Go.ChangeAt Go.RowKit

set_option maxHeartbeats 4000000 in
set_option maxRecDepth 100000 in
theorem specColAt_any (a1 : Option Addr) (n1 c1 : Nat) (a2 : Option Addr) (n2 c2 : Nat) (a3 : Option Addr) (n3 c3 : Nat) (S : SchD) (s : ByteArray) (w : World) (h : SchAt w a1 n1 c1 a2 n2 c2 a3 n3 c3 S) :
    Calls Try.prog 16 #[ScV a1 n1 c1 a2 n2 c2 a3 n3 c3, .string s] w fun e w' => e = .returned (.int .i64 (colAt S.cols s)) ∧ Below w.heap.size w w' := by
  obtain ⟨R, hR⟩ : ∃ R, colAt S.cols s = R := ⟨_, rfl⟩
  rw [hR]
  have HR : Hid (colAt S.cols s = R) := hR
  clear hR
  obtain ⟨W, hW⟩ : ∃ W, w.alloc (.cells #[.slice a1 n1 c1, .slice a2 n2 c2, .slice a3 n3 c3] 35) = W := ⟨_, rfl⟩
  obtain ⟨g, hg⟩ : ∃ g, w.heap.size = g := ⟨_, rfl⟩
  have HG : Hid (w.heap.size = g) := hg
  have HB0 : Hid (Below g w W) := by rw [← hW, ← hg]; exact (Below.refl _ w).alloc (Nat.le_refl _) _
  have X0 : Hid (Box W g #[.slice a1 n1 c1, .slice a2 n2 c2, .slice a3 n3 c3] 35) := by rw [← hW, ← hg]; exact box_of w _ _
  have HW : Hid (w.alloc (.cells #[.slice a1 n1 c1, .slice a2 n2 c2, .slice a3 n3 c3] 35) = W) := hW
  have HSA : Hid (SchAt W a1 n1 c1 a2 n2 c2 a3 n3 c3 S) := h.below HB0.out (Nat.le_of_eq hg)
  have BX : Hid (∀ y, Below W.heap.size W y → y.cell? ⟨g, 0, none⟩ = some (.slice a1 n1 c1) ∧ y.cell? ⟨g, 1, none⟩ = some (.slice a2 n2 c2) ∧ y.cell? ⟨g, 2, none⟩ = some (.slice a3 n3 c3)) := fun y hb => (X0.out.below hb X0.out.lt).triV
  have HGS : Hid (g ≤ W.heap.size) := Nat.le_of_lt X0.out.lt
  rw [hg]
  clear hW hg h
  go_enter Try.func16, Try.ntmps16
  go_upto_region 1 with (fail)
  rw [HW.out, HG.out]
  have hl := HSA.out.cols.1
  have hn := HSA.out.cols.2.1
  go_wp2
  go_loopw [5] (fun i wr => ∃ j : Nat, j ≤ n1 ∧ i = .int .i64 (j : Int) ∧ (∀ x ∈ S.cols.take j, ¬ x.1 = s) ∧ wr = W) (fun i _ => n1 - (RowKit.intOf i).toNat)
  case atStart => exact ⟨0, Nat.zero_le _, rfl, fun x hx => by simp at hx, rfl⟩
  case round =>
    obtain ⟨j, hj, rfl, hq, rfl⟩ := hrel
    have HQ : Hid (∀ x ∈ S.cols.take j, ¬ x.1 = s) := hq
    obtain ⟨c0, c1', c2'⟩ := BX.out _ (Below.refl _ _)
    clear hq
    by_cases hlt : j < n1
    · rcases HSA.out.cols.2.2 with h0 | ⟨p1, o1, rfl, g1⟩
      · omega
      obtain ⟨x, hx⟩ : ∃ x, S.cols[j]? = some x := ⟨_, List.getElem?_eq_getElem (by omega)⟩
      obtain ⟨e0, e1, e2⟩ := g1 j x hx
      have HX : Hid (S.cols[j]? = some x) := hx
      obtain ⟨nm, kd, nl⟩ := x
      dsimp only at e0 e1 e2
      have hk0 : (0 : Int) ≤ (j : Int) := by omega
      have hk1 : (j : Int) < (n1 : Int) := by omega
      clear g1 hx
      by_cases hv : nm = s
      · have hvb := eqT_yes hv
        have HRV : Hid ((j : Int) = R) := by
          show _ = _
          rw [← HR.out]
          exact (col_at S.cols s j _ HX.out hv HQ.out).symm
        go_wp2
        go_ret
        exact ⟨by rw [← HRV.out]; rfl, HB0.out⟩
      · have hvb := eqT_no hv
        have hall : Hid (∀ x ∈ S.cols.take (j + 1), ¬ x.1 = s) := take_all HQ.out HX.out hv
        go_wp2
        go_roundw
        case rel => exact ⟨j + 1, by omega, by go_num, hall.out, trivial⟩
        case measure => simp [RowKit.intOf]; omega
    · obtain rfl : j = n1 := by omega
      have HRV : Hid ((-1 : Int) = R) := by
        have h1 := HQ.out
        rw [List.take_of_length_le (by omega)] at h1
        show _ = _
        rw [← HR.out]
        exact (col_none S.cols s h1).symm
      go_wp2
      go_ret
      exact ⟨by rw [← HRV.out]; rfl, HB0.out⟩
end Go.Proofs.Ytmgofehafjogfab
