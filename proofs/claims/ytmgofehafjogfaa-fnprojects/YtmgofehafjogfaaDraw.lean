/- The drawing of inputs, walked: the cursor's functions hand back numbers within their bounds and turn the cursor alone. -/
import Derived.Test.YtmgofehafjogfaaRows
import Derived.Test.YtmgofehafjogfaaCur
import Derived.Test.YtmgofehafjogfaaStr
import Derived.WalkKit
import Derived.ProofKit
namespace Go.Proofs.Ytmgofehafjogfaa
open Go.ChangeShapes Go.WideShapes Go.ChangeAt Go.RowKit

set_option maxHeartbeats 1000000 in
theorem l1Byte_any (p : Nat) (a : Option Addr) (n c : Nat) (w : World) (hC : Cur 102 w p a n c) :
    Calls Try.prog 81 #[.pointer (some ⟨p, 0, none⟩)] w fun e w' => ∃ x : Nat, x ≤ 255 ∧ e = .returned (.int .i64 (x : Int)) ∧ Cur 102 w' p a n c ∧ Only p w w' := by
  obtain ⟨⟨i, h, hI, hi0, hi1⟩, hB, hn⟩ := hC
  obtain ⟨j, rfl⟩ : ∃ j : Nat, i = (j : Int) := ⟨i.toNat, by omega⟩
  obtain ⟨c0, c1, c2⟩ := hI.cell
  have f1 := hI.frozen 1
  have f2 := hI.frozen 2
  have HI : Hid (CurIs 102 w p a n c j h) := hI
  have HB : Hid (BytesAt w p a n) := hB
  have hand := and255
  clear hI hB
  by_cases hlt : j < n
  · rcases HB.out with h0 | ⟨b, o, rfl, hbp, hby⟩
    · omega
    obtain ⟨z, hz, e1⟩ := hby j hlt
    clear hby
    go_enter Try.func81, Try.ntmps81
    go_wp2
    go_region
    go_wp2
    go_region
    go_wp2
    go_region
    go_wp2
    go_ret
    have hO : Only p w (((w.setCell ⟨p, 2, none⟩ (.int .i64 (wrap64 (wrap64 (h * 6364136223846793005) + 1442695040888963407)))).setCell ⟨p, 1, none⟩ (.int .i64 ((j : Int) + 1))).drew.drew.drew) := (((Only.refl p w).setCell 2 _).setCell 1 _).drew.drew.drew
    exact byte_fin _ (cur_of hO HB.out ((HI.out.set2 _).set1 _) (by omega) (by omega) hn) hO
  · go_enter Try.func81, Try.ntmps81
    go_wp2
    go_region
    go_wp2
    go_region
    go_wp2
    go_ret
    have hO : Only p w ((w.setCell ⟨p, 2, none⟩ (.int .i64 (wrap64 (wrap64 (h * 6364136223846793005) + 1442695040888963407)))).drew.drew) := ((Only.refl p w).setCell 2 _).drew.drew
    exact byte_fin _ (cur_of hO HB.out (HI.out.set2 _) hi0 hi1 hn) hO

set_option maxHeartbeats 1000000 in
theorem l1Below_any (p : Nat) (a : Option Addr) (n c : Nat) (m : Int) (h0 : 1 ≤ m) (hm : m ≤ 256) (w : World) (hC : Cur 102 w p a n c) :
    Calls Try.prog 45 #[.pointer (some ⟨p, 0, none⟩), .int .i64 m] w fun e w' => ∃ x : Nat, (x : Int) < m ∧ e = .returned (.int .i64 (x : Int)) ∧ Cur 102 w' p a n c ∧ Only p w w' := by
  go_enter Try.func45, Try.ntmps45
  go_wp2_with (go_at_call 81; refine (l1Byte_any p a n c _ hC).mono ?_; rintro e w1 ⟨x, hx, rfl, hC1, hO1⟩)
  go_ret
  exact below_fin h0 hC1 hO1

set_option maxRecDepth 100000 in
set_option maxHeartbeats 1000000 in
theorem l1New_any (a : Option Addr) (n c : Nat) (w : World) (hn : n ≤ 1048576) (hB : BytesAt w w.heap.size a n) :
    Calls Try.prog 42 #[.slice a n c] w fun e w' => e = .returned (.pointer (some ⟨w.heap.size, 0, none⟩)) ∧ Cur 102 w' w.heap.size a n c ∧ Below w.heap.size w w' ∧ w'.heap.size = w.heap.size + 1 := by
  have HB : Hid (BytesAt w w.heap.size a n) := hB
  clear hB
  go_enter Try.func42, Try.ntmps42
  go_wp2
  go_loop [3, 4] (fun h i => ∃ (x : Int) (k : Nat), h = .int .i64 x ∧ i = .int .i64 (k : Int) ∧ k ≤ n) (fun _ i => n - (intOf i).toNat)
  case atStart => exact ⟨_, 0, rfl, rfl, Nat.zero_le _⟩
  case round =>
    obtain ⟨x, k, rfl, rfl, hk⟩ := hrel
    by_cases hlt : k < n
    · rcases HB.out with h0 | ⟨b, o, rfl, hbp, hby⟩
      · omega
      obtain ⟨z, hz, e1⟩ := hby k hlt
      clear hby
      by_cases h4 : k < 4000
      · go_wp2
        go_round
        case rel => exact ⟨_, k + 1, rfl, by go_num, by omega⟩
        case measure => simp [intOf]; omega
      · go_wp2
        go_ret
        exact ⟨rfl, cur_new HB.out hn, (Below.refl _ _).alloc (Nat.le_refl _) _, by simp⟩
    · go_wp2
      go_ret
      exact ⟨rfl, cur_new HB.out hn, (Below.refl _ _).alloc (Nat.le_refl _) _, by simp⟩

end Go.Proofs.Ytmgofehafjogfaa
