/- The laws' own at, at its second place (cut out of Bent13). -/
import Derived.Test.YtmgofehafjogfaaCur
import Derived.Test.YtmgofehafjogfaaIntAt
import Derived.Deep.RegionHeld3
import Derived.Handy
import Derived.Below
namespace Go.Proofs.Ytmgofehafjogfaa
open Go.ChangeShapes Go.WideShapes Go.ChangeAt Go.RowKit

set_option maxHeartbeats 1000000 in
theorem at_one (a : Option Addr) (n c : Nat) (w : World) (hn : n ≤ 1048576) (hB : BytesAt w w.heap.size a n) :
    Calls Try.prog 30 #[.slice a n c, .int .i64 1] w fun e w' => ∃ r : Nat, r ≤ 255 ∧ e = .returned (.int .i64 (r : Int)) ∧ w' = w := by
  by_cases h1 : 1 < n
  · have hd : (1 : Int) < (n : Int) := by omega
    rcases hB with h0 | ⟨b, o, rfl, _, hc⟩
    · omega
    obtain ⟨z, hz, c1⟩ := hc 1 h1
    clear hc
    have hz2 : (z : Int) ≤ 255 := by omega
    go_enter Try.func30, Try.ntmps30
    go_wp2
    go_ret
    exact ⟨z, hz, by go_num, rfl⟩
  · have hd : ¬ (1 : Int) < (n : Int) := by omega
    have hn2 : (n : Int) ≤ 1 := by omega
    have e7 : (7 + (n : Int)) % 256 = ((7 + n : Nat) : Int) := by omega
    clear hB
    go_enter Try.func30, Try.ntmps30
    go_wp2
    go_ret
    exact ⟨7 + n, by omega, by go_num, rfl⟩
end Go.Proofs.Ytmgofehafjogfaa
