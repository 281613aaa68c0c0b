/- The picks from drawn lists of numbers, walked. -/
import Derived.Test.YtlnhmmpmnflagadDraw
import Derived.Test.YtlnhmmpmnflagadRows
import Derived.Test.YtlnhmmpmnflagadCur
import Derived.Test.YtlnhmmpmnflagadStr
import Derived.WalkKit
import Derived.ProofKit
namespace Go.Proofs.Ytlnhmmpmnflagad
open Go.ChangeShapes Go.WideShapes Go.ChangeAt Go.RowKit

set_option maxHeartbeats 1000000 in
theorem l1PickInt_any (p : Nat) (a : Option Addr) (n c g q d : Nat) (xs : List Int) (h0 : 1 ≤ q) (hq : q ≤ 256) (w : World) (hC : Cur 67 w p a n c) (hg : g ≠ p)
    (hx : ∀ i, i < q → w.cell? ⟨g, i, none⟩ = some (.int .i64 (xs.getD i 0))) :
    Calls Try.prog 44 #[.pointer (some ⟨p, 0, none⟩), .slice (some ⟨g, 0, none⟩) q d] w fun e w' => ∃ x : Nat, x < q ∧ e = .returned (.int .i64 (xs.getD x 0)) ∧ Cur 67 w' p a n c ∧ Only p w w' := by
  have HX : Hid (∀ i, i < q → w.cell? ⟨g, i, none⟩ = some (.int .i64 (xs.getD i 0))) := hx
  clear hx
  go_enter Try.func44, Try.ntmps44
  go_wp2_with (go_at_call 43; refine (l1Below_any p a n c _ (by omega) (by omega) _ hC).mono ?_; rintro e w1 ⟨x, hx, rfl, hC1, hO1⟩; have hlt : x < q := (by omega); have e1 := (hO1.cell (o := x) hg).trans (HX.out x hlt))
  go_ret
  exact ⟨x, hlt, rfl, hC1, hO1⟩
end Go.Proofs.Ytlnhmmpmnflagad
