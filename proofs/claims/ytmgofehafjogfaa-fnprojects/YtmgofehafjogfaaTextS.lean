/- What a text answers; one text behind the other. No program. -/
import Derived.Test.YtmgofehafjogfaaStr
import Derived.WalkKit
import Derived.WalkSmall
import Derived.ProofKit
namespace Go.Proofs.Ytmgofehafjogfaa
open Go.ChangeShapes Go.WideShapes Go.RowKit

/-- The answer is that text. -/
def TextSays (e : Ending) (l : List UInt8) : Prop := ∃ s : ByteArray, e = .returned (.string s) ∧ s.data.toList = l
theorem cat_run {P : Program} (t : TypeId) (a b u : ByteArray) (hu : a ++ b = u) (h : a.size + b.size ≤ 281474976710656) (w : World) : (binOp .add t (.string a) (.string b)).run P w = .ok (.string u) w := by
  subst hu
  simp [binOp, run_string_add_sum w a b (by omega)]
theorem cat_ex (a b : ByteArray) : ∃ u, a ++ b = u ∧ u.data.toList = a.data.toList ++ b.data.toList ∧ u.size = a.size + b.size := ⟨_, rfl, by simp, by simp⟩
end Go.Proofs.Ytmgofehafjogfaa
