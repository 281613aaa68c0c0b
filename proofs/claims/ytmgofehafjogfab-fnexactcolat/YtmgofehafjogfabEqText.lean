/- Two texts compared. No program. -/
import Derived.Test.YtmgofehafjogfabStr
import Derived.Test.YtmgofehafjogfabIntAt
namespace Go.Proofs.Ytmgofehafjogfab
open Go.ChangeShapes Go.WideShapes Go.ChangeAt Go.RowKit

theorem eqT_yes {a b : ByteArray} (h : a = b) : (a.toList == b.toList) = true := by subst h; simp
theorem eqT_no {a b : ByteArray} (h : ¬ a = b) : (a.toList == b.toList) = false := by
  rw [ByteArray.toList_eq, ByteArray.toList_eq, beq_eq_false_iff_ne]
  exact fun e => h (str_eq e)
end Go.Proofs.Ytmgofehafjogfab
