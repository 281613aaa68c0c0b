/- What comes of an op, as a value. -/
import Derived.Test.YtkifebhkgldefaaDoorIntAt
namespace Go.Proofs.YtkifebhkgldefaaDoor
/-- What comes of an op, as a value. -/
abbrev ResV (code : Int) (a : Option Addr) (n c : Nat) : Value := .agg #[.int .i64 code, .slice a n c]
end Go.Proofs.YtkifebhkgldefaaDoor
