/- What comes of an op, as a value. -/
import Derived.Test.YtkelhndijgakdaaDoorIntAt
namespace Go.Proofs.YtkelhndijgakdaaDoor
/-- What comes of an op, as a value. -/
abbrev ResV (code : Int) (a : Option Addr) (n c : Nat) : Value := .agg #[.int .i64 code, .slice a n c]
end Go.Proofs.YtkelhndijgakdaaDoor
