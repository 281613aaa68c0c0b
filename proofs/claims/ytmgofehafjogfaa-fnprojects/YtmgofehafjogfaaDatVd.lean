/- The laws' own functions on data. -/
import Derived.Test.YtmgofehafjogfaaDatF
import Derived.Deep.RegionHeld3
import Derived.Deep.Cut
import Derived.Handy
namespace Go.Proofs.Ytmgofehafjogfaa
open Go.ChangeShapes Go.WideShapes Go.ChangeAt Go.RowKit Go.Joins
set_option linter.unusedSimpArgs false

def tyValue : List Ty := [(.i), (.i), (.s)]
end Go.Proofs.Ytmgofehafjogfaa
