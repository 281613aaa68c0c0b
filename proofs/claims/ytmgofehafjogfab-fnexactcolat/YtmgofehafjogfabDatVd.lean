/- The laws' own functions on data. -/
import Derived.Test.YtmgofehafjogfabDatF
import Derived.Deep.RegionHeld3
import Derived.Deep.Cut
import Derived.Handy
namespace Go.Proofs.Ytmgofehafjogfab
open Go.ChangeShapes Go.WideShapes Go.ChangeAt Go.RowKit Go.Joins
set_option linter.unusedSimpArgs false

def tyValue : List Ty := [(.i), (.i), (.s)]
end Go.Proofs.Ytmgofehafjogfab
