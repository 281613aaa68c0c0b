/- The laws' own functions on data. -/
import Derived.Test.YtmgofehafjogfabDatVd
import Derived.Deep.RegionHeld3
import Derived.Deep.Cut
import Derived.Handy
namespace Go.Proofs.Ytmgofehafjogfab
open Go.ChangeShapes Go.WideShapes Go.ChangeAt Go.RowKit Go.Joins
set_option linter.unusedSimpArgs false

def tyCol : List Ty := [(.s), (.i), (.b)]
def tyIndex : List Ty := [(.s), (.l 3 1 [.i]), (.b)]
def tySchema : List Ty := [(.l 65 3 tyCol), (.l 3 1 [.i]), (.l 75 3 tyIndex)]
end Go.Proofs.Ytmgofehafjogfab
