/- The laws' own functions on data. -/
import Derived.Test.YtgibeakclknhnaaDatF
import Derived.Deep.RegionHeld3
import Derived.Deep.Cut
import Derived.Handy
namespace Go.Proofs.Ytgibeakclknhnaa
open Go.ChangeShapes Go.WideShapes Go.ChangeAt Go.RowKit Go.Joins
set_option linter.unusedSimpArgs false

def tyValue : List Ty := [(.i), (.i), (.s)]
end Go.Proofs.Ytgibeakclknhnaa
