/- Cells of data, asked for what they are. No program. -/
import Derived.Test.YtmgofehafjogfabDatF
namespace Go.Proofs.Ytmgofehafjogfab
open Go.ChangeShapes Go.WideShapes Go.ChangeAt Go.RowKit Go.Joins

def numC : Cel → Int
  | .i x => x
  | _ => 0
def boolC : Cel → Bool
  | .b x => x
  | _ => false
def lenC : Cel → Nat
  | .l _ _ n _ => n
  | _ => 0
def listC : Cel → List Cel
  | .l _ _ _ cs => cs
  | _ => []
def nums (cs : List Cel) : List Int := cs.map numC
def nthC (cs : List Cel) (i : Nat) : Cel := cs.getD i (.i 0)
def textC : Cel → ByteArray
  | .s x => x
  | _ => ⟨#[]⟩
end Go.Proofs.Ytmgofehafjogfab
