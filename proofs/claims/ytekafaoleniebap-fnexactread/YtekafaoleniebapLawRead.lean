/- The statement of the law FnExactRead holds: of every list of pairs and every place the program's Read answers as the specification's does. -/
import Derived.Test.YtekafaoleniebapLawReadW
import Derived.Test.YtekafaoleniebapImplRead
namespace Go.Proofs.Ytekafaoleniebap
theorem fnExactRead_holds : Rows.FnExactReadSaid := fnExactRead.over (fun p n at_ fs w h _ _ => implRead_any (some ⟨p, 0, none⟩) n n at_ fs w h)
#print axioms fnExactRead_holds
end Go.Proofs.Ytekafaoleniebap
