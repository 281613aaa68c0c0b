/- FnExactTupleText: of every list of values the program's TupleText answers as the specification's. It writes into no argument. The library's tables (bits of a word, powers of ten) are as its text lays them. -/
import Derived.Test.YtgibeakclknhnabDoorLawTtW
import Derived.Test.YtgibeakclknhnabDoorImplTy
namespace Go.Proofs.YtgibeakclknhnabDoor

theorem fnExactTupleText_holds : Rows.FnExactTupleTextCardSaid := fnExactTupleText_over fun a n c L w hT h _ => implTupleText_any a n c L w hT h
#print axioms fnExactTupleText_holds
end Go.Proofs.YtgibeakclknhnabDoor
