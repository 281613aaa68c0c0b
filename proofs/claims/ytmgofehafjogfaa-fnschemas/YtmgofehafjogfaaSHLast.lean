/- At every drawn code: what the program answers of schemas, rows, names and keys is the specification's, and of a row that is right the key has as many values as places, none is nothing, and it is a tuple. No condition. -/
import Derived.Test.YtmgofehafjogfaaSH19
namespace Go.Proofs.Ytmgofehafjogfaa

theorem fnSchemas_holds : Rows.FnSchemasSaid := fnSchemas.over
end Go.Proofs.Ytmgofehafjogfaa
