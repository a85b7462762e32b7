/- impl.ReadUvarint: what is read of a varint. No conditions. -/
import Derived.Test.YtheefkhhafefoaaRdu
namespace Go.Proofs.Ytheefkhhafefoaa
open Go Go.RowKit
set_option linter.unusedVariables false

end Go.Proofs.Ytheefkhhafefoaa
