/- impl.ReadUvarint: what is read of a varint. No conditions. -/
import Derived.Test.YtngdcnocjgibkaaRdu
namespace Go.Proofs.Ytngdcnocjgibkaa
open Go Go.RowKit
set_option linter.unusedVariables false

end Go.Proofs.Ytngdcnocjgibkaa
