/- impl.ReadUvarint: what is read of a varint. No conditions. -/
import Derived.Test.YtaekjnacigicoaaRdu
namespace Go.Proofs.Ytaekjnacigicoaa
open Go Go.RowKit
set_option linter.unusedVariables false

end Go.Proofs.Ytaekjnacigicoaa
