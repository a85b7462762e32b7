/- Mailboxes: what is sent; the document's. No conditions but numbers that a machine holds. -/
import Derived.Test.YtdccljmffmlkbaaMb2
namespace Go.Proofs.Ytdccljmffmlkbaa
open Go Go.RowKit
set_option linter.unusedVariables false
attribute [local irreducible] kh kid

end Go.Proofs.Ytdccljmffmlkbaa
