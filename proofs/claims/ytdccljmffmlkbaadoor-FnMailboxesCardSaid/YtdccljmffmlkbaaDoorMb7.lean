/- Mailboxes: what the document receives. No conditions but numbers that a machine holds. -/
import Derived.Test.YtdccljmffmlkbaaDoorMb6
import Derived.Test.YtdccljmffmlkbaaDoorCl6
import Derived.StillTailTactics
namespace Go.Proofs.YtdccljmffmlkbaaDoor
open Go Go.RowKit
set_option linter.unusedVariables false
attribute [local irreducible] kh kid

end Go.Proofs.YtdccljmffmlkbaaDoor
