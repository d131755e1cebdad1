/- Numbers of rlp: the base (bytes, reslices, steps; SameItem of bytes) where the program's Read is not at hand. -/
import Derived.Test.YtbbebejdfgakfaaG1
import Derived.Test.YtbbebejdfgakfaaB0
import Derived.Laws.BitsAllLaws
import Derived.Stop.BytesEq
set_option linter.unusedVariables false
set_option linter.unusedSimpArgs false
namespace Go.Proofs.Ytbbebejdfgakfaa
open Go.RowKit

end Go.Proofs.Ytbbebejdfgakfaa
