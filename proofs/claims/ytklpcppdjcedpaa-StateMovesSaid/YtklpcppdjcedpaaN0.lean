/- Numbers of rlp: the base (bytes, reslices, steps; SameItem of bytes) where the program's Read is not at hand. -/
import Derived.Test.YtklpcppdjcedpaaG1
import Derived.Test.YtklpcppdjcedpaaB0
import Derived.Laws.BitsAllLaws
import Derived.Stop.BytesEq
set_option linter.unusedVariables false
set_option linter.unusedSimpArgs false
namespace Go.Proofs.Ytklpcppdjcedpaa
open Go.RowKit

end Go.Proofs.Ytklpcppdjcedpaa
