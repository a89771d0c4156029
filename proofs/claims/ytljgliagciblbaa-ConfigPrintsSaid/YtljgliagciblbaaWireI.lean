/- The interface of the program's reader and writer, whole (its proofs lie in WireR to WireO, WireW, WireV). -/
import Derived.Test.YtljgliagciblbaaWG
import Derived.Test.YtljgliagciblbaaWV
import Derived.Test.YtljgliagciblbaaArrEq
namespace Go.Proofs.Ytljgliagciblbaa
end Go.Proofs.Ytljgliagciblbaa
