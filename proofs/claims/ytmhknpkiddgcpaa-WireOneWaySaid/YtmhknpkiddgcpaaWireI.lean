/- The interface of the program's reader and writer, whole (its proofs lie in WireR to WireO, WireW, WireV). -/
import Derived.Test.YtmhknpkiddgcpaaWireG
import Derived.Test.YtmhknpkiddgcpaaWireO
import Derived.Test.YtmhknpkiddgcpaaWireV
import Derived.Test.YtmhknpkiddgcpaaArrEq
namespace Go.Proofs.Ytmhknpkiddgcpaa
end Go.Proofs.Ytmhknpkiddgcpaa
