import Derived.Test.YtbdgbefjmfcgcaaDoorIxZf
import Derived.Test.YtbdgbefjmfcgcaaDoorIxN2
import Derived.Deep.DeepCutAuto
namespace Go.Proofs.YtbdgbefjmfcgcaaDoor.Ix
open Go.RowKit Go.Lib Go.Deep
end Go.Proofs.YtbdgbefjmfcgcaaDoor.Ix
