import Derived.Test.YtjjabkimmgcejaaDoorHexA
import Derived.Test.YtjjabkimmgcejaaDoorRows
import Derived.KernelRfl
import Derived.OwnWalk
namespace Go.Proofs.YtjjabkimmgcejaaDoor
open Go.RowKit Go.Lib

theorem info5 : (Tryd.prog.info? 5).map (fun i => (i.zero, i.size, i.bytes)) = some (some (.int .u8 0), 1, 1) := by kernel_rfl

end Go.Proofs.YtjjabkimmgcejaaDoor
