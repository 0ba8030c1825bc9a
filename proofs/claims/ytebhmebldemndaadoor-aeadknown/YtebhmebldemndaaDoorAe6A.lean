import Derived.Test.YtebhmebldemndaaDoorAeB
import Derived.Test.YtebhmebldemndaaDoorMacM
import Derived.Test.YtebhmebldemndaaDoorChM1
namespace Go.Proofs.YtebhmebldemndaaDoor.Ae
open Go.RowKit Go.Lib Go.Deep
open Cha (CTabs)

/-- the program's tables -/
structure ATabs (w : World) : Prop where
  c : CTabs w
  k : Pol.KTab w
  s : 4 ≤ w.heap.size
theorem ATabs.below {w w' : World} (h : ATabs w) (hb : Below w.heap.size w w') : ATabs w' :=
  ⟨h.c.below hb (by have := h.s; omega), h.k.below hb (by have := h.s; omega), by have := h.s; have := hb.size; omega⟩
end Go.Proofs.YtebhmebldemndaaDoor.Ae
