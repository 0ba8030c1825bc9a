import Derived.Test.YtcochbcaillldaaGreatDoorBaseM
namespace Go.Proofs.YtcochbcaillldaaGreatDoor.Sc
open Go.RowKit Go.Lib Go.Deep

theorem RowF.below {w w' : World} {B : Nat} {e : TypeId} {v : Value} {xs : List Value} (h : RowF w B e v xs) (hb : Below w.heap.size w w') : RowF w' B e v xs := by
  obtain ⟨g, cap, cur, fr, r1, r2, r3, r4, r5⟩ := h
  have hk := hb.block _ (heap_lt r3)
  exact ⟨g, cap, cur, fr, r1, r2, hk.trans r3, fun j hj => (World.frozen?_of_block hk).trans (r4 j hj), r5⟩
end Go.Proofs.YtcochbcaillldaaGreatDoor.Sc
