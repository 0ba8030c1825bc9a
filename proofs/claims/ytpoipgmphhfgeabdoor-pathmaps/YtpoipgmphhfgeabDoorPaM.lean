import Derived.Test.YtpoipgmphhfgeabDoorPaL
namespace Go.Proofs.YtpoipgmphhfgeabDoor.Pa
open Go.RowKit Go.Lib

def marks : List ByteArray := [str [98, 101, 104, 105, 110, 100], str [98, 101, 104, 105, 110, 100, 32, 105, 116], str []]
set_option maxRecDepth 20000 in
set_option maxHeartbeats 1000000 in
theorem roomy_any (w : World) (v : Value) (L : List ByteArray) (hL : See w v L) (hn : L.length ≤ 8796093022000) : Calls Tryd.prog 14 #[v] w fun e w' => (∃ u, e = .returned u ∧ Own w' w.heap.size u (L ++ marks)) ∧ Below w.heap.size w w' := by
  have HL : Hid (See w v L) := hL
  obtain ⟨a, c, rfl, -⟩ := hL
  go_enter Tryd.func14, Tryd.ntmps14
  have hn1 : (([] : List ByteArray).length + L.length) * 16 ≤ 140737488355328 := by simp; omega
  have hn2 : (([] ++ L).length + marks.length) * 16 ≤ 140737488355328 := by simp [marks]; omega
  go_wp2_with (first
    | (at_builtin; refine wpList_app rfl _ _ rfl w.heap.size _ _ [] L rfl (Own.nil _ _) rfl HL.out hn1 (Nat.le_refl _) ?_; intro v1 w1 ho1 hb1)
    | (at_builtin; refine wpList_app rfl _ _ rfl w.heap.size _ _ ([] ++ L) marks rfl (World.ownsRow.alloc ho1 _) rfl (see_new w1 _ marks 3 3 rfl rfl (Nat.le_refl _)) hn2 (by have := hb1.size; simp; omega) ?_; intro v2 w2 ho2 hb2))
  go_ret
  exact ⟨⟨_, rfl, ho2⟩, (hb1.alloc hb1.size _).trans hb2⟩
end Go.Proofs.YtpoipgmphhfgeabDoor.Pa
