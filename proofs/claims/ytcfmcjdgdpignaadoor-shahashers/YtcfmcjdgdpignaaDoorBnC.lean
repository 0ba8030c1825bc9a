import Derived.Test.YtcfmcjdgdpignaaDoorBnB
import Derived.Deep.RegionWith
namespace Go.Proofs.YtcfmcjdgdpignaaDoor
open Go.RowKit Go.Lib

/-- the step at hand, in a block of its own -/
def Ob (w : World) (o : Nat) (K A F : Int) (s : ByteArray) : Prop := w.heap[o]? = some (.cells #[.int .i64 K, .int .i64 A, .int .i64 F, .string s] 44 (0, 0))
section
variable {w w' : World} {o : Nat} {K A F : Int} {s : ByteArray}
theorem Ob.c0 (h : Ob w o K A F s) : w.cell? ⟨o, 0, none⟩ = some (.int .i64 K) := (cell_of_heap h).trans rfl
theorem Ob.c1 (h : Ob w o K A F s) : w.cell? ⟨o, 1, none⟩ = some (.int .i64 A) := (cell_of_heap h).trans rfl
theorem Ob.c2 (h : Ob w o K A F s) : w.cell? ⟨o, 2, none⟩ = some (.int .i64 F) := (cell_of_heap h).trans rfl
theorem Ob.c3 (h : Ob w o K A F s) : w.cell? ⟨o, 3, none⟩ = some (.string s) := (cell_of_heap h).trans rfl
theorem Ob.below (h : Ob w o K A F s) (hb : Below w.heap.size w w') : Ob w' o K A F s := (hb.block _ (heap_lt h)).trans h
theorem Ob.only {S : List Nat} (h : Ob w o K A F s) (hb : Only S w w') (hp : o ∉ S) : Ob w' o K A F s := (hb.block _ (heap_lt h) hp).trans h
end

set_option maxRecDepth 20000 in
set_option maxHeartbeats 4000000 in
theorem plays_lay {w wr : World} {b : Nat} {V U : Nat → Option Nat} (h : Bn w wr b V U 4) (A F : Int) (s : ByteArray) (hs : s.size ≤ 140737488355328) (ht : Tabs w) (hr : RTabs w) (h4 : 4 ≤ w.heap.size) :
    Calls Tryd.prog 14 #[.pointer (some ⟨b, 0, none⟩), .agg #[.int .i64 7, .int .i64 A, .int .i64 F, .string s]] wr fun e w' => e = .returned (.bool true) ∧ ∃ V' U', Bn w w' b V' U' 4 := by
  have HTT : Hid (∀ W, Below w.heap.size w W → Tabs W ∧ RTabs W ∧ 4 ≤ W.heap.size) := fun W h => ⟨ht.below h (by omega), hr.below h h4, by have := h.size; omega⟩
  have hN0 : Bn w (wr.alloc (.cells #[.int .i64 7, .int .i64 A, .int .i64 F, .string s] 44)) b V U 4 := h.below ((Below.refl _ _).alloc (Nat.le_refl _) _)
  have hO0 : Ob (wr.alloc (.cells #[.int .i64 7, .int .i64 A, .int .i64 F, .string s] 44)) wr.heap.size 7 A F s := heap_new _ _
  have g1 := hO0.c1
  have g2 := hO0.c2
  clear h ht hr
  go_enter Tryd.func14, Tryd.ntmps14
  go_wp2_with fail
  refine (place4_any A _).mono ?_
  rintro e w' ⟨⟨j, rfl, hj⟩, rfl⟩
  go_wp2_with fail
  refine (place4_any F _).mono ?_
  rintro e w' ⟨⟨m, rfl, hm⟩, rfl⟩
  clear g1 g2
  revert hN0 hO0
  generalize wr.alloc (.cells #[.int .i64 7, .int .i64 A, .int .i64 F, .string s] 44) = w0
  generalize wr.heap.size = o
  intro hN hO
  clear wr
  have c0 := hO.c0
  have c3 := hO.c3
  have HN : Hid (Bn w w0 b V U 4) := hN
  have HO : Hid (Ob w0 o 7 A F s) := hO
  have hjI : (j : Int) < 4 := by omega
  have hmI : (m : Int) < 4 := by omega
  clear hN hO
  have hla := lay_any HN.out j hj s (by omega) (HTT.out _ HN.out.bel).1 (HTT.out _ HN.out.bel).2.2
  go_wp2_with (go_at_call 26; refine hla.mono ?_; rintro e w1 ⟨rfl, hF⟩)
  go_ret
  exact ⟨rfl, hF⟩

end Go.Proofs.YtcfmcjdgdpignaaDoor
