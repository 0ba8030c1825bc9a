import Derived.Test.YtckbbbcjpklnmaaDoorIxLa
namespace Go.Proofs.YtckbbbcjpklnmaaDoor.Ix
open Go.RowKit Go.Lib Go.Deep
/-- what is told of the turned root, ahead of its store -/
def Gw (c : Cn) (R : List Rf) (kk : Nat) (V : World) (g : Nat) (i0 i1 i2 i3 i4 i5 : Int) (a : Option Addr) (n k : Nat) (z : Int) : Prop :=
  ∃ B W, Gv c R kk B W i0 i1 i2 i3 i4 i5 a n k z ∧ ∀ h, B ≤ h → h < W.heap.size → h ≠ g ∧ V.heap[h]? = W.heap[h]?
theorem gw_call {c : Cn} {R : List Rf} {kk : Nat} {X w8 : World} {g : Nat} {i0 i1 i2 i3 i4 i5 : Int} {a : Option Addr} {n k : Nat} {z : Int} (HG : Gv c R kk X.heap.size w8 i0 i1 i2 i3 i4 i5 a n k z) (hg : g < X.heap.size) : Gw c R kk w8 g i0 i1 i2 i3 i4 i5 a n k z :=
  ⟨X.heap.size, w8, HG, fun h h1 _ => ⟨by omega, rfl⟩⟩
theorem gw_alloc {c : Cn} {R : List Rf} {kk B : Nat} {w8 : World} {i0 i1 i2 i3 i4 i5 : Int} {a : Option Addr} {n k : Nat} {z : Int} (HG : Gv c R kk B w8 i0 i1 i2 i3 i4 i5 a n k z) (o : Obj) : Gw c R kk (w8.alloc o) w8.heap.size i0 i1 i2 i3 i4 i5 a n k z :=
  ⟨B, w8, HG, fun h _ h2 => ⟨by omega, Below.heap_alloc _ _ _ h2⟩⟩
theorem gw_put {c : Cn} {R : List Rf} {kk : Nat} {wc V : World} {g : Nat} {i0 i1 i2 i3 i4 i5 : Int} {a : Option Addr} {n k : Nat} {z : Int} (h : Gw c R kk V g i0 i1 i2 i3 i4 i5 a n k z) (hb : Below wc.heap.size wc V) (hg : wc.heap.size ≤ g) (hz : V.heap[g]? = some (.cells #[.int .i64 0, .int .i64 0, .int .i64 0, .int .i64 0, .int .i64 0, .int .i64 0, .slice none 0 0] 38 (0, 0))) :
    Rst c R kk wc (put7 V g (.int .i64 i0) (.int .i64 i1) (.int .i64 i2) (.int .i64 i3) (.int .i64 i4) (.int .i64 i5) (.slice a n k)) g z := by
  obtain ⟨B, W, HG, hk⟩ := h
  obtain ⟨e1, e2⟩ := put7_res hz hb hg (.int .i64 i0) (.int .i64 i1) (.int .i64 i2) (.int .i64 i3) (.int .i64 i4) (.int .i64 i5) (.slice a n k)
  refine ⟨e2, i0, i1, i2, i3, i4, i5, a, n, k, e1, B, HG.keep fun h h1 h2 => ?_⟩
  obtain ⟨hne, he⟩ := hk h h1 h2
  unfold put7
  rw [heap_setCell_other _ _ _ _ hne, heap_setCell_other _ _ _ _ hne, heap_setCell_other _ _ _ _ hne, heap_setCell_other _ _ _ _ hne, heap_setCell_other _ _ _ _ hne, heap_setCell_other _ _ _ _ hne, heap_setCell_other _ _ _ _ hne]
  exact he
end Go.Proofs.YtckbbbcjpklnmaaDoor.Ix
