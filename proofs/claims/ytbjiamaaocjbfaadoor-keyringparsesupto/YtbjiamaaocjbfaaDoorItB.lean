import Derived.Test.YtbjiamaaocjbfaaDoorItA
namespace Go.Proofs.YtbjiamaaocjbfaaDoor.Kr
open Go.RowKit Go.Lib

/-- the library's table of the powers of ten -/
structure ITab (w : World) : Prop where
  it : ∃ t fr, w.heap[3]? = some (.cells ((Lib.pow10Tab.map fun z => Value.int .u64 z).toArray) t fr)
theorem ITab.below {w w' : World} {B : Nat} (h : ITab w) (hb : Below B w w') (hB : 3 < B) : ITab w' := by
  obtain ⟨t, fr, e⟩ := h.it
  exact ⟨t, fr, (hb.block _ hB).trans e⟩
theorem ITab.is {w : World} (h : ITab w) : Lib.TabIs Tryd.prog w ((Rows.keyringPrintsRow.named[0]?).getD default) .u64 Lib.pow10Tab := by
  obtain ⟨t, fr, e⟩ := h.it
  have hg : Tryd.prog.globalNamed ((Rows.keyringPrintsRow.named[0]?).getD default) = some 3 := by kernel_rfl
  unfold Lib.TabIs World.var?
  rw [hg, Option.bind_some, e]
theorem grow_drew (w : World) (k : Nat) (os : Array Obj) : Below w.heap.size w (Sort.grow (w.drewN k) os) := by
  refine ⟨rfl, rfl, rfl, ?_, fun j hj => ?_⟩
  · show w.heap.size ≤ (w.heap ++ os).size
    simp
  · show (w.heap ++ os)[j]? = w.heap[j]?
    rw [Array.getElem?_append_left hj]
/-- strconv.Itoa -/
theorem itoa_any (n : Nat) (hn : n ≤ 9223372036854775807) (w : World) (h : ITab w) :
    Calls Tryd.prog 15 #[.int .i64 (n : Int)] w fun e w' => e = .returned (.string (str (dec n))) ∧ Below w.heap.size w w' := by
  refine (Any.strconv_Itoa itoaLays (n : Int) (by omega) (by omega) w h.is).mono ?_
  rintro e w' ⟨rfl, k, os, rfl⟩
  refine ⟨?_, grow_drew w k os⟩
  have e1 : Lib.itoa (n : Int) = dec n := by
    unfold Lib.itoa dec
    rw [if_neg (by omega), Int.toNat_natCast]
  rw [e1]
  rfl

end Go.Proofs.YtbjiamaaocjbfaaDoor.Kr
