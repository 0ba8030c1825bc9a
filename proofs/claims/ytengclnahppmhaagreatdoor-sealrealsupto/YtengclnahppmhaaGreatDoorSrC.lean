import Derived.Test.YtengclnahppmhaaGreatDoorSrM
import Derived.Test.YtengclnahppmhaaGreatDoorR9M
namespace Go.Proofs.YtengclnahppmhaaGreatDoor.Sr
open Go.RowKit Go.Lib Go.Deep

/-- the law's world, over a real sealer (or none) -/
structure Wl (w : World) (pb : Nat) (sp rp : Option Addr) (bv : Value) : Prop where
  row : w.heap[pb]? = some (.cells #[.bool false, .pointer sp, .pointer none, .pointer rp, bv, .slice none 0 0, .slice none 0 0, .slice none 0 0, .slice none 0 0, .slice none 0 0] 43 (0, 0))
theorem Wl.below {w w' : World} {pb : Nat} {sp rp : Option Addr} {bv : Value} (h : Wl w pb sp rp bv) (hb : Below w.heap.size w w') : Wl w' pb sp rp bv := ⟨(hb.block _ (heap_lt h.row)).trans h.row⟩
theorem Wl.cells {w : World} {pb : Nat} {sp rp : Option Addr} {bv : Value} (h : Wl w pb sp rp bv) : Hid (∀ W, Below w.heap.size w W → W.cell? ⟨pb, 0, none⟩ = some (.bool false) ∧ W.cell? ⟨pb, 1, none⟩ = some (.pointer sp) ∧ W.cell? ⟨pb, 3, none⟩ = some (.pointer rp) ∧ W.cell? ⟨pb, 4, none⟩ = some bv ∧
    W.cell? ⟨pb, 5, none⟩ = some (.slice none 0 0) ∧ W.cell? ⟨pb, 6, none⟩ = some (.slice none 0 0) ∧ W.cell? ⟨pb, 7, none⟩ = some (.slice none 0 0) ∧ W.cell? ⟨pb, 8, none⟩ = some (.slice none 0 0) ∧ W.cell? ⟨pb, 9, none⟩ = some (.slice none 0 0)) := fun W hb => by
  have h2 := (h.below hb).row
  exact ⟨(cell_of_heap h2).trans rfl, (cell_of_heap h2).trans rfl, (cell_of_heap h2).trans rfl, (cell_of_heap h2).trans rfl, (cell_of_heap h2).trans rfl, (cell_of_heap h2).trans rfl, (cell_of_heap h2).trans rfl, (cell_of_heap h2).trans rfl, (cell_of_heap h2).trans rfl⟩

set_option maxRecDepth 20000 in
theorem right_any (pb : Nat) (sp rp : Option Addr) (bv : Value) (w : World) (h : Wl w pb sp rp bv) : Calls Tryz.prog 16 #[.pointer (some ⟨pb, 5, none⟩)] w fun e w' => e = .returned (.bool true) ∧ w' = w := by
  obtain ⟨_, _, _, _, c5, c6, c7, c8, c9⟩ := h.cells.out w (Below.refl _ _)
  clear h
  go_enter Tryz.func16, Tryz.ntmps16
  go_wp2_with fail
  go_loopg [3] 0 (fun gk iv wr => gk = 0 ∧ iv = .int .i64 0 ∧ wr = w)
  case atStart => exact ⟨rfl, rfl, rfl⟩
  case round =>
    obtain ⟨hk, rfl, rfl⟩ := hrel
    go_wp2_with fail
    go_loopg [4] 0 (fun gj iv wx => gj = 0 ∧ iv = .int .i64 0 ∧ wx = wr)
    case atStart => exact ⟨rfl, rfl, rfl⟩
    case round =>
      obtain ⟨hk2, rfl, rfl⟩ := hrel
      go_wp2
      go_ret
      exact ⟨rfl, rfl⟩
set_option maxRecDepth 20000 in
theorem last_any (pb : Nat) (sp rp : Option Addr) (bv : Value) (w : World) (h : Wl w pb sp rp bv) : Calls Tryz.prog 17 #[.pointer (some ⟨pb, 5, none⟩)] w fun e w' => e = .returned (.bool true) ∧ w' = w := by
  have hr := right_any pb sp rp bv w h
  obtain ⟨_, _, _, _, c5, c6, c7, c8, c9⟩ := h.cells.out w (Below.refl _ _)
  clear h
  go_enter Tryz.func17, Tryz.ntmps17
  go_wp2_with fail
  refine hr.mono ?_
  rintro e w' ⟨rfl, hw⟩
  obtain rfl := hw.symm
  go_wp2_with fail
  go_loopg [] 0 (fun gk wr => gk = 0 ∧ wr = w)
  case atStart => exact ⟨rfl, rfl⟩
  case round =>
    obtain ⟨hk, rfl⟩ := hrel
    go_wp2_with fail
    refine hr.mono ?_
    rintro e w' ⟨rfl, hw⟩
    obtain rfl := hw.symm
    go_wp2
    go_ret
    exact ⟨rfl, rfl⟩
end Go.Proofs.YtengclnahppmhaaGreatDoor.Sr
