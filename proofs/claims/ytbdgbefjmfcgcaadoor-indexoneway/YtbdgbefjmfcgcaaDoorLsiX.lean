import Derived.Test.YtbdgbefjmfcgcaaDoorPaM
import Derived.Test.YtbdgbefjmfcgcaaDoorRows
import Derived.WalkKit
import Derived.ProofKit
import Derived.OpenShut
import Derived.SizedLaws
namespace Go.Proofs.YtbdgbefjmfcgcaaDoor.Ix
open Go.ChangeShapes Go.WideShapes Go.ChangeAt Go.RowKit Go.Lib

theorem cells3L : Tryd.prog.cellsOf 3 = 1 := by kernel_rfl
theorem block_of_cell {w : World} {b o : Nat} {v : Value} (h : w.cell? ⟨b, o, none⟩ = some v) : b < w.heap.size := by
  apply Decidable.byContradiction
  intro hn
  have e : w.heap[b]? = none := Array.getElem?_eq_none (by omega)
  simp [World.cell?, e] at h

/-- a []int as it was handed in -/
theorem see_ints {H : Type} {enc : TypeId × Value → H} {W : World} {a : Option Addr} {len cap : Nat} {d : DataW H} {ps : List MemPlace} (h : DataW.Trod enc Tryd.prog W 0 (fun _ => true) true 24 (.slice a len cap) d ps) :
    ∃ zs, zs.length = len ∧ See W 1 (.slice a len cap) len (zsC zs) ∧ (len = 0 ∨ ∃ elems spare, d = .slice elems spare ∧ len ≤ elems.length + spare.length) := by
  obtain ⟨fuel, hf⟩ := h
  rcases open_ints Tryd.underlying24 Tryd.underlying3 cells3L hf with ⟨hcs, hx⟩ | ⟨x, len', cap', zs, hcs, _, hl, hm, hlen, hx, hcell, hwf⟩
  · simp [Value.cells] at hcs
    obtain ⟨rfl, rfl, rfl⟩ := hcs
    exact ⟨[], rfl, ⟨rfl, zs_one [], none, 0, rfl, Nat.le_refl _, fun _ => rfl, fun h => by omega⟩, Or.inl rfl⟩
  · simp [Value.cells] at hcs
    obtain ⟨rfl, rfl, rfl⟩ := hcs
    simp only [if_true] at hlen
    have hz : (zs.take len).length = len := by rw [List.length_take]; omega
    refine ⟨zs.take len, hz, ⟨by unfold zsC; rw [List.length_map, hz, Nat.mul_one], zs_one _, some x, cap, rfl, hl, fun e => (by cases e), fun hp => ?_⟩, Or.inr ⟨_, _, congrArg Prod.fst hx, ?_⟩⟩
    rotate_left
    · simp only [lits, List.length_map, List.length_take, List.length_drop]
      omega
    obtain ⟨b, off, hxe, hc⟩ := ints_at hcell (by omega)
    refine ⟨b, off, by rw [hxe], block_of_cell (hc 0 (by omega)), fun j u hu => ?_⟩
    unfold zsC at hu
    rw [List.getElem?_map] at hu
    obtain ⟨z, hz1, rfl⟩ := Option.map_eq_some_iff.1 hu
    have hj : j < len := by
      have := (List.getElem?_eq_some_iff.1 hz1).1
      omega
    have hci := hc j (by omega)
    rw [List.getElem?_take, if_pos hj] at hz1
    rw [List.getD_eq_getElem?_getD, hz1] at hci
    exact hci

theorem bytes3 : Tryd.prog.bytesOf 3 = 8 := by kernel_rfl
/-- a []int that came in is within reach -/
theorem sized_ints {H : Type} {ts : List TypeId} {ds : List (DataW H)} (h : (DataW.weightsEach Tryd.prog ts ds).all (· ≤ reachBytes) = true) {j : Nat} {d : DataW H} {len : Nat} (ht : ts[j]? = some 24) (hd : ds[j]? = some d) (hl : len = 0 ∨ ∃ elems spare, d = .slice elems spare ∧ len ≤ elems.length + spare.length) : len ≤ 140737488351232 := by
  rcases hl with rfl | ⟨elems, spare, rfl, hl⟩
  · omega
  · have h1 := of_decide_eq_true (List.all_eq_true.1 h _ (DataW.weights_mem_each ht hd ((elems.length + spare.length) * Tryd.prog.bytesOf 3) (by simp only [DataW.weights, Tryd.underlying24]; exact List.mem_cons_self)))
    rw [bytes3] at h1
    unfold reachBytes at h1
    omega
end Go.Proofs.YtbdgbefjmfcgcaaDoor.Ix
