import Derived.Test.YthmjjpaengackaaBaseM
import Derived.Test.YthmjjpaengackaaRows
import Derived.WalkKit
import Derived.ProofKit
import Derived.OpenShut
import Derived.SizedLaws
namespace Go.Proofs.Ythmjjpaengackaa
open Go.ChangeShapes Go.WideShapes Go.ChangeAt Go.RowKit

/-- a []int as it was handed in -/
structure Lsi (w : World) (a : Option Addr) (len : Nat) (zs : List Int) : Prop where
  sz : zs.length = len
  top : len ≤ 9223372036854775807
  cell : ∀ i z, zs[i]? = some z → ∃ b off, a = some ⟨b, off, none⟩ ∧ b < w.heap.size ∧ w.cell? ⟨b, off + i, none⟩ = some (.int .i64 z)

theorem cells3 : Try.prog.cellsOf 3 = 1 := by kernel_rfl
theorem block_lt_of_cell' {w : World} {b o : Nat} {v : Value} (h : w.cell? ⟨b, o, none⟩ = some v) : b < w.heap.size := by
  apply Decidable.byContradiction
  intro hn
  have e : w.heap[b]? = none := Array.getElem?_eq_none (by omega)
  simp [World.cell?, e] at h

theorem lsi_of {H : Type} {enc : TypeId × Value → H} {W : World} {a : Option Addr} {len cap : Nat} {d : DataW H} {ps : List MemPlace} (h : DataW.Trod enc Try.prog W 0 (fun _ => true) true 23 (.slice a len cap) d ps) : ∃ zs, Lsi W a len zs ∧ (len = 0 ∨ ∃ elems spare, d = .slice elems spare ∧ len ≤ elems.length + spare.length) := by
  obtain ⟨fuel, hf⟩ := h
  rcases open_ints Try.underlying23 Try.underlying3 cells3 hf with ⟨hcs, hx⟩ | ⟨x, len', cap', zs, hcs, _, hl, hm, hlen, hx, hcell, hwf⟩
  · simp [Value.cells] at hcs
    obtain ⟨rfl, rfl, rfl⟩ := hcs
    exact ⟨[], ⟨rfl, by omega, fun i s hs => by simp at hs⟩, Or.inl rfl⟩
  · simp [Value.cells] at hcs
    obtain ⟨rfl, rfl, rfl⟩ := hcs
    simp only [if_true] at hlen
    refine ⟨zs.take len, ⟨by rw [List.length_take]; omega, by unfold maxLen at hm; omega, fun i z hz => ?_⟩, Or.inr ⟨_, _, congrArg Prod.fst hx, ?_⟩⟩
    rotate_left
    · simp only [lits, List.length_map, List.length_take, List.length_drop]
      omega
    have hi : i < len := by
      have := (List.getElem?_eq_some_iff.1 hz).1
      rw [List.length_take] at this
      omega
    obtain ⟨b, off, rfl, hc⟩ := ints_at hcell (by omega)
    have hci := hc i (by omega)
    rw [List.getElem?_take, if_pos hi] at hz
    rw [List.getD_eq_getElem?_getD, hz] at hci
    exact ⟨b, off, rfl, block_lt_of_cell' hci, hci⟩

theorem bytes3 : Try.prog.bytesOf 3 = 8 := by kernel_rfl
/-- a []int that came in is within reach -/
theorem sized_ints {H : Type} {ts : List TypeId} {ds : List (DataW H)} (h : (DataW.weightsEach Try.prog ts ds).all (· ≤ reachBytes) = true) {j : Nat} {d : DataW H} {len : Nat} (ht : ts[j]? = some 23) (hd : ds[j]? = some d) (hl : len = 0 ∨ ∃ elems spare, d = .slice elems spare ∧ len ≤ elems.length + spare.length) : len ≤ 140737488351232 := by
  rcases hl with rfl | ⟨elems, spare, rfl, hl⟩
  · omega
  · have h1 := of_decide_eq_true (List.all_eq_true.1 h _ (DataW.weights_mem_each ht hd ((elems.length + spare.length) * Try.prog.bytesOf 3) (by simp only [DataW.weights, Try.underlying23]; exact List.mem_cons_self)))
    rw [bytes3] at h1
    unfold reachBytes at h1
    omega

end Go.Proofs.Ythmjjpaengackaa
