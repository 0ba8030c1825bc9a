import Derived.Test.YtpoipgmphhfgeaaDoorScrS
import Derived.Test.YtpoipgmphhfgeaaDoorPaD
namespace Go.Proofs.YtpoipgmphhfgeaaDoor.Pa
open Go.ChangeShapes Go.WideShapes Go.ChangeAt Go.RowKit Go.Deep

theorem weights_strs {H : Type} (s : List UInt8) : ∀ l : List (DataW H), (DataW.lit (.string s)) ∈ l → s.length ∈ DataW.weightsAll Tryd.prog 9 l
  | [], h => by cases h
  | d :: r, h => by
    simp only [DataW.weightsAll]
    rcases List.mem_cons.1 h with rfl | h
    · exact List.mem_append_left _ (by simp [DataW.weights])
    · exact List.mem_append_right _ (weights_strs s r h)
/-- the texts of a list that was handed in are within reach -/
theorem each_of {H : Type} {enc : TypeId × Value → H} {W : World} {a : Option Addr} {len cap : Nat} {d : DataW H} {ps : List MemPlace} (h : DataW.Trod enc Tryd.prog W 0 (fun _ => true) true 22 (.slice a len cap) d ps)
    {L : List ByteArray} (hs : See W (.slice a len cap) L) (hl : L.length = len) : ∀ s ∈ L, s.data.toList.length ∈ d.weights Tryd.prog 22 := by
  obtain ⟨fuel, hf⟩ := h
  intro s hm
  obtain ⟨i, hi⟩ := List.mem_iff_getElem?.1 hm
  have hil := (List.getElem?_eq_some_iff.1 hi).1
  rcases Deep.open_strs Tryd.underlying22 Tryd.underlying9 cells9 hf with ⟨hcs, hx⟩ | ⟨x, len', cap', m, Sx, hcs, _, hl', hm', hmm, hx, hcell⟩
  · simp [Value.cells] at hcs
    omega
  · simp [Value.cells] at hcs
    obtain ⟨rfl, rfl, rfl⟩ := hcs
    simp only [if_true] at hmm
    subst hmm
    simp only [Prod.mk.injEq] at hx
    obtain ⟨rfl, _⟩ := hx
    obtain ⟨b, off, e, hc⟩ := hs.cell hi
    injection e with e
    subst e
    have h1 := (hcell i (by omega)).1
    rw [Addr.add_lit, hc] at h1
    injection h1 with h1
    injection h1 with h1
    simp only [DataW.weights, Tryd.underlying22]
    refine List.mem_cons_of_mem _ (List.mem_append_left _ (weights_strs _ _ ?_))
    rw [List.mem_map]
    exact ⟨i, List.mem_range.2 (by omega), by rw [h1]⟩
theorem sized_each {H : Type} {ts : List TypeId} {ds : List (DataW H)} (h : (DataW.weightsEach Tryd.prog ts ds).all (· ≤ reachBytes) = true) {j : Nat} {d : DataW H} {L : List ByteArray} (ht : ts[j]? = some 22) (hd : ds[j]? = some d) (hw : ∀ s ∈ L, s.data.toList.length ∈ d.weights Tryd.prog 22) : ∀ s ∈ L, s.size ≤ 140737488351232 := fun s hs => by
  have h1 := of_decide_eq_true (List.all_eq_true.1 h _ (DataW.weights_mem_each ht hd _ (hw s hs)))
  have e : s.data.toList.length = s.size := by rw [Array.length_toList]; rfl
  unfold reachBytes at h1
  omega
end Go.Proofs.YtpoipgmphhfgeaaDoor.Pa
