import Derived.Test.YtgbkalflpgghnaaDoorListA
import Derived.Deep.Strs
import Derived.WalkKit
import Derived.ProofKit
import Derived.OpenShut
namespace Go.Proofs.YtgbkalflpgghnaaDoor
open Go.ChangeShapes Go.WideShapes Go.ChangeAt Go.RowKit

theorem cells9 : Tryd.prog.cellsOf 9 = 1 := by kernel_rfl

theorem bulk_strs {H : Type} : ∀ (ss : List ByteArray), (joinL ss).length + ss.length ≤ Rows.uptoBulkAll (ss.map fun s => (DataW.lit (.string s.data.toList) : DataW H))
  | [] => by simp [joinL, Rows.uptoBulkAll]
  | s :: r => by
    have h := bulk_strs (H := H) r
    have e : (joinL (s :: r)).length = s.data.toList.length + (joinL r).length := by simp [joinL]
    simp only [List.map_cons, Rows.uptoBulkAll, Rows.uptoBulk, List.length_cons]
    omega

/-- a []string as it was handed in -/
theorem lst_of {H : Type} {enc : TypeId × Value → H} {W : World} {a : Option Addr} {len cap : Nat} {d : DataW H} {ps : List MemPlace} (h : DataW.Trod enc Tryd.prog W 0 (fun _ => true) true 34 (.slice a len cap) d ps) :
    ∃ ss, Lst W a len ss ∧ (∀ s ∈ ss, s.size ≤ maxLen) ∧ (joinL ss).length + ss.length ≤ Rows.uptoBulk d := by
  obtain ⟨fuel, hf⟩ := h
  rcases Deep.open_strs Tryd.underlying34 Tryd.underlying9 cells9 hf with ⟨hcs, hx⟩ | ⟨x, len', cap', m, Sx, hcs, _, hl, hm, hmm, hx, hcell⟩
  · simp [Value.cells] at hcs
    obtain ⟨rfl, rfl, rfl⟩ := hcs
    exact ⟨[], ⟨rfl, by omega, fun i s hs => by simp at hs⟩, fun s hs => by simp at hs, by simp [joinL]⟩
  · simp [Value.cells] at hcs
    obtain ⟨rfl, rfl, rfl⟩ := hcs
    simp only [if_true] at hmm
    subst hmm
    simp only [Prod.mk.injEq] at hx
    obtain ⟨rfl, _⟩ := hx
    refine ⟨(List.range len).map Sx, ⟨by simp, by unfold maxLen at hm; omega, fun i s hs => ?_⟩, fun s hs => ?_, ?_⟩
    · rw [List.getElem?_map] at hs
      obtain ⟨j, hj, rfl⟩ := Option.map_eq_some_iff.1 hs
      have hi := (List.getElem?_eq_some_iff.1 hj).1
      simp only [List.length_range] at hi
      rw [List.getElem?_range hi] at hj
      obtain rfl := Option.some.inj hj
      have hc := (hcell i (by omega)).1
      obtain ⟨b, off, spot⟩ := x
      have hspot : spot = none := by
        have h0 := (hcell 0 (by omega)).1
        simpa [Addr.add] using World.cell?_spot h0
      subst hspot
      rw [Addr.add_lit] at hc
      exact ⟨b, off, rfl, block_lt_of_cell hc, hc⟩
    · obtain ⟨i, hi, rfl⟩ := List.mem_map.1 hs
      exact (hcell i (by have := List.mem_range.1 hi; omega)).2
    · have hb := bulk_strs (H := H) ((List.range len).map Sx)
      rw [List.map_map] at hb
      simp only [Rows.uptoBulk]
      refine Nat.le_trans hb ?_
      rw [Nat.add_assoc]
      exact Nat.le_add_right _ _

end Go.Proofs.YtgbkalflpgghnaaDoor
