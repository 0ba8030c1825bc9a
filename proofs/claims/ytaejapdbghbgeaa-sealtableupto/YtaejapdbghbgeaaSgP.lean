import Derived.Test.YtaejapdbghbgeaaSgA
import Derived.Deep.Strs
import Derived.WalkKit
import Derived.ProofKit
import Derived.OpenShut
import Derived.ShutString
import Derived.JoinedCond
import Derived.Carry
namespace Go.Proofs.Ytaejapdbghbgeaa.Se
open Go.ChangeShapes Go.WideShapes Go.ChangeAt Go.RowKit

theorem laidOut : laidOutB Try.prog = true := by kernel_rfl
theorem own : ownKnob Try.prog.godebug = none := by kernel_rfl
theorem cells9 : Try.prog.cellsOf 9 = 1 := by kernel_rfl
theorem bulk_mem {H : Type} : ∀ (ds : List (DataW H)) (d : DataW H), d ∈ ds → Rows.uptoBulk d ≤ Rows.uptoBulkAll ds
  | [], _, h => by cases h
  | x :: r, d, h => by
    simp only [Rows.uptoBulkAll]
    rcases List.mem_cons.1 h with rfl | h
    · omega
    · have := bulk_mem r d h; omega
theorem bulk_len {H : Type} : ∀ (ss : List ByteArray), ss.length ≤ Rows.uptoBulkAll (ss.map fun s => (DataW.lit (.string s.data.toList) : DataW H))
  | [] => by simp [Rows.uptoBulkAll]
  | s :: r => by
    have h := bulk_len (H := H) r
    simp only [List.map_cons, Rows.uptoBulkAll, Rows.uptoBulk, List.length_cons]
    omega
/-- a []string as it was handed in -/
theorem strs_of {H : Type} {enc : TypeId × Value → H} {W : World} {a : Option Addr} {len cap : Nat} {d : DataW H} {ps : List MemPlace} (h : DataW.Trod enc Try.prog W 0 (fun _ => true) true 22 (.slice a len cap) d ps) (hb : Rows.uptoBulk d ≤ 1048576) :
    ∃ ss : List ByteArray, ss.length = len ∧ len ≤ 1048576 ∧ (∀ s ∈ ss, s.size ≤ 1048576) ∧ ∀ (i : Nat) s, ss[i]? = some s → ∃ b off, a = some ⟨b, off, none⟩ ∧ b < W.heap.size ∧ W.cell? ⟨b, off + i, none⟩ = some (.string s) := by
  obtain ⟨fuel, hf⟩ := h
  rcases Deep.open_strs Try.underlying22 Try.underlying9 cells9 hf with ⟨hcs, hx⟩ | ⟨x, len', cap', m, Sx, hcs, _, hl, hm, hmm, hx, hcell⟩
  · simp [Value.cells] at hcs
    obtain ⟨rfl, rfl, rfl⟩ := hcs
    exact ⟨[], rfl, by omega, (by intro s hs; cases hs), (by intro i s hs; simp at hs)⟩
  · simp [Value.cells] at hcs
    obtain ⟨rfl, rfl, rfl⟩ := hcs
    simp only [if_true] at hmm
    subst hmm
    simp only [Prod.mk.injEq] at hx
    obtain ⟨rfl, _⟩ := hx
    have hb2 := bulk_len (H := H) ((List.range len).map Sx)
    rw [List.map_map, List.length_map, List.length_range] at hb2
    have hb3 : len ≤ Rows.uptoBulkAll ((List.range len).map fun i => (DataW.lit (.string (Sx i).data.toList) : DataW H)) := hb2
    simp only [Rows.uptoBulk] at hb
    refine ⟨(List.range len).map Sx, by simp, by omega, fun s hs => ?_, fun i s hs => ?_⟩
    · obtain ⟨i, hi, rfl⟩ := List.mem_map.1 hs
      have hm2 := bulk_mem ((List.range len).map fun i => (DataW.lit (.string (Sx i).data.toList) : DataW H)) _ (List.mem_map.2 ⟨i, hi, rfl⟩)
      simp only [Rows.uptoBulk] at hm2
      have e : (Sx i).data.toList.length = (Sx i).size := by rw [Array.length_toList]; rfl
      omega
    · rw [List.getElem?_map] at hs
      obtain ⟨j, hj, rfl⟩ := Option.map_eq_some_iff.1 hs
      have hi := (List.getElem?_eq_some_iff.1 hj).1
      simp only [List.length_range] at hi
      rw [List.getElem?_range hi] at hj
      obtain rfl := Option.some.inj hj
      have hc := (hcell i (by omega)).1
      obtain ⟨b, off, spot⟩ := x
      have hspot : spot = none := by
        have h0 := (hcell 0 (by omega)).1
        simpa [Addr.add] using World.cell?_spot h0
      subst hspot
      rw [Addr.add_lit] at hc
      exact ⟨b, off, rfl, block_lt_of_cell hc, hc⟩
end Go.Proofs.Ytaejapdbghbgeaa.Se
