import Derived.Test.YtnnilbfkghibaaaGreatDoorMeM
import Derived.Deep.Strs
import Derived.WalkKit
import Derived.ProofKit
import Derived.OpenShut
import Derived.ShutString
import Derived.SizedLaws
import Derived.JoinedCond
import Derived.Carry
namespace Go.Proofs.YtnnilbfkghibaaaGreatDoor.Pa
open Go.ChangeShapes Go.WideShapes Go.ChangeAt Go.RowKit Go.Deep

theorem laidOut : laidOutB Tryz.prog = true := by kernel_rfl
theorem cells9 : Tryz.prog.cellsOf 9 = 1 := by kernel_rfl
theorem bytes9 : Tryz.prog.bytesOf 9 = 16 := by kernel_rfl
/-- a []string as it was handed in -/
theorem see_of {H : Type} {enc : TypeId × Value → H} {W : World} {a : Option Addr} {len cap : Nat} {d : DataW H} {ps : List MemPlace} (h : DataW.Trod enc Tryz.prog W 0 (fun _ => true) true 31 (.slice a len cap) d ps) :
    ∃ L : List ByteArray, L.length = len ∧ See W (.slice a len cap) L ∧ (len = 0 ∨ ∃ m, len ≤ m ∧ m * 16 ∈ d.weights Tryz.prog 31) := by
  obtain ⟨fuel, hf⟩ := h
  rcases Deep.open_strs Tryz.underlying31 Tryz.underlying9 cells9 hf with ⟨hcs, hx⟩ | ⟨x, len', cap', m, Sx, hcs, _, hl, hm, hmm, hx, hcell⟩
  · simp [Value.cells] at hcs
    obtain ⟨rfl, rfl, rfl⟩ := hcs
    exact ⟨[], rfl, See.nil W, .inl rfl⟩
  · simp [Value.cells] at hcs
    obtain ⟨rfl, rfl, rfl⟩ := hcs
    simp only [if_true] at hmm
    subst hmm
    simp only [Prod.mk.injEq] at hx
    obtain ⟨rfl, _⟩ := hx
    refine ⟨(List.range len).map Sx, by simp, ⟨some x, m, by simp, by simp; omega, fun e => (by cases e), fun hne => ?_⟩, .inr ⟨m, hl, ?_⟩⟩
    · have hpos : 0 < len := by
        rcases Nat.eq_zero_or_pos len with h | h
        · subst h; simp at hne
        · exact h
      obtain ⟨b, off, spot⟩ := x
      have h0 := (hcell 0 (by omega)).1
      have hspot : spot = none := by simpa [Addr.add] using World.cell?_spot h0
      subst hspot
      rw [Addr.add_lit] at h0
      refine ⟨b, off, rfl, block_lt_of_cell h0, fun i s hs => ?_⟩
      rw [List.getElem?_map] at hs
      obtain ⟨j, hj, rfl⟩ := Option.map_eq_some_iff.1 hs
      have hi := (List.getElem?_eq_some_iff.1 hj).1
      simp only [List.length_range] at hi
      rw [List.getElem?_range hi] at hj
      obtain rfl := Option.some.inj hj
      have hc := (hcell i (by omega)).1
      rw [Addr.add_lit] at hc
      exact hc
    · simp only [DataW.weights, Tryz.underlying31, bytes9]
      refine List.mem_cons.2 (.inl ?_)
      simp
      omega
theorem sized_strs {H : Type} {ts : List TypeId} {ds : List (DataW H)} (h : (DataW.weightsEach Tryz.prog ts ds).all (· ≤ reachBytes) = true) {j : Nat} {d : DataW H} {len : Nat} (ht : ts[j]? = some 31) (hd : ds[j]? = some d) (hw : len = 0 ∨ ∃ m, len ≤ m ∧ m * 16 ∈ d.weights Tryz.prog 31) : len ≤ 8796093022000 := by
  rcases hw with rfl | ⟨m, hm, hw⟩
  · omega
  · have h1 := of_decide_eq_true (List.all_eq_true.1 h _ (DataW.weights_mem_each ht hd _ hw))
    unfold reachBytes at h1
    omega
end Go.Proofs.YtnnilbfkghibaaaGreatDoor.Pa
