import Derived.Test.YtbjiamaaocjbfaaGreatDoorLfE
import Derived.Deep.Slices
import Derived.Deep.Strs
import Derived.WalkKit
import Derived.ProofKit
import Derived.OpenShut
import Derived.SizedLaws
namespace Go.Proofs.YtbjiamaaocjbfaaGreatDoor.Kp
open Go.ChangeShapes Go.WideShapes Go.ChangeAt Go.RowKit Go.Deep

theorem cells6t : Tryz.prog.cellsOf 54 = 6 := by kernel_rfl
theorem cells3i : Tryz.prog.cellsOf 3 = 1 := by kernel_rfl
theorem cells9s : Tryz.prog.cellsOf 9 = 1 := by kernel_rfl

theorem weightsAll_mem {H : Type} {P : Program} {e : TypeId} : ∀ {l : List (DataW H)} {d : DataW H} {n : Nat}, d ∈ l → n ∈ d.weights P e → n ∈ DataW.weightsAll P e l
  | x :: r, d, n, hd, hn => by
    rw [DataW.weightsAll, List.mem_append]
    rcases List.mem_cons.1 hd with rfl | hd
    · exact Or.inl hn
    · exact Or.inr (weightsAll_mem hd hn)

set_option maxRecDepth 20000 in
theorem turns_of {H : Type} {enc : TypeId × Value → H} {W : World} {a : Option Addr} {len cap : Nat} {d : DataW H} {ps : List MemPlace} (h : DataW.Trod enc Tryz.prog W 0 (fun _ => true) true 46 (.slice a len cap) d ps) :
    ∃ K A N R X C, IsT W a len K A N R X C ∧ len ≤ 9223372036854775807 ∧ ∀ i, i < len → (X i).size ∈ d.weights Tryz.prog 46 ∧ (C i).size ∈ d.weights Tryz.prog 46 := by
  obtain ⟨fuel, hf⟩ := h
  rcases open_slice Tryz.underlying46 hf with ⟨hcs, _⟩ | ⟨x, len', cap', m, n, D, Pl, hcs, _, hl, hm, hmm, hx0, hx⟩
  · simp [Value.cells] at hcs
    obtain ⟨rfl, rfl, rfl⟩ := hcs
    exact ⟨fun _ => 0, fun _ => 0, fun _ => 0, fun _ => 0, fun _ => .empty, fun _ => .empty, fun i hi => by omega, by omega, fun i hi => by omega⟩
  · simp [Value.cells] at hcs
    obtain ⟨rfl, rfl, rfl⟩ := hcs
    simp only [if_true] at hmm
    subst hmm
    simp only [Prod.mk.injEq] at hx0
    obtain ⟨rfl, _⟩ := hx0
    have each : ∀ i, i < len → ∃ q : Int × Int × Int × ByteArray × ByteArray × Int, W.cell? (x.add (i * 6)) = some (.int .i64 q.1) ∧ W.cell? (x.add (i * 6 + 1)) = some (.int .i64 q.2.1) ∧ W.cell? (x.add (i * 6 + 2)) = some (.int .i64 q.2.2.1) ∧ W.cell? (x.add (i * 6 + 3)) = some (.string q.2.2.2.1) ∧ W.cell? (x.add (i * 6 + 4)) = some (.string q.2.2.2.2.1) ∧ W.cell? (x.add (i * 6 + 5)) = some (.int .i64 q.2.2.2.2.2) ∧ q.2.2.2.1.size ∈ (D i).weights Tryz.prog 54 ∧ q.2.2.2.2.1.size ∈ (D i).weights Tryz.prog 54 := by
      intro i hi
      obtain ⟨cs', h1, h2⟩ := hx i (by omega)
      rw [cells6t] at h1
      obtain ⟨_, hlen, hcell⟩ := World.cells?_some h1
      obtain ⟨xs, k, hk, hxy, _, hxl, hfl⟩ := DataW.trod_struct Tryz.underlying54 h2
      match xs, hxl, cs', hlen with
      | [y0, y1, y2, y3, y4, y5], _, [v0, v1, v2, v3, v4, v5], _ =>
        have g0 := hfl 0 _ rfl
        have g1 := hfl 1 _ rfl
        have g2 := hfl 2 _ rfl
        have g3 := hfl 3 _ rfl
        have g4 := hfl 4 _ rfl
        have g5 := hfl 5 _ rfl
        simp [cells3i, cells9s] at g0 g1 g2 g3 g4 g5
        have e0 := hcell 0 (by omega)
        have e1 := hcell 1 (by omega)
        have e2 := hcell 2 (by omega)
        have e3 := hcell 3 (by omega)
        have e4 := hcell 4 (by omega)
        have e5 := hcell 5 (by omega)
        rw [add_add] at e0 e1 e2 e3 e4 e5
        obtain ⟨i0, a0, _⟩ := DataW.trod_int Tryz.underlying3 g0
        obtain ⟨i1, a1, _⟩ := DataW.trod_int Tryz.underlying3 g1
        obtain ⟨i2, a2, _⟩ := DataW.trod_int Tryz.underlying3 g2
        obtain ⟨s3, a3, b3, _⟩ := DataW.trod_string Tryz.underlying9 g3
        obtain ⟨s4, a4, b4, _⟩ := DataW.trod_string Tryz.underlying9 g4
        obtain ⟨i5, a5, _⟩ := DataW.trod_int Tryz.underlying3 g5
        simp at a0 a1 a2 a3 a4 a5
        subst a0 a1 a2 a3 a4 a5
        refine ⟨(i0, i1, i2, s3, s4, i5), by simpa using e0, by simpa using e1, by simpa using e2, by simpa using e3, by simpa using e4, by simpa using e5, ?_, ?_⟩
        · simp only [Prod.mk.injEq] at hxy
          rw [hxy.1]
          have hsz : s3.data.toList.length = s3.size := by rw [Array.length_toList]; rfl
          have hw : s3.data.toList.length ∈ DataW.weights (H := H) Tryz.prog 9 (.lit (.string s3.data.toList)) := by simp [DataW.weights]
          simp only [DataW.weights, Tryz.underlying54]
          refine DataW.weights_mem_each (j := 3) (t := 9) (d := .lit (.string s3.data.toList)) rfl ?_ _ (by rw [← hsz]; exact hw)
          simp only [List.map_cons, List.map_nil, b3]
          rfl
        · simp only [Prod.mk.injEq] at hxy
          rw [hxy.1]
          have hsz : s4.data.toList.length = s4.size := by rw [Array.length_toList]; rfl
          have hw : s4.data.toList.length ∈ DataW.weights (H := H) Tryz.prog 9 (.lit (.string s4.data.toList)) := by simp [DataW.weights]
          simp only [DataW.weights, Tryz.underlying54]
          refine DataW.weights_mem_each (j := 4) (t := 9) (d := .lit (.string s4.data.toList)) rfl ?_ _ (by rw [← hsz]; exact hw)
          simp only [List.map_cons, List.map_nil, b4]
          rfl
    obtain ⟨q, hq⟩ := choose_lt each
    refine ⟨fun i => (q i).1, fun i => (q i).2.1, fun i => (q i).2.2.1, fun i => (q i).2.2.2.2.2, fun i => (q i).2.2.2.1, fun i => (q i).2.2.2.2.1, fun i hi => ?_, by unfold maxLen at hm; omega, fun i hi => ?_⟩
    · obtain ⟨c0, c1, c2, c3, c4, c5, _⟩ := hq i hi
      obtain ⟨b, off, spot⟩ := x
      have hspot : spot = none := by
        have h0 := (hq 0 (by omega)).1
        simpa [Addr.add] using World.cell?_spot h0
      subst hspot
      rw [Addr.add_lit] at c0 c1 c2 c3 c4 c5
      refine ⟨b, off, rfl, block_lt_of_cell c0, fun d v hv => ?_⟩
      rcases d with _ | _ | _ | _ | _ | _ | d
      · simp at hv; subst hv; exact c0
      · simp at hv; subst hv; rw [Nat.add_assoc]; exact c1
      · simp at hv; subst hv; rw [Nat.add_assoc]; exact c2
      · simp at hv; subst hv; rw [Nat.add_assoc]; exact c3
      · simp at hv; subst hv; rw [Nat.add_assoc]; exact c4
      · simp at hv; subst hv; rw [Nat.add_assoc]; exact c5
      · simp at hv
    · simp only [DataW.weights, Tryz.underlying46]
      obtain ⟨_, _, _, _, _, _, r1, r2⟩ := hq i hi
      exact ⟨List.mem_cons_of_mem _ (List.mem_append_left _ (weightsAll_mem (d := D i) (List.mem_map.2 ⟨i, List.mem_range.2 hi, rfl⟩) r1)), List.mem_cons_of_mem _ (List.mem_append_left _ (weightsAll_mem (d := D i) (List.mem_map.2 ⟨i, List.mem_range.2 hi, rfl⟩) r2))⟩

/-- a text of a step that came in is within reach -/
theorem sized_turns {H : Type} {ts : List TypeId} {ds : List (DataW H)} (h : (DataW.weightsEach Tryz.prog ts ds).all (· ≤ reachBytes) = true) {j : Nat} {d : DataW H} {t : TypeId} {n : Nat} (ht : ts[j]? = some t) (hd : ds[j]? = some d) (hn : n ∈ d.weights Tryz.prog t) : n ≤ 140737488355328 := by
  have h1 := of_decide_eq_true (List.all_eq_true.1 h _ (DataW.weights_mem_each ht hd n hn))
  unfold reachBytes at h1
  omega

end Go.Proofs.YtbjiamaaocjbfaaGreatDoor.Kp
