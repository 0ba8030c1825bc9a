import Derived.Test.YtnfddiabhpandaaGreatDoorLaM
import Derived.Deep.Slices
import Derived.Deep.Strs
import Derived.WalkKit
import Derived.ProofKit
import Derived.OpenShut
import Derived.ShutString
import Derived.SizedLaws
import Derived.JoinedCond
import Derived.Carry
namespace Go.Proofs.YtnfddiabhpandaaGreatDoor.Tr
open Go.ChangeShapes Go.WideShapes Go.ChangeAt Go.RowKit Go.Deep

theorem laidOut : laidOutB Tryz.prog = true := by kernel_rfl
theorem sized_of {H : Type} {ts : List TypeId} {ds : List (DataW H)} (h : (DataW.weightsEach Tryz.prog ts ds).all (· ≤ reachBytes) = true) {j : Nat} {d : DataW H} {t : TypeId} {n : Nat} (ht : ts[j]? = some t) (hd : ds[j]? = some d) (hn : n ∈ d.weights Tryz.prog t) : n ≤ 140737488355328 := by
  have h1 := of_decide_eq_true (List.all_eq_true.1 h _ (DataW.weights_mem_each ht hd n hn))
  unfold reachBytes at h1
  omega
theorem cells3i : Tryz.prog.cellsOf 3 = 1 := by kernel_rfl
theorem cells9s : Tryz.prog.cellsOf 9 = 1 := by kernel_rfl
theorem cellsOp : Tryz.prog.cellsOf 39 = 6 := by kernel_rfl
theorem bytesOp : Tryz.prog.bytesOf 39 = 72 := by kernel_rfl
theorem wf_range {n : Int} (h : (Lit.int .i64 n).wf = true) : -9223372036854775808 ≤ n ∧ n ≤ 9223372036854775807 := by
  have e1 : IntKind.i64.min = -9223372036854775808 := by decide
  have e2 : IntKind.i64.max = 9223372036854775807 := by decide
  simp only [Lit.wf, Bool.and_eq_true, decide_eq_true_eq] at h
  omega
def opC (o : Op) : List Value := [.int .i64 o.kind, .string o.path, .string o.to_, .int .i64 o.at_, .int .i64 o.n, .string o.data]
set_option maxRecDepth 40000 in
set_option maxHeartbeats 1000000 in
theorem op_of {H : Type} {enc : TypeId × Value → H} {W : World} {cs : List Value} {y : DataW H × List MemPlace} {fuel : Nat} (hl : cs.length = 6) (h2 : DataW.trod enc Tryz.prog W 0 (fun _ => true) true fuel 39 cs = some y) : ∃ o : Op, cs = opC o ∧ o.at_ ≤ 9223372036854775807 ∧ o.data.size ≤ 9223372036854775807 := by
  obtain ⟨xs, k, hk, hxy, _, hxl, hfl⟩ := DataW.trod_struct Tryz.underlying39 h2
  match xs, hxl, cs, hl with
  | [y0, y1, y2, y3, y4, y5], _, [v0, v1, v2, v3, v4, v5], _ =>
    have g0 := hfl 0 _ rfl
    have g1 := hfl 1 _ rfl
    have g2 := hfl 2 _ rfl
    have g3 := hfl 3 _ rfl
    have g4 := hfl 4 _ rfl
    have g5 := hfl 5 _ rfl
    simp [cells3i, cells9s] at g0 g1 g2 g3 g4 g5
    obtain ⟨i0, a0, _, z0⟩ := DataW.trod_int Tryz.underlying3 g0
    obtain ⟨i1, a1, _, z1⟩ := DataW.trod_string Tryz.underlying9 g1
    obtain ⟨i2, a2, _, z2⟩ := DataW.trod_string Tryz.underlying9 g2
    obtain ⟨i3, a3, _, z3⟩ := DataW.trod_int Tryz.underlying3 g3
    obtain ⟨i4, a4, _, z4⟩ := DataW.trod_int Tryz.underlying3 g4
    obtain ⟨i5, a5, _, z5⟩ := DataW.trod_string Tryz.underlying9 g5
    simp at a0 a1 a2 a3 a4 a5
    subst a0 a1 a2 a3 a4 a5
    refine ⟨⟨i0, i1, i2, i3, i4, i5⟩, rfl, (wf_range z3).2, ?_⟩
    have : i5.data.toList.length = i5.size := (Lib.size_eq i5).symm
    show i5.size ≤ 9223372036854775807
    unfold maxLen at z5
    omega
set_option maxRecDepth 40000 in
/-- operations as they were handed in -/
theorem ops_of {H : Type} {enc : TypeId × Value → H} {W : World} {a : Option Addr} {len cap : Nat} {d : DataW H} {ps : List MemPlace} (h : DataW.Trod enc Tryz.prog W 0 (fun _ => true) true 22 (.slice a len cap) d ps) :
    ∃ O : List Op, IsO W a len O ∧ (len = 0 ∨ ∃ m, len ≤ m ∧ m * 72 ∈ d.weights Tryz.prog 22) := by
  obtain ⟨fuel, hf⟩ := h
  rcases open_slice Tryz.underlying22 hf with ⟨hcs, _⟩ | ⟨x, len', cap', m, n, D, Pl, hcs, _, hl, hm, hmm, hx0, hx⟩
  · simp [Value.cells] at hcs
    obtain ⟨rfl, rfl, rfl⟩ := hcs
    exact ⟨[], ⟨rfl, fun i o h => (by cases h), fun o h => (by cases h)⟩, .inl rfl⟩
  · simp [Value.cells] at hcs
    obtain ⟨rfl, rfl, rfl⟩ := hcs
    simp only [if_true] at hmm
    subst hmm
    have hy1 : d = .slice ((List.range len).map D) ((List.range (m - len)).map fun j => D (len + j)) := by
      simp only [Prod.mk.injEq] at hx0
      exact hx0.1
    have hwm : m * 72 ∈ DataW.weights (H := H) Tryz.prog 22 d := by
      rw [hy1]
      simp only [DataW.weights, Tryz.underlying22, bytesOp]
      refine List.mem_cons.2 (.inl ?_)
      simp
      omega
    have each : ∀ i, i < len → ∃ o : Op, (∀ j u, (opC o)[j]? = some u → W.cell? (x.add (i * 6 + j)) = some u) ∧ o.at_ ≤ 9223372036854775807 ∧ o.data.size ≤ 9223372036854775807 := by
      intro i hi
      obtain ⟨cs', h1, h2⟩ := hx i (by omega)
      rw [cellsOp] at h1
      obtain ⟨_, hlen, hcell⟩ := World.cells?_some h1
      obtain ⟨o, rfl, ho⟩ := op_of hlen h2
      refine ⟨o, fun j u hu => ?_, ho⟩
      have hj := (List.getElem?_eq_some_iff.1 hu).1
      have e := hcell j (by rw [hlen] at hj; exact hj)
      rw [add_add] at e
      rw [e]
      simpa using hu
    haveI : Inhabited Op := ⟨⟨0, e0, e0, 0, 0, e0⟩⟩
    obtain ⟨q, hq⟩ := choose_lt each
    have hget : ∀ i o, ((List.range len).map q)[i]? = some o → i < len ∧ q i = o := fun i o ho => by
      have hi := (List.getElem?_eq_some_iff.1 ho).1
      simp at hi
      rw [List.getElem?_map, List.getElem?_range hi] at ho
      exact ⟨hi, Option.some.inj ho⟩
    refine ⟨(List.range len).map q, ⟨by simp, fun i o ho => ?_, fun o ho => ?_⟩, .inr ⟨m, by omega, hwm⟩⟩
    · obtain ⟨hi, rfl⟩ := hget _ _ ho
      have hc := (hq i hi).1
      obtain ⟨b, off, spot⟩ := x
      have h0 := (hq 0 (by omega)).1 0 _ rfl
      have hspot : spot = none := by simpa [Addr.add] using World.cell?_spot h0
      subst hspot
      have e : ∀ j, (⟨b, off, none⟩ : Addr).add j = ⟨b, off + j, none⟩ := fun j => Addr.add_lit _ _ _
      have c : ∀ j u, (opC (q i))[j]? = some u → W.cell? ⟨b, off + i * 6 + j, none⟩ = some u := fun j u hu => by
        have := hc j u hu
        rw [e] at this
        rw [Nat.add_assoc]
        exact this
      exact ⟨b, off, rfl, block_lt_of_cell (c 0 _ rfl), c 0 _ rfl, c 1 _ rfl, c 2 _ rfl, c 3 _ rfl, c 4 _ rfl, c 5 _ rfl⟩
    · obtain ⟨i, hi⟩ := List.mem_iff_getElem?.1 ho
      obtain ⟨h1, rfl⟩ := hget _ _ hi
      exact (hq i h1).2
end Go.Proofs.YtnfddiabhpandaaGreatDoor.Tr
