import Derived.Test.YthmjjpaengackaaPoU
import Derived.Test.YthmjjpaengackaaLsiA
import Derived.Deep.Slices
import Derived.Deep.Strs
import Derived.WalkKit
import Derived.ProofKit
import Derived.OpenShut
import Derived.ShutString
import Derived.SizedLaws
import Derived.JoinedCond
import Derived.Carry
namespace Go.Proofs.Ythmjjpaengackaa.Po
open Go.ChangeShapes Go.WideShapes Go.ChangeAt Go.RowKit Go.Deep

theorem cells3i : Try.prog.cellsOf 3 = 1 := by kernel_rfl
theorem cells9s : Try.prog.cellsOf 9 = 1 := by kernel_rfl
theorem cellsOp : Try.prog.cellsOf 31 = 9 := by kernel_rfl
theorem cellsPs : Try.prog.cellsOf 29 = 2 := by kernel_rfl
theorem cellsOs : Try.prog.cellsOf 27 = 1 := by kernel_rfl
theorem cellsIs : Try.prog.cellsOf 23 = 1 := by kernel_rfl
theorem bytesOp : Try.prog.bytesOf 31 = 120 := by kernel_rfl
theorem slice_of {H : Type} {enc : TypeId × Value → H} {W : World} {t e : TypeId} {v : Value} {y : DataW H × List MemPlace} {fuel : Nat} (ht : Try.prog.underlying t = some (.slice e)) (h : DataW.trod enc Try.prog W 0 (fun _ => true) true fuel t [v] = some y) : ∃ a n c, v = .slice a n c := by
  rcases open_slice ht h with ⟨hcs, _⟩ | ⟨x, len', cap', m, n, D, Pl, hcs, _⟩
  · simp at hcs
    exact ⟨_, _, _, hcs⟩
  · simp at hcs
    exact ⟨_, _, _, hcs⟩
set_option maxRecDepth 40000 in
set_option maxHeartbeats 1000000 in
theorem op_of {H : Type} {enc : TypeId × Value → H} {W : World} {cs : List Value} {y : DataW H × List MemPlace} {fuel : Nat} (hl : cs.length = 9) (h2 : DataW.trod enc Try.prog W 0 (fun _ => true) true fuel 31 cs = some y) : ∃ o : Ops, cs = opC o ∧ OpOk o := by
  obtain ⟨xs, k, hk, hxy, _, hxl, hfl⟩ := DataW.trod_struct Try.underlying31 h2
  match xs, hxl, cs, hl with
  | [y0, y1, y2, y3, y4, y5, y6, y7], _, [v0, v1, v2, v3, v4, v5, v6, v7, v8], _ =>
    have g0 := hfl 0 _ rfl
    have g1 := hfl 1 _ rfl
    have g2 := hfl 2 _ rfl
    have g3 := hfl 3 _ rfl
    have g4 := hfl 4 _ rfl
    have g5 := hfl 5 _ rfl
    have g6 := hfl 6 _ rfl
    have g7 := hfl 7 _ rfl
    simp [cells3i, cells9s, cellsPs] at g0 g1 g2 g3 g4 g5 g6 g7
    obtain ⟨i0, a0, _⟩ := DataW.trod_int Try.underlying3 g0
    obtain ⟨i1, a1, _⟩ := DataW.trod_int Try.underlying3 g1
    obtain ⟨i2, a2, _⟩ := DataW.trod_int Try.underlying3 g2
    obtain ⟨i3, a3, _⟩ := DataW.trod_int Try.underlying3 g3
    obtain ⟨i4, a4, _⟩ := DataW.trod_int Try.underlying3 g4
    obtain ⟨i5, a5, _, z5⟩ := DataW.trod_string Try.underlying9 g5
    obtain ⟨i6, a6, _, z6⟩ := DataW.trod_string Try.underlying9 g6
    obtain ⟨xs7, k7, _, _, _, hxl7, hfl7⟩ := DataW.trod_struct Try.underlying29 g7
    match xs7, hxl7 with
    | [u0, u1], _ =>
      have e0 := hfl7 0 _ rfl
      have e1 := hfl7 1 _ rfl
      simp [cellsOs, cellsIs] at e0 e1
      have s0 := slice_of Try.underlying27 e0
      have s1 := slice_of Try.underlying23 e1
      simp at a0 a1 a2 a3 a4 a5 a6
      subst a0 a1 a2 a3 a4 a5 a6
      exact ⟨⟨i0, i1, i2, i3, i4, i5, i6, v7, v8⟩, rfl, s0, s1, z5, z6⟩
set_option maxRecDepth 40000 in
/-- a script as it was handed in -/
theorem ops_of {H : Type} {enc : TypeId × Value → H} {W : World} {a : Option Addr} {len cap : Nat} {d : DataW H} {ps : List MemPlace} (h : DataW.Trod enc Try.prog W 0 (fun _ => true) true 22 (.slice a len cap) d ps) :
    ∃ ops : List Ops, SeeO W (.slice a len cap) len ops ∧ (len = 0 ∨ ∃ m, len ≤ m ∧ m * 120 ∈ d.weights Try.prog 22) := by
  obtain ⟨fuel, hf⟩ := h
  rcases open_slice Try.underlying22 hf with ⟨hcs, _⟩ | ⟨x, len', cap', m, n, D, Pl, hcs, _, hl, hm, hmm, hx0, hx⟩
  · simp [Value.cells] at hcs
    obtain ⟨rfl, rfl, rfl⟩ := hcs
    exact ⟨[], ⟨rfl, ⟨_, _, rfl, fun i o ho => by cases ho⟩, fun i o ho => by cases ho⟩, .inl rfl⟩
  · simp [Value.cells] at hcs
    obtain ⟨rfl, rfl, rfl⟩ := hcs
    simp only [if_true] at hmm
    subst hmm
    have hy1 : d = .slice ((List.range len).map D) ((List.range (m - len)).map fun j => D (len + j)) := by
      simp only [Prod.mk.injEq] at hx0
      exact hx0.1
    have hwm : m * 120 ∈ DataW.weights (H := H) Try.prog 22 d := by
      rw [hy1]
      simp only [DataW.weights, Try.underlying22, bytesOp]
      refine List.mem_cons.2 (.inl ?_)
      simp
      omega
    have each : ∀ i, i < len → ∃ o : Ops, (∀ j u, (opC o)[j]? = some u → W.cell? (x.add (i * 9 + j)) = some u) ∧ OpOk o := by
      intro i hi
      obtain ⟨cs', h1, h2⟩ := hx i (by omega)
      rw [cellsOp] at h1
      obtain ⟨_, hlen, hcell⟩ := World.cells?_some h1
      obtain ⟨o, rfl, ho⟩ := op_of hlen h2
      refine ⟨o, fun j u hu => ?_, ho⟩
      have hj := (List.getElem?_eq_some_iff.1 hu).1
      have e := hcell j (by rw [hlen] at hj; exact hj)
      rw [add_add] at e
      rw [e]
      simpa using hu
    haveI : Inhabited Ops := ⟨⟨0, 0, 0, 0, 0, .empty, .empty, .slice none 0 0, .slice none 0 0⟩⟩
    obtain ⟨q, hq⟩ := choose_lt each
    refine ⟨(List.range len).map q, ⟨by simp, ⟨_, _, rfl, fun i o ho => ?_⟩, fun i o ho => ?_⟩, .inr ⟨m, by omega, hwm⟩⟩
    · have hi := (List.getElem?_eq_some_iff.1 ho).1
      simp at hi
      rw [List.getElem?_map, List.getElem?_range hi] at ho
      obtain rfl : q i = o := Option.some.inj ho
      obtain ⟨b, off, spot⟩ := x
      have h0 := (hq i hi).1 0 _ rfl
      have hspot : spot = none := by simpa [Addr.add] using World.cell?_spot ((hq 0 (by omega)).1 0 _ rfl)
      subst hspot
      refine ⟨b, off, rfl, block_lt_of_cell (by rw [Addr.add_lit] at h0; exact h0), fun j u hu => ?_⟩
      have := (hq i hi).1 j u hu
      rw [Addr.add_lit] at this
      rw [Nat.add_assoc]
      exact this
    · have hi := (List.getElem?_eq_some_iff.1 ho).1
      simp at hi
      rw [List.getElem?_map, List.getElem?_range hi] at ho
      obtain rfl : q i = o := Option.some.inj ho
      exact (hq i hi).2
theorem laidOut : laidOutB Try.prog = true := by kernel_rfl
theorem sized_of {H : Type} {ts : List TypeId} {ds : List (DataW H)} (h : (DataW.weightsEach Try.prog ts ds).all (· ≤ reachBytes) = true) {j : Nat} {d : DataW H} {t : TypeId} {n : Nat} (ht : ts[j]? = some t) (hd : ds[j]? = some d) (hn : n ∈ d.weights Try.prog t) : n ≤ 140737488355328 := by
  have h1 := of_decide_eq_true (List.all_eq_true.1 h _ (DataW.weights_mem_each ht hd n hn))
  unfold reachBytes at h1
  omega
end Go.Proofs.Ythmjjpaengackaa.Po
