import Derived.Test.YtdgokfehgjkalaaWoD
import Derived.Test.YtdgokfehgjkalaaBaseM
import Derived.Deep.Slices
import Derived.Deep.Strs
import Derived.WalkKit
import Derived.ProofKit
import Derived.OpenShut
import Derived.ShutString
import Derived.SizedLaws
import Derived.JoinedCond
import Derived.Carry
namespace Go.Proofs.Ytdgokfehgjkalaa.Wd
open Go.ChangeShapes Go.WideShapes Go.ChangeAt Go.RowKit Go.Deep

theorem cells3i : Try.prog.cellsOf 3 = 1 := by kernel_rfl
theorem cells4b : Try.prog.cellsOf 4 = 1 := by kernel_rfl
theorem cells9s : Try.prog.cellsOf 9 = 1 := by kernel_rfl
theorem cellsOp : Try.prog.cellsOf 34 = 15 := by kernel_rfl
theorem cellsEd : Try.prog.cellsOf 29 = 6 := by kernel_rfl
theorem cellsRg : Try.prog.cellsOf 32 = 3 := by kernel_rfl
theorem cellsBs : Try.prog.cellsOf 30 = 1 := by kernel_rfl
theorem bytesOp : Try.prog.bytesOf 34 = 184 := by kernel_rfl
theorem wf_hi {n : Int} (h : (Lit.int .i64 n).wf = true) : n ≤ 9223372036854775807 := by
  simp [Lit.wf, IntKind.min, IntKind.max, IntKind.signed, IntKind.bits] at h
  omega
set_option maxRecDepth 40000 in
set_option maxHeartbeats 1000000 in
theorem op_of {H : Type} {enc : TypeId × Value → H} {W : World} {cs : List Value} {y : DataW H × List MemPlace} {fuel : Nat} (hl : cs.length = 15) (h2 : DataW.trod enc Try.prog W 0 (fun _ => true) true fuel 34 cs = some y) : ∃ o : Ops, cs = opC o ∧ o.n ≤ 9223372036854775807 := by
  obtain ⟨xs, k, hk, hxy, _, hxl, hfl⟩ := DataW.trod_struct Try.underlying34 h2
  match xs, hxl, cs, hl with
  | [y0, y1, y2, y3, y4, y5, y6, y7], _, [v0, v1, v2, v3, v4, v5, v6, v7, v8, v9, v10, v11, v12, v13, v14], _ =>
    have g0 := hfl 0 _ rfl
    have g1 := hfl 1 _ rfl
    have g2 := hfl 2 _ rfl
    have g3 := hfl 3 _ rfl
    have g4 := hfl 4 _ rfl
    have g5 := hfl 5 _ rfl
    have g6 := hfl 6 _ rfl
    have g7 := hfl 7 _ rfl
    simp [cells3i, cells9s, cellsEd, cellsRg, cellsBs] at g0 g1 g2 g3 g4 g5 g6 g7
    obtain ⟨i0, a0, _, w0⟩ := DataW.trod_int Try.underlying3 g0
    obtain ⟨i1, a1, _, w1⟩ := DataW.trod_int Try.underlying3 g1
    obtain ⟨i2, a2, _⟩ := DataW.trod_string Try.underlying9 g2
    obtain ⟨i3, a3, _⟩ := DataW.trod_string Try.underlying9 g3
    obtain ⟨i10, a10, _, w10⟩ := DataW.trod_int Try.underlying3 g5
    obtain ⟨ba, bn, bc, a11⟩ : ∃ a n c, v11 = .slice a n c := by
      rcases open_slice Try.underlying30 g6 with ⟨hcs, _⟩ | ⟨x, len', cap', m, n, D, Pl, hcs, _⟩
      · simp at hcs
        exact ⟨_, _, _, hcs⟩
      · simp at hcs
        exact ⟨_, _, _, hcs⟩
    obtain ⟨xs4, k4, _, _, _, hxl4, hfl4⟩ := DataW.trod_struct Try.underlying29 g4
    obtain ⟨xs7, k7, _, _, _, hxl7, hfl7⟩ := DataW.trod_struct Try.underlying32 g7
    match xs4, hxl4, xs7, hxl7 with
    | [z0, z1, z2, z3, z4, z5], _, [u0, u1, u2], _ =>
      have f0 := hfl4 0 _ rfl
      have f1 := hfl4 1 _ rfl
      have f2 := hfl4 2 _ rfl
      have f3 := hfl4 3 _ rfl
      have f4 := hfl4 4 _ rfl
      have f5 := hfl4 5 _ rfl
      have e0 := hfl7 0 _ rfl
      have e1 := hfl7 1 _ rfl
      have e2 := hfl7 2 _ rfl
      simp [cells3i, cells9s, cells4b] at f0 f1 f2 f3 f4 f5 e0 e1 e2
      obtain ⟨i4, a4, _⟩ := DataW.trod_int Try.underlying3 f0
      obtain ⟨i5, a5, _⟩ := DataW.trod_int Try.underlying3 f1
      obtain ⟨i6, a6, _⟩ := DataW.trod_int Try.underlying3 f2
      obtain ⟨i7, a7, _⟩ := DataW.trod_int Try.underlying3 f3
      obtain ⟨i8, a8, _⟩ := DataW.trod_string Try.underlying9 f4
      obtain ⟨i9, a9, _⟩ := DataW.trod_string Try.underlying9 f5
      obtain ⟨i12, a12, _⟩ := DataW.trod_string Try.underlying9 e0
      obtain ⟨i13, a13, _⟩ := DataW.trod_string Try.underlying9 e1
      obtain ⟨i14, a14, _⟩ := DataW.trod_bool Try.underlying4 e2
      simp at a0 a1 a2 a3 a4 a5 a6 a7 a8 a9 a10 a12 a13 a14
      subst a0 a1 a2 a3 a4 a5 a6 a7 a8 a9 a10 a11 a12 a13 a14
      exact ⟨⟨i0, i1, i2, i3, i4, i5, i6, i7, i8, i9, i10, ba, bn, bc, i12, i13, i14⟩, rfl, wf_hi w10⟩
set_option maxRecDepth 40000 in
/-- a script as it was handed in -/
theorem ops_of {H : Type} {enc : TypeId × Value → H} {W : World} {a : Option Addr} {len cap : Nat} {d : DataW H} {ps : List MemPlace} (h : DataW.Trod enc Try.prog W 0 (fun _ => true) true 22 (.slice a len cap) d ps) :
    ∃ ops : List Ops, SeeO W (.slice a len cap) len ops ∧ (len = 0 ∨ ∃ m, len ≤ m ∧ m * 184 ∈ d.weights Try.prog 22) := by
  obtain ⟨fuel, hf⟩ := h
  rcases open_slice Try.underlying22 hf with ⟨hcs, _⟩ | ⟨x, len', cap', m, n, D, Pl, hcs, _, hl, hm, hmm, hx0, hx⟩
  · simp [Value.cells] at hcs
    obtain ⟨rfl, rfl, rfl⟩ := hcs
    exact ⟨[], ⟨rfl, ⟨_, _, rfl, fun i o ho => by cases ho⟩, fun i o ho => by cases ho⟩, .inl rfl⟩
  · simp [Value.cells] at hcs
    obtain ⟨rfl, rfl, rfl⟩ := hcs
    simp only [if_true] at hmm
    subst hmm
    have hy1 : d = .slice ((List.range len).map D) ((List.range (m - len)).map fun j => D (len + j)) := by
      simp only [Prod.mk.injEq] at hx0
      exact hx0.1
    have hwm : m * 184 ∈ DataW.weights (H := H) Try.prog 22 d := by
      rw [hy1]
      simp only [DataW.weights, Try.underlying22, bytesOp]
      refine List.mem_cons.2 (.inl ?_)
      simp
      omega
    have each : ∀ i, i < len → ∃ o : Ops, (∀ j u, (opC o)[j]? = some u → W.cell? (x.add (i * 15 + j)) = some u) ∧ o.n ≤ 9223372036854775807 := by
      intro i hi
      obtain ⟨cs', h1, h2⟩ := hx i (by omega)
      rw [cellsOp] at h1
      obtain ⟨_, hlen, hcell⟩ := World.cells?_some h1
      obtain ⟨o, rfl, ho⟩ := op_of hlen h2
      refine ⟨o, fun j u hu => ?_, ho⟩
      have hj := (List.getElem?_eq_some_iff.1 hu).1
      have e := hcell j (by rw [hlen] at hj; exact hj)
      rw [add_add] at e
      rw [e]
      simpa using hu
    haveI : Inhabited Ops := ⟨⟨0, 0, .empty, .empty, 0, 0, 0, 0, .empty, .empty, 0, none, 0, 0, .empty, .empty, false⟩⟩
    obtain ⟨q, hq⟩ := choose_lt each
    refine ⟨(List.range len).map q, ⟨by simp, ⟨_, _, rfl, fun i o ho => ?_⟩, fun i o ho => ?_⟩, .inr ⟨m, by omega, hwm⟩⟩
    · have hi := (List.getElem?_eq_some_iff.1 ho).1
      simp at hi
      rw [List.getElem?_map, List.getElem?_range hi] at ho
      obtain rfl : q i = o := Option.some.inj ho
      obtain ⟨b, off, spot⟩ := x
      have h0 := (hq i hi).1 0 _ rfl
      have hspot : spot = none := by simpa [Addr.add] using World.cell?_spot ((hq 0 (by omega)).1 0 _ rfl)
      subst hspot
      refine ⟨b, off, rfl, block_lt_of_cell (by rw [Addr.add_lit] at h0; exact h0), fun j u hu => ?_⟩
      have := (hq i hi).1 j u hu
      rw [Addr.add_lit] at this
      rw [Nat.add_assoc]
      exact this
    · have hi := (List.getElem?_eq_some_iff.1 ho).1
      simp at hi
      rw [List.getElem?_map, List.getElem?_range hi] at ho
      obtain rfl : q i = o := Option.some.inj ho
      exact (hq i hi).2
theorem laidOut : laidOutB Try.prog = true := by kernel_rfl
theorem sized_of {H : Type} {ts : List TypeId} {ds : List (DataW H)} (h : (DataW.weightsEach Try.prog ts ds).all (· ≤ reachBytes) = true) {j : Nat} {d : DataW H} {t : TypeId} {n : Nat} (ht : ts[j]? = some t) (hd : ds[j]? = some d) (hn : n ∈ d.weights Try.prog t) : n ≤ 140737488355328 := by
  have h1 := of_decide_eq_true (List.all_eq_true.1 h _ (DataW.weights_mem_each ht hd n hn))
  unfold reachBytes at h1
  omega

end Go.Proofs.Ytdgokfehgjkalaa.Wd
