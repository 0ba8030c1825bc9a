import Derived.Test.YtbjiamaaocjbfaaDoorKoM
import Derived.Deep.Slices
import Derived.Deep.Strs
import Derived.WalkKit
import Derived.ProofKit
import Derived.OpenShut
import Derived.SizedLaws
namespace Go.Proofs.YtbjiamaaocjbfaaDoor.Kl
open Go.ChangeShapes Go.WideShapes Go.ChangeAt Go.RowKit Go.Deep Kr

theorem cellsR : Tryd.prog.cellsOf 24 = 2 := by kernel_rfl
theorem cellsS : Tryd.prog.cellsOf 26 = 3 := by kernel_rfl
theorem cellsL : Tryd.prog.cellsOf 22 = 1 := by kernel_rfl
theorem cells3i : Tryd.prog.cellsOf 3 = 1 := by kernel_rfl
theorem cells9s : Tryd.prog.cellsOf 9 = 1 := by kernel_rfl
theorem bytesS : Tryd.prog.bytesOf 26 = 40 := by kernel_rfl

set_option maxRecDepth 20000 in
/-- a ring as it was handed in -/
theorem ring_of {H : Type} {enc : TypeId × Value → H} {W : World} {base : Nat} {v : Value} {d : DataW H} {ps : List MemPlace} (hv : Value.okWide Tryd.prog W .any base 24 v) (h : DataW.Trod enc Tryd.prog W 0 (fun _ => true) true 24 v d ps) :
    ∃ (id : List UInt8) (a : Option Addr) (n cap : Nat) (ss : List Slot), v = .agg #[.string (str id), .slice a n cap] ∧ SeeS W (.slice a n cap) ss ∧ ss.length = n ∧ id.length ∈ d.weights Tryd.prog 24 ∧ (n = 0 ∨ ∃ m, n ≤ m ∧ m * 40 ∈ d.weights Tryd.prog 24) := by
  obtain ⟨cs, rfl, hcs⟩ := okWide_struct Tryd.underlying24 hv
  rw [cellsR] at hcs
  obtain ⟨x, y, rfl⟩ : ∃ x y, cs = #[x, y] := by
    obtain ⟨l⟩ := cs
    match l, hcs with
    | [x, y], _ => exact ⟨x, y, rfl⟩
  obtain ⟨fuel, hf⟩ := h
  obtain ⟨y0, y1, k, hxy, _, g0, g1⟩ := trod_struct2 Tryd.underlying24 hf
  simp [Value.cells, cells9s, cellsL] at g0 g1
  obtain ⟨s0, a0, b0, _⟩ := DataW.trod_string Tryd.underlying9 g0
  simp at a0
  subst a0
  simp only [Prod.mk.injEq] at hxy
  have hd := hxy.1
  subst hd
  have hw0 : s0.data.toList.length ∈ DataW.weights (H := H) Tryd.prog 24 (.agg [y0.1, y1.1]) := by
    rw [b0]
    simp [DataW.weights, Tryd.underlying24, DataW.weightsEach]
  refine ⟨s0.data.toList, ?_⟩
  rw [str_of]
  rcases open_slice Tryd.underlying22 g1 with ⟨hcs, _⟩ | ⟨z, len', cap', m, n, D, Pl, hcs, _, hl, hm, hmm, hx0, hx⟩
  · simp at hcs
    subst hcs
    exact ⟨none, 0, 0, [], rfl, ⟨none, 0, 0, 0, rfl, fun h => absurd rfl h, fun j u hu => by simp [ringCells] at hu⟩, rfl, hw0, .inl rfl⟩
  · simp at hcs
    subst hcs
    simp only [if_true] at hmm
    subst hmm
    have hy1 : y1.1 = .slice ((List.range len').map D) ((List.range (m - len')).map fun j => D (len' + j)) := by rw [hx0]
    have hwm : m * 40 ∈ DataW.weights (H := H) Tryd.prog 24 (.agg [y0.1, y1.1]) := by
      rw [hy1]
      simp only [DataW.weights, Tryd.underlying24]
      refine DataW.weights_mem_each (j := 1) (t := 22) rfl rfl _ ?_
      simp only [DataW.weights, Tryd.underlying22, bytesS]
      refine List.mem_cons.2 (.inl ?_)
      simp
      omega
    have each : ∀ i, i < len' → ∃ q : ByteArray × Int × ByteArray, W.cell? (z.add (i * 3)) = some (.string q.1) ∧ W.cell? (z.add (i * 3 + 1)) = some (.int .i64 q.2.1) ∧ W.cell? (z.add (i * 3 + 2)) = some (.string q.2.2) := by
      intro i hi
      obtain ⟨cs', h1, h2⟩ := hx i (by omega)
      rw [cellsS] at h1
      obtain ⟨_, hlen, hcell⟩ := World.cells?_some h1
      obtain ⟨xs, k, hk, hxy, _, hxl, hfl⟩ := DataW.trod_struct Tryd.underlying26 h2
      match xs, hxl, cs', hlen with
      | [y0, y1, y2], _, [v0, v1, v2], _ =>
        have g0 := hfl 0 _ rfl
        have g1 := hfl 1 _ rfl
        have g2 := hfl 2 _ rfl
        simp [cells3i, cells9s] at g0 g1 g2
        have e0 := hcell 0 (by omega)
        have e1 := hcell 1 (by omega)
        have e2 := hcell 2 (by omega)
        rw [add_add] at e0 e1 e2
        obtain ⟨i0, a0, _⟩ := DataW.trod_string Tryd.underlying9 g0
        obtain ⟨i1, a1, _⟩ := DataW.trod_int Tryd.underlying3 g1
        obtain ⟨i2, a2, _⟩ := DataW.trod_string Tryd.underlying9 g2
        simp at a0 a1 a2
        subst a0 a1 a2
        exact ⟨(i0, i1, i2), by simpa using e0, by simpa using e1, by simpa using e2⟩
    obtain ⟨q, hq⟩ := choose_lt each
    have hlen : ((List.range len').map fun i => (⟨(q i).1.data.toList, (q i).2.1, (q i).2.2.data.toList⟩ : Slot)).length = len' := by simp
    refine ⟨some z, len', m, (List.range len').map fun i => ⟨(q i).1.data.toList, (q i).2.1, (q i).2.2.data.toList⟩, rfl, ?_, hlen, hw0, .inr ⟨m, by omega, hwm⟩⟩
    by_cases h0 : len' = 0
    · subst h0
      exact ⟨some z, 0, 0, m, rfl, fun h => absurd rfl h, fun j u hu => by simp [ringCells] at hu⟩
    obtain ⟨b, off, spot⟩ := z
    have hspot : spot = none := by
      have h0 := (hq 0 (by omega)).1
      simpa [Addr.add] using World.cell?_spot h0
    subst hspot
    refine ⟨some ⟨b, off, none⟩, b, off, m, by rw [hlen], fun _ => ⟨rfl, ?_⟩, fun j u hu => ?_⟩
    · have h0 := (hq 0 (by omega)).1
      rw [Addr.add_lit] at h0
      exact block_lt_of_cell h0
    · have hj := (List.getElem?_eq_some_iff.1 hu).1
      rw [ringCells_length, hlen] at hj
      obtain ⟨c0, c1, c2⟩ := hq (j / 3) (by omega)
      obtain ⟨r0, r1, r2⟩ := ring_at ((List.range len').map fun i => (⟨(q i).1.data.toList, (q i).2.1, (q i).2.2.data.toList⟩ : Slot)) (j / 3) ⟨(q (j / 3)).1.data.toList, (q (j / 3)).2.1, (q (j / 3)).2.2.data.toList⟩ (by
        rw [List.getElem?_map, List.getElem?_range (by omega)]
        rfl)
      rw [Addr.add_lit] at c0 c1 c2
      rcases (by omega : j % 3 = 0 ∨ j % 3 = 1 ∨ j % 3 = 2) with hr | hr | hr
      · rw [show j / 3 * 3 = j by omega] at r0 c0
        rw [r0] at hu
        rw [c0, ← Option.some.inj hu, str_of]
      · rw [show j / 3 * 3 + 1 = j by omega] at r1 c1
        rw [r1] at hu
        rw [c1, ← Option.some.inj hu]
      · rw [show j / 3 * 3 + 2 = j by omega] at r2 c2
        rw [r2] at hu
        rw [c2, ← Option.some.inj hu, str_of]

/-- what came in is within reach -/
theorem sized_ring {H : Type} {ts : List TypeId} {ds : List (DataW H)} (h : (DataW.weightsEach Tryd.prog ts ds).all (· ≤ reachBytes) = true) {j : Nat} {d : DataW H} {t : TypeId} {n : Nat} (ht : ts[j]? = some t) (hd : ds[j]? = some d) (hn : n ∈ d.weights Tryd.prog t) : n ≤ 140737488351232 := by
  have h1 := of_decide_eq_true (List.all_eq_true.1 h _ (DataW.weights_mem_each ht hd n hn))
  unfold reachBytes at h1
  omega

end Go.Proofs.YtbjiamaaocjbfaaDoor.Kl
