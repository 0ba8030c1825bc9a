import Derived.Test.YtpjigcccjiidpaaExIa
import Derived.Test.YtpjigcccjiidpaaScrX
namespace Go.Proofs.Ytpjigcccjiidpaa.Ex
open Go.ChangeShapes Go.WideShapes Go.ChangeAt Go.RowKit Go.Deep

theorem cellsBo : Try.prog.cellsOf 47 = 5 := by kernel_rfl
theorem bytesBo : Try.prog.bytesOf 47 = 48 := by kernel_rfl
theorem boC_one (e : Bo) : ∀ u ∈ boC e, u.oneCell' = true := fun u hu => by
  rcases List.mem_cons.1 hu with rfl | hu
  · rfl
  · exact edC_one e.ed u hu
set_option maxRecDepth 40000 in
set_option maxHeartbeats 1000000 in
theorem bo_of {H : Type} {enc : TypeId × Value → H} {W : World} {cs : List Value} {y : DataW H × List MemPlace} {fuel : Nat} (hl : cs.length = 5) (h2 : DataW.trod enc Try.prog W 0 (fun _ => true) true fuel 47 cs = some y) : ∃ o : Bo, cs = boC o ∧ EdW o.ed := by
  obtain ⟨xs, k, hk, hxy, _, hxl, hfl⟩ := DataW.trod_struct Try.underlying47 h2
  match xs, hxl, cs, hl with
  | [y0, y1], _, [v0, v1, v2, v3, v4], _ =>
    have g0 := hfl 0 _ rfl
    have g1 := hfl 1 _ rfl
    simp [cells4b, cellsEd] at g0 g1
    obtain ⟨i0, a0, _⟩ := DataW.trod_bool Try.underlying4 g0
    obtain ⟨o, ho, hw⟩ := ed_of (by rfl) g1
    simp at a0
    subst a0
    exact ⟨⟨i0, o⟩, by unfold boC; rw [← ho], hw⟩
set_option maxRecDepth 40000 in
/-- edits of two files as they were handed in -/
theorem bos_of {H : Type} {enc : TypeId × Value → H} {W : World} {a : Option Addr} {len cap : Nat} {d : DataW H} {ps : List MemPlace} (h : DataW.Trod enc Try.prog W 0 (fun _ => true) true 43 (.slice a len cap) d ps) :
    ∃ A : List Bo, See W 5 (.slice a len cap) len (bosC A) ∧ A.length = len ∧ (∀ e ∈ A, EdW e.ed) ∧ (len = 0 ∨ ∃ m, len ≤ m ∧ m * 48 ∈ d.weights Try.prog 43) := by
  obtain ⟨fuel, hf⟩ := h
  rcases open_slice Try.underlying43 hf with ⟨hcs, _⟩ | ⟨x, len', cap', m, n, D, Pl, hcs, _, hl, hm, hmm, hx0, hx⟩
  · simp [Value.cells] at hcs
    obtain ⟨rfl, rfl, rfl⟩ := hcs
    exact ⟨[], see_nil _ _, rfl, fun e he => (by cases he), .inl rfl⟩
  · simp [Value.cells] at hcs
    obtain ⟨rfl, rfl, rfl⟩ := hcs
    simp only [if_true] at hmm
    subst hmm
    have hy1 : d = .slice ((List.range len).map D) ((List.range (m - len)).map fun j => D (len + j)) := by
      simp only [Prod.mk.injEq] at hx0
      exact hx0.1
    have hwm : m * 48 ∈ DataW.weights (H := H) Try.prog 43 d := by
      rw [hy1]
      simp only [DataW.weights, Try.underlying43, bytesBo]
      refine List.mem_cons.2 (.inl ?_)
      simp
      omega
    have each : ∀ i, i < len → ∃ o : Bo, (∀ j u, (boC o)[j]? = some u → W.cell? (x.add (i * 5 + j)) = some u) ∧ EdW o.ed := by
      intro i hi
      obtain ⟨cs', h1, h2⟩ := hx i (by omega)
      rw [cellsBo] at h1
      obtain ⟨_, hlen, hcell⟩ := World.cells?_some h1
      obtain ⟨o, rfl, ho⟩ := bo_of hlen h2
      refine ⟨o, fun j u hu => ?_, ho⟩
      have hj := (List.getElem?_eq_some_iff.1 hu).1
      have e := hcell j (by rw [hlen] at hj; exact hj)
      rw [add_add] at e
      rw [e]
      simpa using hu
    haveI : Inhabited Bo := ⟨⟨false, ⟨false, 0, 0, []⟩⟩⟩
    obtain ⟨q, hq⟩ := choose_lt each
    have hget : ∀ i o, ((List.range len).map q)[i]? = some o → i < len ∧ q i = o := fun i o ho => by
      have hi := (List.getElem?_eq_some_iff.1 ho).1
      simp at hi
      rw [List.getElem?_map, List.getElem?_range hi] at ho
      exact ⟨hi, Option.some.inj ho⟩
    refine ⟨(List.range len).map q, ?_, by simp, fun e he => ?_, .inr ⟨m, by omega, hwm⟩⟩
    · refine see_in (by decide) (by omega) (by show (List.flatMap boC _).length = _; rw [flat_len boC 5 boC_len]; simp) (fun u hu => ?_) (fun j u hu => ?_)
      · obtain ⟨n, _, h⟩ := List.mem_flatMap.1 hu
        exact boC_one n u h
      · obtain ⟨o, ho, hu'⟩ := flat_inv boC 5 (by decide) boC_len _ j u hu
        obtain ⟨hi, rfl⟩ := hget _ _ ho
        have := (hq _ hi).1 _ _ hu'
        rw [Nat.div_add_mod'] at this
        exact this
    · obtain ⟨i, hi⟩ := List.mem_iff_getElem?.1 he
      obtain ⟨h1, rfl⟩ := hget _ _ hi
      exact (hq i h1).2
end Go.Proofs.Ytpjigcccjiidpaa.Ex
