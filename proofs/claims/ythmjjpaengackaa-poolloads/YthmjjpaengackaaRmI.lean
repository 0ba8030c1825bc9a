import Derived.Test.YthmjjpaengackaaRlI
namespace Go.Proofs.Ythmjjpaengackaa.Po
open Go.ChangeShapes Go.WideShapes Go.ChangeAt Go.RowKit Go.Deep

theorem bytesOb : Try.prog.bytesOf 35 = 48 := by kernel_rfl
theorem bytesIn : Try.prog.bytesOf 3 = 8 := by kernel_rfl
set_option maxRecDepth 40000 in
theorem slice_w {H : Type} {enc : TypeId × Value → H} {W : World} {t e : TypeId} {bytes : Nat} {a : Option Addr} {len cap : Nat} {y : DataW H × List MemPlace} {fuel : Nat} (ht : Try.prog.underlying t = some (.slice e)) (hb : Try.prog.bytesOf e = bytes) (hf : DataW.trod enc Try.prog W 0 (fun _ => true) true fuel t [.slice a len cap] = some y) :
    len = 0 ∨ ∃ m, len ≤ m ∧ m * bytes ∈ y.1.weights Try.prog t := by
  rcases open_slice ht hf with ⟨hcs, _⟩ | ⟨x, len', cap', m, n, D, Pl, hcs, _, hl, hm, hmm, hx0, hx⟩
  · simp at hcs
    exact .inl hcs.2.1
  · simp at hcs
    obtain ⟨rfl, rfl, rfl⟩ := hcs
    simp only [if_true] at hmm
    subst hmm
    refine .inr ⟨_, hl, ?_⟩
    rw [hx0]
    simp only [DataW.weights, ht, hb]
    refine List.mem_cons.2 (.inl ?_)
    simp only [List.length_map, List.length_range]
    rw [Nat.add_sub_of_le hl]
set_option maxRecDepth 40000 in
/-- a state as it was handed in, within reach -/
theorem stateW_of {H : Type} {enc : TypeId × Value → H} {W : World} {base : Nat} {v : Value} {d : DataW H} {ps : List MemPlace} (hv : Value.okWide Try.prog W .any base 29 v) (h : DataW.Trod enc Try.prog W 0 (fun _ => true) true 29 v d ps) :
    ∃ R Z, Sd W v R Z ∧ (∀ (k : Nat) o, R[k]? = some o → o.nm.size ≤ maxLen ∧ o.tg.size ≤ maxLen) ∧ (R.length = 0 ∨ ∃ m, R.length ≤ m ∧ m * 48 ∈ d.weights Try.prog 29) ∧ (Z.length = 0 ∨ ∃ m, Z.length ≤ m ∧ m * 8 ∈ d.weights Try.prog 29) := by
  obtain ⟨cs, rfl, hcs⟩ := okWide_struct Try.underlying29 hv
  rw [cellsPs] at hcs
  obtain ⟨x, y, rfl⟩ : ∃ x y, cs = #[x, y] := by
    obtain ⟨l⟩ := cs
    match l, hcs with
    | [x, y], _ => exact ⟨x, y, rfl⟩
  obtain ⟨fuel, hf⟩ := h
  obtain ⟨y0, y1, k, hxy, _, g0, g1⟩ := trod_struct2 Try.underlying29 hf
  simp [Value.cells, cellsOs, cellsIs] at g0 g1
  obtain ⟨R, s1, s2, s3⟩ := obs_of g0
  obtain ⟨Z, t1, t2⟩ := ints_of g1
  simp only [Prod.mk.injEq] at hxy
  have hd := hxy.1
  subst hd
  refine ⟨R, Z, ⟨_, _, rfl, s1, t1⟩, s2, ?_, ?_⟩
  · obtain ⟨a, c, rfl⟩ := s1.form
    rcases slice_w Try.underlying27 bytesOb g0 with h0 | ⟨m, h1, h2⟩
    · exact .inl h0
    · refine .inr ⟨m, h1, ?_⟩
      simp only [DataW.weights, Try.underlying29]
      exact DataW.weights_mem_each (j := 0) (t := 27) rfl rfl _ h2
  · obtain ⟨a, c, rfl⟩ := t1.form
    rcases slice_w Try.underlying23 bytesIn g1 with h0 | ⟨m, h1, h2⟩
    · exact .inl h0
    · refine .inr ⟨m, h1, ?_⟩
      simp only [DataW.weights, Try.underlying29]
      exact DataW.weights_mem_each (j := 1) (t := 23) rfl rfl _ h2
end Go.Proofs.Ythmjjpaengackaa.Po
