import Derived.Test.YtcochbcaillldaaGreatDoorSpL
namespace Go.Proofs.YtcochbcaillldaaGreatDoor.Sc
open Go.RowKit Go.Lib Go.Deep

theorem tab_kinds (f : Fm) (hf : f ∈ opTab) : 1 ≤ f.kind ∧ f.kind ≤ 10 ∧ f.kind = (kN f : Int) ∧ (∃ sh, shapeL[kN f]? = some sh) ∧ opsL[kN f]? = some f.word := by
  unfold opTab at hf
  simp only [List.mem_cons, List.not_mem_nil, or_false] at hf
  rcases hf with rfl | rfl | rfl | rfl | rfl | rfl | rfl | rfl | rfl | rfl
  all_goals exact ⟨by decide, by decide, rfl, ⟨_, rfl⟩, rfl⟩
theorem tab_all (k : Int) (h1 : 1 ≤ k) (h2 : k ≤ 10) : ∃ f ∈ opTab, f.kind = k := by
  have h : k = 1 ∨ k = 2 ∨ k = 3 ∨ k = 4 ∨ k = 5 ∨ k = 6 ∨ k = 7 ∨ k = 8 ∨ k = 9 ∨ k = 10 := by omega
  unfold opTab
  rcases h with rfl | rfl | rfl | rfl | rfl | rfl | rfl | rfl | rfl | rfl <;> simp
theorem tab_one (f g : Fm) (hf : f ∈ opTab) (hg : g ∈ opTab) (h : f.kind = g.kind) : f = g := by
  unfold opTab at hf hg
  simp only [List.mem_cons, List.not_mem_nil, or_false] at hf hg
  rcases hf with rfl | rfl | rfl | rfl | rfl | rfl | rfl | rfl | rfl | rfl <;> rcases hg with rfl | rfl | rfl | rfl | rfl | rfl | rfl | rfl | rfl | rfl <;> first | rfl | (exfalso; revert h; decide)
/-- the answer of both: a text and a code -/
def Ans (o : OpR) (x : ByteArray) (c : Int) : Prop := 0 ≤ c ∧ c < 1000 ∧
  (∀ w, ITab w → Calls Tryz.prog 17 #[o.val] w fun e w' => e = .returned (.tuple #[.string x, .int .i64 c]) ∧ Below w.heap.size w w') ∧
  ∀ w, ITab w → Calls Tryz.prog 29 #[o.val] w fun e w' => e = .returned (.tuple #[.string x, .int .i64 c]) ∧ Below w.heap.size w w'
theorem prints_same (o : OpR) (hok : o.Ok) : ∃ x c, Ans o x c := by
  by_cases hin : 1 ≤ o.kind ∧ o.kind ≤ 10
  · obtain ⟨f, hf, hk⟩ := tab_all o.kind hin.1 hin.2
    obtain ⟨h1, h10, hkn, ⟨sh, hsh⟩, hnm⟩ := tab_kinds f hf
    have he := forms_eq o f hf sh f.word hsh hnm
    have hx : ∃ x c, (0 : Int) ≤ c ∧ c < 1000 ∧ lineW o f = .tuple #[.string x, .int .i64 c] := by
      unfold lineW
      split
      · exact ⟨_, _, by decide, by decide, rfl⟩
      · split
        · exact ⟨_, _, by decide, by decide, rfl⟩
        · exact ⟨_, _, by decide, by decide, rfl⟩
    obtain ⟨x, c, c0, c1, hv⟩ := hx
    refine ⟨x, c, c0, c1, fun w ht => (printOp_any o hok w ht).mono ?_, fun w ht => (rPrint_any o hok (kN f) (by omega) (by rw [← hk, hkn]) sh f.word hsh hnm w ht).mono ?_⟩
    · rintro e w' ⟨hout, hb⟩
      refine ⟨?_, hb⟩
      rcases hout with ⟨hno, -⟩ | ⟨g, hg, hgk, rfl⟩
      · exact absurd hk (hno f hf)
      · rw [tab_one g f hg hf (hgk.trans hk.symm), hv]
    · rintro e w' ⟨rfl, hb⟩
      exact ⟨by rw [← he, hv], hb⟩
  · refine ⟨{ data := #[] }, 222, by decide, by decide, fun w ht => (printOp_any o hok w ht).mono ?_, fun w _ => rPrint_out o (by omega) w⟩
    rintro e w' ⟨hout, hb⟩
    refine ⟨?_, hb⟩
    rcases hout with ⟨-, rfl⟩ | ⟨g, hg, hgk, rfl⟩
    · rfl
    · have := tab_kinds g hg
      omega
end Go.Proofs.YtcochbcaillldaaGreatDoor.Sc
