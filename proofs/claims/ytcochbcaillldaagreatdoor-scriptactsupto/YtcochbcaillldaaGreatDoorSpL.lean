import Derived.Test.YtcochbcaillldaaGreatDoorSpH
import Derived.Test.YtcochbcaillldaaGreatDoorSpK
namespace Go.Proofs.YtcochbcaillldaaGreatDoor.Sc
open Go.RowKit Go.Lib Go.Deep

theorem wrL_ge (l : List UInt8) : l.length ≤ (wrL l).length := by
  induction l with
  | nil => simp
  | cons a t ih =>
    simp only [wrL, List.flatMap_cons, List.length_append, List.length_cons] at ih ⊢
    have : 1 ≤ (one a).length := by
      unfold one
      split <;> simp
    omega
theorem byL_ge (s : ByteArray) : s.size < (byL s).length := by
  have h := wrL_ge s.data.toList
  rw [size_eq]
  simp only [byL, List.length_cons]
  omega
theorem isE (s : ByteArray) : s.toList = [] ↔ s = nil_ := by
  rw [ByteArray.toList_eq]
  exact ⟨fun h => ByteArray.ext (by simpa [nil_] using h), fun h => by rw [h]; rfl⟩
/-- the two answers of a line, by their parts -/
theorem line_eq (o : OpR) (f : Fm) (nm sh : List UInt8) (hb : bare (shR f.wr o) o.kind = true ↔ namedR o sh = o)
    (h1 : (shG f.wr o (false, f.word.data.toList)).1 = true → 262144 < (lineL o nm sh).length)
    (h2 : (shG f.wr o (false, f.word.data.toList)).1 = false → (shG f.wr o (false, f.word.data.toList)).2 = lineL o nm sh) : lineW o f = refW o nm sh := by
  unfold lineW refW
  by_cases hn : namedR o sh = o
  · rw [if_neg (show ¬ (bare (shR f.wr o) o.kind = false) by simp [hb.2 hn]), if_neg (show ¬ (namedR o sh ≠ o) by simp [hn])]
    cases hc : (shG f.wr o (false, f.word.data.toList)).1
    · rw [h2 hc]
      simp
    · rw [if_pos (show true = true ∨ _ from Or.inl rfl), if_pos (h1 hc)]
  · have hf : bare (shR f.wr o) o.kind = false := by
      cases h : bare (shR f.wr o) o.kind
      · rfl
      · exact absurd (hb.1 h) hn
    rw [if_pos hf, if_pos hn]
theorem c112 (o : OpR) : ch1 o 112 = 32 :: byL o.path := by simp [ch1]
theorem c116 (o : OpR) : ch1 o 116 = 32 :: byL o.to := by simp [ch1]
theorem c100 (o : OpR) : ch1 o 100 = 32 :: byL o.data := by simp [ch1]
theorem c97 (o : OpR) : ch1 o 97 = 32 :: itoa o.at_ := by simp [ch1]
theorem c110 (o : OpR) : ch1 o 110 = 32 :: itoa o.n := by simp [ch1]
def kN (f : Fm) : Nat := f.kind.toNat
set_option maxHeartbeats 4000000 in
theorem forms_eq (o : OpR) (f : Fm) (hf : f ∈ opTab) (sh nm : ByteArray) (hsh : shapeL[kN f]? = some sh) (hnm : opsL[kN f]? = some nm) : lineW o f = refW o nm.data.toList sh.data.toList := by
  obtain ⟨kd, pa, to, a, n, da⟩ := o
  have hp := byL_ge pa
  have ht := byL_ge to
  have hd := byL_ge da
  unfold opTab at hf
  simp only [List.mem_cons, List.not_mem_nil, or_false] at hf
  rcases hf with rfl | rfl | rfl | rfl | rfl | rfl | rfl | rfl | rfl | rfl
  all_goals
    simp only [shapeL, opsL, kN, Int.toNat, List.getElem?_cons_succ, List.getElem?_cons_zero, Option.some.injEq] at hsh hnm
    subst hsh hnm
    refine line_eq _ _ _ _ ?_ ?_ ?_
    · simp [bare, shR, namedR, put1, zeroO, isE, nil_]
      try (rw [show (({ data := #[] } : ByteArray) = to) = (to = { data := #[] }) from propext eq_comm])
      try (rw [show (({ data := #[] } : ByteArray) = da) = (da = { data := #[] }) from propext eq_comm])
      try (rw [show ((0 : Int) = a) = (a = 0) from propext eq_comm])
      try (rw [show ((0 : Int) = n) = (n = 0) from propext eq_comm])
      try simp only [and_assoc]
    · by_cases hx : 262144 < pa.size <;> by_cases hy : 262144 < da.size <;> by_cases hz : 262144 < to.size <;> simp [shG, stB, stN, lineL, c112, c116, c100, c97, c110, hx, hy, hz] <;> omega
    · by_cases hx : 262144 < pa.size <;> by_cases hy : 262144 < da.size <;> by_cases hz : 262144 < to.size <;> simp [shG, stB, stN, lineL, c112, c116, c100, c97, c110, hx, hy, hz, nmL]
end Go.Proofs.YtcochbcaillldaaGreatDoor.Sc
