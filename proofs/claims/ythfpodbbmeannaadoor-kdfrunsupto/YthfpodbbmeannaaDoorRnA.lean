import Derived.Test.YthfpodbbmeannaaDoorRmA
import Derived.Test.YthfpodbbmeannaaDoorScrA
namespace Go.Proofs.YthfpodbbmeannaaDoor
open Go.RowKit Go.Lib

def upd {α : Type} (f : Nat → α) (j : Nat) (x : α) : Nat → α := fun i => if i = j then x else f i
theorem upd_same {α : Type} (f : Nat → α) (j : Nat) (x : α) : upd f j x j = x := by simp [upd]
theorem upd_other {α : Type} (f : Nat → α) (j i : Nat) (x : α) (h : i ≠ j) : upd f j x i = f i := by simp [upd, h]

theorem ne_of_types {w : World} {a b : Nat} {c1 c2 : Array Value} {t1 t2 : TypeId} {f1 f2 : Nat × Nat} (h1 : w.heap[a]? = some (.cells c1 t1 f1)) (h2 : w.heap[b]? = some (.cells c2 t2 f2)) (ht : t1 ≠ t2) : a ≠ b := by
  rintro rfl
  rw [h1] at h2
  cases h2
  exact ht rfl

/-- two places with a pointer each -/
def ptr2 (P : Nat → Nat) : Array Value := #[.pointer (some ⟨P 0, 0, none⟩), .pointer (some ⟨P 1, 0, none⟩)]
theorem ptr2_at (P : Nat → Nat) (j : Nat) (hj : j < 2) : (ptr2 P)[j]? = some (.pointer (some ⟨P j, 0, none⟩)) := by
  rcases (show j = 0 ∨ j = 1 by omega) with rfl | rfl <;> rfl
theorem ptr2_set (P : Nat → Nat) (j x : Nat) (hj : j < 2) : (ptr2 P).setIfInBounds j (.pointer (some ⟨x, 0, none⟩)) = ptr2 (upd P j x) := by
  rcases (show j = 0 ∨ j = 1 by omega) with rfl | rfl <;> rfl

/-- what KdfRuns holds: two places with Macs of the program's own, two with the reference's -/
structure Rn (w wr : World) (A B : Nat) (P Q : Nat → Nat) (k t k' u : Nat → ByteArray) (n : Nat) : Prop where
  own : wr.heap[A]? = some (.cells (ptr2 P) 34 (0, 0))
  ref : wr.heap[B]? = some (.cells (ptr2 Q) 37 (0, 0))
  mc : ∀ j, j < 2 → Mc wr (P j) (k j).data.toList (t j).data.toList
  rm : ∀ j, j < 2 → Rm wr (Q j) (k' j) (u j)
  ks : ∀ j, j < 2 → (k j).size ≤ 1048576 ∧ (k' j).size ≤ 1048576 ∧ (t j).size ≤ n ∧ (u j).size ≤ n
  pd : P 0 ≠ P 1
  qd : Q 0 ≠ Q 1
  bs : w.heap.size ≤ A ∧ w.heap.size ≤ B ∧ ∀ j, j < 2 → w.heap.size ≤ P j ∧ w.heap.size ≤ Q j
  bel : Below w.heap.size w wr

section
variable {w wr w1 : World} {A B : Nat} {P Q : Nat → Nat} {k t k' u : Nat → ByteArray} {n : Nat}
theorem Rn.ownAt (h : Rn w wr A B P Q k t k' u n) (j : Nat) (hj : j < 2) : wr.cell? ⟨A, j, none⟩ = some (.pointer (some ⟨P j, 0, none⟩)) := (cell_of_heap h.own).trans (ptr2_at P j hj)
theorem Rn.refAt (h : Rn w wr A B P Q k t k' u n) (j : Nat) (hj : j < 2) : wr.cell? ⟨B, j, none⟩ = some (.pointer (some ⟨Q j, 0, none⟩)) := (cell_of_heap h.ref).trans (ptr2_at Q j hj)
theorem Rn.pne (h : Rn w wr A B P Q k t k' u n) (i j : Nat) (hi : i < 2) (hj : j < 2) (hij : i ≠ j) : P i ≠ P j := by
  have := h.pd
  rcases (show i = 0 ∧ j = 1 ∨ i = 1 ∧ j = 0 by omega) with ⟨rfl, rfl⟩ | ⟨rfl, rfl⟩
  · exact this
  · exact this.symm
theorem Rn.qne (h : Rn w wr A B P Q k t k' u n) (i j : Nat) (hi : i < 2) (hj : j < 2) (hij : i ≠ j) : Q i ≠ Q j := by
  have := h.qd
  rcases (show i = 0 ∧ j = 1 ∨ i = 1 ∧ j = 0 by omega) with ⟨rfl, rfl⟩ | ⟨rfl, rfl⟩
  · exact this
  · exact this.symm
theorem Rn.A_B (h : Rn w wr A B P Q k t k' u n) : A ≠ B := ne_of_types h.own h.ref (by decide)
theorem Rn.P_A (h : Rn w wr A B P Q k t k' u n) (j : Nat) (hj : j < 2) : P j ≠ A := ne_of_types (h.mc j hj).heap h.own (by decide)
theorem Rn.P_B (h : Rn w wr A B P Q k t k' u n) (j : Nat) (hj : j < 2) : P j ≠ B := ne_of_types (h.mc j hj).heap h.ref (by decide)
theorem Rn.Q_A (h : Rn w wr A B P Q k t k' u n) (j : Nat) (hj : j < 2) : Q j ≠ A := ne_of_types (h.rm j hj) h.own (by decide)
theorem Rn.Q_B (h : Rn w wr A B P Q k t k' u n) (j : Nat) (hj : j < 2) : Q j ≠ B := ne_of_types (h.rm j hj) h.ref (by decide)
theorem Rn.P_Q (h : Rn w wr A B P Q k t k' u n) (i j : Nat) (hi : i < 2) (hj : j < 2) : P i ≠ Q j := ne_of_types (h.mc i hi).heap (h.rm j hj) (by decide)

theorem Rn.below (h : Rn w wr A B P Q k t k' u n) (hb : Below wr.heap.size wr w1) : Rn w w1 A B P Q k t k' u n :=
  ⟨(hb.block _ (heap_lt h.own)).trans h.own, (hb.block _ (heap_lt h.ref)).trans h.ref, fun j hj => (h.mc j hj).below hb (h.mc j hj).lt, fun j hj => (h.rm j hj).below hb (h.rm j hj).lt, h.ks, h.pd, h.qd, h.bs, h.bel.trans (hb.mono h.bel.size)⟩

theorem Rn.wroteOwn (h : Rn w wr A B P Q k t k' u n) (j : Nat) (hj : j < 2) (s : ByteArray) (m : Mc w1 (P j) (k j).data.toList ((t j).data.toList ++ s.data.toList)) (o : Only [P j] wr w1) : Rn w w1 A B P Q k (upd t j (t j ++ s)) k' u (n + s.size) := by
  refine ⟨(o.block _ (heap_lt h.own) (by have := h.P_A j hj; simp; omega)).trans h.own, (o.block _ (heap_lt h.ref) (by have := h.P_B j hj; simp; omega)).trans h.ref, fun i hi => ?_, fun i hi => (h.rm i hi).only o (by have := h.P_Q j i hj hi; simp; omega), fun i hi => ?_, h.pd, h.qd, h.bs, h.bel.trans (o.below h.bel.size (by have := (h.bs.2.2 j hj).1; simp; omega))⟩
  · by_cases hij : i = j
    · subst hij
      rw [upd_same, ByteArray.data_append, Array.toList_append]
      exact m
    · rw [upd_other _ _ _ _ hij]
      exact (h.mc i hi).only o (by have := h.pne i j hi hj hij; simp; omega)
  · obtain ⟨h1, h2, h3, h4⟩ := h.ks i hi
    refine ⟨h1, h2, ?_, by omega⟩
    by_cases hij : i = j
    · subst hij
      rw [upd_same, ByteArray.size_append]
      omega
    · rw [upd_other _ _ _ _ hij]
      omega
theorem Rn.wroteRef (h : Rn w wr A B P Q k t k' u n) (j : Nat) (hj : j < 2) (s : ByteArray) (m : Rm w1 (Q j) (k' j) (u j ++ s)) (o : Only [Q j] wr w1) (hn : (u j).size + s.size ≤ n) : Rn w w1 A B P Q k t k' (upd u j (u j ++ s)) n := by
  refine ⟨(o.block _ (heap_lt h.own) (by have := h.Q_A j hj; simp; omega)).trans h.own, (o.block _ (heap_lt h.ref) (by have := h.Q_B j hj; simp; omega)).trans h.ref, fun i hi => (h.mc i hi).only o (by have := h.P_Q i j hi hj; simp; omega), fun i hi => ?_, fun i hi => ?_, h.pd, h.qd, h.bs, h.bel.trans (o.below h.bel.size (by have := (h.bs.2.2 j hj).2; simp; omega))⟩
  · by_cases hij : i = j
    · subst hij
      rw [upd_same]
      exact m
    · rw [upd_other _ _ _ _ hij]
      exact (h.rm i hi).only o (by have := h.qne i j hi hj hij; simp; omega)
  · obtain ⟨h1, h2, h3, h4⟩ := h.ks i hi
    refine ⟨h1, h2, h3, ?_⟩
    by_cases hij : i = j
    · subst hij
      rw [upd_same, ByteArray.size_append]
      omega
    · rw [upd_other _ _ _ _ hij]
      omega

theorem Rn.newOwn (h : Rn w wr A B P Q k t k' u n) (j : Nat) (hj : j < 2) (s : ByteArray) (hs : s.size ≤ 1048576) {p : Nat} (hp : ∀ i, i < 2 → P i ≠ p) (hpb : w.heap.size ≤ p) (m : Mc wr p s.data.toList []) : Rn w (wr.setCell ⟨A, j, none⟩ (.pointer (some ⟨p, 0, none⟩))) A B (upd P j p) Q (upd k j s) (upd t j { data := #[] }) k' u n := by
  have hpA : p ≠ A := ne_of_types m.heap h.own (by decide)
  have hk : ∀ b, b ≠ A → (wr.setCell ⟨A, j, none⟩ (.pointer (some ⟨p, 0, none⟩))).heap[b]? = wr.heap[b]? := fun b hb => Below.heap_setCell _ _ _ _ (by simp; omega)
  refine ⟨?_, (hk B (fun e => h.A_B e.symm)).trans h.ref, fun i hi => ?_, fun i hi => ?_, fun i hi => ?_, ?_, h.qd, ⟨h.bs.1, h.bs.2.1, fun i hi => ?_⟩, h.bel.setCell h.bs.1 _⟩
  · have e := heap_setCell_same _ _ j _ _ (.pointer (some ⟨p, 0, none⟩)) h.own
    rw [ptr2_set P j p hj] at e
    exact e
  · by_cases hij : i = j
    · subst hij
      rw [upd_same, upd_same, upd_same]
      exact m.kept (hk p hpA)
    · rw [upd_other _ _ _ _ hij, upd_other _ _ _ _ hij, upd_other _ _ _ _ hij]
      exact (h.mc i hi).kept (hk _ (h.P_A i hi))
  · exact (hk _ (h.Q_A i hi)).trans (h.rm i hi)
  · obtain ⟨h1, h2, h3, h4⟩ := h.ks i hi
    by_cases hij : i = j
    · subst hij
      rw [upd_same, upd_same]
      exact ⟨hs, h2, by simp [ByteArray.size], h4⟩
    · rw [upd_other _ _ _ _ hij, upd_other _ _ _ _ hij]
      exact ⟨h1, h2, h3, h4⟩
  · rcases (show j = 0 ∨ j = 1 by omega) with rfl | rfl
    · rw [upd_same, upd_other _ _ _ _ (by omega)]
      exact fun e => hp 1 (by omega) e.symm
    · rw [upd_same, upd_other _ _ _ _ (by omega)]
      exact hp 0 (by omega)
  · by_cases hij : i = j
    · subst hij
      rw [upd_same]
      exact ⟨hpb, (h.bs.2.2 i hi).2⟩
    · rw [upd_other _ _ _ _ hij]
      exact h.bs.2.2 i hi
theorem Rn.newRef (h : Rn w wr A B P Q k t k' u n) (j : Nat) (hj : j < 2) (s : ByteArray) (hs : s.size ≤ 1048576) {p : Nat} (hp : ∀ i, i < 2 → Q i ≠ p) (hpb : w.heap.size ≤ p) (m : Rm wr p s { data := #[] }) : Rn w (wr.setCell ⟨B, j, none⟩ (.pointer (some ⟨p, 0, none⟩))) A B P (upd Q j p) k t (upd k' j s) (upd u j { data := #[] }) n := by
  have hpB : p ≠ B := ne_of_types m h.ref (by decide)
  have hk : ∀ b, b ≠ B → (wr.setCell ⟨B, j, none⟩ (.pointer (some ⟨p, 0, none⟩))).heap[b]? = wr.heap[b]? := fun b hb => Below.heap_setCell _ _ _ _ (by simp; omega)
  refine ⟨(hk A h.A_B).trans h.own, ?_, fun i hi => ?_, fun i hi => ?_, fun i hi => ?_, h.pd, ?_, ⟨h.bs.1, h.bs.2.1, fun i hi => ?_⟩, h.bel.setCell h.bs.2.1 _⟩
  · have e := heap_setCell_same _ _ j _ _ (.pointer (some ⟨p, 0, none⟩)) h.ref
    rw [ptr2_set Q j p hj] at e
    exact e
  · exact (h.mc i hi).kept (hk _ (h.P_B i hi))
  · by_cases hij : i = j
    · subst hij
      rw [upd_same, upd_same, upd_same]
      exact (hk p hpB).trans m
    · rw [upd_other _ _ _ _ hij, upd_other _ _ _ _ hij, upd_other _ _ _ _ hij]
      exact (hk _ (h.Q_B i hi)).trans (h.rm i hi)
  · obtain ⟨h1, h2, h3, h4⟩ := h.ks i hi
    by_cases hij : i = j
    · subst hij
      rw [upd_same, upd_same]
      exact ⟨h1, hs, h3, by simp [ByteArray.size]⟩
    · rw [upd_other _ _ _ _ hij, upd_other _ _ _ _ hij]
      exact ⟨h1, h2, h3, h4⟩
  · rcases (show j = 0 ∨ j = 1 by omega) with rfl | rfl
    · rw [upd_same, upd_other _ _ _ _ (by omega)]
      exact fun e => hp 1 (by omega) e.symm
    · rw [upd_same, upd_other _ _ _ _ (by omega)]
      exact hp 0 (by omega)
  · by_cases hij : i = j
    · subst hij
      rw [upd_same]
      exact ⟨(h.bs.2.2 i hi).1, hpb⟩
    · rw [upd_other _ _ _ _ hij]
      exact h.bs.2.2 i hi
end

end Go.Proofs.YthfpodbbmeannaaDoor
