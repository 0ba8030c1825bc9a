import Derived.Test.YthmjjpaengackaaRlF
namespace Go.Proofs.Ythmjjpaengackaa.Po
open Go.RowKit Go.Lib Go.Deep

/-! a list of one's own, seen in part; written over -/
theorem see_take {w : World} {B e sz n cap : Nat} {A L : List Value} {g : Nat} (h : w.ownsRow B e sz (.slice (some ⟨g, 0, none⟩) (n + 1) cap) (n + 1) (A ++ L)) (hA : A.length = n * sz) (h1 : ∀ u ∈ A, u.oneCell' = true) : See w sz (.slice (some ⟨g, 0, none⟩) n cap) n A := by
  have hs := h.2
  rcases hs with ⟨q1, -⟩ | ⟨g', cap', cur, q1, q2, q3, q4, q5, q6, q7⟩
  · cases q1
  · injection q1 with e1 _ e3
    injection e1 with e1
    injection e1 with e1
    subst e1 e3
    refine ⟨hA, h1, _, _, rfl, by omega, fun e => (by cases e), fun _ => ⟨_, _, rfl, heap_lt q3, fun j u hu => ?_⟩⟩
    have hu2 : (A ++ L)[j]? = some u := by rw [List.getElem?_append_left (some_lt hu)]; exact hu
    rw [← q7, List.getElem?_take] at hu2
    split at hu2
    · rw [Array.getElem?_toList] at hu2
      rw [Nat.zero_add, cell_of_heap q3]
      exact hu2
    · cases hu2
theorem own_cap {w : World} {B e sz n cap g : Nat} {xs : List Value} (h : w.ownsRow B e sz (.slice (some ⟨g, 0, none⟩) n cap) n xs) : n ≤ cap := by
  rcases h.2 with ⟨q1, -⟩ | ⟨g', cap', cur, q1, q2, q3, q4, q5, q6, q7⟩
  · cases q1
  · injection q1 with _ _ e3
    omega
def behO : Ob := ⟨{ data := #[98, 101, 104, 105, 110, 100] }, e0, 0, 0⟩
def nilP : Value := .pointer none
/-- what lay leaves -/
structure LyP (W w : World) (bb : Nat) (f : Int) (R : List Ob) (Z : List Int) (e : Ending) (w' : World) : Prop where
  rt : e = .returned (.bool true)
  be : Below W.heap.size W w'
  on : Only [bb] w w'
  ex : ∃ p r, w'.heap[bb]? = some (.cells #[p, .pointer none, .pointer none, r, .pointer none, .pointer none, .slice none 0 0, .int .i64 0] 60 (0, 0)) ∧ (p = .pointer none ∨ ∃ pb q F, p = .pointer (some ⟨pb, 0, none⟩) ∧ Ok w' pb q F R.length ⟨f.toNat, R, Z.map Int.toNat⟩ ∧ Fits f.toNat R Z)
def wrO : Ob := ⟨{ data := #[119, 114, 105, 116, 116, 101, 110, 32, 111, 118, 101, 114] }, e0, 0, 1⟩
/-- a row is written over -/
theorem over_row {w0 w : World} {B g cap N : Nat} {l : List Ob} (hl : l.length = N) (h : w.ownsRow B 35 4 (.slice (some ⟨g, 0, none⟩) N cap) N (obsC l)) (ho : Only [g] w0 w) {k : Nat} (hk : k < N) :
    (∃ x0 x1 x2 x3, w.cell? ⟨g, k * 4, none⟩ = some (.string x0) ∧ w.cell? ⟨g, k * 4 + 1, none⟩ = some (.string x1) ∧ w.cell? ⟨g, k * 4 + 2, none⟩ = some (.int .i64 x2) ∧ w.cell? ⟨g, k * 4 + 3, none⟩ = some (.int .i64 x3)) ∧ (∀ j, w.frozen? ⟨g, j, none⟩ = false) ∧
    Hid ((l.set k wrO).length = N ∧ (put4 w g (k * 4) wrO).ownsRow B 35 4 (.slice (some ⟨g, 0, none⟩) N cap) N (obsC (l.set k wrO)) ∧ Only [g] w0 (put4 w g (k * 4) wrO)) := by
  obtain ⟨x, hx⟩ : ∃ x, l[k]? = some x := ⟨_, List.getElem?_eq_getElem (by omega)⟩
  have hc := fun j (hj : j < 4) => (h.cellAt (k * 4 + j) (by omega)).trans (flat_get obC 4 obC_len l k x hx j hj)
  obtain ⟨h1, h2⟩ := obs_put h hx wrO
  refine ⟨⟨_, _, _, _, hc 0 (by omega), hc 1 (by omega), hc 2 (by omega), hc 3 (by omega)⟩, fun j => h.frozenAt j, by simp [hl], h1, only_grown ho h2 (fun k hk => .inl ?_)⟩
  injection hk with hk
  simp [hk]
theorem over_int {w0 w : World} {B g cap N : Nat} {l : List Int} (hl : l.length = N) (h : w.ownsRow B 3 1 (.slice (some ⟨g, 0, none⟩) N cap) N (zsC l)) (ho : Only [g] w0 w) {k : Nat} (hk : k < N) :
    (∃ x, w.cell? ⟨g, k, none⟩ = some (.int .i64 x)) ∧ (∀ j, w.frozen? ⟨g, j, none⟩ = false) ∧
    Hid ((l.set k (-9)).length = N ∧ (w.setCell ⟨g, k, none⟩ (.int .i64 (-9))).ownsRow B 3 1 (.slice (some ⟨g, 0, none⟩) N cap) N (zsC (l.set k (-9))) ∧ Only [g] w0 (w.setCell ⟨g, k, none⟩ (.int .i64 (-9)))) := by
  obtain ⟨x, hx⟩ : ∃ x, l[k]? = some x := ⟨_, List.getElem?_eq_getElem (by omega)⟩
  have hc := (h.cellAt k (by omega)).trans (show (zsC l)[k]? = some (.int .i64 x) by unfold zsC; rw [List.getElem?_map, hx]; rfl)
  obtain ⟨h1, h2⟩ := h.stored k (.int .i64 (-9))
  have e : (zsC l).set k (.int .i64 (-9)) = zsC (l.set k (-9)) := by unfold zsC; rw [List.map_set]
  rw [e] at h1
  refine ⟨⟨_, hc⟩, fun j => h.frozenAt j, by simp [hl], h1, only_grown ho h2 (fun k hk => .inl ?_)⟩
  injection hk with hk
  simp [hk]
theorem lay_end {W w V8 V10 : World} {bb g h : Nat} {f : Int} {R : List Ob} {Z : List Int} (HBW : Below W.heap.size W w) (hbb : W.heap.size ≤ bb) (hk : w.heap[bb]? = some (.cells #[.pointer none, .pointer none, .pointer none, .pointer none, .pointer none, .pointer none, .slice none 0 0, .int .i64 0] 60 (0, 0))) (hb8 : Below w.heap.size w V8) (hg : w.heap.size ≤ g) (hh : w.heap.size ≤ h) (ho : Only [g, h] V8 V10) :
    V10.heap[bb]? = some (.cells #[.pointer none, .pointer none, .pointer none, .pointer none, .pointer none, .pointer none, .slice none 0 0, .int .i64 0] 60 (0, 0)) ∧
    ∀ p r, (p = .pointer none ∨ ∃ pb q F, p = .pointer (some ⟨pb, 0, none⟩) ∧ Ok V8 pb q F R.length ⟨f.toNat, R, Z.map Int.toNat⟩ ∧ Fits f.toNat R Z ∧ (∀ k, k ∈ F → k ≠ g ∧ k ≠ h ∧ w.heap.size ≤ k) ∧ pb ≠ g ∧ pb ≠ h ∧ w.heap.size ≤ pb) → LyP W w bb f R Z (.returned (.bool true)) ((V10.setCell ⟨bb, 0, none⟩ p).setCell ⟨bb, 3, none⟩ r) := by
  have hlt := heap_lt hk
  have hs8 := hb8.size
  have e10 : V10.heap[bb]? = some (.cells #[.pointer none, .pointer none, .pointer none, .pointer none, .pointer none, .pointer none, .slice none 0 0, .int .i64 0] 60 (0, 0)) := by
    rw [ho.block bb (by omega) (by simp; omega), hb8.block bb hlt]
    exact hk
  refine ⟨e10, fun p r hp => ?_⟩
  have hb10 : Below w.heap.size w V10 := hb8.trans (ho.below hs8 (fun k hk => by simp at hk; omega))
  have hne : ∀ k, k ≠ bb → ((V10.setCell ⟨bb, 0, none⟩ p).setCell ⟨bb, 3, none⟩ r).heap[k]? = V10.heap[k]? := fun k hk => (heap_setCell_other _ _ _ _ hk).trans (heap_setCell_other _ _ _ _ hk)
  have hon : Only [bb] w ((V10.setCell ⟨bb, 0, none⟩ p).setCell ⟨bb, 3, none⟩ r) := (only_below (Only.refl _ _) hb10).trans ((only_set p).trans (only_set r))
  refine ⟨rfl, ?_, hon, p, r, ?_, ?_⟩
  · exact HBW.trans (hon.below HBW.size (fun k hk => by simp at hk; omega))
  · have h1 := heap_setCell_same _ _ 0 _ _ p e10
    have h2 := heap_setCell_same _ _ 3 _ _ r h1
    exact h2
  · rcases hp with hp | ⟨pb, q, F, rfl, hok, hft, hF, h1, h2, h3⟩
    · exact .inl hp
    · refine .inr ⟨pb, q, F, rfl, ⟨?_, hok.lay.keep fun k hk => ?_, hok.good, hok.nn⟩, hft⟩
      · show _ = _
        rw [hne pb (by omega), ho.block pb (heap_lt hok.top) (by simp; omega)]
        exact hok.top
      · have := hF k hk
        rw [hne k (by omega), ho.block k (hok.lay.lt k hk) (by simp; omega)]
end Go.Proofs.Ythmjjpaengackaa.Po
