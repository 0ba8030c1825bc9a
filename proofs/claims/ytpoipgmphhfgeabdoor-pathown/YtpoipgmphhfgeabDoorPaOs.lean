import Derived.Test.YtpoipgmphhfgeabDoorPaLn
namespace Go.Proofs.YtpoipgmphhfgeabDoor.Pa
open Go.RowKit Go.Lib

theorem below_grown {w w' : World} (h : Below w.heap.size w w') (row : Option Nat) : w.grownBy w' row := ⟨h.os, h.tape, h.output, h.size, fun k hk _ => h.block k hk⟩
theorem sc_set (L : List ByteArray) (k : Nat) (y : ByteArray) : sc (L.set k y) = (sc L).set k (.string y) := by
  unfold sc
  rw [List.map_set]
/-- a text of a list of the call's own is written over -/
theorem Own.set {w : World} {B : Nat} {v : Value} {L : List ByteArray} (h : Own w B v L) {k : Nat} {x : ByteArray} (hk : L[k]? = some x) (y : ByteArray) :
    ∃ g c, v = .slice (some ⟨g, 0, none⟩) L.length c ∧ B ≤ g ∧ L.length ≤ c ∧ w.cell? ⟨g, k, none⟩ = some (.string x) ∧ w.frozen? ⟨g, k, none⟩ = false ∧ Own (w.setCell ⟨g, k, none⟩ (.string y)) B v (L.set k y) ∧ w.grownBy (w.setCell ⟨g, k, none⟩ (.string y)) (some g) := by
  have hkl := (List.getElem?_eq_some_iff.1 hk).1
  obtain ⟨h1, h2⟩ := h
  rcases h2 with ⟨_, h0⟩ | ⟨g, cap, cur, rfl, hb, hg, hn, hc, hs, ht⟩
  · omega
  · refine ⟨g, cap, rfl, hb, hn, ?_, frozen_of_heap hg, ?_, ?_⟩
    · have hu := sc_at L k x hk
      rw [← ht, List.getElem?_take, if_pos (by omega), Array.getElem?_toList] at hu
      rw [cell_of_heap hg]
      exact hu
    · have hl : (L.set k y).length = L.length := by simp
      unfold Own
      rw [hl]
      refine ⟨by rw [sc_length]; omega, .inr ⟨g, cap, cur.setIfInBounds k (.string y), rfl, hb, heap_setCell_same w g k cur 9 _ hg, hn, hc, by simpa using hs, ?_⟩⟩
      rw [sc_set, ← ht, Array.toList_setIfInBounds, List.take_set]
    · exact ⟨rfl, rfl, rfl, by simp, fun j hj hne => heap_setCell_other w ⟨g, k, none⟩ j _ (fun e => hne (by rw [e]))⟩
theorem Own.kept {w w' : World} {B : Nat} {v : Value} {L : List ByteArray} {row : Option Nat} (h : Own w B v L) (hg : w.grownBy w' row) (hne : v.ownBlock = none ∨ v.ownBlock ≠ row) : Own w' B v L := World.ownsRow.kept h hg hne
/-- lists of the call's own, one made behind the other, lie in blocks of their own -/
theorem own_apart {w1 w2 : World} {B1 B2 : Nat} {v1 v2 : Value} {L1 L2 : List ByteArray} (h1 : Own w1 B1 v1 L1) (h2 : Own w2 B2 v2 L2) (hB : w1.heap.size ≤ B2) : v2.ownBlock = none ∨ v2.ownBlock ≠ v1.ownBlock := by
  cases hv : v2.ownBlock with
  | none => exact .inl rfl
  | some g =>
    right
    intro e
    have a := (World.ownsRow.lt h2 g hv).1
    have b := (World.ownsRow.lt h1 g e.symm).2
    omega
theorem own_apart' {w1 w2 : World} {B1 B2 : Nat} {v1 v2 : Value} {L1 L2 : List ByteArray} (h1 : Own w1 B1 v1 L1) (h2 : Own w2 B2 v2 L2) (hB : w1.heap.size ≤ B2) : v1.ownBlock = none ∨ v1.ownBlock ≠ v2.ownBlock := by
  cases hv : v1.ownBlock with
  | none => exact .inl rfl
  | some g =>
    right
    intro e
    have a := (World.ownsRow.lt h2 g e.symm).1
    have b := (World.ownsRow.lt h1 g hv).2
    omega
/-- the first k texts written over -/
def ovr (y : ByteArray) (k : Nat) (L : List ByteArray) : List ByteArray := List.replicate k y ++ L.drop k
theorem wr_len (y : ByteArray) (k : Nat) (L : List ByteArray) (h : k ≤ L.length) : (ovr y k L).length = L.length := by simp [ovr]; omega
theorem wr_at (y : ByteArray) (k : Nat) (L : List ByteArray) (h : k < L.length) : (ovr y k L)[k]? = some L[k] := by
  unfold ovr
  rw [List.getElem?_append_right (by simp), List.length_replicate, Nat.sub_self, List.getElem?_drop, Nat.add_zero]
  exact List.getElem?_eq_getElem h
theorem wr_set (y : ByteArray) (k : Nat) (L : List ByteArray) (h : k < L.length) : (ovr y k L).set k y = ovr y (k + 1) L := by
  unfold ovr
  rw [List.set_append_right _ _ (by simp), List.length_replicate, Nat.sub_self, List.drop_eq_getElem_cons h, List.set_cons_zero, List.replicate_succ', List.append_assoc]
  rfl
theorem wr_all (y : ByteArray) (L : List ByteArray) {n : Nat} (h : L.length = n) : ovr y n L = List.replicate n y := by
  unfold ovr
  rw [List.drop_of_length_le (by omega), List.append_nil]
theorem Below.of_grown {w w' : World} {B g : Nat} (h : w.grownBy w' (some g)) (hB : B ≤ w.heap.size) (hg : B ≤ g) : Below B w w' := ⟨h.os, h.tape, h.output, h.size, fun k hk => h.block k (by omega) (by intro e; injection e with e; omega)⟩
end Go.Proofs.YtpoipgmphhfgeabDoor.Pa
