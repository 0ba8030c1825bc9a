import Derived.Test.YtjjabkimmgcejaaDoorPasP
import Derived.OneCell
namespace Go.Proofs.YtjjabkimmgcejaaDoor
open Go.RowKit Go.Lib

/-- what the closure of chain has captured -/
structure Chn (w : World) (p q : Nat) (yi yo s : ByteArray) : Prop where
  key : w.heap[p]? = some (.cells #[.string yi, .string yo] 57 (0, 0))
  last : w.heap[q]? = some (.cells #[.string s] 9 (0, 0))

set_option maxRecDepth 20000 in
set_option maxHeartbeats 1000000 in
theorem chain_any (yi yo s : ByteArray) (w : World) :
    Calls Tryd.prog 38 #[.agg #[.string yi, .string yo], .string s] w fun e w' => e = .returned (.func (.func 49) #[] #[.pointer (some ⟨w.heap.size, 0, none⟩), .pointer (some ⟨w.heap.size + 1, 0, none⟩)]) ∧ Chn w' w.heap.size (w.heap.size + 1) yi yo s ∧ Below w.heap.size w w' := by
  go_enter Tryd.func38, Tryd.ntmps38
  go_wp2
  go_ret
  have h1 := heap_new (w.alloc (.cells #[.string yi, .string yo] 57)) (.cells #[.string s] 9)
  rw [show (w.alloc (.cells #[.string yi, .string yo] 57)).heap.size = w.heap.size + 1 by simp] at h1
  exact ⟨rfl, ⟨(Below.heap_alloc _ _ _ (by simp)).trans (heap_new _ _), h1⟩, ((Below.refl w.heap.size w).alloc (Nat.le_refl _) _).alloc (by simp) _⟩

set_option maxRecDepth 20000 in
set_option maxHeartbeats 1000000 in
theorem link_any (key s : ByteArray) (_hk : key.size ≤ 140737488351232) (hs : s.size ≤ 281474976710656) (p q : Nat) (w : World) (ht : Tabs w) (h4 : 4 ≤ w.heap.size) (hc : Chn w p q (str (innerL key.data.toList)) (str (outerL key.data.toList)) s) :
    Calls Tryd.prog 49 #[.pointer (some ⟨p, 0, none⟩), .pointer (some ⟨q, 0, none⟩)] w fun e w' => e = .returned (.string (str (hmacL key.data.toList s.data.toList))) ∧ Chn w' p q (str (innerL key.data.toList)) (str (outerL key.data.toList)) (str (hmacL key.data.toList s.data.toList)) ∧ Only [q] w w' := by
  have hb : Below w.heap.size w (w.alloc (.cells #[.string s] 9)) := (Below.refl _ _).alloc (Nat.le_refl _) _
  have hsum := ksum_any (str (innerL key.data.toList)) (str (outerL key.data.toList)) (by rw [str_size, outerL_length]; omega) (w.alloc (.cells #[.string s] 9)) (ht.below hb (by omega)) (by simp; omega) (some ⟨w.heap.size, 0, none⟩) 1 1 [s] (lst_one s w) (by intro h; cases h) (by omega) (by rw [joinL_one, ← size_eq, str_size, innerL_length]; omega)
  rw [str_data, str_data, joinL_one, show shaL (outerL key.data.toList ++ shaL (innerL key.data.toList ++ s.data.toList)) = hmacL key.data.toList s.data.toList from rfl] at hsum
  revert hsum hc
  generalize str (innerL key.data.toList) = yi
  generalize str (outerL key.data.toList) = yo
  generalize str (hmacL key.data.toList s.data.toList) = y
  intro hc hsum
  have x0 : w.cell? ⟨p, 0, none⟩ = some (.string yi) := by rw [cell_of_heap hc.key]; rfl
  have x1 : w.cell? ⟨p, 1, none⟩ = some (.string yo) := by rw [cell_of_heap hc.key]; rfl
  have x2 : w.cell? ⟨q, 0, none⟩ = some (.string s) := by rw [cell_of_heap hc.last]; rfl
  have hpq : p ≠ q := by
    rintro rfl
    have h1 := hc.key
    rw [hc.last] at h1
    simp at h1
  have hpl := heap_lt hc.key
  have hql := heap_lt hc.last
  go_enter Tryd.func49, Tryd.ntmps49
  go_wp2_with fail
  refine hsum.mono ?_
  clear hsum
  rintro e w2 ⟨rfl, hb2⟩
  have hb' : Below w.heap.size w w2 := hb.trans (hb2.mono hb.size)
  have l2 : w2.heap[q]? = some (.cells #[.string s] 9 (0, 0)) := (hb'.block q hql).trans hc.last
  have k2 : w2.heap[p]? = some (.cells #[.string yi, .string yo] 57 (0, 0)) := (hb'.block p hpl).trans hc.key
  have f0 : w2.frozen? ⟨q, 0, none⟩ = false := frozen_of_heap l2
  have c0 : w2.cell? ⟨q, 0, none⟩ = some (.string s) := by rw [cell_of_heap l2]; rfl
  have l3 : (w2.setCell ⟨q, 0, none⟩ (.string y)).heap[q]? = some (.cells #[.string y] 9 (0, 0)) := heap_setCell_same _ _ _ _ _ _ l2
  have c1 : (w2.setCell ⟨q, 0, none⟩ (.string y)).cell? ⟨q, 0, none⟩ = some (.string y) := by rw [cell_of_heap l3]; rfl
  have HC : Hid (Chn (w2.setCell ⟨q, 0, none⟩ (.string y)) p q yi yo y) := ⟨(Below.heap_setCell _ _ _ _ hpq).trans k2, l3⟩
  have HO : Hid (Only [q] w (w2.setCell ⟨q, 0, none⟩ (.string y))) := Only.setCell (S := [q]) ⟨hb'.os, hb'.tape, hb'.output, hb'.size, fun k hk _ => hb'.block k hk⟩ (by simp) _
  clear hb2 hb' hb l2 k2 l3 x0 x1 x2 hc
  go_wp2
  go_ret
  exact ⟨rfl, HC.out, HO.out⟩

end Go.Proofs.YtjjabkimmgcejaaDoor
