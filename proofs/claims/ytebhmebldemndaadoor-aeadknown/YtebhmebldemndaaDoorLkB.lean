import Derived.Test.YtebhmebldemndaaDoorLkA
import Derived.Test.YtebhmebldemndaaDoorAe6A
import Derived.Test.YtebhmebldemndaaDoorChaM
import Derived.Test.YtebhmebldemndaaDoorPolM
namespace Go.Proofs.YtebhmebldemndaaDoor.Ae
open Go.RowKit Go.Lib Go.Deep
open Cha (CTabs)

theorem sizeLock : (Tryd.prog.info? 44).map (·.size) = some 2 := by kernel_rfl

set_option maxRecDepth 20000 in
theorem lockOf_no (key nonce : ByteArray) (_hk : key.size ≤ 9223372036854775807) (_hn : nonce.size ≤ 9223372036854775807) (h : ¬ (key.size = 32 ∧ (nonce.size = 12 ∨ nonce.size = 24))) (w : World) :
    Calls Tryd.prog 25 #[.string key, .string nonce] w fun e w' => e = .returned (.tuple #[.agg #[.string { data := #[] }, .string { data := #[] }], .int .i64 (askN key nonce)]) ∧ Below w.heap.size w w' := by
  unfold askN
  by_cases h1 : key.size = 32
  · have i1 : (key.size : Int) = 32 := by omega
    have i2 : ¬ (nonce.size : Int) = 12 := by omega
    have i3 : ¬ (nonce.size : Int) = 24 := by omega
    rw [if_neg (by omega), if_pos (by omega)]
    go_enter Tryd.func25, Tryd.ntmps25
    go_wp2
    refine bodyPost_ret (Pol.results_cell_tmp rfl _ _ w.heap.size 44 _ (0, 0) _ rfl (heap_new _ _) Tryd.underlying44 rfl sizeLock) rfl ?_
    exact ⟨rfl, (Below.refl _ _).alloc (Nat.le_refl _) _⟩
  · have i1 : ¬ (key.size : Int) = 32 := by omega
    rw [if_pos (by omega)]
    go_enter Tryd.func25, Tryd.ntmps25
    go_wp2
    refine bodyPost_ret (Pol.results_cell_tmp rfl _ _ w.heap.size 44 _ (0, 0) _ rfl (heap_new _ _) Tryd.underlying44 rfl sizeLock) rfl ?_
    exact ⟨rfl, (Below.refl _ _).alloc (Nat.le_refl _) _⟩
set_option maxRecDepth 20000 in
theorem lockOf_12 (key nonce : ByteArray) (hk : key.size = 32) (hn : nonce.size = 12) (w : World) :
    Calls Tryd.prog 25 #[.string key, .string nonce] w fun e w' => e = .returned (.tuple #[.agg #[.string key, .string nonce], .int .i64 0]) ∧ Below w.heap.size w w' := by
  have i1 : (key.size : Int) = 32 := by omega
  have i2 : (nonce.size : Int) = 12 := by omega
  go_enter Tryd.func25, Tryd.ntmps25
  go_wp2
  refine bodyPost_ret (Pol.results_cell_tmp rfl _ _ w.heap.size 44 _ (0, 0) _ rfl (heap_new _ _) Tryd.underlying44 rfl sizeLock) rfl ?_
  exact ⟨rfl, (Below.refl _ _).alloc (Nat.le_refl _) _⟩
set_option maxRecDepth 20000 in
theorem lockOf_24 (key nonce : ByteArray) (hk : key.size = 32) (hn : nonce.size = 24) (w : World) (hT : ATabs w) :
    Calls Tryd.prog 25 #[.string key, .string nonce] w fun e w' => e = .returned (.tuple #[.agg #[.string (str (Cha.hchL key.data.toList (nonce.data.toList.take 16))), .string (str ([0, 0, 0, 0] ++ nonce.data.toList.drop 16))], .int .i64 0]) ∧ Below w.heap.size w w' := by
  have i1 : (key.size : Int) = 32 := by omega
  have i2 : (nonce.size : Int) = 24 := by omega
  have hl : nonce.data.toList.length = 24 := by rw [← size_eq]; exact hn
  have hb0 : Below w.heap.size w (w.alloc (.cells #[.string { data := #[] }, .string { data := #[] }] 44)) := (Below.refl _ _).alloc (Nat.le_refl _) _
  have hh := fun W (k1 : CTabs W) k2 => Cha.hch_yes key (nonce.extract 0 16) hk (by simp; omega) W k1 k2
  rw [show (nonce.extract 0 16).data.toList = nonce.data.toList.take 16 by rw [extract_data, List.drop_zero]] at hh
  have hcat : ({ data := #[0, 0, 0, 0] } : ByteArray) ++ nonce.extract 16 24 = str ([0, 0, 0, 0] ++ nonce.data.toList.drop 16) := by
    rw [← str_of (({ data := #[0, 0, 0, 0] } : ByteArray) ++ _), ByteArray.data_append, Array.toList_append, extract_data, List.take_of_length_le (by rw [List.length_drop]; omega)]
  generalize str (Cha.hchL key.data.toList (nonce.data.toList.take 16)) = yk at hh ⊢
  generalize str ([0, 0, 0, 0] ++ nonce.data.toList.drop 16) = yn at hcat ⊢
  go_enter Tryd.func25, Tryd.ntmps25
  go_wp2_with fail
  refine (hh _ (hT.below hb0).c (hT.below hb0).s).mono ?_
  rintro e w1 ⟨rfl, hb1⟩
  have hA : w1.heap[w.heap.size]? = some (.cells #[.string { data := #[] }, .string { data := #[] }] 44 (0, 0)) := (hb1.block _ (by simp)).trans (heap_new _ _)
  have c0 : w1.cell? ⟨w.heap.size, 0, none⟩ = some (.string { data := #[] }) := (cell_of_heap hA).trans rfl
  have c1 : w1.cell? ⟨w.heap.size, 1, none⟩ = some (.string { data := #[] }) := (cell_of_heap hA).trans rfl
  have f0 : w1.frozen? ⟨w.heap.size, 0, none⟩ = false := frozen_of_heap hA
  have f1 : w1.frozen? ⟨w.heap.size, 1, none⟩ = false := frozen_of_heap hA
  go_wp2
  have e0 := heap_setCell_same w1 _ 0 _ _ (.string yk) hA
  have e1 : ((w1.setCell ⟨w.heap.size, 0, none⟩ (.string yk)).setCell ⟨w.heap.size, 1, none⟩ (.string yn)).heap[w.heap.size]? = some (.cells #[.string yk, .string yn] 44 (0, 0)) := heap_setCell_same _ _ 1 _ _ (.string yn) e0
  refine bodyPost_ret (Pol.results_cell_tmp rfl _ _ w.heap.size 44 _ (0, 0) _ rfl e1 Tryd.underlying44 rfl sizeLock) rfl ?_
  exact ⟨rfl, ((hb0.trans (hb1.mono (by simp))).setCell (Nat.le_refl _) _).setCell (Nat.le_refl _) _⟩

end Go.Proofs.YtebhmebldemndaaDoor.Ae
