import Derived.Test.YtjjabkimmgcejaaDoorKdfA
import Derived.Lib.AppendZerosOnto
import Derived.Deep.RegionHeldLaw
namespace Go.Proofs.YtjjabkimmgcejaaDoor
open Go.RowKit Go.Lib Go.Deep

theorem innerS (key : ByteArray) (h : key.size ≤ 64) : maskL 54 (fill64 key.data.toList) = innerL key.data.toList := by
  rw [innerL, k64, if_pos (by rw [← size_eq]; exact h)]
theorem outerS (key : ByteArray) (h : key.size ≤ 64) : maskL 92 (fill64 key.data.toList) = outerL key.data.toList := by
  rw [outerL, k64, if_pos (by rw [← size_eq]; exact h)]
theorem k64_long (key : List UInt8) (h : 64 < key.length) : k64 (shaL key) = k64 key := by
  rw [k64, k64, if_pos (by rw [shaL_length]; omega), if_neg (by omega)]

theorem size2 : (Tryd.prog.info? 57).map (·.size) = some 2 := by kernel_rfl

set_option maxRecDepth 20000 in
set_option maxHeartbeats 1000000 in
theorem blocksOf_any (key : ByteArray) (hk : key.size < 576460752303423488) (w : World) (ht : Tabs w) (h4 : 4 ≤ w.heap.size) :
    Calls Tryd.prog 30 #[.string key] w fun e w' => e = .returned (.agg #[.string (str (innerL key.data.toList)), .string (str (outerL key.data.toList))]) ∧ Below w.heap.size w w' := by
  have hbA : ∀ z, Below w.heap.size w (w.alloc (.cells z 57)) := fun z => (Below.refl _ _).alloc (Nat.le_refl _) _
  by_cases hlen : key.size ≤ 64
  · have hle : ¬ (64 : Int) < (key.size : Int) := by omega
    have hi := fun W => masked_any key hlen 54 W
    have ho := fun W => masked_any key hlen 92 W
    rw [innerS key hlen] at hi
    rw [outerS key hlen] at ho
    revert hi ho
    generalize str (innerL key.data.toList) = yi
    generalize str (outerL key.data.toList) = yo
    intro hi ho
    go_enter Tryd.func30, Tryd.ntmps30
    obtain ⟨zz, hzz, hh1, hb1⟩ : ∃ zz : Array Value, zz.size = 2 ∧ (w.alloc (.cells #[.string { data := #[] }, .string { data := #[] }] 57)).heap[w.heap.size]? = some (.cells zz 57 (0, 0)) ∧ Below w.heap.size w (w.alloc (.cells #[.string { data := #[] }, .string { data := #[] }] 57)) := ⟨_, rfl, heap_new _ _, hbA _⟩
    go_wp2_with fail
    refine (hi _).mono ?_
    rintro e w2 ⟨rfl, hb2⟩
    go_wp2_with fail
    refine (ho _).mono ?_
    rintro e w3 ⟨rfl, hb3⟩
    have hh3 : w3.heap[w.heap.size]? = some (.cells zz 57 (0, 0)) := (hb3.block _ (Nat.lt_of_lt_of_le (heap_lt hh1) hb2.size)).trans ((hb2.block _ (heap_lt hh1)).trans hh1)
    have hbel : Below w.heap.size w w3 := (hb1.trans (hb2.mono hb1.size)).trans (hb3.mono (Nat.le_trans hb1.size hb2.size))
    have hth : w3.there w.heap.size 0 (#[Value.string yi, .string yo] : Array Value).size := there_of_heap hh3 (by rw [hzz]; exact Nat.le_refl 2)
    have hone : (#[Value.string yi, .string yo] : Array Value).all (·.oneCell') = true := all_oneCell_toArray (cs := [Value.string yi, .string yo]) (strCells_one [yi, yo])
    have hr2 := heap_setCells w.heap.size 57 [Value.string yi, .string yo] 0 _ _ hh3
    rw [setMany_all _ _ (by rw [hzz]; rfl)] at hr2
    have HR : Hid ((w3.setCells w.heap.size 0 [Value.string yi, .string yo]).heap[w.heap.size]? = some (.cells #[Value.string yi, .string yo] 57 (0, 0))) := hr2
    clear hr2 hh3 hh1 hb1 hb2 hb3 hi ho
    go_wp2_with (refine wpList_store_mid rfl 57 (.tmp 2) (.tmp 13) rfl w.heap.size 0 #[Value.string yi, .string yo] rfl rfl hth size2 hone ?_)
    refine bodyPost_ret (results_cell_row rfl _ _ w.heap.size 57 _ (0, 0) _ rfl HR.out Tryd.underlying57 rfl size2) rfl ?_
    exact ⟨rfl, Below.setCells hbel (Nat.le_refl _) _ _⟩
  · have hle : (64 : Int) < (key.size : Int) := by omega
    have hl : (key.data.toList).length = key.size := (size_eq key).symm
    have hs32 : (str (shaL key.data.toList)).size ≤ 64 := by rw [str_size, shaL_length]; omega
    have hi := fun W => masked_any (str (shaL key.data.toList)) hs32 54 W
    have ho := fun W => masked_any (str (shaL key.data.toList)) hs32 92 W
    have hk1 : fill64 (str (shaL key.data.toList)).data.toList = fill64 (k64 key.data.toList) := by rw [str_data, k64, if_neg (by omega)]
    rw [hk1] at hi ho
    have hi : ∀ W, Calls Tryd.prog 42 #[.string (str (shaL key.data.toList)), .int .u8 ((54 : UInt8).toNat : Int)] W fun e w' => e = .returned (.string (str (innerL key.data.toList))) ∧ Below W.heap.size W w' := hi
    have ho : ∀ W, Calls Tryd.prog 42 #[.string (str (shaL key.data.toList)), .int .u8 ((92 : UInt8).toNat : Int)] W fun e w' => e = .returned (.string (str (outerL key.data.toList))) ∧ Below W.heap.size W w' := ho
    have hsu := sum_one key (w.alloc (.cells #[.string { data := #[] }, .string { data := #[] }] 57)) (ht.below (hbA _) (by omega)) (by simp; omega) hk
    clear hk1 hs32
    revert hi ho hsu
    generalize str (innerL key.data.toList) = yi
    generalize str (outerL key.data.toList) = yo
    generalize str (shaL key.data.toList) = ky
    intro hi ho hsu
    simp only [World.size_alloc] at hsu
    go_enter Tryd.func30, Tryd.ntmps30
    go_wp2_with fail
    refine hsu.mono ?_
    rintro e w1 ⟨rfl, hb1'⟩
    obtain ⟨zz, hzz, hh1, hb1⟩ : ∃ zz : Array Value, zz.size = 2 ∧ w1.heap[w.heap.size]? = some (.cells zz 57 (0, 0)) ∧ Below w.heap.size w w1 := ⟨_, rfl, (hb1'.block _ (by simp)).trans (heap_new _ _), (hbA _).trans (hb1'.mono (by simp))⟩
    clear hb1' hsu
    go_wp2_with fail
    refine (hi _).mono ?_
    rintro e w2 ⟨rfl, hb2⟩
    go_wp2_with fail
    refine (ho _).mono ?_
    rintro e w3 ⟨rfl, hb3⟩
    have hh3 : w3.heap[w.heap.size]? = some (.cells zz 57 (0, 0)) := (hb3.block _ (Nat.lt_of_lt_of_le (heap_lt hh1) hb2.size)).trans ((hb2.block _ (heap_lt hh1)).trans hh1)
    have hbel : Below w.heap.size w w3 := (hb1.trans (hb2.mono hb1.size)).trans (hb3.mono (Nat.le_trans hb1.size hb2.size))
    have hth : w3.there w.heap.size 0 (#[Value.string yi, .string yo] : Array Value).size := there_of_heap hh3 (by rw [hzz]; exact Nat.le_refl 2)
    have hone : (#[Value.string yi, .string yo] : Array Value).all (·.oneCell') = true := all_oneCell_toArray (cs := [Value.string yi, .string yo]) (strCells_one [yi, yo])
    have hr2 := heap_setCells w.heap.size 57 [Value.string yi, .string yo] 0 _ _ hh3
    rw [setMany_all _ _ (by rw [hzz]; rfl)] at hr2
    have HR : Hid ((w3.setCells w.heap.size 0 [Value.string yi, .string yo]).heap[w.heap.size]? = some (.cells #[Value.string yi, .string yo] 57 (0, 0))) := hr2
    clear hr2 hh3 hh1 hb1 hb2 hb3 hi ho
    go_wp2_with (refine wpList_store_mid rfl 57 (.tmp 2) (.tmp 13) rfl w.heap.size 0 #[Value.string yi, .string yo] rfl rfl hth size2 hone ?_)
    refine bodyPost_ret (results_cell_row rfl _ _ w.heap.size 57 _ (0, 0) _ rfl HR.out Tryd.underlying57 rfl size2) rfl ?_
    exact ⟨rfl, Below.setCells hbel (Nat.le_refl _) _ _⟩

end Go.Proofs.YtjjabkimmgcejaaDoor
