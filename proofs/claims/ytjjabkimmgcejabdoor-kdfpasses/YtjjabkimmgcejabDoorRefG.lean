import Derived.Test.YtjjabkimmgcejabDoorRefT
namespace Go.Proofs.YtjjabkimmgcejabDoor
open Go.RowKit Go.Lib Go.Deep


set_option maxRecDepth 20000 in
set_option maxHeartbeats 1000000 in
theorem rsum_any (s : ByteArray) (hs : s.size ≤ 281474976710656) (w : World) (hr : RTabs w) (h4 : 4 ≤ w.heap.size) :
    Calls Tryd.prog 24 #[.string s] w fun e w' => e = .returned (.string (str (shaL s.data.toList))) ∧ Below w.heap.size w w' := by
  have hl : s.data.toList.length = s.size := (size_eq s).symm
  have hend : (str (endL s.size)).size ≤ 200 := by rw [str_size]; simp [endL, zeros, be8]; omega
  have hadd : s.size + (str (endL s.size)).size ≤ 9223372036854775807 := by omega
  have hcat : (s ++ str (endL s.size)).data.toList = s.data.toList ++ endL s.data.toList.length := by rw [ByteArray.data_append, Array.toList_append, str_data, hl]
  have hcs : (s ++ str (endL s.size)).size ≤ 4611686018427387904 := by rw [size_eq, hcat, List.length_append, hl, ← str_size]; omega
  have HS : Hid (shaL s.data.toList = wtext (eat first (s ++ str (endL s.size)).data.toList).1) := by show _ = _; rw [hcat]; rfl
  have hok := eat_OK first (s ++ str (endL s.size)).data.toList first_OK
  have hbl := rblocks_any first first_OK (s ++ str (endL s.size)) hcs
  have hta := fun W => tail_any s.size (by omega) W
  have hfi := rfirst_any
  revert HS hok hbl
  generalize (eat first (s ++ str (endL s.size)).data.toList).1 = st
  intro HS hok hbl
  have hto := told_any st hok
  have hst := esize st
  have hone := eone st
  have H8 : Hid ((i64s st.list).size = 8) := e8 st
  revert hbl hto hst hone H8
  generalize i64s st.list = C
  intro hbl hto hst hone H8
  revert hfi hbl
  generalize i64s first.list = C1
  intro hfi hbl
  revert hta hbl hadd
  generalize str (endL s.size) = y
  intro hadd hta hbl
  clear hcat hcs hok hend
  go_enter Tryd.func24, Tryd.ntmps24
  go_wp2_with fail
  refine (hfi w).mono ?_
  rintro e w1 ⟨rfl, hb1⟩
  have z1 := hb1.size
  go_wp2_with fail
  refine (hta w1).mono ?_
  rintro e w2 ⟨rfl, hb2'⟩
  have hb2 := hb1.trans (hb2'.mono z1)
  clear hb1 hb2'
  have z2 := hb2.size
  go_wp2_with fail
  refine (hbl w2 (hr.below hb2 h4) (by omega)).mono ?_
  rintro e w3 ⟨rfl, hb3'⟩
  have hb3 := hb2.trans (hb3'.mono z2)
  clear hb2 hb3'
  have z3 := hb3.size
  have hth : ∀ z : Array Value, z.size = 8 → (w3.alloc (.cells z 54)).there w3.heap.size 0 C.size := fun z hz => there_of_heap (heap_new _ _) (by rw [H8.out, hz]; decide)
  have hr2 : ∀ z : Array Value, z.size = 8 → ((w3.alloc (.cells z 54)).setCells w3.heap.size 0 C.toList).heap[w3.heap.size]? = some (.cells C 54 (0, 0)) := fun z hz => by
    have h := heap_setCells w3.heap.size 54 C.toList 0 z _ (heap_new w3 (.cells z 54))
    rw [setMany_all _ _ (by rw [hz, Array.length_toList, H8.out]), Array.toArray_toList] at h
    exact h
  have hbz : ∀ z : Array Value, Below w.heap.size w ((w3.alloc (.cells z 54)).setCells w3.heap.size 0 C.toList) := fun z => Below.setCells (hb3.alloc z3 _) z3 _ _
  go_wp2_with (first | (refine wpList_store_mid rfl 54 (.tmp 3) (.tmp 10) rfl w3.heap.size 0 C rfl rfl (hth _ rfl) hst hone ?_) | (refine wpList_load_row rfl 54 (.tmp 3) rfl w3.heap.size rfl 54 _ (0, 0) _ (hr2 _ rfl) Tryd.underlying54 rfl hst ?_) | (go_at_call 32; refine (hto _).mono ?_; rintro e w4 ⟨rfl, hb4⟩))
  go_ret
  rw [HS.out]
  exact ⟨rfl, (hbz _).trans (hb4.mono (hbz _).size)⟩

end Go.Proofs.YtjjabkimmgcejabDoor
