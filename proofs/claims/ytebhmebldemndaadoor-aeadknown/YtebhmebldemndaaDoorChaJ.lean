import Derived.Test.YtebhmebldemndaaDoorChaI
namespace Go.Proofs.YtebhmebldemndaaDoor.Cha
open Go.RowKit Go.Lib Go.Deep

set_option maxRecDepth 20000 in
set_option maxHeartbeats 1000000 in
theorem streamState_any (key nonce : ByteArray) (c : Nat) (hk : key.size = 32) (hn : nonce.size = 12) (hc : c < 4294967296) (w : World) (hT : CTabs w) (h3 : 4 ≤ w.heap.size) :
    Calls Tryd.prog 31 #[.string key, .int .i64 (c : Int), .string nonce] w fun e w' => e = .returned (.agg (u32s (streamL key.data.toList c nonce.data.toList))) ∧ Below w.heap.size w w' := by
  have hcv : (c : Int) % 4294967296 = (c : Int) := by omega
  have htx := fun W b (hb : b < W.heap.size) hr => textOf_any [c] (fun x hx => by rw [List.mem_singleton.1 hx]; exact hc) (by simp) b 1 W hb hr
  have HT1 : Hid (textL [c] = bytes4 c) := by show _ = _; simp [textL]
  rw [HT1.out] at htx
  have d1 : (str (bytes4 c) ++ nonce).data.toList = bytes4 c ++ nonce.data.toList := by rw [ByteArray.data_append, Array.toList_append, str_data]
  have s1 : (str (bytes4 c)).size = 4 := by rw [str_size]; rfl
  have hst := fun W hT h3 => stateOf_any key (str (bytes4 c) ++ nonce) hk (by rw [size_eq, d1, List.length_append, ← size_eq]; show 4 + _ = _; omega) W hT h3
  rw [d1] at hst
  have a1 : (str (bytes4 c)).size + nonce.size ≤ 9223372036854775807 := by omega
  have HL : Hid (streamL key.data.toList c nonce.data.toList = stateL key.data.toList (bytes4 c ++ nonce.data.toList)) := rfl
  have hlen := (stateL_st key.data.toList (bytes4 c ++ nonce.data.toList)).len
  rw [HL.out]
  clear d1 s1 HT1 HL
  revert htx hst a1 hlen
  generalize stateL key.data.toList (bytes4 c ++ nonce.data.toList) = sf
  generalize str (bytes4 c) = y1
  intro htx hst a1 hlen
  have hsz : (Tryd.prog.info? 54).map (·.size) = some (u32s sf).size := by rw [u32s_size, hlen]; exact sizeSt
  have hone : (u32s sf).all (·.oneCell') = true := all_oneCell_toArray (u32L_one _)
  go_enter Tryd.func31, Tryd.ntmps31
  go_wp2_with fail
  have HA : ((w.alloc (.cells (u32s (pad16 [])) 54)).alloc (.cells #[.int .u32 (c : Int)] 52)).heap[w.heap.size]? = some (.cells (u32s (pad16 [])) 54 (0, 0)) := by
    rw [Below.heap_alloc _ _ _ (by simp)]
    exact heap_new _ _
  have HR : ((w.alloc (.cells (u32s (pad16 [])) 54)).alloc (.cells #[.int .u32 (c : Int)] 52)).heap[w.heap.size + 1]? = some (.cells #[.int .u32 (c : Int)] 52 (0, 0)) := by
    have h := heap_new (w.alloc (.cells (u32s (pad16 [])) 54)) (.cells #[.int .u32 (c : Int)] 52)
    simpa using h
  have HB : Below w.heap.size w ((w.alloc (.cells (u32s (pad16 [])) 54)).alloc (.cells #[.int .u32 (c : Int)] 52)) := ((Below.refl _ _).alloc (Nat.le_refl _) _).alloc (by simp) _
  have hz16 : (u32s (pad16 [])).size = 16 := rfl
  have hrng := range_of_heap (pre := []) (mid := u32L [c]) (post := []) HR rfl
  refine (htx _ (w.heap.size + 1) (by simp) hrng).mono ?_
  rintro e w1 ⟨rfl, hb1⟩
  have hb1' : Below ((w.alloc (.cells (u32s (pad16 [])) 54)).alloc (.cells #[.int .u32 (c : Int)] 52)).heap.size ((w.alloc (.cells (u32s (pad16 [])) 54)).alloc (.cells #[.int .u32 (c : Int)] 52)) w1 := hb1
  have hb01 : Below w.heap.size w w1 := HB.trans (hb1'.mono HB.size)
  have hr1 := (hb1'.block _ (heap_lt HA)).trans HA
  clear HA HR HB hb1 hb1' htx hrng
  have z1 := hb01.size
  have hst1 := hst w1 (hT.below hb01 h3) (by omega)
  clear hst
  obtain ⟨Z, hZ⟩ : ∃ Z, u32s (pad16 []) = Z := ⟨_, rfl⟩
  rw [hZ] at hr1 hz16
  clear hZ
  go_wp2_with fail
  refine hst1.mono ?_
  rintro e w2 ⟨rfl, hb2⟩
  have hb02 := hb01.trans (hb2.mono z1)
  have hr2 := (hb2.block _ (heap_lt hr1)).trans hr1
  clear hst1 hr1 hb01 hb2
  have hth : w2.there w.heap.size 0 (u32s sf).size := there_of_heap hr2 (by rw [u32s_size, hlen, hz16]; decide)
  have hr := heap_setCells w.heap.size 54 (u32s sf).toList 0 _ _ hr2
  rw [setMany_all _ _ (by rw [Array.length_toList, u32s_size, hlen, hz16]), Array.toArray_toList] at hr
  have HRR : Hid ((w2.setCells w.heap.size 0 (u32s sf).toList).heap[w.heap.size]? = some (.cells (u32s sf) 54 (0, 0))) := hr
  clear hr hr2
  go_wp2_with (refine wpList_store_mid rfl 54 (.tmp 6) (.tmp 14) rfl w.heap.size 0 _ rfl rfl hth hsz hone ?_)
  refine bodyPost_ret (results_cell_row rfl _ _ w.heap.size 54 _ (0, 0) _ rfl HRR.out Tryd.underlying54 rfl hsz) rfl ?_
  exact ⟨rfl, Below.setCells hb02 (Nat.le_refl _) _ _⟩

end Go.Proofs.YtebhmebldemndaaDoor.Cha
