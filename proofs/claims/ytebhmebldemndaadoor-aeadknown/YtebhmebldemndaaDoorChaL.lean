import Derived.Test.YtebhmebldemndaaDoorChaI
import Derived.Deep.Cut
namespace Go.Proofs.YtebhmebldemndaaDoor.Cha
open Go.RowKit Go.Lib Go.Deep

set_option maxRecDepth 20000 in
set_option maxHeartbeats 1000000 in
theorem newKey_any (key nonce : ByteArray) (hk : key.size = 32) (hn : nonce.size = 16) (w : World) (hT : CTabs w) (h3 : 4 ≤ w.heap.size) :
    Calls Tryd.prog 24 #[.string key, .string nonce] w fun e w' => e = .returned (.string (str (hchL key.data.toList nonce.data.toList))) ∧ Below w.heap.size w w' := by
  have hst := stateOf_any key nonce hk hn w hT h3
  have hS := stateL_st key.data.toList nonce.data.toList
  have HL : Hid (hchL key.data.toList nonce.data.toList = textL (pick (mixedL (stateL key.data.toList nonce.data.toList)))) := rfl
  revert hst hS HL
  generalize stateL key.data.toList nonce.data.toList = s
  intro hst hS HL
  have hmx := fun W hT h3 => mixed_any s hS W hT h3
  have hM := hS.mixed
  revert hmx HL hM
  generalize mixedL s = m
  intro HL hmx hM
  have hm16 := hM.len
  have hszM : (Tryd.prog.info? 54).map (·.size) = some (u32s m).size := by rw [u32s_size, hm16]; exact sizeSt
  have hone : (u32s m).all (·.oneCell') = true := all_oneCell_toArray (u32L_one _)
  have hpick : ∀ x ∈ pick m, x < 4294967296 := by
    intro x hx
    simp only [pick, List.mem_cons, List.not_mem_nil, or_false] at hx
    rcases hx with rfl | rfl | rfl | rfl | rfl | rfl | rfl | rfl <;> exact hM.at_lt _
  go_enter Tryd.func24, Tryd.ntmps24
  go_wp2_with fail
  refine hst.mono ?_
  rintro e w1 ⟨rfl, hb1⟩
  have z1 := hb1.size
  have hmx1 := hmx w1 (hT.below hb1 h3) (by omega)
  clear hst hmx
  go_upto_region 2 with (first | (go_at_call 42; refine hmx1.mono ?_; rintro e w2 ⟨rfl, hb2⟩) | (refine wpList_store_mid rfl 54 (.tmp 5) (.tmp 9) rfl w2.heap.size 0 _ rfl rfl (there_of_heap (heap_new _ _) (by rw [u32s_size, hm16]; decide)) hszM hone ?_))
  have hb02 := hb1.trans (hb2.mono z1)
  have hheap := heap_setCells w2.heap.size 54 (u32s m).toList 0 _ _ (heap_new w2 (.cells (u32s (List.replicate 16 0)) 54))
  rw [setMany_all _ _ (by rw [Array.length_toList, u32s_size, u32s_size, hm16]; rfl), Array.toArray_toList] at hheap
  have hbel : Below w.heap.size w ((w2.alloc (.cells (u32s (List.replicate 16 0)) 54)).setCells w2.heap.size 0 (u32s m).toList) := Below.setCells (hb02.alloc hb02.size _) hb02.size _ _
  (try rw [put_none])
  refine with_world (R := fun W => Code.wp _ _ _ _ W) (Q := fun W => W.heap[w2.heap.size]? = some (.cells (u32s m) 54 (0, 0)) ∧ Below w.heap.size w W) _ ⟨hheap, hbel⟩ ?_
  clear hheap hbel hb02 hb2 hb1 hmx1 hone hszM
  rintro w3 ⟨hh3, hb3⟩
  obtain ⟨g, hg⟩ : ∃ g, w2.heap.size = g := ⟨_, rfl⟩
  rw [hg] at hh3 ⊢
  clear hg
  have k0 := (cell_of_heap (j := 0) hh3).trans (u32s_at m 0 (by omega))
  have k1 := (cell_of_heap (j := 1) hh3).trans (u32s_at m 1 (by omega))
  have k2 := (cell_of_heap (j := 2) hh3).trans (u32s_at m 2 (by omega))
  have k3 := (cell_of_heap (j := 3) hh3).trans (u32s_at m 3 (by omega))
  have k12 := (cell_of_heap (j := 12) hh3).trans (u32s_at m 12 (by omega))
  have k13 := (cell_of_heap (j := 13) hh3).trans (u32s_at m 13 (by omega))
  have k14 := (cell_of_heap (j := 14) hh3).trans (u32s_at m 14 (by omega))
  have k15 := (cell_of_heap (j := 15) hh3).trans (u32s_at m 15 (by omega))
  have HP : Hid (pick m = [m.getD 0 0, m.getD 1 0, m.getD 2 0, m.getD 3 0, m.getD 12 0, m.getD 13 0, m.getD 14 0, m.getD 15 0]) := rfl
  rw [HP.out] at hpick HL
  clear HP hh3 hm16 hM
  revert k0 k1 k2 k3 k12 k13 k14 k15 hpick HL
  generalize m.getD 0 0 = x0
  generalize m.getD 1 0 = x1
  generalize m.getD 2 0 = x2
  generalize m.getD 3 0 = x3
  generalize m.getD 12 0 = x4
  generalize m.getD 13 0 = x5
  generalize m.getD 14 0 = x6
  generalize m.getD 15 0 = x7
  intro HL hpick k0 k1 k2 k3 k12 k13 k14 k15
  have HR : (w3.alloc (.cells #[.int .u32 (x0 : Int), .int .u32 (x1 : Int), .int .u32 (x2 : Int), .int .u32 (x3 : Int), .int .u32 (x4 : Int), .int .u32 (x5 : Int), .int .u32 (x6 : Int), .int .u32 (x7 : Int)] 52)).heap[w3.heap.size]? = some (.cells #[.int .u32 (x0 : Int), .int .u32 (x1 : Int), .int .u32 (x2 : Int), .int .u32 (x3 : Int), .int .u32 (x4 : Int), .int .u32 (x5 : Int), .int .u32 (x6 : Int), .int .u32 (x7 : Int)] 52 (0, 0)) := heap_new _ _
  have htx := textOf_any [x0, x1, x2, x3, x4, x5, x6, x7] hpick (by simp) w3.heap.size 8 _ (by simp) (range_of_heap (pre := []) (mid := u32L [x0, x1, x2, x3, x4, x5, x6, x7]) (post := []) HR rfl)
  clear HR hpick
  have hb4 := hb3.alloc hb3.size (.cells #[.int .u32 (x0 : Int), .int .u32 (x1 : Int), .int .u32 (x2 : Int), .int .u32 (x3 : Int), .int .u32 (x4 : Int), .int .u32 (x5 : Int), .int .u32 (x6 : Int), .int .u32 (x7 : Int)] 52)
  go_wp2_with (go_at_call 43; refine htx.mono ?_; rintro e w5 ⟨rfl, hb5⟩)
  go_ret
  rw [HL.out]
  exact ⟨rfl, hb4.trans (hb5.mono hb4.size)⟩

end Go.Proofs.YtebhmebldemndaaDoor.Cha
