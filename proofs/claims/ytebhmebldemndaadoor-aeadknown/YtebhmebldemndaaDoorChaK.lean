import Derived.Test.YtebhmebldemndaaDoorChaH
import Derived.Test.YtebhmebldemndaaDoorChM1
namespace Go.Proofs.YtebhmebldemndaaDoor.Cha
open Go.RowKit Go.Lib Go.Deep

/-- added up to k -/
def addMix (m s : List Nat) (k : Nat) : List Nat := addN m s k ++ m.drop k
theorem addMix_zero (m s : List Nat) : addMix m s 0 = m := by simp [addMix, addN]
theorem addMix_all (m s : List Nat) (h : m.length = 16) : addMix m s 16 = addL m s := by rw [addMix, List.drop_of_length_le (by omega), List.append_nil]; rfl
theorem addMix_length (m s : List Nat) (k : Nat) (h : m.length = 16) (hk : k ≤ 16) : (addMix m s k).length = 16 := by rw [addMix, List.length_append, addN_length, List.length_drop]; omega
theorem addMix_at (m s : List Nat) (k : Nat) : (addMix m s k).getD k 0 = m.getD k 0 := by
  rw [List.getD_eq_getElem?_getD, addMix, List.getElem?_append_right (by rw [addN_length]; exact Nat.le_refl _), addN_length, Nat.sub_self, List.getElem?_drop, Nat.add_zero, List.getD_eq_getElem?_getD]
theorem addMix_set (m s : List Nat) (k : Nat) (hk : k < m.length) : (addMix m s k).set k ((m.getD k 0 + s.getD k 0) % 4294967296) = addMix m s (k + 1) := by
  have hd : m.drop k = m.getD k 0 :: m.drop (k + 1) := by
    rw [List.drop_eq_getElem_cons hk, List.getD_eq_getElem?_getD, List.getElem?_eq_getElem hk]
    rfl
  rw [addMix, List.set_append_right _ _ (by rw [addN_length]; exact Nat.le_refl _), addN_length, Nat.sub_self, hd, addMix, addN_succ, List.append_assoc]
  rfl

/-- what block holds in memory -/
structure Bk (w wr : World) (g : Nat) (s cur : List Nat) : Prop where
  own : wr.heap[w.heap.size]? = some (.cells (u32s s) 54 (0, 0))
  sum : wr.heap[g]? = some (.cells (u32s cur) 54 (0, 0))
  bel : Below w.heap.size w wr
  far : w.heap.size < g
theorem Bk.put {w wr : World} {g : Nat} {s cur : List Nat} (h : Bk w wr g s cur) (i x : Nat) : Bk w (wr.setCell ⟨g, i, none⟩ (.int .u32 (x : Int))).drew g s (cur.set i x) := by
  have hf := h.far
  refine ⟨?_, ?_, (h.bel.setCell (by show _ ≤ g; omega) _).drew, hf⟩
  · show (wr.setCell ⟨g, i, none⟩ (.int .u32 (x : Int))).heap[w.heap.size]? = _
    rw [← h.own]; exact Below.heap_setCell _ _ _ _ (by simp; omega)
  · rw [← u32s_set]
    exact heap_setCell_same _ _ _ _ _ _ h.sum

set_option maxRecDepth 20000 in
set_option maxHeartbeats 2000000 in
theorem block_any (s : List Nat) (hs : St s) (w : World) (hT : CTabs w) (h3 : 4 ≤ w.heap.size) :
    Calls Tryd.prog 33 #[.agg (u32s s)] w fun e w' => e = .returned (.string (str (blockOf s))) ∧ Below w.heap.size w w' := by
  have hbA : Below w.heap.size w (w.alloc (.cells (u32s s) 54)) := (Below.refl _ _).alloc (Nat.le_refl _) _
  have hmx := mixed_any s hs (w.alloc (.cells (u32s s) 54)) (hT.below hbA h3) (by simp; omega)
  have HBO : Hid (blockOf s = textL (addL (mixedL s) s)) := rfl
  have hm16 := hs.mixed.len
  have hmlt := hs.mixed
  have hs16 := hs.len
  have hown0 := heap_new w (.cells (u32s s) 54)
  have hszS : (Tryd.prog.info? 54).map (·.size) = some (u32s s).size := by rw [u32s_size, hs16]; exact sizeSt
  revert hmx HBO hm16 hmlt
  generalize mixedL s = m
  intro hmx HBO hm16 hmlt
  have hszM : (Tryd.prog.info? 54).map (·.size) = some (u32s m).size := by rw [u32s_size, hm16]; exact sizeSt
  have hone : (u32s m).all (·.oneCell') = true := all_oneCell_toArray (u32L_one _)
  go_enter Tryd.func33, Tryd.ntmps33
  go_wp2_with (first | (refine wpList_load_row rfl 54 (.tmp 1) rfl w.heap.size rfl 54 _ (0, 0) _ hown0 Tryd.underlying54 rfl hszS ?_) | (go_at_call 42; refine hmx.mono ?_; rintro e w1 ⟨rfl, hb1⟩) | (refine wpList_store_mid rfl 54 (.tmp 3) (.tmp 6) rfl w1.heap.size 0 _ rfl rfl (there_of_heap (heap_new _ _) (by rw [u32s_size, hm16]; decide)) hszM hone ?_))
  have HX : Bk w ((w1.alloc (.cells (u32s (List.replicate 16 0)) 54)).setCells w1.heap.size 0 (u32s m).toList) w1.heap.size s m := by
    have hz := hb1.size
    simp only [World.size_alloc] at hz
    refine ⟨?_, ?_, ?_, by omega⟩
    · rw [heap_setCells_other _ _ (by omega), Below.heap_alloc _ _ _ (by omega), hb1.block _ (by simp)]
      exact hown0
    · have h := heap_setCells w1.heap.size 54 (u32s m).toList 0 _ _ (heap_new w1 (.cells (u32s (List.replicate 16 0)) 54))
      rw [setMany_all _ _ (by rw [Array.length_toList, u32s_size, u32s_size, hm16]; rfl), Array.toArray_toList] at h
      exact h
    · exact Below.setCells ((hbA.trans (hb1.mono hbA.size)).alloc (by omega) _) (by omega) _ _
  (try rw [put_none])
  refine with_world (R := fun W => Code.wp _ _ _ _ W) (Q := fun W => Bk w W w1.heap.size s m) _ HX ?_
  clear HX hb1 hmx hbA hown0 hszS hszM hone
  intro w2 HX
  obtain ⟨g, hg⟩ : ∃ g, w1.heap.size = g := ⟨_, rfl⟩
  rw [hg] at HX ⊢
  clear hg
  go_loopg [7] 16 (fun gk i wr => ∃ k : Nat, k + gk = 16 ∧ i = .int .i64 k ∧ Bk w wr g s (addMix m s k))
  case atStart => exact ⟨0, by omega, rfl, by rw [addMix_zero]; exact HX⟩
  case round =>
    clear HX
    obtain ⟨k, hkk, rfl, HX⟩ := hrel
    have HK : Hid (k + gk = 16) := hkk
    have hk' : k ≤ 16 := by omega
    clear hkk
    by_cases hlt : k < 16
    · have hltI : (k : Int) < 16 := by omega
      have hal := addMix_length m s k hm16 hk'
      have c1 : wr.cell? ⟨g, k, none⟩ = some (.int .u32 ((m.getD k 0 : Nat) : Int)) := by rw [cell_of_heap HX.sum, u32s_at _ _ (by omega), addMix_at]
      have c2 : wr.cell? ⟨w.heap.size, k, none⟩ = some (.int .u32 ((s.getD k 0 : Nat) : Int)) := by rw [cell_of_heap HX.own, u32s_at _ _ (by omega)]
      have f1 : wr.frozen? ⟨g, k, none⟩ = false := frozen_of_heap HX.sum
      have c1d : wr.drew.cell? ⟨g, k, none⟩ = some (.int .u32 ((m.getD k 0 : Nat) : Int)) := c1
      have c2d : wr.drew.cell? ⟨w.heap.size, k, none⟩ = some (.int .u32 ((s.getD k 0 : Nat) : Int)) := c2
      have f1d : wr.drew.frozen? ⟨g, k, none⟩ = false := f1
      have HP := HX.put k ((m.getD k 0 + s.getD k 0) % 4294967296)
      rw [addMix_set m s k (by omega)] at HP
      have lx := hmlt.at_lt k
      have ly := hs.at_lt k
      clear HX hal
      revert c1 c2 c1d c2d HP lx ly
      generalize m.getD k 0 = x
      generalize s.getD k 0 = y
      intro c1 c2 c1d c2d HP lx ly
      obtain ⟨z, hz⟩ : ∃ z, (x + y) % 4294967296 = z := ⟨_, rfl⟩
      rw [hz] at HP
      have hw1 : IntKind.u32.wrap ((x : Int) + (y : Int)) = (z : Int) := by rw [IntKind.wrap_u32']; omega
      have hw2 : ((x : Int) + (y : Int)) % 4294967296 = (z : Int) := by omega
      clear hz
      go_wp2_with fail
      go_region
      refine with_world (R := fun W => Exit.inBlock _ _ _ _ W) (Q := fun W => Bk w W g s (addMix m s (k + 1))) _ HP ?_
      clear HP c1 c2 c1d c2d f1 f1d hw1 hw2
      intro w9 HP
      go_wp2
      go_roundg (gk - 1)
      case measure => have := HK.out; omega
      case rel => exact ⟨k + 1, by have := HK.out; omega, by go_num, HP⟩
    · obtain rfl : k = 16 := by omega
      rw [addMix_all m s hm16] at HX
      have hL := addL_st m s
      have hrng := range_of_heap (pre := []) (mid := u32L (addL m s)) (post := []) HX.sum (by simp [u32s])
      have htx := textOf_any (addL m s) hL.lt (by rw [hL.len]; omega) g 16 wr (heap_lt HX.sum) hrng
      rw [hL.len] at htx
      have hbel := HX.bel
      clear hrng HX
      go_wp2_with (go_at_call 43; refine htx.mono ?_; rintro e w3 ⟨rfl, hb3⟩)
      go_ret
      rw [HBO.out]
      exact ⟨rfl, hbel.trans (hb3.mono hbel.size)⟩

end Go.Proofs.YtebhmebldemndaaDoor.Cha
