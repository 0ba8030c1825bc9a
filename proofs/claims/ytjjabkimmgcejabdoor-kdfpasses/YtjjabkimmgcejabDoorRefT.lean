import Derived.Test.YtjjabkimmgcejabDoorRefF
import Derived.Test.YtjjabkimmgcejabDoorListA
import Derived.Lib.AppendStr
namespace Go.Proofs.YtjjabkimmgcejabDoor
open Go.RowKit Go.Lib Go.Deep

theorem be4_cells' (x : Nat) : byteCells (be4 x) = [.int .u8 ((x : Int) / 16777216 % 256), .int .u8 ((x : Int) / 65536 % 256), .int .u8 ((x : Int) / 256 % 256), .int .u8 ((x : Int) % 256)] := by
  simp [byteCells, be4, UInt8.toNat_ofNat']

/-- a row of its own above the first new block -/
theorem owns_heap {wr : World} {v : Value} {n : Nat} {xs : List Value} {B k : Nat} (hk : k < B) (h : wr.ownsRow B 5 1 v n xs) {w' : World} (hg : wr.grownBy w' v.ownBlock) (hl : k < wr.heap.size) : w'.heap[k]? = wr.heap[k]? := by
  refine hg.block k hl ?_
  rcases h.2 with ⟨rfl, _⟩ | ⟨g, cap, cur, rfl, hb, _⟩
  · simp [Value.ownBlock]
  · simp [Value.ownBlock]; omega

set_option maxRecDepth 20000 in
set_option maxHeartbeats 1000000 in
theorem told_any (s : W8) (hs : s.OK) (w : World) :
    Calls Tryd.prog 32 #[.agg (i64s s.list)] w fun e w' => e = .returned (.string (str (wtext s))) ∧ Below w.heap.size w w' := by
  obtain ⟨i0, hi, hz0, hz1, hz2⟩ := info_parts info5
  have hl8 : ∀ i, s.list.getD i 0 < 4294967296 := list_lt s hs
  have hlen8 : s.list.length = 8 := rfl
  have HW : Hid (wtext s = be4s s.list) := rfl
  have hst := esize s
  have hone8 := eone s
  revert hl8 hlen8 HW hst hone8
  generalize s.list = l
  intro hl8 hlen8 HW hst hone8
  go_enter Tryd.func32, Tryd.ntmps32
  go_wp2
  have hh0 : (w.alloc (.cells (i64s l) 54)).heap[w.heap.size]? = some (.cells (i64s l) 54 (0, 0)) := heap_new _ _
  have hb0 : Below w.heap.size w (w.alloc (.cells (i64s l) 54)) := (Below.refl _ _).alloc (Nat.le_refl _) _
  go_loopg [3, 4] 8 (fun gk v i wr => ∃ k : Nat, k + gk = 8 ∧ i = .int .i64 k ∧ wr.ownsRow (w.heap.size + 1) 5 1 v (be4s (l.take k)).length (byteCells (be4s (l.take k))) ∧ wr.heap[w.heap.size]? = some (.cells (i64s l) 54 (0, 0)) ∧ Below w.heap.size w wr)
  case atStart => exact ⟨0, by omega, rfl, World.ownsRow_nil _ _ _ _, hh0, hb0⟩
  case round =>
    clear hh0 hb0
    obtain ⟨k, hk, rfl, hown, hh, hbel⟩ := hrel
    have HK : Hid (k + gk = 8) := hk
    have hk' : k ≤ 8 := by omega
    clear hk
    have hszw : w.heap.size + 1 ≤ wr.heap.size := heap_lt hh
    by_cases hlt : k < 8
    · have hc : wr.cell? ⟨w.heap.size, k, none⟩ = some (.int .i64 ((l.getD k 0 : Nat) : Int)) := by rw [cell_of_heap hh, i64s_at l k (by omega)]
      have hxk : l[k]? = some (l.getD k 0) := by rw [List.getD_eq_getElem?_getD, List.getElem?_eq_getElem (by omega)]; rfl
      have hx4 := hl8 k
      have HX : Hid (l[k]? = some (l.getD k 0)) := hxk
      clear hxk
      revert hc hx4 HX
      generalize l.getD k 0 = x
      intro hc hx4 HX
      have hone : ∀ u ∈ [Value.int .u8 ((x : Int) / 16777216 % 256), .int .u8 ((x : Int) / 65536 % 256), .int .u8 ((x : Int) / 256 % 256), .int .u8 ((x : Int) % 256)], u.oneCell' = true := by
        intro u hu
        simp only [List.mem_cons, List.not_mem_nil, or_false] at hu
        rcases hu with rfl | rfl | rfl | rfl <;> rfl
      have hlen : (be4s (l.take k)).length ≤ 32 := by rw [be4s_length]; simp; omega
      have hml : (be4s (l.take k)).length + 4 ≤ maxLen := by unfold maxLen; omega
      go_wp2_with (at_builtin; refine wpList_append_own _ rfl _ _ 36 rfl (w.heap.size + 1) 5 i0 (.int .u8 0) 1 1 Tryd.underlying36 hi hz0 hz1 hz2 rfl (by decide) _ _ _ rfl (hown.alloc _) ⟨wr.heap.size, 0, none⟩ 4 4 [.int .u8 ((x : Int) / 16777216 % 256), .int .u8 ((x : Int) / 65536 % 256), .int .u8 ((x : Int) / 256 % 256), .int .u8 ((x : Int) % 256)] rfl rfl (four_cells wr _ _ _ _) hone hml (by omega) (by simp; omega) ?_; intro v' w' hown' hgrow' _)
      have e : be4s (l.take (k + 1)) = be4s (l.take k) ++ be4 x := by rw [List.take_add_one, HX.out, be4s_append]; simp [be4s]
      have R1 : w'.ownsRow (w.heap.size + 1) 5 1 v' (be4s (l.take (k + 1))).length (byteCells (be4s (l.take (k + 1)))) := by
        rw [e, byteCells_append, be4_cells']
        simpa [be4] using hown'
      have R2 : w'.heap[w.heap.size]? = some (.cells (i64s l) 54 (0, 0)) := by
        rw [owns_heap (Nat.lt_succ_self _) (hown.alloc _) hgrow' (by simp; omega), Below.heap_alloc _ _ _ (by omega)]
        exact hh
      have R3 : Below w.heap.size w w' := by
        have h1 := hbel.alloc (o := .cells #[.int .u8 ((x : Int) / 16777216 % 256), .int .u8 ((x : Int) / 65536 % 256), .int .u8 ((x : Int) / 256 % 256), .int .u8 ((x : Int) % 256)] 5) hbel.size
        refine h1.trans ((grown_below hgrow' (by simp; omega) (hown.alloc _)).mono (by omega))
      clear hown' hgrow' hown hh hbel e
      go_wp2
      go_roundg (gk - 1)
      case measure => have := HK.out; omega
      case rel => exact ⟨k + 1, by have := HK.out; omega, by go_num, R1, R2, R3⟩
    · have e8' : k = 8 := by omega
      subst e8'
      rw [List.take_of_length_le (by omega)] at hown
      have hcv := convert_own (P := Tryd.prog) wr 36 9 5 (w.heap.size + 1) _ (be4s l) Tryd.underlying36 Tryd.underlying5 Tryd.underlying9 hown
      go_wp2
      go_ret
      rw [HW.out]
      exact ⟨rfl, hbel⟩

end Go.Proofs.YtjjabkimmgcejabDoor
