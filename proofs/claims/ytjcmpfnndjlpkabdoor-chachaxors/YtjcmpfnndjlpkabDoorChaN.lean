import Derived.Test.YtjcmpfnndjlpkabDoorChaM
import Derived.Test.YtjcmpfnndjlpkabDoorKnA
namespace Go.Proofs.YtjcmpfnndjlpkabDoor
open Go.RowKit Go.Lib Go.Deep

def bytesV (l : List UInt8) : Array Value := (byteCells l).toArray
theorem bytesV_size (l : List UInt8) : (bytesV l).size = l.length := by simp [bytesV, byteCells]
theorem bytesV_at (l : List UInt8) (i : Nat) (x : UInt8) (h : l[i]? = some x) : (bytesV l)[i]? = some (.int .u8 (x.toNat : Int)) := by
  simp [bytesV, byteCells, h]
theorem bytesV_set (l : List UInt8) (i : Nat) (x : UInt8) : (bytesV l).setIfInBounds i (.int .u8 (x.toNat : Int)) = bytesV (l.set i x) := by
  simp [bytesV, byteCells]

/-- bytes in a block of their own, whole -/
def Rw (w : World) (g : Nat) (l : List UInt8) : Prop := w.heap[g]? = some (.cells (bytesV l) 5 (0, 0))
theorem Rw.cell {w : World} {g : Nat} {l : List UInt8} (h : Rw w g l) (i : Nat) (x : UInt8) (hx : l[i]? = some x) : w.cell? ⟨g, i, none⟩ = some (.int .u8 (x.toNat : Int)) := by
  rw [cell_of_heap h]
  exact bytesV_at l i x hx
theorem Rw.frozen {w : World} {g : Nat} {l : List UInt8} (h : Rw w g l) (i : Nat) : w.frozen? ⟨g, i, none⟩ = false := frozen_of_heap h
theorem Rw.put {w : World} {g : Nat} {l : List UInt8} (h : Rw w g l) (i : Nat) (x : UInt8) : Rw (w.setCell ⟨g, i, none⟩ (.int .u8 (x.toNat : Int))) g (l.set i x) := by
  unfold Rw
  rw [← bytesV_set]
  exact heap_setCell_same _ _ _ _ _ _ h
theorem Rw.kept {w w' : World} {g : Nat} {l : List UInt8} (h : Rw w g l) (hk : w'.heap[g]? = w.heap[g]?) : Rw w' g l := hk.trans h
theorem Rw.text {P : Program} {w : World} {g : Nat} {l : List UInt8} (h : Rw w g l) (src dst : TypeId) (cap : Nat) (hs : P.underlying src = some (.slice 5)) (he : P.underlying 5 = some (.int .u8)) (hd : P.underlying dst = some .string) :
    (convert src dst (.slice (some ⟨g, 0, none⟩) l.length cap)).run P w = .ok (.string (str l)) w :=
  run_convert_bytes_back w src dst 5 ⟨g, 0, none⟩ cap l hs he hd fun j hj => by
    rw [Addr.add_lit, Nat.zero_add, h.cell j l[j] (List.getElem?_eq_getElem hj)]

theorem made_rows (n : Nat) : (madeCells #[Value.int .u8 0] (n * 1)).toList = byteCells (List.replicate n 0) := by
  apply List.ext_getElem
  · simp [size_madeCells, byteCells]
  · intro i h1 h2
    simp [madeCells, byteCells, Nat.mod_one]
/-- what 'make([]byte, n)' lays -/
theorem Rw.made {w : World} {B g n : Nat} (ho : w.ownsRow B 5 1 (.slice (some ⟨g, 0, none⟩) n n) n (madeCells (Value.int .u8 0).cells (n * 1)).toList) : Rw w g (List.replicate n 0) := by
  have e : (madeCells (Value.int .u8 0).cells (n * 1)).toList = byteCells (List.replicate n 0) := made_rows n
  rw [e] at ho
  rcases ho.2 with ⟨h, _⟩ | ⟨g', cap, cur, hv, _, hg, _, _, hs, ht⟩
  · cases h
  · cases hv
    have : cur = bytesV (List.replicate n 0) := by
      unfold bytesV
      rw [← ht, List.take_of_length_le (by rw [Array.length_toList, hs]; exact Nat.le_refl _), Array.toArray_toList]
    rw [this] at hg
    exact hg

/-- filled up to k -/
def fillL (f : Nat → UInt8) (n k : Nat) : List UInt8 := (List.range k).map f ++ List.replicate (n - k) 0
theorem fillL_zero (f : Nat → UInt8) (n : Nat) : fillL f n 0 = List.replicate n 0 := by simp [fillL]
theorem fillL_all (f : Nat → UInt8) (n : Nat) : fillL f n n = (List.range n).map f := by simp [fillL]
theorem fillL_length (f : Nat → UInt8) (n k : Nat) (h : k ≤ n) : (fillL f n k).length = n := by simp [fillL]; omega
theorem fillL_set (f : Nat → UInt8) (n k : Nat) (h : k < n) : (fillL f n k).set k (f k) = fillL f n (k + 1) := by
  have e : n - k = (n - (k + 1)) + 1 := by omega
  rw [fillL, List.set_append_right _ _ (by simp), e, List.replicate_succ]
  simp [fillL, List.range_succ]
theorem fillL_at (f : Nat → UInt8) (n k : Nat) (h : k < n) : (fillL f n k)[k]? = some 0 := by
  rw [fillL, List.getElem?_append_right (by simp), List.getElem?_replicate, if_pos (by simp; omega)]

theorem num_any (n : Int) (w : World) : Calls Tryd.prog 11 #[.int .i64 n] w fun e w' => e = .returned (.int .i64 n) ∧ w = w' := by
  go_enter Tryd.func11, Tryd.ntmps11
  go_wp2
  go_ret
  exact ⟨rfl, rfl⟩


set_option maxRecDepth 20000 in
set_option maxHeartbeats 1000000 in
theorem rising_any (n : Nat) (hn : n ≤ 255) (w : World) :
    Calls Tryd.prog 18 #[.int .i64 (n : Int)] w fun e w' => e = .returned (.string (str (riseL n))) ∧ Below w.heap.size w w' := by
  obtain ⟨i0, hi, hz0, hz1, hz2⟩ := info_parts info5
  go_enter Tryd.func18, Tryd.ntmps18
  go_wp2_with (at_make; refine wpList_make_full _ rfl _ _ 40 rfl w.heap.size 5 i0 (.int .u8 0) 1 Tryd.underlying40 hi hz0 hz1 .i64 .i64 _ _ n rfl rfl rfl rfl (by rw [hz2]; omega) (by unfold maxLen; omega) (Nat.le_refl _) ?_; intro w1 hown1 hg1)
  have hb1 : Below w.heap.size w w1 := Below.grown (Below.refl _ _) hg1 (Nat.le_refl _) (by simp)
  have HR1 := Rw.made hown1
  clear hown1 hg1
  go_loopg [4] n (fun gk i wr => ∃ k : Nat, k + gk = n ∧ i = .int .i64 k ∧ Rw wr w.heap.size (fillL (fun i => UInt8.ofNat i) n k) ∧ Below w.heap.size w wr)
  case atStart => exact ⟨0, by omega, rfl, by rw [fillL_zero]; exact HR1, hb1⟩
  case round =>
    clear HR1 hb1
    obtain ⟨k, hkk, rfl, HR, hbel⟩ := hrel
    have HK : Hid (k + gk = n) := hkk
    have hk' : k ≤ n := by omega
    clear hkk
    by_cases hlt : k < n
    · have hltI : (k : Int) < (n : Int) := by omega
      have hcv : (k : Int) % 256 = (k : Int) := by omega
      have c0 := HR.cell k 0 (fillL_at _ n k hlt)
      have f0 := HR.frozen k
      have HP := HR.put k (UInt8.ofNat k)
      rw [fillL_set (fun i => UInt8.ofNat i) n k hlt, show ((UInt8.ofNat k).toNat : Int) = (k : Int) by rw [UInt8.toNat_ofNat']; omega] at HP
      have hb2 := hbel.setCell (p := ⟨w.heap.size, k, none⟩) (Nat.le_refl _) (.int .u8 (k : Int))
      clear HR hbel
      go_wp2
      go_roundg (gk - 1)
      case measure => have := HK.out; omega
      case rel => exact ⟨k + 1, by have := HK.out; omega, by go_num, HP, hb2⟩
    · obtain rfl : k = n := by omega
      have hltI : ¬ (k : Int) < (k : Int) := by omega
      rw [fillL_all] at HR
      have hcv := HR.text (P := Tryd.prog) 40 9 k Tryd.underlying40 Tryd.underlying5 Tryd.underlying9
      rw [show ((List.range k).map fun i => UInt8.ofNat i).length = k by simp] at hcv
      clear HR
      go_wp2
      go_ret
      exact ⟨rfl, hbel⟩

end Go.Proofs.YtjcmpfnndjlpkabDoor
