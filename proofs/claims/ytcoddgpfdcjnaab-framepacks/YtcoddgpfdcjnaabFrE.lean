import Derived.Test.YtcoddgpfdcjnaabFrC
import Derived.OwnWalk
import Derived.Laws.RangeAny
import Derived.Laws.BitsAll
import Derived.Lib.OthersKept
namespace Go.Proofs.Ytcoddgpfdcjnaab.Fr
open Go.RowKit Go.Lib Go.Deep

theorem sizeHead : (Try.prog.info? 38).map (·.size) = some 5 := by kernel_rfl
theorem sizeB : (Try.prog.info? 5).map (·.size) = some 1 := by kernel_rfl
theorem heap_old {w : World} {k : Nat} {o : Obj} (h : w.heap[k]? = some o) (o' : Obj) : (w.alloc o').heap[k]? = some o := by
  have hk := heap_lt h
  show (w.heap.push o')[k]? = _
  rw [Array.getElem?_push_lt hk, ← h, Array.getElem?_eq_getElem hk]
/-- a head: five bytes -/
def hdA (a b c d e : Nat) : Array Value := #[.int .u8 (a : Int), .int .u8 (b : Int), .int .u8 (c : Int), .int .u8 (d : Int), .int .u8 (e : Int)]

theorem headOf_any (k c : Nat) (hk : k < 256) (hc : c ≤ 1048576) (w : World) : Calls Try.prog 14 #[.int .i64 (k : Int), .int .i64 (c : Int)] w fun e w' => e = .returned (.agg (hdA k (c / 16777216) (c / 65536) (c / 256 % 256) (c % 256))) ∧ Below w.heap.size w w' := by
  unfold hdA
  go_enter Try.func14, Try.ntmps14
  go_wp2
  refine bodyPost_ret (results_cell_row rfl _ _ w.heap.size 38 _ (0, 0) _ rfl (heap_new w _) Try.underlying38 rfl sizeHead) rfl ?_
  exact ⟨by simp, (Below.refl _ _).alloc (Nat.le_refl _) _⟩

theorem headIn_any (s : ByteArray) (x0 x1 x2 x3 x4 : UInt8) (t : List UInt8) (hs : s.data.toList = x0 :: x1 :: x2 :: x3 :: x4 :: t) (w : World) : Calls Try.prog 16 #[.string s] w fun e w' => e = .returned (.agg (hdA x0.toNat x1.toNat x2.toNat x3.toNat x4.toNat)) ∧ Below w.heap.size w w' := by
  have hsz : s.size = t.length + 5 := by rw [size_eq, hs]; simp
  have hcp : (Builtin.copy_ #[40, 9] 3 #[.slice (some ⟨w.heap.size + 1, 0, none⟩) 5 5, .string s]).run Try.prog ((w.alloc (.cells #[.int .u8 0, .int .u8 0, .int .u8 0, .int .u8 0, .int .u8 0] 38)).alloc (.cells #[.int .u8 0, .int .u8 0, .int .u8 0, .int .u8 0, .int .u8 0] 38)) = .ok (.int .i64 5) ((w.alloc (.cells #[.int .u8 0, .int .u8 0, .int .u8 0, .int .u8 0, .int .u8 0] 38)).alloc (.cells #[.int .u8 (x0.toNat : Int), .int .u8 (x1.toNat : Int), .int .u8 (x2.toNat : Int), .int .u8 (x3.toNat : Int), .int .u8 (x4.toNat : Int)] 38)) := by
    generalize hW : w.alloc (.cells #[.int .u8 0, .int .u8 0, .int .u8 0, .int .u8 0, .int .u8 0] 38) = W
    have hWs : W.heap.size = w.heap.size + 1 := by rw [← hW]; simp
    rw [← hWs]
    rw [run_copy_some_string (P := Try.prog) _ 40 9 3 5 W.heap.size 0 5 5 5 s _ 38 Try.underlying40 sizeB (heap_new W _) (by rw [hsz]; exact Nat.min_eq_right (by omega)) (by simp), setRow_alloc, hs]
    rfl
  clear hs hsz
  unfold hdA
  go_enter Try.func16, Try.ntmps16
  go_wp2
  refine bodyPost_ret (results_cell_row rfl _ _ w.heap.size 38 _ (0, 0) _ rfl (heap_old (heap_new w _) _) Try.underlying38 rfl sizeHead) rfl ?_
  exact ⟨rfl, ((Below.refl _ _).alloc (Nat.le_refl _) _).alloc (by simp) _⟩

theorem kind_any (a b c d e : Nat) (ha : a < 256) (w : World) : Calls Try.prog 17 #[.agg (hdA a b c d e)] w fun e w' => e = .returned (.int .i64 (a : Int)) ∧ Below w.heap.size w w' := by
  unfold hdA
  go_enter Try.func17, Try.ntmps17
  go_wp2
  go_ret
  exact ⟨rfl, (Below.refl _ _).alloc (Nat.le_refl _) _⟩

theorem join4 (b c d e : Nat) (hb : b < 256) (hc : c < 256) (hd : d < 256) (he : e < 256) :
    bits .or .u32 (bits .or .u32 (bits .or .u32 ((b : Int) * 16777216) ((c : Int) * 65536)) ((d : Int) * 256)) (e : Int) = ((b * 16777216 + c * 65536 + d * 256 + e : Nat) : Int) := by
  rw [show (b : Int) * 16777216 = ((16777216 * b : Nat) : Int) by omega, show (c : Int) * 65536 = ((65536 * c : Nat) : Int) by omega, show (d : Int) * 256 = ((256 * d : Nat) : Int) by omega]
  rw [u32_or_nat _ _ (by omega) (by omega), nat_join 24 (16777216 * b) (65536 * c) (by omega) (by omega), u32_or_nat _ _ (by omega) (by omega), nat_join 16 _ (256 * d) (by omega) (by omega),
    u32_or_nat _ _ (by omega) (by omega), nat_join 8 _ e (by omega) (by omega)]
  omega
theorem count_any (a b c d e : Nat) (hb : b < 256) (hc : c < 256) (hd : d < 256) (he : e < 256) (w : World) : Calls Try.prog 18 #[.agg (hdA a b c d e)] w fun e' w' => e' = .returned (.int .u32 ((b * 16777216 + c * 65536 + d * 256 + e : Nat) : Int)) ∧ Below w.heap.size w w' := by
  have hj := join4 b c d e hb hc hd he
  generalize b * 16777216 + c * 65536 + d * 256 + e = R at hj
  unfold hdA
  go_enter Try.func18, Try.ntmps18
  go_wp2
  go_ret
  exact ⟨by rw [← hj]; rfl, (Below.refl _ _).alloc (Nat.le_refl _) _⟩

theorem getElem_data (s : ByteArray) (i : Nat) (h : i < s.size) (c : UInt8) (hc : s.data.toList[i]? = some c) : s[i]'h = c := by
  have h2 := (List.getElem?_eq_some_iff.1 hc).2
  rw [← h2]
  simp [ByteArray.getElem_eq_getElem_data]

theorem zeros_any (s : ByteArray) (w : World) : Calls Try.prog 19 #[.string s] w fun e w' => e = .returned (.bool (s.data.toList.all (· == 0))) ∧ Below w.heap.size w w' := by
  have hl : s.data.toList.length = s.size := (size_eq s).symm
  obtain ⟨R, hR⟩ : ∃ R, s.data.toList.all (· == 0) = R := ⟨_, rfl⟩
  rw [hR]
  have HR : Hid (s.data.toList.all (· == 0) = R) := hR
  clear hR
  go_enter Try.func19, Try.ntmps19
  go_wp2
  go_loopg [] s.size (fun gk wr => ∃ pos : Nat, pos + gk = s.size ∧ wr.heap[w.heap.size]? = some (.stringIter s pos) ∧ Below w.heap.size w wr ∧ Hid (∀ i, i < pos → s.data.toList[i]? = some 0))
  case atStart => exact ⟨0, by omega, World.iter_heap w s 0, (Below.refl _ _).alloc (Nat.le_refl _) _, fun i h => by omega⟩
  case round =>
    obtain ⟨pos, hk, hit, hbw, HZ⟩ := hrel
    by_cases hp : pos < s.size
    · obtain ⟨c, hc⟩ : ∃ c, s.data.toList[pos]? = some c := ⟨_, List.getElem?_eq_getElem (by omega)⟩
      have hce := getElem_data s pos hp c hc
      have hnx : ∀ ty, (Instr.next (.pointer (some ⟨w.heap.size, 0, none⟩)) true ty).run Try.prog wr = _ := fun ty => Lib.run_next_any_at wr w.heap.size s pos ty hit hp
      by_cases h0 : c = 0
      · subst h0
        have hd := decode_ascii s pos hp (by rw [hce]; decide)
        rw [hce] at hd
        rw [hd] at hnx
        have hit2 := Lib.iterAt_heap wr w.heap.size s pos (pos + 1) hit
        have hbw2 := Lib.below_iterAt hbw (k := w.heap.size) (Nat.le_refl _) s (pos + 1)
        have HZ2 : Hid (∀ i, i < pos + 1 → s.data.toList[i]? = some 0) := fun i hi => by
          by_cases h : i = pos
          · subst h; exact hc
          · exact HZ.out i (by omega)
        clear hd hce hc hit hbw
        generalize wr.iterAt w.heap.size s (pos + 1) = W1 at *
        change ∀ ty, (Instr.next (.pointer (some ⟨w.heap.size, 0, none⟩)) true ty).run Try.prog wr = .ok (.tuple #[.bool true, .int .i64 pos, .int .i32 0]) W1 at hnx
        go_wp2
        go_roundg (gk - 1)
        case measure => omega
        case rel => exact ⟨pos + 1, by omega, hit2, hbw2, HZ2⟩
      · have hr : (Utf8.decode s pos).1 ≠ 0 := by
          by_cases h128 : c.toNat < 128
          · rw [decode_ascii s pos hp (by rw [hce]; exact h128), hce]
            intro h
            exact h0 (UInt8.toNat_inj.1 h)
          · have := (decode_high s pos hp (by rw [hce]; omega)).1
            omega
        have hbw2 := Lib.below_iterAt hbw (k := w.heap.size) (Nat.le_refl _) s (pos + (Utf8.decode s pos).2)
        generalize wr.iterAt w.heap.size s (pos + (Utf8.decode s pos).2) = W1 at *
        obtain rfl : R = false := by
          rw [← HR.out]
          apply Bool.eq_false_iff.2
          intro h
          have := List.all_eq_true.1 h c (List.mem_of_getElem? hc)
          simp at this
          exact h0 this
        generalize (Utf8.decode s pos).1 = r at *
        have hr' : ¬ (r : Int) = 0 := by omega
        clear hc hce h0
        go_wp2
        go_ret
        exact ⟨rfl, hbw2⟩
    · have hnx : ∀ ty, (Instr.next (.pointer (some ⟨w.heap.size, 0, none⟩)) true ty).run Try.prog wr = _ := fun ty => Lib.run_next_end_at wr w.heap.size s pos ty hit hp
      obtain rfl : R = true := by
        rw [← HR.out, List.all_eq_true]
        intro c hc
        obtain ⟨i, hi⟩ := List.mem_iff_getElem?.1 hc
        have h1 := (List.getElem?_eq_some_iff.1 hi).1
        have h2 := HZ.out i (by omega)
        rw [hi] at h2
        injection h2 with h2
        subst h2
        rfl
      go_wp2
      go_ret
      exact ⟨rfl, hbw⟩
end Go.Proofs.Ytcoddgpfdcjnaab.Fr
