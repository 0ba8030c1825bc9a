import Derived.Test.YtebhmebldemndaaDoorAeA
import Derived.Test.YtebhmebldemndaaDoorBaseM
namespace Go.Proofs.YtebhmebldemndaaDoor.Ae
open Go.RowKit Go.Lib Go.Deep

/-- a text of just n bytes: its beginning, and zeros -/
def szZ (l : List UInt8) (n : Nat) : List UInt8 := (l ++ List.replicate (n - l.length) 0).take n
theorem szZ_length (l : List UInt8) (n : Nat) : (szZ l n).length = n := by
  rw [szZ, List.length_take, List.length_append, List.length_replicate]
  omega
theorem cells_more (l : List UInt8) (k : Nat) : Lib.byteCells (l ++ List.replicate (k + 1) 0) = Lib.byteCells (l ++ List.replicate k 0) ++ [.int .u8 0] := by
  rw [List.replicate_succ', ← List.append_assoc, byteCells_append]
  rfl

theorem size5b : (Tryd.prog.info? 5).map (·.size) = some 1 := by kernel_rfl
set_option maxRecDepth 20000 in
theorem elem5b : Tryd.prog.elem 40 = 5 := by kernel_rfl
set_option maxRecDepth 20000 in
theorem bslice_to (W : World) (g L cap hi : Nat) (hhi : hi ≤ cap) : (Instr.slice 40 (.slice (some ⟨g, 0, none⟩) L cap) none (some (.int .i64 (hi : Int))) none).run Tryd.prog W = .ok (.slice (some ⟨g, 0, none⟩) hi cap) W := by
  obtain ⟨i0, hi0, hs0⟩ : ∃ i0, Tryd.prog.info? 5 = some i0 ∧ i0.size = 1 := by
    have h := size5b
    cases hq : Tryd.prog.info? 5 with
    | none => simp [hq] at h
    | some i => exact ⟨i, rfl, by simpa [hq] using h⟩
  rw [run_slice_h (P := Tryd.prog) (ht := Tryd.underlying40) (kh := .i64) (h := (hi : Int)) (h0 := by omega) (h2 := by omega)]
  simp [sizeOf, typeInfo, elem5b, hi0, hs0, sliced, Result.andThen, Addr.add_lit]
/-- 'string(b[:n])' of a row -/
theorem convert_part (W : World) (g cap n : Nat) (cur : Array Value) (fr : Nat × Nat) (l : List UInt8) (hg : W.heap[g]? = some (.cells cur 5 fr)) (hn : n ≤ l.length) (hc : cur.toList.take l.length = Lib.byteCells l) :
    (convert 40 9 (.slice (some ⟨g, 0, none⟩) n cap)).run Tryd.prog W = .ok (.string (str (l.take n))) W := by
  have hl : (l.take n).length = n := by rw [List.length_take]; omega
  have h := run_convert_bytes_back (P := Tryd.prog) W 40 9 5 ⟨g, 0, none⟩ cap (l.take n) Tryd.underlying40 Tryd.underlying5 Tryd.underlying9 (fun j hj => by
    rw [Addr.add_lit, Nat.zero_add, cell_of_heap hg]
    have hj2 : j < l.length := by omega
    have e1 : (cur.toList.take l.length)[j]? = (Lib.byteCells l)[j]? := by rw [hc]
    rw [List.getElem?_take, if_pos hj2, Array.getElem?_toList] at e1
    rw [e1]
    simp [Lib.byteCells, hj2])
  rw [hl] at h
  exact h

set_option maxRecDepth 20000 in
set_option maxHeartbeats 1000000 in
theorem sized6_any (s : ByteArray) (n : Nat) (hn : n ≤ 4194304) (hs : s.size ≤ 140737488351232) (w : World) :
    Calls Tryd.prog 9 #[.string s, .int .i64 (n : Int)] w fun e w' => e = .returned (.string (str (szZ s.data.toList n))) ∧ Below w.heap.size w w' := by
  obtain ⟨i0, hi, hz0, hz1, hz2⟩ := info_parts info5
  have hl : s.data.toList.length = s.size := (size_eq s).symm
  obtain ⟨v, w1, hcv, hrow, hb1⟩ := bytes_any s (by unfold maxLen; omega) w
  have HS : Hid (∀ k, Lib.byteCells (s.data.toList ++ List.replicate (k + 1) 0) = Lib.byteCells (s.data.toList ++ List.replicate k 0) ++ [.int .u8 0]) := cells_more _
  have HLN : Hid (∀ k, (Lib.byteCells (s.data.toList ++ List.replicate k 0)).length = s.size + k) := fun k => by rw [byteCells_length, List.length_append, List.length_replicate, hl]
  have HR1 : Hid (RowF w1 w.heap.size 5 v (Lib.byteCells (s.data.toList ++ List.replicate 0 0))) := by
    show RowF _ _ _ _ _
    rw [show s.data.toList ++ List.replicate 0 0 = s.data.toList by simp]
    exact hrow
  have hone : ∀ u ∈ [Value.int .u8 0], u.oneCell' = true := by simp [Value.oneCell']
  clear hrow
  go_enter Tryd.func9, Tryd.ntmps9
  go_wp2
  go_loopg [5] (n - s.size) (fun gk v wr => ∃ k : Nat, k + gk = n - s.size ∧ RowF wr w.heap.size 5 v (Lib.byteCells (s.data.toList ++ List.replicate k 0)) ∧ Below w.heap.size w wr)
  case atStart => exact ⟨0, by omega, HR1.out, hb1⟩
  case round =>
    obtain ⟨k, hk, hR, hbel⟩ := hrel
    have HK : Hid (k + gk = n - s.size) := hk
    have hk' : k ≤ n - s.size := by omega
    clear hk HR1 hb1 hcv
    have hR0 := hR
    obtain ⟨g, cap, cur, fr, rfl, r2, r3, r4, r5, r6, r7, r8⟩ := hR0
    rw [HLN.out] at r6 r8 hR ⊢
    by_cases hlt : s.size + k < n
    · have hltI : (s.size : Int) + (k : Int) < (n : Int) := by omega
      have hml : (Lib.byteCells (s.data.toList ++ List.replicate k 0)).length + 1 ≤ maxLen := by rw [HLN.out]; unfold maxLen; omega
      have hmb : ((Lib.byteCells (s.data.toList ++ List.replicate k 0)).length + 1) * 1 ≤ 140737488355328 := by rw [HLN.out]; omega
      go_wp2_with (at_builtin; refine wpList_append_rowF rfl _ _ 40 rfl w.heap.size 5 i0 (.int .u8 0) 1 Tryd.underlying40 hi hz0 hz1 hz2 rfl _ _ rfl (hR.alloc _) ⟨wr.heap.size, 0, none⟩ 1 1 [.int .u8 0] rfl rfl (by intro i u h; exact cells_new wr #[.int .u8 0] 5 i u (by simpa using h)) hone hml hmb (by have := hbel.size; simp; omega) ?_; intro v' w' hR' hb2)
      have R : RowF w' w.heap.size 5 v' (Lib.byteCells (s.data.toList ++ List.replicate (k + 1) 0)) := by rw [HS.out]; exact hR'
      have hb' : Below w.heap.size w w' := (hbel.alloc hbel.size (.cells #[.int .u8 0] 5)).trans hb2
      clear hR' hb2 hR r2 r3 r4 r5 r6 r7 r8
      go_wp2
      go_roundg (gk - 1)
      case measure => have := HK.out; omega
      case rel => exact ⟨k + 1, by have := HK.out; omega, R, hb'⟩
    · have hltI : ¬ (s.size : Int) + (k : Int) < (n : Int) := by omega
      have hsl := fun W => bslice_to W g (s.size + k) cap n (by omega)
      have hcv := convert_part wr g cap n cur fr (s.data.toList ++ List.replicate k 0) r3 (by rw [List.length_append, List.length_replicate, hl]; omega) (by rw [List.length_append, List.length_replicate, hl]; exact r8)
      have hke : k = n - s.data.toList.length := by have := HK.out; omega
      rw [show List.take n (s.data.toList ++ List.replicate k (0 : UInt8)) = szZ s.data.toList n by rw [hke]; rfl] at hcv
      clear r3 r4 r8 hR
      go_wp2
      go_ret
      exact ⟨rfl, hbel⟩

end Go.Proofs.YtebhmebldemndaaDoor.Ae
