import Derived.Test.YtcfmcjdgdpignaaDoorShaP
namespace Go.Proofs.YtcfmcjdgdpignaaDoor
open Go.RowKit Go.Lib Go.Deep

def wordAt (l : List UInt8) (i : Nat) : Nat := beNum ((l.drop (4 * i)).take 4)
def wordsL (l : List UInt8) (n : Nat) : List Nat := (List.range n).map (wordAt l)
theorem wordsL_length (l : List UInt8) (n : Nat) : (wordsL l n).length = n := by simp [wordsL]
theorem wordsL_succ (l : List UInt8) (n : Nat) : wordsL l (n + 1) = wordsL l n ++ [wordAt l n] := by simp [wordsL, List.range_succ]
theorem wordAt_lt (l : List UInt8) (i : Nat) : wordAt l i < 4294967296 := by
  have h1 := beNum_lt ((l.drop (4 * i)).take 4)
  have h2 : ((l.drop (4 * i)).take 4).length ≤ 4 := by rw [List.length_take]; omega
  have h3 : 256 ^ ((l.drop (4 * i)).take 4).length ≤ 256 ^ 4 := Nat.pow_le_pow_right (by omega) h2
  unfold wordAt
  omega

def pad8 (l : List Nat) : List Nat := l ++ List.replicate (8 - l.length) 0
theorem pad8_length (l : List Nat) (h : l.length ≤ 8) : (pad8 l).length = 8 := by simp [pad8]; omega
theorem pad8_set (l : List Nat) (x : Nat) (h : l.length < 8) : (u32s (pad8 l)).setIfInBounds l.length (.int .u32 (x : Int)) = u32s (pad8 (l ++ [x])) := by
  have e : 8 - l.length = (8 - (l.length + 1)) + 1 := by omega
  simp [u32s, u32L, pad8, e, List.replicate_succ]

/-- the two blocks of wordsOf -/
structure Wo (w wr : World) (ws : List Nat) : Prop where
  res : ∃ z8 : Array Value, z8.size = 8 ∧ wr.heap[w.heap.size]? = some (.cells z8 48 (0, 0))
  own : wr.heap[w.heap.size + 1]? = some (.cells (u32s (pad8 ws)) 48 (0, 0))
  bel : Below w.heap.size w wr
theorem Wo.put {w wr : World} {ws : List Nat} (h : Wo w wr ws) (x : Nat) (hl : ws.length < 8) : Wo w (wr.setCell ⟨w.heap.size + 1, ws.length, none⟩ (.int .u32 (x : Int))) (ws ++ [x]) := by
  obtain ⟨z8, hz, hr⟩ := h.res
  refine ⟨⟨z8, hz, ?_⟩, ?_, h.bel.setCell (by simp) _⟩
  · rw [← hr]; exact Below.heap_setCell _ _ _ _ (by simp)
  · rw [← pad8_set ws x hl]; exact heap_setCell_same _ _ _ _ _ _ h.own
theorem Wo.next {w wr : World} {ws : List Nat} (h : Wo w wr ws) (hl : ws.length < 8) : ∃ v, wr.cell? ⟨w.heap.size + 1, ws.length, none⟩ = some (.int .u32 v) := by
  rw [cell_of_heap h.own, u32s_at _ _ (by rw [pad8_length _ (by omega)]; omega)]
  exact ⟨_, rfl⟩

theorem Wo.start (w : World) (z z' : Array Value) (hz : z.size = 8) (hz' : z' = u32s (pad8 [])) : Wo w ((w.alloc (.cells z 48)).alloc (.cells z' 48)) [] := by
  subst hz'
  refine ⟨⟨z, hz, ?_⟩, ?_, ((Below.refl _ _).alloc (Nat.le_refl _) _).alloc (by simp) _⟩
  · rw [Below.heap_alloc _ _ _ (by simp)]
    exact heap_new _ _
  · have h := heap_new (w.alloc (.cells z 48)) (.cells (u32s (pad8 [])) 48)
    simpa using h

theorem slice4 (s : ByteArray) (k : Nat) (h : 4 * k + 4 ≤ s.size) (w : World) :
    (Instr.slice 9 (.string s) (some (.int .i64 (4 * (k : Int)))) (some (.int .i64 (4 * (k : Int) + 4))) none).run Tryd.prog w = .ok (.string (s.extract (4 * k) (4 * k + 4))) w := by
  rw [run_slice_string (P := Tryd.prog) (w := w) 9 s .i64 .i64 (4 * (k : Int)) (4 * (k : Int) + 4) Tryd.underlying9 (by omega) (by omega) (by omega)]
  rw [show (4 * (k : Int) + 4).toNat = 4 * k + 4 by omega, show (4 * (k : Int)).toNat = 4 * k by omega]

set_option maxRecDepth 20000 in
set_option maxHeartbeats 1000000 in
theorem wordsOf_any (s : ByteArray) (w : World) (hs : s.size = 32) :
    Calls Tryd.prog 15 #[.string s] w fun e w' => e = .returned (.agg (u32s (wordsL s.data.toList 8))) ∧ Below w.heap.size w w' := by
  go_enter Tryd.func15, Tryd.ntmps15
  go_wp2
  go_loopg [5] 8 (fun gk i wr => ∃ k : Nat, k + gk = 8 ∧ i = .int .i64 k ∧ Wo w wr (wordsL s.data.toList k))
  case atStart => exact ⟨0, by omega, rfl, Wo.start w _ _ rfl rfl⟩
  case round =>
    obtain ⟨k, hk, rfl, HW⟩ := hrel
    have HK : Hid (k + gk = 8) := hk
    have hk' : k ≤ 8 := by omega
    clear hk
    by_cases hlt : k < 8
    · have hsl := slice4 s k (by omega)
      have hnum : ∀ W : World, Calls Tryd.prog 16 #[.string (s.extract (4 * k) (4 * k + 4))] W fun e w' => e = .returned (.int .u64 (wordAt s.data.toList k : Int)) ∧ W = w' := fun W => by
        have h := numberOf_any (s.extract (4 * k) (4 * k + 4)) W (by simp; omega)
        rw [extract_data, show 4 * k + 4 - 4 * k = 4 by omega] at h
        exact h
      obtain ⟨y, hy⟩ : ∃ y, s.extract (4 * k) (4 * k + 4) = y := ⟨_, rfl⟩
      rw [hy] at hnum
      have hsl' : ∀ W : World, (Instr.slice 9 (.string s) (some (.int .i64 (4 * (k : Int)))) (some (.int .i64 (4 * (k : Int) + 4))) none).run Tryd.prog W = .ok (.string y) W := fun W => by rw [← hy]; exact hsl W
      clear hsl hy
      obtain ⟨v0, c0⟩ := HW.next (by rw [wordsL_length]; exact hlt)
      have f0 : wr.frozen? ⟨w.heap.size + 1, k, none⟩ = false := frozen_of_heap HW.own
      rw [wordsL_length] at c0
      have R := HW.put (wordAt s.data.toList k) (by rw [wordsL_length]; exact hlt)
      rw [← wordsL_succ, wordsL_length] at R
      have lx := wordAt_lt s.data.toList k
      revert hnum R lx
      generalize wordAt s.data.toList k = x
      intro hnum R lx
      clear HW
      go_wp2_with (go_at_call 16; refine (hnum _).mono ?_; rintro e w' ⟨rfl, rfl⟩)
      go_roundg (gk - 1)
      case measure => have := HK.out; omega
      case rel => exact ⟨k + 1, by have := HK.out; omega, by go_num, R⟩
    · have e8 : k = 8 := by omega
      have hbel := HW.bel
      obtain ⟨z8, hz8, hres⟩ := HW.res
      have hown := HW.own
      have HL : (wordsL s.data.toList k).length = 8 := by rw [wordsL_length]; exact e8
      have HQ : Hid (wordsL s.data.toList 8 = wordsL s.data.toList k) := by show _ = _; rw [e8]
      revert hown HL HQ
      generalize wordsL s.data.toList k = ws
      intro hown HL HQ
      rw [show pad8 ws = ws by simp [pad8, HL]] at hown
      have hsz : (Tryd.prog.info? 48).map (·.size) = some (u32s ws).size := by rw [u32s_size, HL]; exact size8
      have hth : wr.there w.heap.size 0 (u32s ws).size := there_of_heap hres (by rw [u32s_size, HL]; omega)
      have hone : (u32s ws).all (·.oneCell') = true := all_oneCell_toArray (u32L_one _)
      have hr := heap_setCells w.heap.size 48 (u32s ws).toList 0 _ _ hres
      rw [setMany_all _ _ (by rw [hz8, Array.length_toList, u32s_size, HL]), Array.toArray_toList] at hr
      clear HW
      subst e8
      go_wp2_with (first | (refine wpList_load_row rfl 48 (.tmp 3) rfl (w.heap.size + 1) rfl 48 _ (0, 0) _ hown Tryd.underlying48 rfl hsz ?_) | (refine wpList_store_mid rfl 48 (.tmp 2) (.tmp 20) rfl w.heap.size 0 _ rfl rfl hth hsz hone ?_))
      refine bodyPost_ret (results_cell_row rfl _ _ w.heap.size 48 _ (0, 0) _ rfl hr Tryd.underlying48 rfl hsz) rfl ?_
      rw [HQ.out]
      exact ⟨rfl, Below.setCells hbel (Nat.le_refl _) _ _⟩

end Go.Proofs.YtcfmcjdgdpignaaDoor
