import Derived.Test.YtbjiamaaocjbfaaDoorLwC
namespace Go.Proofs.YtbjiamaaocjbfaaDoor.Kl
open Go.RowKit Go.Lib Go.Deep Kr Kp

def k16 : List UInt8 := [115, 105, 120, 116, 101, 101, 110, 32, 98, 121, 116, 101, 115, 32, 111, 104]
def wwL (k : Nat) : List UInt8 := List.replicate k 119
def aSlot : Slot := ⟨k16, 1, wwL 72⟩
def anL : List UInt8 := printY k16 [aSlot, aSlot]
theorem an_le : anL.length ≤ 5000 := by
  unfold anL printY
  rw [if_pos (by decide)]
  exact printL_le (by decide)
theorem ww_add (k : Nat) : str (wwL k) ++ { data := #[119] } = str (wwL (k + 1)) := by
  rw [show ({ data := #[119] } : ByteArray) = str [119] by rfl, strs_append]
  unfold wwL
  rw [List.replicate_succ']

set_option maxRecDepth 20000 in
set_option maxHeartbeats 1000000 in
theorem another_any (w : World) (hI : ITab w) (hT : RTabs w) (h4 : 8 ≤ w.heap.size) :
    Calls Tryd.prog 48 #[] w fun e w' => e = .returned (.string (str anL)) ∧ Below w.heap.size w w' := by
  obtain ⟨K, hK⟩ : ∃ K : ByteArray, ({ data := #[115, 105, 120, 116, 101, 101, 110, 32, 98, 121, 116, 101, 115, 32, 111, 104] } : ByteArray) = K := ⟨_, rfl⟩
  have HKK : Hid (str k16 = K) := by show _ = _; rw [← hK]; rfl
  have HA0 : Hid ((w.alloc (.cells #[.string K, .int .i64 1, .string { data := #[] }] 26)).heap[w.heap.size]? = some (.cells #[.string K, .int .i64 1, .string (str (wwL 0))] 26 (0, 0))) := heap_new _ _
  have HB0 : Hid (Below w.heap.size w (w.alloc (.cells #[.string K, .int .i64 1, .string { data := #[] }] 26))) := (Below.refl _ _).alloc (Nat.le_refl _) _
  have HT : Hid (ITab w ∧ RTabs w) := ⟨hI, hT⟩
  clear hI hT
  go_enter Tryd.func48, Tryd.ntmps48
  go_wp2_with fail
  clear hK
  go_loopg [2] 72 (fun gk i wr => ∃ k : Nat, k + gk = 72 ∧ i = .int .i64 (k : Int) ∧ Hid (wr.heap[w.heap.size]? = some (.cells #[.string K, .int .i64 1, .string (str (wwL k))] 26 (0, 0))) ∧ Hid (Below w.heap.size w wr))
  case atStart => exact ⟨0, by omega, rfl, HA0, HB0⟩
  case round =>
    clear HA0 HB0
    obtain ⟨k, hk, rfl, HA, HB⟩ := hrel
    have HK : Hid (k + gk = 72) := hk
    have hk' : k ≤ 72 := by omega
    clear hk
    have g0 : wr.cell? ⟨w.heap.size, 0, none⟩ = some (.string K) := (cell_of_heap HA.out).trans rfl
    have g1 : wr.cell? ⟨w.heap.size, 1, none⟩ = some (.int .i64 1) := (cell_of_heap HA.out).trans rfl
    have g2 : wr.cell? ⟨w.heap.size, 2, none⟩ = some (.string (str (wwL k))) := (cell_of_heap HA.out).trans rfl
    have f2 : wr.frozen? ⟨w.heap.size, 2, none⟩ = false := frozen_of_heap HA.out
    by_cases hlt : k < 72
    · have hltI : (k : Int) < 72 := by omega
      have hr := heap_setCell_same wr w.heap.size 2 _ _ (.string (str (wwL (k + 1)))) HA.out
      have HA2 : Hid _ := hr
      have HB2 : Hid (Below w.heap.size w (wr.setCell ⟨w.heap.size, 2, none⟩ (.string (str (wwL (k + 1)))))) := HB.out.setCell (Nat.le_refl _) _
      have hww := ww_add k
      have hsz : (str (wwL k)).size ≤ 72 := by rw [str_size]; simp [wwL]; omega
      clear hr
      generalize str (wwL k) = x at *
      generalize hx2 : str (wwL (k + 1)) = x2 at *
      have HX2 : Hid (str (wwL (k + 1)) = x2) := hx2
      clear hx2
      go_wp2
      go_roundg (gk - 1)
      case measure => have := HK.out; omega
      case rel => exact ⟨k + 1, by have := HK.out; omega, by go_num, by rw [HX2.out]; exact HA2.out, HB2⟩
    · obtain rfl : k = 72 := by omega
      have hltI : ¬ ((72 : Nat) : Int) < 72 := by omega
      obtain ⟨x, hx⟩ : ∃ x, str (wwL 72) = x := ⟨_, rfl⟩
      rw [hx] at g2
      obtain ⟨W1, hW1⟩ : ∃ W, wr.alloc (.cells #[.string K, .int .i64 1, .string x, .string K, .int .i64 1, .string x] 26) = W := ⟨_, rfl⟩
      have hb1 : Below w.heap.size w W1 := by rw [← hW1]; exact HB.out.alloc HB.out.size _
      have hs : SeeS W1 (.slice (some ⟨wr.heap.size, 0, none⟩) 2 2) [aSlot, aSlot] := by
        refine ⟨some ⟨wr.heap.size, 0, none⟩, wr.heap.size, 0, 2, rfl, fun _ => ⟨rfl, by rw [← hW1]; simp⟩, fun j u hu => ?_⟩
        rw [Nat.zero_add, ← hW1, cell_of_heap (heap_new _ _)]
        have e : ringCells [aSlot, aSlot] = [.string K, .int .i64 1, .string x, .string K, .int .i64 1, .string x] := by
          rw [← HKK.out, ← hx]
          rfl
        rw [e] at hu
        simpa using hu
      have cp := rprint_any k16 (.slice (some ⟨wr.heap.size, 0, none⟩) 2 2) [aSlot, aSlot] W1 hs (by decide) (by decide) (HT.out.1.below hb1 (by omega)) (HT.out.2.below hb1 (by omega)) (by have := hb1.size; omega)
      rw [HKK.out] at cp
      have HB1 : Hid _ := hb1
      have HP : Hid (printY k16 [aSlot, aSlot] = anL) := rfl
      clear hb1 hs
      go_wp2_with fail
      refine cp.mono ?_
      clear cp
      rintro e w2 ⟨rfl, hb2⟩
      have HB2 : Hid (Below w.heap.size w w2) := HB1.out.trans (hb2.mono HB1.out.size)
      rw [HP.out]
      generalize printE k16 [aSlot, aSlot] = pe
      clear hb2
      go_wp2
      go_ret
      exact ⟨rfl, HB2.out⟩

end Go.Proofs.YtbjiamaaocjbfaaDoor.Kl
