import Derived.Test.YtbjiamaaocjbfaaGreatDoorCaE
import Derived.Test.YtbjiamaaocjbfaaGreatDoorK7R
namespace Go.Proofs.YtbjiamaaocjbfaaGreatDoor.Kp
open Go.RowKit Go.Lib Go.Deep Kr

set_option maxRecDepth 20000 in
set_option maxHeartbeats 2000000 in
/-- Drop of a ring of one slot -/
theorem drop_one_any (t p : ByteArray) (k : Int) (w : World) (ht : t.size ≤ 4194304) (h1 : (parseS t.data.toList).length ≤ 1) (hT : KT w) :
    Calls Tryz.prog 18 #[.string t, .string p, .int .i64 k] w fun e w' => e = .returned (.tuple #[.string (str (dropY t.data.toList p.data.toList k)), .int .i64 (dropE t.data.toList p.data.toList k)]) ∧ Below w.heap.size w w' := by
  have c0 := unlock_any t p w ht hT.k
  generalize t.data.toList = T at c0 h1 ⊢
  generalize p.data.toList = P at c0 ⊢
  go_enter Tryz.func18, Tryz.ntmps18
  go_wp2_with fail
  refine c0.mono ?_
  clear c0
  rintro e w1 ⟨a, n, c, rfl, hown, hb1⟩
  obtain ⟨x, y1, y2, y3, hv, hok⟩ := unlockV_eq T P a n c
  rw [hv]
  clear hv
  have HB1 : Hid _ := hb1
  have HO1 : Hid _ := hown
  clear hb1 hown
  by_cases hm : unlockE T P = 0
  · obtain ⟨hx0, hy1, hy2, hy3, hpe, hri⟩ := hok hm
    subst x y1 y2 y3
    obtain ⟨l16, n1, n8, hss⟩ := right_parts hri
    have hnl : n = 1 := by
      obtain ⟨a1, n2, hv2⟩ := owns_len HO1.out
      injection hv2 with h1 h2 h3
      omega
    have hl1 : (parseS T).length = 1 := by omega
    subst hnl
    have hg2 : (w1.alloc (.cells #[.string (str (parseI T)), .slice a 1 c] 32)).heap[w1.heap.size]? = some (.cells #[.string (str (parseI T)), .slice a 1 c] 32 (0, 0)) := heap_new _ _
    have g1 : (w1.alloc (.cells #[.string (str (parseI T)), .slice a 1 c] 32)).cell? ⟨w1.heap.size, 1, none⟩ = some (.slice a 1 c) := (cell_of_heap hg2).trans rfl
    have HB2 : Hid (Below w.heap.size w (w1.alloc (.cells #[.string (str (parseI T)), .slice a 1 c] 32))) := HB1.out.alloc HB1.out.size _
    by_cases hk : k = 0
    · subst hk
      have e1 : dropE T P 0 = 75 := by unfold dropE; rw [if_neg (by simp [hm]), if_neg (by omega), if_pos hl1]
      have e2 : dropY T P 0 = [] := by unfold dropY; rw [e1, if_neg (by decide)]
      have HE : Hid (dropE T P 0 = 75 ∧ dropY T P 0 = []) := ⟨e1, e2⟩
      rw [hm]
      clear hok hm e1 e2 hss hg2 hri hl1
      go_wp2
      go_ret2
      exact ⟨by rw [HE.out.1, HE.out.2]; rfl, HB2.out⟩
    · have e1 : dropE T P k = 76 := by unfold dropE; rw [if_neg (by simp [hm]), if_pos (by omega)]
      have e2 : dropY T P k = [] := by unfold dropY; rw [e1, if_neg (by decide)]
      have HE : Hid (dropE T P k = 76 ∧ dropY T P k = []) := ⟨e1, e2⟩
      rw [hm]
      clear hok hm e1 e2 hss hg2 hri hl1
      by_cases hk0 : k < 0
      · go_wp2
        go_ret2
        exact ⟨by rw [HE.out.1, HE.out.2]; rfl, HB2.out⟩
      · have hk1 : (1 : Int) ≤ k := by omega
        go_wp2
        go_ret2
        exact ⟨by rw [HE.out.1, HE.out.2]; rfl, HB2.out⟩
  · have hne : (unlockE T P != 0) = true := by simpa using hm
    have e1 : dropE T P k = unlockE T P := by unfold dropE; rw [if_pos hm]
    have e2 : dropY T P k = [] := by unfold dropY; rw [e1, if_neg hm]
    have HE : Hid (dropE T P k = unlockE T P ∧ dropY T P k = []) := ⟨e1, e2⟩
    clear hok hm e1 e2
    go_wp2
    go_ret2
    exact ⟨by rw [HE.out.1, HE.out.2]; rfl, HB1.out.alloc HB1.out.size _⟩

theorem dropC1 : DropC1 KT := fun t p n w ht h1 hT => drop_one_any t p n w ht h1 hT

end Go.Proofs.YtbjiamaaocjbfaaGreatDoor.Kp
