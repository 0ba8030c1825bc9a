import Derived.Test.YtjjabkimmgcejaaDoorKdfC
namespace Go.Proofs.YtjjabkimmgcejaaDoor
open Go.RowKit Go.Lib Go.Deep

theorem sum_two (s t : ByteArray) (w : World) (ht : Tabs w) (h4 : 4 ≤ w.heap.size) (hs : s.size + t.size < 576460752303423488) :
    Calls Tryd.prog 10 #[.slice (some ⟨w.heap.size, 0, none⟩) 2 2] (w.alloc (.cells #[.string s, .string t] 9)) fun e w' => e = .returned (.string (str (shaL (s.data.toList ++ t.data.toList)))) ∧ Below w.heap.size w w' := by
  have hb : Below w.heap.size w (w.alloc (.cells #[.string s, .string t] 9)) := (Below.refl _ _).alloc (Nat.le_refl _) _
  have hj : joinL [s, t] = s.data.toList ++ t.data.toList := by simp [joinL]
  have h := sum_some _ (ht.below hb (by omega)) (by simp; omega) w.heap.size 0 2 2 [s, t] rfl (by omega) (by simp) (cells_strs w [s, t]) (by rw [hj, List.length_append, ← size_eq, ← size_eq]; exact hs)
  rw [hj] at h
  refine h.mono ?_
  rintro e w' ⟨rfl, h2⟩
  exact ⟨rfl, hb.trans (h2.mono (by simp))⟩

set_option maxRecDepth 20000 in
set_option maxHeartbeats 1000000 in
theorem ksum_any (yi yo : ByteArray) (h64 : yo.size ≤ 64) (w : World) (ht : Tabs w) (h4 : 4 ≤ w.heap.size) (a : Option Addr) (len cap : Nat) (ss : List ByteArray) (hL : Lst w a len ss) (hnil : a = none → cap = 0) (hsm : len ≤ 2147483647) (hJ : yi.size + (joinL ss).length < 576460752303423488) :
    Calls Tryd.prog 31 #[.agg #[.string yi, .string yo], .slice a len cap] w fun e w' => e = .returned (.string (str (shaL (yo.data.toList ++ shaL (yi.data.toList ++ joinL ss))))) ∧ Below w.heap.size w w' := by
  have hbB : Below w.heap.size w (w.alloc (.cells #[.string yi, .string yo] 57)) := (Below.refl _ _).alloc (Nat.le_refl _) _
  have x0 : (w.alloc (.cells #[.string yi, .string yo] 57)).cell? ⟨w.heap.size, 0, none⟩ = some (.string yi) := by rw [cell_of_heap (heap_new _ _)]; rfl
  have x1 : (w.alloc (.cells #[.string yi, .string yo] 57)).cell? ⟨w.heap.size, 1, none⟩ = some (.string yo) := by rw [cell_of_heap (heap_new _ _)]; rfl
  have HL : Hid (Lst w a len ss) := hL
  clear hL
  go_enter Tryd.func31, Tryd.ntmps31
  go_wp2_with fail
  refine with_world (R := fun W => Code.wp _ _ _ _ W) (Q := fun W => W.heap.size = w.heap.size + 1 ∧ Below w.heap.size w W ∧ W.cell? ⟨w.heap.size, 0, none⟩ = some (.string yi) ∧ W.cell? ⟨w.heap.size, 1, none⟩ = some (.string yo)) _ ⟨by simp, hbB, x0, x1⟩ ?_
  clear x0 x1 hbB
  rintro wB ⟨hsz, hbB, x0, x1⟩
  obtain ⟨p, hp⟩ : ∃ p, w.heap.size = p := ⟨_, rfl⟩
  rw [hp] at hsz hbB x0 x1 h4 ⊢
  have n0 : p ≠ wB.heap.size := by omega
  have n1 : p ≠ wB.heap.size + 1 := by omega
  have KS : Hid (∀ W w', (W.cell? ⟨p, 0, none⟩ = some (.string yi) ∧ W.cell? ⟨p, 1, none⟩ = some (.string yo)) → Below W.heap.size W w' → (w'.cell? ⟨p, 0, none⟩ = some (.string yi) ∧ w'.cell? ⟨p, 1, none⟩ = some (.string yo))) := fun W w' h hb =>
    ⟨(hb.cell (p := ⟨p, 0, none⟩) (block_lt_of_cell h.1)).trans h.1, (hb.cell (p := ⟨p, 1, none⟩) (block_lt_of_cell h.2)).trans h.2⟩
  have hbB' : Below w.heap.size w wB := by rw [hp]; exact hbB
  have hb3 : Below w.heap.size w ((wB.alloc (.cells #[.string yi] 9)).alloc (.cells #[.slice (some ⟨p + 1, 0, none⟩) 1 1, .slice a len cap] 27)).drew := ((hbB'.alloc hbB'.size _).alloc (by simp; omega) _).drew
  have hcat := concat_any ((wB.alloc (.cells #[.string yi] 9)).alloc (.cells #[.slice (some ⟨p + 1, 0, none⟩) 1 1, .slice a len cap] 27)).drew (p + 1 + 1) (p + 1) a len cap yi ss
    (by
      have h := heap_new (wB.alloc (.cells #[.string yi] 9)) (.cells #[.slice (some ⟨p + 1, 0, none⟩) 1 1, .slice a len cap] 27)
      simp only [World.size_alloc, hsz] at h
      exact cell_of_heap h)
    (by
      have h := heap_new (wB.alloc (.cells #[.string yi] 9)) (.cells #[.slice (some ⟨p + 1, 0, none⟩) 1 1, .slice a len cap] 27)
      simp only [World.size_alloc, hsz] at h
      exact cell_of_heap h)
    (by
      have h := heap_new wB (.cells #[.string yi] 9)
      rw [hsz] at h
      have h2 : ((wB.alloc (.cells #[.string yi] 9)).alloc (.cells #[.slice (some ⟨p + 1, 0, none⟩) 1 1, .slice a len cap] 27)).drew.heap[p + 1]? = some (.cells #[.string yi] 9 (0, 0)) := (Below.heap_alloc _ _ _ (by simp; omega)).trans h
      exact cell_of_heap h2)
    (HL.out.below hb3) hnil hsm
  obtain ⟨W3, hW3⟩ : ∃ W3, ((wB.alloc (.cells #[.string yi] 9)).alloc (.cells #[.slice (some ⟨p + 1, 0, none⟩) 1 1, .slice a len cap] 27)).drew = W3 := ⟨_, rfl⟩
  have HJ : joinL (yi :: ss) = yi.data.toList ++ joinL ss := by simp [joinL]
  have HS1 : Hid (∀ w5 g cp, w5.ownsRow W3.heap.size 9 1 (.slice (some ⟨g, 0, none⟩) (1 + len) cp) (1 + len) (strCells (yi :: ss)) → Below W3.heap.size W3 w5 → Calls Tryd.prog 10 #[.slice (some ⟨g, 0, none⟩) (1 + len) cp] w5 fun e w' => e = .returned (.string (str (shaL (yi.data.toList ++ joinL ss)))) ∧ Below w5.heap.size w5 w') := fun w5 g cp ho hb5 => by
    have hbb : Below w.heap.size w w5 := by rw [← hW3] at hb5; exact hb3.trans (hb5.mono hb3.size)
    have hg : g < w5.heap.size := by
      rcases ho.2 with ⟨e, _⟩ | ⟨g', c', cur, e, _, h2, _⟩
      · cases e
      · cases e; exact heap_lt h2
    have h := sum_some w5 (ht.below hbb (by omega)) (by have := hbb.size; omega) g 0 (1 + len) cp (yi :: ss) (by rw [List.length_cons, HL.out.sz]; omega) (by omega) hg (fun i s hs => by
      have hi : i < (yi :: ss).length := (List.getElem?_eq_some_iff.1 hs).1
      rw [Nat.zero_add, ho.cellAt i (by rw [List.length_cons, HL.out.sz] at hi; omega)]
      rw [strCells, List.getElem?_map, hs]
      rfl) (by rw [HJ, List.length_append, ← size_eq]; exact hJ)
    rw [HJ] at h
    exact h
  have HS2 : Hid (∀ w6, Below w.heap.size w w6 → Calls Tryd.prog 10 #[.slice (some ⟨w6.heap.size, 0, none⟩) 2 2] (w6.alloc (.cells #[.string yo, .string (str (shaL (yi.data.toList ++ joinL ss)))] 9)) fun e w' => e = .returned (.string (str (shaL (yo.data.toList ++ shaL (yi.data.toList ++ joinL ss))))) ∧ Below w6.heap.size w6 w') := fun w6 hb => by
    have h := sum_two yo (str (shaL (yi.data.toList ++ joinL ss))) w6 (ht.below hb (by omega)) (by have := hb.size; omega) (by rw [str_size, shaL_length]; omega)
    rw [str_data] at h
    exact h
  have HB3 : Hid (∀ w5 w6, Below W3.heap.size W3 w5 → Below w5.heap.size w5 w6 → Below w.heap.size w w6) := fun w5 w6 h5 h6 => by
    rw [← hW3] at h5
    exact (hb3.trans (h5.mono hb3.size)).trans (h6.mono (Nat.le_trans hb3.size h5.size))
  rw [hW3] at hcat
  have KW : Hid (W3.cell? ⟨p, 0, none⟩ = some (.string yi) ∧ W3.cell? ⟨p, 1, none⟩ = some (.string yo)) := by
    rw [← hW3]
    refine KS.out wB _ ⟨x0, x1⟩ ?_
    exact (((Below.refl wB.heap.size wB).alloc (Nat.le_refl _) _).alloc (by simp) _).drew
  have HP6 : Hid (∀ w5 w6, Below W3.heap.size W3 w5 → Below w5.heap.size w5 w6 → p < w6.heap.size) := fun w5 w6 h5 h6 => by
    have h1 : p < W3.heap.size := block_lt_of_cell KW.out.1
    have := h5.size
    have := h6.size
    omega
  have KS3 : Hid (∀ w6 o w7, (World.cell? (w6.alloc o) ⟨p, 0, none⟩ = some (.string yi) ∧ World.cell? (w6.alloc o) ⟨p, 1, none⟩ = some (.string yo)) → p < w6.heap.size → Below w6.heap.size w6 w7 → (w7.cell? ⟨p, 0, none⟩ = some (.string yi) ∧ w7.cell? ⟨p, 1, none⟩ = some (.string yo))) := fun w6 o w7 h hp hb => by
    have e : ∀ j, w7.cell? ⟨p, j, none⟩ = World.cell? (w6.alloc o) ⟨p, j, none⟩ := fun j => (hb.cell (p := ⟨p, j, none⟩) hp).trans (World.cell?_of_block (Below.heap_alloc w6 o p hp)).symm
    exact ⟨(e 0).trans h.1, (e 1).trans h.2⟩
  clear hb3 hbB hbB' HJ
  have hp' : Hid (w.heap.size = p) := hp
  clear hp
  go_region_held_law (fun W => W.cell? ⟨p, 0, none⟩ = some (.string yi) ∧ W.cell? ⟨p, 1, none⟩ = some (.string yo)) (first | exact KW.out | exact KS.out _ _ (by assumption) (by assumption) | exact KS3.out w6 _ _ (by assumption) hpl6 hb7 | go_keep)
    (first | (go_at_call 43; refine hcat.mono ?_; rintro e w5 ⟨g, cp, rfl, hown5, hb5⟩; have hs5 := HS1.out w5 g cp hown5 hb5) | (go_at_call 10; refine hs6.mono ?_; rintro e w7 ⟨rfl, hb7⟩) | (go_at_call 10; refine hs5.mono ?_; rintro e w6 ⟨rfl, hb6⟩; have hb06 := HB3.out w5 w6 hb5 hb6; have hpl6 := HP6.out w5 w6 hb5 hb6; have hs6 := HS2.out w6 hb06))
  all_goals
    go_wp2
    go_ret
    exact ⟨rfl, hb06.trans (hb7.mono hb06.size)⟩

end Go.Proofs.YtjjabkimmgcejaaDoor
