import Derived.Test.YtbdgbefjmfcgcaaDoorIxZb
import Derived.Test.YtbdgbefjmfcgcaaDoorIxZd
import Derived.Test.YtbdgbefjmfcgcaaDoorIxQ
import Derived.Deep.DeepCutAuto
namespace Go.Proofs.YtbdgbefjmfcgcaaDoor.Ix
open Go.RowKit Go.Lib Go.Deep
/-- the tree while it is made -/
structure Mt (w : World) (sl fl dr mf ls pg : Nat) (v : Value) (T : List Nd) (X : World) : Prop where
  be : Below w.heap.size w X
  hc : X.heap[w.heap.size]? = some (.cells #[.int .i64 (sl : Int), .int .i64 (fl : Int), .int .i64 (dr : Int), .int .i64 (mf : Int), .int .i64 (ls : Int), .int .i64 (pg : Int)] 23 (0, 0))
  hr : X.heap[w.heap.size + 1]? = some (.cells #[.int .i64 0, .int .i64 0, .slice none 0 0] 28 (0, 0))
  ht : X.heap[w.heap.size + 2]? = some (.cells #[.int .i64 (fl : Int), .int .i64 (dr : Int), v] 28 (0, 0))
  ho : X.ownsRow w.heap.size 44 5 v T.length (ndsC T)
section
variable {w X Y : World} {sl fl dr mf ls pg : Nat} {v v' : Value} {T : List Nd}
theorem Mt.next (h : Mt w sl fl dr mf ls pg v T X) (hb : Below X.heap.size X Y) : Mt w sl fl dr mf ls pg v T Y :=
  ⟨below_on hb h.be, (hb.block _ (heap_lt h.hc)).trans h.hc, (hb.block _ (heap_lt h.hr)).trans h.hr, (hb.block _ (heap_lt h.ht)).trans h.ht, owns_below h.ho hb⟩
theorem Mt.cells (h : Mt w sl fl dr mf ls pg v T X) : (X.cell? ⟨w.heap.size, 0, none⟩ = some (.int .i64 (sl : Int)) ∧ X.cell? ⟨w.heap.size, 1, none⟩ = some (.int .i64 (fl : Int)) ∧ X.cell? ⟨w.heap.size, 2, none⟩ = some (.int .i64 (dr : Int)) ∧ X.cell? ⟨w.heap.size, 3, none⟩ = some (.int .i64 (mf : Int)) ∧ X.cell? ⟨w.heap.size, 4, none⟩ = some (.int .i64 (ls : Int)) ∧ X.cell? ⟨w.heap.size, 5, none⟩ = some (.int .i64 (pg : Int))) ∧ X.cell? ⟨w.heap.size + 2, 2, none⟩ = some v ∧ X.frozen? ⟨w.heap.size + 2, 2, none⟩ = false ∧ w.heap.size + 2 < X.heap.size :=
  ⟨cells6 h.hc, (cell_of_heap h.ht).trans rfl, frozen_of_heap h.ht, heap_lt h.ht⟩
theorem ty_ne {X : World} {g p : Nat} {A B : Array Value} {s t : TypeId} {a b : Nat × Nat} (h1 : X.heap[g]? = some (.cells A s a)) (h2 : X.heap[p]? = some (.cells B t b)) (h : s ≠ t) : g ≠ p := fun e => by
  rw [e, h2] at h1
  injection h1 with h1
  injection h1 with _ h1 _
  exact h h1.symm
theorem Mt.app (h : Mt w sl fl dr mf ls pg v T X) (n : Nd) (hg : X.grownBy Y v.ownBlock) (ho : Y.ownsRow w.heap.size 44 5 v' (T.length + 1) (ndsC T ++ ndC n)) :
    Y.cell? ⟨w.heap.size + 2, 2, none⟩ = some v ∧ Y.frozen? ⟨w.heap.size + 2, 2, none⟩ = false ∧ Mt w sl fl dr mf ls pg v' (T ++ [n]) (Y.setCell ⟨w.heap.size + 2, 2, none⟩ v') := by
  have hk : ∀ (p : Nat) (A : Array Value) (t : TypeId), t ≠ 44 → X.heap[p]? = some (.cells A t (0, 0)) → Y.heap[p]? = some (.cells A t (0, 0)) := fun p A t ht hp => (hg.block p (heap_lt hp) (fun e => by
    obtain ⟨cur, hcur⟩ := owns_block h.ho e.symm
    exact ty_ne hp hcur ht rfl)).trans hp
  have ht := hk _ _ _ (by decide) h.ht
  have n0 : w.heap.size ≠ w.heap.size + 2 := by omega
  have n1 : w.heap.size + 1 ≠ w.heap.size + 2 := by omega
  have hbY : Below w.heap.size w Y := h.be.trans (grown_below hg h.be.size h.ho)
  refine ⟨(cell_of_heap ht).trans rfl, frozen_of_heap ht, ⟨hbY.setCell (show w.heap.size ≤ w.heap.size + 2 by omega) _, ?_, ?_, ?_, ?_⟩⟩
  · rw [heap_setCell_other _ _ _ _ n0]
    exact hk _ _ _ (by decide) h.hc
  · rw [heap_setCell_other _ _ _ _ n1]
    exact hk _ _ _ (by decide) h.hr
  · exact heap_setCell_same _ _ 2 _ _ v' ht
  · rw [List.length_append, show ndsC (T ++ [n]) = ndsC T ++ ndC n by simp [ndsC]]
    refine owns_keep ho fun g hgo => heap_setCell_other _ _ _ _ (fun e => ?_)
    obtain ⟨cur, hcur⟩ := owns_block ho hgo
    exact ty_ne hcur ht (by decide) e
theorem Mt.fin (h : Mt w sl fl dr mf ls pg v T X) : (X.cell? ⟨w.heap.size + 2, 0, none⟩ = some (.int .i64 (fl : Int)) ∧ X.cell? ⟨w.heap.size + 2, 1, none⟩ = some (.int .i64 (dr : Int)) ∧ X.cell? ⟨w.heap.size + 2, 2, none⟩ = some v) ∧ (X.cell? ⟨w.heap.size + 1, 0, none⟩ = some (.int .i64 0) ∧ X.cell? ⟨w.heap.size + 1, 1, none⟩ = some (.int .i64 0) ∧ X.cell? ⟨w.heap.size + 1, 2, none⟩ = some (.slice none 0 0)) ∧ (∀ j, X.frozen? ⟨w.heap.size + 1, j, none⟩ = false) ∧
    Hid ((((X.setCell ⟨w.heap.size + 1, 0, none⟩ (.int .i64 (fl : Int))).setCell ⟨w.heap.size + 1, 1, none⟩ (.int .i64 (dr : Int))).setCell ⟨w.heap.size + 1, 2, none⟩ v).heap[w.heap.size + 1]? = some (.cells #[.int .i64 (fl : Int), .int .i64 (dr : Int), v] 28 (0, 0)) ∧ (((X.setCell ⟨w.heap.size + 1, 0, none⟩ (.int .i64 (fl : Int))).setCell ⟨w.heap.size + 1, 1, none⟩ (.int .i64 (dr : Int))).setCell ⟨w.heap.size + 1, 2, none⟩ v).ownsRow w.heap.size 44 5 v T.length (ndsC T) ∧ Below w.heap.size w (((X.setCell ⟨w.heap.size + 1, 0, none⟩ (.int .i64 (fl : Int))).setCell ⟨w.heap.size + 1, 1, none⟩ (.int .i64 (dr : Int))).setCell ⟨w.heap.size + 1, 2, none⟩ v)) := by
  have g1 := h.hr
  have g2 := h.ht
  refine ⟨⟨(cell_of_heap g2).trans rfl, (cell_of_heap g2).trans rfl, (cell_of_heap g2).trans rfl⟩, ⟨(cell_of_heap g1).trans rfl, (cell_of_heap g1).trans rfl, (cell_of_heap g1).trans rfl⟩, fun j => frozen_of_heap g1, Tr.put3A g1, ?_, ((h.be.setCell (show w.heap.size ≤ w.heap.size + 1 by omega) _).setCell (show w.heap.size ≤ w.heap.size + 1 by omega) _).setCell (show w.heap.size ≤ w.heap.size + 1 by omega) _⟩
  refine owns_keep h.ho fun g hgo => ?_
  obtain ⟨cur, hcur⟩ := owns_block h.ho hgo
  have hne : g ≠ w.heap.size + 1 := ty_ne hcur g1 (by decide)
  rw [heap_setCell_other _ _ _ _ hne, heap_setCell_other _ _ _ _ hne, heap_setCell_other _ _ _ _ hne]
end
set_option maxRecDepth 20000 in
set_option maxHeartbeats 2000000 in
/-- a tree that fits -/
theorem madeTree_any (sl fl dr mf ls pg : Nat) (hd : Mde ⟨sl, fl, dr, mf, ls, pg⟩) (Z : List Int) (w : World) (av : Option Addr) (n k0 : Nat) (hS : See w 1 (.slice av n k0) n (zsC Z)) (hn : Z.length = n) :
    Calls Tryd.prog 6 #[.agg #[.int .i64 (sl : Int), .int .i64 (fl : Int), .int .i64 (dr : Int), .int .i64 (mf : Int), .int .i64 (ls : Int), .int .i64 (pg : Int)], .slice av n k0] w fun e w' => ∃ T a c, risB ⟨sl, fl, dr, mf, ls, pg⟩ 0 T = true ∧ T.length ≤ 1000 ∧ e = .returned (.agg #[.int .i64 (fl : Int), .int .i64 (dr : Int), .slice a T.length c]) ∧ w'.ownsRow w.heap.size 44 5 (.slice a T.length c) T.length (ndsC T) ∧ Below w.heap.size w w' := by
  obtain ⟨i0, hi, hz0, hz1, hz2⟩ := info_parts info91
  have hlim : dr ≤ 63 ∧ fl ≤ 64 ∧ mf ≤ 65536 := ⟨hd.dr, hd.fl, hd.may.1.2.2.2.2.2.1⟩
  clear hd
  obtain ⟨V, hV, hbV, g0, g1⟩ := two_new w #[.int .i64 (sl : Int), .int .i64 (fl : Int), .int .i64 (dr : Int), .int .i64 (mf : Int), .int .i64 (ls : Int), .int .i64 (pg : Int)] #[.int .i64 0, .int .i64 0, .slice none 0 0] 23 28
  have hVs : V.heap.size = w.heap.size + 2 := by rw [← hV]; simp
  have hM0 : Mt w sl fl dr mf ls pg (.slice none 0 0) [] (V.alloc (.cells #[.int .i64 (fl : Int), .int .i64 (dr : Int), .slice none 0 0] 28)) := ⟨below_alloc hbV _, heap_keep g0, heap_keep g1, heap_at hVs.symm, World.ownsRow_nil _ _ _ _⟩
  obtain ⟨y0, y1, y2, y3, y4, y5⟩ := cells6 g0
  obtain ⟨M, hM⟩ : ∃ M, min (dr + fl) n = M := ⟨_, rfl⟩
  have HS : Hid (∀ X, Below w.heap.size w X → See X 1 (.slice av n k0) n (zsC Z)) := fun X hX => hS.below hX
  have HM0 : Hid _ := hM0
  clear hM0 g0 g1 hbV hS
  go_enter Tryd.func6, Tryd.ntmps6
  go_wp2_with fail
  clear hV y0 y1 y2 y3 y4 y5 hVs
  go_loopg [6] M (fun gk kv wr => ∃ (k : Nat) (T : List Nd) (v : Value), k + gk = M ∧ T.length ≤ k ∧ kv = .int .i64 (k : Int) ∧ Hid (Tk ⟨sl, fl, dr, mf, ls, pg⟩ k T) ∧ Hid (Mt w sl fl dr mf ls pg v T wr))
  case atStart => exact ⟨0, [], .slice none 0 0, by omega, Nat.le_refl _, rfl, tk_nil _, HM0.out⟩
  case round =>
    obtain ⟨k, T, v, hk, hTl, rfl, HTk, HMt⟩ := hrel
    obtain ⟨⟨y0, y1, y2, y3, y4, y5⟩, c2, f2, hlw⟩ := HMt.out.cells
    by_cases hlt : k < M
    · have hI1 : (k : Int) < (dr : Int) + (fl : Int) := by omega
      have hI2 : (k : Int) < (n : Int) := by omega
      obtain ⟨z, hz⟩ : ∃ z, Z[k]? = some z := ⟨_, List.getElem?_eq_getElem (by omega)⟩
      obtain ⟨b, off, rfl, hbl, hcz⟩ := (HS.out wr HMt.out.be).z hz
      have HSk : Hid (Tk ⟨sl, fl, dr, mf, ls, pg⟩ (k + 1) T) := tk_skip HTk.out
      clear hz
      by_cases h3 : z.tmod 3 = 0
      · go_wp2
        go_roundg (gk - 1)
        case measure => omega
        case rel => exact ⟨k + 1, T, v, by omega, by omega, rfl, HSk.out, HMt.out⟩
      · go_wp2_with fail
        refine (modI_any _ _ (by omega) _).mono ?_
        rintro e w5 ⟨rfl, rfl⟩
        go_wp2_with fail
        refine (letters_any _ _).mono ?_
        rintro e w6 ⟨t, ht, rfl, hb6⟩
        have HM6 : Hid _ := HMt.out.next hb6
        clear y0 y1 y2 y3 y4 y5 c2 f2 hlw
        obtain ⟨⟨y0, y1, y2, y3, y4, y5⟩, c2, f2, hlw⟩ := HM6.out.cells
        go_upto_region 8 with fail
        obtain ⟨W7, hW7, hb7, g7⟩ := one_new w6 #[.int .i64 1, .int .i64 ((k : Int) + 1), .int .i64 (z % ((dr : Int) + 1)), .string t, .int .i64 0] 44
        rw [hW7]
        clear hW7
        have HM7 : Hid _ := HM6.out.next hb7
        clear y0 y1 y2 y3 y4 y5 c2 f2 hlw
        obtain ⟨⟨y0, y1, y2, y3, y4, y5⟩, c2, f2, hlw⟩ := HM7.out.cells
        obtain ⟨x0c, x1c, x2c, x3c, x4c⟩ := cells5 g7
        have f7 : ∀ j, W7.frozen? ⟨w6.heap.size, j, none⟩ = false := fun j => frozen_of_heap g7
        by_cases hkd : k < dr
        · have hkI : ¬ (dr : Int) ≤ (k : Int) := by omega
          obtain ⟨hnd, hpl⟩ := nd_dir sl fl dr mf ls pg k z t ht hkd
          have HT2 : Hid _ := tk_snoc HTk.out hnd hpl
          have HE : Hid (∀ w' v' o, (W7.alloc o).grownBy w' v.ownBlock → w'.ownsRow w.heap.size 44 5 v' (T.length + 1) (ndsC T ++ [.int .i64 1, .int .i64 ((k : Int) + 1), .int .i64 (z % ((dr : Int) + 1)), .string t, .int .i64 0]) → w'.cell? ⟨w.heap.size + 2, 2, none⟩ = some v ∧ w'.frozen? ⟨w.heap.size + 2, 2, none⟩ = false ∧ Hid (Mt w sl fl dr mf ls pg v' (T ++ [⟨1, (k : Int) + 1, z % ((dr : Int) + 1), t, 0⟩]) (w'.setCell ⟨w.heap.size + 2, 2, none⟩ v'))) := fun w' v' o hg ho => (HM7.out.next ((Below.refl W7.heap.size W7).alloc (Nat.le_refl _) o)).app ⟨1, (k : Int) + 1, z % ((dr : Int) + 1), t, 0⟩ hg ho
          have ho := fun o => owns_below HM7.out.ho ((Below.refl W7.heap.size W7).alloc (Nat.le_refl _) o)
          have hl7 : w.heap.size ≤ W7.heap.size := HM7.out.be.size
          have h1c : ∀ u ∈ [.int .i64 1, .int .i64 ((k : Int) + 1), .int .i64 (z % ((dr : Int) + 1)), .string t, .int .i64 0], Value.oneCell' u = true := by simp [Value.oneCell']
          clear hb6 hnd hpl hb7 g7 hcz
          go_wp2_with (first | (at_builtin; refine wpList_append_own _ rfl _ _ 26 rfl w.heap.size 44 i0 (.agg #[.int .i64 0, .int .i64 0, .int .i64 0, .string { data := #[] }, .int .i64 0]) 5 48 Tryd.underlying26 hi hz0 hz1 hz2 rfl (by decide) _ _ _ rfl (ho _) ⟨_, 0, none⟩ 1 1 [.int .i64 1, .int .i64 ((k : Int) + 1), .int .i64 (z % ((dr : Int) + 1)), .string t, .int .i64 0] rfl rfl (by intro i u h; exact cells_new _ #[.int .i64 1, .int .i64 ((k : Int) + 1), .int .i64 (z % ((dr : Int) + 1)), .string t, .int .i64 0] 44 i u (by simpa using h)) h1c (by unfold maxLen; omega) (by omega) (by simp; omega) ?_; intro v' w' hown' hgrow' _; obtain ⟨a9, c9, rfl⟩ := owns_form hown'; obtain ⟨x0, x1, x2⟩ := HE.out w' _ _ hgrow' hown'; clear hown' hgrow'))
          go_roundg (gk - 1)
          case measure => omega
          case rel => exact ⟨k + 1, _, _, by omega, by rw [List.length_append]; exact Nat.succ_le_succ hTl, rfl, HT2.out, x2.out⟩
        · have hkI : (dr : Int) ≤ (k : Int) := by omega
          obtain ⟨hnd, hpl⟩ := nd_file sl fl dr mf ls pg k z t ht (by omega) (by omega)
          obtain ⟨W8, hW8⟩ : ∃ W8, W7.setCell ⟨w6.heap.size, 0, none⟩ (.int .i64 2) = W8 := ⟨_, rfl⟩
          have gW8 : W8.heap[w6.heap.size]? = some (.cells #[.int .i64 2, .int .i64 ((k : Int) + 1), .int .i64 (z % ((dr : Int) + 1)), .string t, .int .i64 0] 44 (0, 0)) := by rw [← hW8]; exact heap_setCell_same _ _ 0 _ _ _ g7
          have bW8 : Below w6.heap.size w6 W8 := by rw [← hW8]; exact hb7.setCell (Nat.le_refl _) _
          obtain ⟨⟨y0W8, y1W8, y2W8, y3W8, y4W8, y5W8⟩, c2W8, f2W8, -⟩ := (HM6.out.next bW8).cells
          obtain ⟨x0W8, x1W8, x2W8, x3W8, x4W8⟩ := cells5 gW8
          have fW8 : ∀ j, W8.frozen? ⟨w6.heap.size, j, none⟩ = false := fun j => frozen_of_heap gW8
          obtain ⟨W9, hW9⟩ : ∃ W9, W8.setCell ⟨w6.heap.size, 1, none⟩ (.int .i64 ((k : Int) - (dr : Int))) = W9 := ⟨_, rfl⟩
          have gW9 : W9.heap[w6.heap.size]? = some (.cells #[.int .i64 2, .int .i64 ((k : Int) - (dr : Int)), .int .i64 (z % ((dr : Int) + 1)), .string t, .int .i64 0] 44 (0, 0)) := by rw [← hW9]; exact heap_setCell_same _ _ 1 _ _ _ gW8
          have bW9 : Below w6.heap.size w6 W9 := by rw [← hW9]; exact bW8.setCell (Nat.le_refl _) _
          obtain ⟨⟨y0W9, y1W9, y2W9, y3W9, y4W9, y5W9⟩, c2W9, f2W9, -⟩ := (HM6.out.next bW9).cells
          obtain ⟨x0W9, x1W9, x2W9, x3W9, x4W9⟩ := cells5 gW9
          have fW9 : ∀ j, W9.frozen? ⟨w6.heap.size, j, none⟩ = false := fun j => frozen_of_heap gW9
          obtain ⟨W10, hW10⟩ : ∃ W10, W9.setCell ⟨w6.heap.size, 4, none⟩ (.int .i64 (z % ((mf : Int) + 1))) = W10 := ⟨_, rfl⟩
          have gW10 : W10.heap[w6.heap.size]? = some (.cells #[.int .i64 2, .int .i64 ((k : Int) - (dr : Int)), .int .i64 (z % ((dr : Int) + 1)), .string t, .int .i64 (z % ((mf : Int) + 1))] 44 (0, 0)) := by rw [← hW10]; exact heap_setCell_same _ _ 4 _ _ _ gW9
          have bW10 : Below w6.heap.size w6 W10 := by rw [← hW10]; exact bW9.setCell (Nat.le_refl _) _
          obtain ⟨⟨y0W10, y1W10, y2W10, y3W10, y4W10, y5W10⟩, c2W10, f2W10, -⟩ := (HM6.out.next bW10).cells
          obtain ⟨x0W10, x1W10, x2W10, x3W10, x4W10⟩ := cells5 gW10
          have fW10 : ∀ j, W10.frozen? ⟨w6.heap.size, j, none⟩ = false := fun j => frozen_of_heap gW10
          have HM10 : Hid _ := HM6.out.next bW10
          have HT2 : Hid _ := tk_snoc HTk.out hnd hpl
          have HE : Hid (∀ w' v' o, (W10.alloc o).grownBy w' v.ownBlock → w'.ownsRow w.heap.size 44 5 v' (T.length + 1) (ndsC T ++ [.int .i64 2, .int .i64 ((k : Int) - (dr : Int)), .int .i64 (z % ((dr : Int) + 1)), .string t, .int .i64 (z % ((mf : Int) + 1))]) → w'.cell? ⟨w.heap.size + 2, 2, none⟩ = some v ∧ w'.frozen? ⟨w.heap.size + 2, 2, none⟩ = false ∧ Hid (Mt w sl fl dr mf ls pg v' (T ++ [⟨2, (k : Int) - (dr : Int), z % ((dr : Int) + 1), t, z % ((mf : Int) + 1)⟩]) (w'.setCell ⟨w.heap.size + 2, 2, none⟩ v'))) := fun w' v' o hg ho => (HM10.out.next ((Below.refl W10.heap.size W10).alloc (Nat.le_refl _) o)).app ⟨2, (k : Int) - (dr : Int), z % ((dr : Int) + 1), t, z % ((mf : Int) + 1)⟩ hg ho
          have ho := fun o => owns_below HM10.out.ho ((Below.refl W10.heap.size W10).alloc (Nat.le_refl _) o)
          have h1c : ∀ u ∈ [.int .i64 2, .int .i64 ((k : Int) - (dr : Int)), .int .i64 (z % ((dr : Int) + 1)), .string t, .int .i64 (z % ((mf : Int) + 1))], Value.oneCell' u = true := by simp [Value.oneCell']
          have hl10 : w.heap.size ≤ W10.heap.size := HM10.out.be.size
          clear hb6 hnd hpl hb7 g7 hcz gW8 gW9 gW10 bW8 bW9 bW10
          go_wp2_with fail
          refine (modI_any _ _ (by omega) _).mono ?_
          rintro e w9 ⟨rfl, hw9⟩
          subst hw9
          go_wp2_with (first | (at_builtin; refine wpList_append_own _ rfl _ _ 26 rfl w.heap.size 44 i0 (.agg #[.int .i64 0, .int .i64 0, .int .i64 0, .string { data := #[] }, .int .i64 0]) 5 48 Tryd.underlying26 hi hz0 hz1 hz2 rfl (by decide) _ _ _ rfl (ho _) ⟨_, 0, none⟩ 1 1 [.int .i64 2, .int .i64 ((k : Int) - (dr : Int)), .int .i64 (z % ((dr : Int) + 1)), .string t, .int .i64 (z % ((mf : Int) + 1))] rfl rfl (by intro i u h; exact cells_new _ #[.int .i64 2, .int .i64 ((k : Int) - (dr : Int)), .int .i64 (z % ((dr : Int) + 1)), .string t, .int .i64 (z % ((mf : Int) + 1))] 44 i u (by simpa using h)) h1c (by unfold maxLen; omega) (by omega) (by simp; omega) ?_; intro v' w' hown' hgrow' _; obtain ⟨a9, c9, rfl⟩ := owns_form hown'; obtain ⟨x0, x1, x2⟩ := HE.out w' _ _ hgrow' hown'; clear hown' hgrow'))
          go_roundg (gk - 1)
          case measure => omega
          case rel => exact ⟨k + 1, _, _, by omega, by rw [List.length_append]; exact Nat.succ_le_succ hTl, rfl, HT2.out, x2.out⟩
    · obtain ⟨⟨t0, t1, t2⟩, ⟨r0, r1, r2⟩, fz, HF⟩ := HMt.out.fin
      obtain ⟨a, c, hv⟩ := owns_form HMt.out.ho
      subst hv
      rcases Nat.lt_or_ge k (dr + fl) with h | h
      · have hI1 : (k : Int) < (dr : Int) + (fl : Int) := by omega
        have hI2 : ¬ (k : Int) < (n : Int) := by omega
        go_wp2
        refine bodyPost_ret (Tr.results_cell1 rfl _ _ (w.heap.size + 1) 28 _ (0, 0) _ rfl HF.out.1 Tryd.underlying28 rfl size56) rfl ?_
        exact ⟨T, tk_ris HTk.out, by omega, a, c, rfl, HF.out.2.1, HF.out.2.2⟩
      · have hI1 : ¬ (k : Int) < (dr : Int) + (fl : Int) := by omega
        go_wp2
        refine bodyPost_ret (Tr.results_cell1 rfl _ _ (w.heap.size + 1) 28 _ (0, 0) _ rfl HF.out.1 Tryd.underlying28 rfl size56) rfl ?_
        exact ⟨T, tk_ris HTk.out, by omega, a, c, rfl, HF.out.2.1, HF.out.2.2⟩
end Go.Proofs.YtbdgbefjmfcgcaaDoor.Ix
