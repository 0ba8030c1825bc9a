import Derived.Test.YtbjiamaaocjbfaaGreatDoorCaG
import Derived.Deep.RegionLaw
import Derived.Deep.MidRow
import Derived.Lib.SliceRun
namespace Go.Proofs.YtbjiamaaocjbfaaGreatDoor.Kp
open Go.RowKit Go.Lib Go.Deep Kr

theorem zero_S (w : World) : (zeroValue 38).run Tryz.prog w = .ok (.agg #[.string { data := #[] }, .int .i64 0, .string { data := #[] }]) w := by
  obtain ⟨i0, hi, hz0, _, _⟩ := info_S
  simp [zeroValue, typeInfo, hi, hz0]

theorem clear_slot (W : World) (ty : TypeId) (g o c : Nat) (hc : ∀ j, j < 3 → (W.cell? ⟨g, o + j, none⟩).isSome = true) (hf : ∀ j, j < 3 → W.frozen? ⟨g, o + j, none⟩ = false) :
    (Builtin.clear_ #[30] ty #[.slice (some ⟨g, o, none⟩) 1 c]).run Tryz.prog W = .ok (.tuple #[]) (W.setCells g o [.string { data := #[] }, .int .i64 0, .string { data := #[] }]) := by
  have hst := run_storeCells_cells (P := Tryz.prog) g o [.string { data := #[] }, .int .i64 0, .string { data := #[] }] 0 W (by simpa using hc) (by simpa using hf) (by intro v hv; simp at hv; rcases hv with rfl | rfl | rfl <;> rfl)
  simp only [Nat.add_zero] at hst
  have hzc : (Builtin.zeroCells (Value.agg #[.string { data := #[] }, .int .i64 0, .string { data := #[] }]).cells 1).toList = [.string { data := #[] }, .int .i64 0, .string { data := #[] }] := by
    simp [Builtin.zeroCells, Value.cells, Array.range]
  simp [Builtin.clear_, run_underlying Tryz.underlying30, hzc, hst]

theorem heap_setCells_ne {g b : Nat} (hne : b ≠ g) : ∀ (vs : List Value) (o : Nat) (w : World), (w.setCells g o vs).heap[b]? = w.heap[b]?
  | [], _, _ => rfl
  | v :: r, o, w => by
    show ((w.setCell ⟨g, o, none⟩ v).setCells g (o + 1) r).heap[b]? = _
    rw [heap_setCells_ne hne r, Below.heap_setCell _ _ _ _ hne]

theorem ringCells_erase (ss : List Slot) (k : Nat) : ringCells (ss.eraseIdx k) = ringCells (ss.take k) ++ ringCells (ss.drop (k + 1)) := by
  rw [List.eraseIdx_eq_take_drop_succ, ringCells_append]

set_option maxRecDepth 20000 in
set_option maxHeartbeats 2000000 in
theorem delete_any (w : World) (B g n c k : Nat) (ss : List Slot) (h : OwnS w B (.slice (some ⟨g, 0, none⟩) n c) ss) (hn : n = ss.length) (hk : k < n) (h8 : n ≤ 8) :
    Calls Tryz.prog 36 #[.slice (some ⟨g, 0, none⟩) n c, .int .i64 (k : Int), .int .i64 ((k : Int) + 1)] w fun e w' => e = .returned (.slice (some ⟨g, 0, none⟩) (n - 1) c) ∧ Hid (∀ j u, (ringCells (ss.eraseIdx k))[j]? = some u → w'.cell? ⟨g, j, none⟩ = some u) ∧ Hid (∀ b, b < w.heap.size → b ≠ g → w'.heap[b]? = w.heap[b]?) ∧ Below B w w' := by
  obtain ⟨g', cur, e0, e1, e2, e3, e4, e5, e6⟩ := own_row h hn (by omega)
  injection e0 with e0
  injection e0 with e0 _ _
  subst e0
  have hm : c ≤ 9223372036854775807 := e5
  obtain ⟨news, hnews⟩ : ∃ news, news = ringCells (ss.drop (k + 1)) := ⟨_, rfl⟩
  have hlen : news.length = (n - (k + 1)) * 3 := by rw [hnews, ringCells_length, List.length_drop, hn]
  have hcell : ∀ j u, (ringCells ss)[j]? = some u → w.cell? ⟨g, j, none⟩ = some u := fun j u hu => by
    have hj := (List.getElem?_eq_some_iff.1 hu).1
    rw [ringCells_length] at hj
    rw [← e6, List.getElem?_take, if_pos (by omega), Array.getElem?_toList] at hu
    rw [cell_of_heap e2]
    exact hu
  have hthere : ∀ j, j < n * 3 → (w.cell? ⟨g, j, none⟩).isSome = true ∧ w.frozen? ⟨g, j, none⟩ = false := fun j hj => by
    refine ⟨?_, frozen_of_heap e2⟩
    rw [cell_of_heap e2, Array.getElem?_eq_getElem (by omega)]
    rfl
  have hsplit : ringCells ss = ringCells (ss.take (k + 1)) ++ news := by
    rw [hnews, ← ringCells_append, List.take_append_drop]
  have hnc : ∀ j u, news[j]? = some u → w.cell? ⟨g, (k + 1) * 3 + j, none⟩ = some u := fun j u hu => by
    refine hcell _ _ ?_
    rw [hsplit, List.getElem?_append_right (by rw [ringCells_length, List.length_take]; omega)]
    rw [← hu]
    congr 1
    rw [ringCells_length, List.length_take]
    omega
  obtain ⟨A, hA, hsrc⟩ : ∃ A : Addr, (if c = k + 1 then some (⟨g, 0, none⟩ : Addr) else some ⟨g, (k + 1) * 3, none⟩) = some A ∧ Hid (∀ t u, news[t]? = some u → w.drew.cell? (A.add t) = some u) := by
    by_cases h : c = k + 1
    · refine ⟨⟨g, 0, none⟩, by simp [h], fun t u hu => ?_⟩
      have h0 : news.length = 0 := by rw [hlen]; omega
      rw [List.length_eq_zero_iff.1 h0] at hu
      simp at hu
    · refine ⟨⟨g, (k + 1) * 3, none⟩, by simp [h], fun t u hu => ?_⟩
      have := hnc t u hu
      rw [Addr.add_lit]
      exact this
  have s1 : Hid (news.length = (n - (k + 1)) * 3) := hlen
  have s2 : Hid (∀ u ∈ news, u.oneCell' = true) := by
    intro u hu
    rw [hnews] at hu
    unfold ringCells at hu
    obtain ⟨l, hl, hul⟩ := List.mem_flatten.1 hu
    obtain ⟨s, _, rfl⟩ := List.mem_map.1 hl
    simp [slotCells] at hul
    rcases hul with h | h | h <;> subst h <;> rfl
  have s3 : Hid (∀ t, t < news.length → (w.drew.cell? ⟨g, 0 + k * 3 + t, none⟩).isSome = true ∧ w.drew.frozen? ⟨g, 0 + k * 3 + t, none⟩ = false) := by
    intro t ht
    rw [hlen] at ht
    rw [Nat.zero_add]
    exact hthere _ (by omega)
  obtain ⟨W1, hW1⟩ : ∃ W1, W1 = w.drew.setCells g (0 + k * 3) news := ⟨_, rfl⟩
  have hth1 : ∀ j, j < n * 3 → (W1.cell? ⟨g, j, none⟩).isSome = true ∧ W1.frozen? ⟨g, j, none⟩ = false := fun j hj => by
    rw [hW1]
    refine ⟨World.isSome_setCells _ _ _ _ _ (hthere j hj).1, ?_⟩
    rw [World.frozen?_setCells]
    exact (hthere j hj).2
  have hcl : ∀ ty, (Builtin.clear_ #[30] ty #[.slice (some ⟨g, (k + (n - (k + 1))) * 3, none⟩) (n - (k + (n - (k + 1)))) (c - (k + (n - (k + 1))))]).run Tryz.prog W1 = .ok (.tuple #[]) (W1.setCells g ((k + (n - (k + 1))) * 3) [.string { data := #[] }, .int .i64 0, .string { data := #[] }]) := fun ty => by
    rw [show n - (k + (n - (k + 1))) = 1 by omega]
    exact clear_slot W1 ty g _ _ (fun j hj => (hth1 _ (by omega)).1) (fun j hj => (hth1 _ (by omega)).2)
  have hW : Hid (W1 = w.drew.setCells g (0 + k * 3) news) := hW1
  have hic : k ≤ c := by omega
  have hjc : k + 1 ≤ c := by omega
  have q1 : (k : Int) + 1 ≤ (n : Int) := by omega
  have q0 : (0 : Int) ≤ (k : Int) + 1 := by omega
  obtain ⟨i0, hi, hz0, hz1, hz2⟩ := info_S
  have HC : Hid (∀ j u, (ringCells ss)[j]? = some u → w.cell? ⟨g, j, none⟩ = some u) := hcell
  have HT : Hid (∀ j, j < n * 3 → (w.cell? ⟨g, j, none⟩).isSome = true ∧ w.frozen? ⟨g, j, none⟩ = false) := hthere
  have HL : Hid (n = ss.length ∧ news = ringCells (ss.drop (k + 1)) ∧ news.length = (n - (k + 1)) * 3) := ⟨hn, hnews, hlen⟩
  have HBG : Hid (B ≤ g) := e1
  clear hW1 hth1 hcell hnc hthere hsplit hnews hlen e2 e6 h hn e3 e5 e1
  go_enter Tryz.func36, Tryz.ntmps36
  go_wp2_with fail
  go_region_law (refine step_append_room rfl (.tmp 22) (.tmp 25) 30 rfl 38 i0 3 Tryz.underlying30 hi hz1 g 0 k c (by simp [Act.eval, Act.put]) A (n - (k + 1)) (c - (k + 1)) news (by simp [Act.eval, Act.put]) s1.out hsrc.out s2.out (by omega) s3.out ?_; rw [← hW.out])
  go_wp2
  go_ret
  have hk3 : k + (n - (k + 1)) = n - 1 := by omega
  obtain ⟨l1, l2, l3⟩ := HL.out
  rw [hk3]
  refine ⟨rfl, fun j u hu => ?_, fun b _ hne => ?_, ?_⟩
  · rw [ringCells_erase, ← l2] at hu
    have hjn : j < (n - 1) * 3 := by
      have := (List.getElem?_eq_some_iff.1 hu).1
      rw [List.length_append, ringCells_length, l3, List.length_take] at this
      omega
    rw [World.cell?_setCells_out _ _ _ _ _ (fun _ _ => .inl (by show j < _; omega)), hW.out]
    by_cases hj : j < k * 3
    · rw [List.getElem?_append_left (by rw [ringCells_length, List.length_take]; omega)] at hu
      rw [World.cell?_setCells_out _ _ _ _ _ (fun _ _ => .inl (by show j < _; omega))]
      refine HC.out j u ?_
      have e : ringCells ss = ringCells (ss.take k) ++ ringCells (ss.drop k) := by rw [← ringCells_append, List.take_append_drop]
      rw [e, List.getElem?_append_left (by rw [ringCells_length, List.length_take]; omega)]
      exact hu
    · rw [List.getElem?_append_right (by rw [ringCells_length, List.length_take]; omega), ringCells_length, List.length_take, show min k ss.length * 3 = k * 3 by rw [Nat.min_eq_left (by omega)]] at hu
      have := World.rangeAt_setCells_same w.drew g (0 + k * 3) news (fun t ht => s3.out t ht) (j - k * 3) u hu
      rw [show 0 + k * 3 + (j - k * 3) = j by omega] at this
      exact this
  · rw [heap_setCells_ne hne, hW.out, heap_setCells_ne hne]
    rfl
  · rw [hW.out]
    exact Below.setCells (Below.setCells (Below.refl _ _).drew HBG.out _ _) HBG.out _ _

set_option maxRecDepth 20000 in
set_option maxHeartbeats 2000000 in
theorem dropC : DropC KT := by
  intro t p k w ht hp hT
  by_cases h1 : (parseS t.data.toList).length ≤ 1
  · exact drop_one_any t p k w ht h1 hT
  have c0 := unlock_any t p w ht hT.k
  clear hp
  generalize t.data.toList = T at c0 h1 ⊢
  generalize p.data.toList = P at c0 ⊢
  go_enter Tryz.func18, Tryz.ntmps18
  go_wp2_with fail
  refine c0.mono ?_
  clear c0
  rintro e w1 ⟨a, n, c, rfl, hown, hb1⟩
  obtain ⟨x, y1, y2, y3, hv, hok⟩ := unlockV_eq T P a n c
  rw [hv]
  clear hv
  have HB1 : Hid _ := hb1
  have HO1 : Hid _ := hown
  clear hb1 hown
  by_cases hm : unlockE T P = 0
  · obtain ⟨hx0, hy1, hy2, hy3, hpe, hri⟩ := hok hm
    subst x y1 y2 y3
    obtain ⟨l16, n1, n8, hss⟩ := right_parts hri
    have hnl : n = (parseS T).length := by
      obtain ⟨a1, n2, hv2⟩ := owns_len HO1.out
      injection hv2 with h1 h2 h3
    have hg2 : (w1.alloc (.cells #[.string (str (parseI T)), .slice a n c] 32)).heap[w1.heap.size]? = some (.cells #[.string (str (parseI T)), .slice a n c] 32 (0, 0)) := heap_new _ _
    have HB2 : Hid (Below w.heap.size w (w1.alloc (.cells #[.string (str (parseI T)), .slice a n c] 32))) := HB1.out.alloc HB1.out.size _
    have g0 : (w1.alloc (.cells #[.string (str (parseI T)), .slice a n c] 32)).cell? ⟨w1.heap.size, 0, none⟩ = some (.string (str (parseI T))) := (cell_of_heap hg2).trans rfl
    have g1 : (w1.alloc (.cells #[.string (str (parseI T)), .slice a n c] 32)).cell? ⟨w1.heap.size, 1, none⟩ = some (.slice a n c) := (cell_of_heap hg2).trans rfl
    have hn8 : n ≤ 8 := by omega
    have hn2 : 2 ≤ n := by omega
    by_cases hk : k < 0 ∨ (n : Int) ≤ k
    · have e1 : dropE T P k = 76 := by unfold dropE; rw [if_neg (by simp [hm]), if_pos (by omega)]
      have e2 : dropY T P k = [] := by unfold dropY; rw [e1, if_neg (by decide)]
      have HE : Hid (dropE T P k = 76 ∧ dropY T P k = []) := ⟨e1, e2⟩
      rw [hm]
      clear hok hm e1 e2 hss hg2 hri hnl n1 n8 h1
      by_cases hk0 : k < 0
      · clear hk
        go_wp2
        go_ret2
        exact ⟨by rw [HE.out.1, HE.out.2]; rfl, HB2.out⟩
      · have hk1 : (n : Int) ≤ k := by omega
        clear hk
        go_wp2
        go_ret2
        exact ⟨by rw [HE.out.1, HE.out.2]; rfl, HB2.out⟩
    · obtain ⟨u, rfl⟩ : ∃ u : Nat, k = (u : Int) := ⟨k.toNat, by omega⟩
      have hun : u < n := by omega
      have e1 : dropE T P (u : Int) = 0 := by unfold dropE; rw [if_neg (by simp [hm]), if_neg (by omega), if_neg (by omega)]
      have e2 : dropY T P (u : Int) = printY (parseI T) ((parseS T).eraseIdx u) := by unfold dropY; rw [if_pos e1, Int.toNat_natCast]
      have hle : ((parseS T).eraseIdx u).length = n - 1 := by rw [List.length_eraseIdx_of_lt (by omega)]; omega
      have e3 : printE (parseI T) ((parseS T).eraseIdx u) = 0 := (printY_of (right_mk l16 (by omega) (by omega) fun s hs => decide_eq_true (hss s (List.mem_of_mem_eraseIdx hs)))).2
      have HE : Hid (dropE T P (u : Int) = printE (parseI T) ((parseS T).eraseIdx u) ∧ dropY T P (u : Int) = printY (parseI T) ((parseS T).eraseIdx u)) := ⟨by rw [e1, e3], e2⟩
      obtain ⟨g, cur, rfl, r1, r2, _⟩ := own_row HO1.out hnl (by omega)
      have hgw : g < w1.heap.size := heap_lt r2
      have ho2 : OwnS (w1.alloc (.cells #[.string (str (parseI T)), .slice (some ⟨g, 0, none⟩) n c] 32)) w.heap.size (.slice (some ⟨g, 0, none⟩) n c) (parseS T) := OwnS.below HO1.out ((Below.refl _ _).alloc (Nat.le_refl _) _)
      have hdel := delete_any _ w.heap.size g n c u (parseS T) ho2 hnl hun hn8
      have hunI : (u : Int) < (n : Int) := by omega
      have hu0 : ¬ (u : Int) < 0 := by omega
      have hn1 : ¬ (n : Int) = 1 := by omega
      have HG2 : Hid _ := hg2
      have HLE : Hid (((parseS T).eraseIdx u).length = n - 1) := hle
      rw [hm]
      clear e1 e2 e3 hok hm hss hg2 hri hnl n1 n8 hk r1 r2 ho2 hle HO1 h1
      go_wp2_with fail
      refine hdel.mono ?_
      clear hdel g0 g1
      rintro e w3 ⟨rfl, HC3, HF3, hb3⟩
      have hs3 := hb3.size
      rw [World.size_alloc] at hs3
      have hg3 : w3.heap[w1.heap.size]? = _ := (HF3.out _ (by simp) (by omega)).trans HG2.out
      have HB3 : Hid (Below w.heap.size w w3) := HB2.out.trans hb3
      have f3 : w3.frozen? ⟨w1.heap.size, 1, none⟩ = false := frozen_of_heap hg3
      have k1 : w3.cell? ⟨w1.heap.size, 1, none⟩ = some (.slice (some ⟨g, 0, none⟩) n c) := (cell_of_heap hg3).trans rfl
      have hg7 := heap_setCell_same w3 w1.heap.size 1 _ _ (.slice (some ⟨g, 0, none⟩) (n - 1) c) hg3
      have m0 : (w3.setCell ⟨w1.heap.size, 1, none⟩ (.slice (some ⟨g, 0, none⟩) (n - 1) c)).cell? ⟨w1.heap.size, 0, none⟩ = some (.string (str (parseI T))) := (cell_of_heap hg7).trans rfl
      have m1 : (w3.setCell ⟨w1.heap.size, 1, none⟩ (.slice (some ⟨g, 0, none⟩) (n - 1) c)).cell? ⟨w1.heap.size, 1, none⟩ = some (.slice (some ⟨g, 0, none⟩) (n - 1) c) := (cell_of_heap hg7).trans rfl
      have hb7 : Below w.heap.size w (w3.setCell ⟨w1.heap.size, 1, none⟩ (.slice (some ⟨g, 0, none⟩) (n - 1) c)) := HB3.out.setCell HB1.out.size _
      have hsee : SeeS (w3.setCell ⟨w1.heap.size, 1, none⟩ (.slice (some ⟨g, 0, none⟩) (n - 1) c)) (.slice (some ⟨g, 0, none⟩) (n - 1) c) ((parseS T).eraseIdx u) := by
        refine ⟨some ⟨g, 0, none⟩, g, 0, c, by rw [HLE.out], fun _ => ⟨rfl, by rw [World.size_setCell]; omega⟩, fun j q hq => ?_⟩
        rw [Nat.zero_add]
        exact (World.cell?_of_block (w := w3) (Below.heap_setCell _ _ _ g (by show g ≠ w1.heap.size; omega))).trans (HC3.out j q hq)
      have hpr := print_any (parseI T) (.slice (some ⟨g, 0, none⟩) (n - 1) c) ((parseS T).eraseIdx u) _ hsee (by omega) (by rw [HLE.out]; omega) (hT.below hb7).k.t (hT.below hb7).i (hT.below hb7).k.i
      have HB7 : Hid _ := hb7
      clear hb3 hg3 hg7 hb7 hsee HC3 HF3 HG2 HB2 HB3 HLE
      go_wp2_with fail
      refine hpr.mono ?_
      clear hpr
      rintro e w8 ⟨rfl, hb8⟩
      have HB8 : Hid _ := HB7.out.trans (hb8.mono HB7.out.size)
      clear hb8
      go_wp2
      go_ret2
      exact ⟨by rw [HE.out.1, HE.out.2]; rfl, HB8.out⟩
  · have hne : (unlockE T P != 0) = true := by simpa using hm
    have e1 : dropE T P k = unlockE T P := by unfold dropE; rw [if_pos hm]
    have e2 : dropY T P k = [] := by unfold dropY; rw [e1, if_neg hm]
    have HE : Hid (dropE T P k = unlockE T P ∧ dropY T P k = []) := ⟨e1, e2⟩
    clear hok hm e1 e2
    go_wp2
    go_ret2
    exact ⟨by rw [HE.out.1, HE.out.2]; rfl, HB1.out.alloc HB1.out.size _⟩

end Go.Proofs.YtbjiamaaocjbfaaGreatDoor.Kp
