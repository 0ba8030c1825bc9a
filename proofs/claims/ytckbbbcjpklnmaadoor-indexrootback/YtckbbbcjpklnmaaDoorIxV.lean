import Derived.Test.YtckbbbcjpklnmaaDoorIxU
namespace Go.Proofs.YtckbbbcjpklnmaaDoor.Ix
open Go.RowKit Go.Lib Go.Deep

theorem size38 : (Tryd.prog.info? 38).map (·.size) = some 7 := by kernel_rfl
/-- the block of an answer, written over -/
structure Res7 (w W : World) (y : Array Value) (X : World) : Prop where
  hp : X.heap[w.heap.size]? = some (.cells y 38 (0, 0))
  be : Below w.heap.size w X
def put7 (W : World) (g : Nat) (y0 y1 y2 y3 y4 y5 y6 : Value) : World := ((((((W.setCell ⟨g, 0, none⟩ y0).setCell ⟨g, 1, none⟩ y1).setCell ⟨g, 2, none⟩ y2).setCell ⟨g, 3, none⟩ y3).setCell ⟨g, 4, none⟩ y4).setCell ⟨g, 5, none⟩ y5).setCell ⟨g, 6, none⟩ y6
theorem put7_res {w W : World} {g : Nat} {t : TypeId} {x0 x1 x2 x3 x4 x5 x6 : Value} (h : W.heap[g]? = some (.cells #[x0, x1, x2, x3, x4, x5, x6] t (0, 0))) (hb : Below w.heap.size w W) (hg : w.heap.size ≤ g) (y0 y1 y2 y3 y4 y5 y6 : Value) :
    (put7 W g y0 y1 y2 y3 y4 y5 y6).heap[g]? = some (.cells #[y0, y1, y2, y3, y4, y5, y6] t (0, 0)) ∧ Below w.heap.size w (put7 W g y0 y1 y2 y3 y4 y5 y6) :=
  ⟨Tr.put7A h, ((((((hb.setCell (by simpa using hg) _).setCell (by simpa using hg) _).setCell (by simpa using hg) _).setCell (by simpa using hg) _).setCell (by simpa using hg) _).setCell (by simpa using hg) _).setCell (by simpa using hg) _⟩
theorem cells7 {W : World} {g : Nat} {t : TypeId} {x0 x1 x2 x3 x4 x5 x6 : Value} (h : W.heap[g]? = some (.cells #[x0, x1, x2, x3, x4, x5, x6] t (0, 0))) : W.cell? ⟨g, 0, none⟩ = some x0 ∧ W.cell? ⟨g, 1, none⟩ = some x1 ∧ W.cell? ⟨g, 2, none⟩ = some x2 ∧ W.cell? ⟨g, 3, none⟩ = some x3 ∧ W.cell? ⟨g, 4, none⟩ = some x4 ∧ W.cell? ⟨g, 5, none⟩ = some x5 ∧ W.cell? ⟨g, 6, none⟩ = some x6 ∧ ∀ j, W.frozen? ⟨g, j, none⟩ = false :=
  ⟨(cell_of_heap h).trans rfl, (cell_of_heap h).trans rfl, (cell_of_heap h).trans rfl, (cell_of_heap h).trans rfl, (cell_of_heap h).trans rfl, (cell_of_heap h).trans rfl, (cell_of_heap h).trans rfl, fun _ => frozen_of_heap h⟩
theorem rc_rd (s : ByteArray) (h : 27 ≤ s.size) : rc26 (s.extract 1 27).data.toList = rdCf s.data.toList := by
  rw [ext_seg s 1 27 h (by omega), str_data]
  unfold rc26 rdCf
  rw [seg_seg _ _ _ _ _ (by omega), seg_seg _ _ _ _ _ (by omega), seg_seg _ _ _ _ _ (by omega), seg_seg _ _ _ _ _ (by omega), seg_seg _ _ _ _ _ (by omega), seg_seg _ _ _ _ _ (by omega)]
set_option maxRecDepth 20000 in
set_option maxHeartbeats 2000000 in
theorem readRoot_short (s : ByteArray) (hs : s.size < 27) (w : World) : Calls Tryd.prog 43 #[.string s] w fun e w' => e = .returned (.tuple #[.agg #[.int .i64 0, .int .i64 0, .int .i64 0, .int .i64 0, .int .i64 0, .int .i64 0, .slice none 0 0], .bool false]) ∧ Below w.heap.size w w' := by
  obtain ⟨V0, hV0, hb0, g0⟩ := one_new w #[.int .i64 0, .int .i64 0, .int .i64 0, .int .i64 0, .int .i64 0, .int .i64 0, .slice none 0 0] 38
  obtain ⟨c0, c1, c2, c3, c4, c5, c6, fz⟩ := cells7 g0
  obtain ⟨E1, E2⟩ := put7_res g0 hb0 (Nat.le_refl _) (.int .i64 0) (.int .i64 0) (.int .i64 0) (.int .i64 0) (.int .i64 0) (.int .i64 0) (.slice none 0 0)
  have hI : (s.size : Int) < 27 := by omega
  clear g0 hb0
  unfold put7 at E1 E2
  have HE : Hid _ := E2
  have HE1 : Hid _ := E1
  clear E1 E2
  go_enter Tryd.func43, Tryd.ntmps43
  go_wp2
  exact bodyPost_ret (Tr.results_cellt rfl _ _ w.heap.size 38 _ (0, 0) _ rfl HE1.out Tryd.underlying38 rfl size38) rfl ⟨rfl, HE.out⟩
set_option maxRecDepth 20000 in
set_option maxHeartbeats 2000000 in
theorem readRoot_no (s : ByteArray) (hs : 27 ≤ s.size) (hs2 : s.size ≤ 140737488355328) (hno : ¬ Rok s.data.toList) (w : World) (hT : RT w) : Calls Tryd.prog 43 #[.string s] w fun e w' => e = .returned (.tuple #[.agg #[.int .i64 0, .int .i64 0, .int .i64 0, .int .i64 0, .int .i64 0, .int .i64 0, .slice none 0 0], .bool false]) ∧ Below w.heap.size w w' := by
  obtain ⟨V0, hV0, hb0, g0⟩ := one_new w #[.int .i64 0, .int .i64 0, .int .i64 0, .int .i64 0, .int .i64 0, .int .i64 0, .slice none 0 0] 38
  have hx1 : (s.extract 1 27).size = 26 := by rw [ByteArray.size_extract]; omega
  have KC := readConfig_any (s.extract 1 27) hx1
  rw [rc_rd s hs] at KC
  obtain ⟨x, hx⟩ : ∃ x, s.extract 1 27 = x := ⟨_, rfl⟩
  rw [hx] at KC
  have hl : s.data.toList.length = s.size := (size_eq s).symm
  have KM := fun X hX => mayBe_any (rdCf s.data.toList).cf X hX
  have hcase : ¬ (rdCf s.data.toList).cf.May ∨ ((rdCf s.data.toList).cf.May ∧ s.size ≠ 27 + 32 * (rdCf s.data.toList).pgs) := by
    by_cases h1 : (rdCf s.data.toList).cf.May
    · right
      refine ⟨h1, fun e => hno ⟨by omega, h1, by omega⟩⟩
    · exact .inl h1
  generalize rdCf s.data.toList = d at *
  have HIn : Hid (d.cf.May → d.In ∧ d.pgs ≤ 1024) := fun h => ⟨by have := h.1.cn.2; rwa [Cn.cf_n] at this, by have := h.2; rwa [Cn.cf_n] at this⟩
  obtain ⟨Z, hZ⟩ : ∃ Z, decide d.cf.May = Z := ⟨_, rfl⟩
  rw [hZ] at KM
  have HZ : Hid (decide d.cf.May = Z) := hZ
  clear hZ
  obtain ⟨sl, fl, dr, mf, ls, pg⟩ := d
  have KP := fun h X hX => pageCount_any sl fl dr mf ls pg h X hX
  have l0 := heap_lt g0
  have HX : Hid (∀ w1, Below V0.heap.size V0 w1 → ∃ V1, w1.alloc (.cells #[.int .i64 (sl : Int), .int .i64 (fl : Int), .int .i64 (dr : Int), .int .i64 (mf : Int), .int .i64 (ls : Int), .int .i64 (pg : Int), .slice none 0 0] 38) = V1 ∧ RT V1 ∧ (∀ X, Below V1.heap.size V1 X → RT X ∧ X.heap[w1.heap.size]? = some (.cells #[.int .i64 (sl : Int), .int .i64 (fl : Int), .int .i64 (dr : Int), .int .i64 (mf : Int), .int .i64 (ls : Int), .int .i64 (pg : Int), .slice none 0 0] 38 (0, 0)) ∧ X.heap[w.heap.size]? = some (.cells #[.int .i64 0, .int .i64 0, .int .i64 0, .int .i64 0, .int .i64 0, .int .i64 0, .slice none 0 0] 38 (0, 0)) ∧ Below w.heap.size w X)) := fun w1 h1 => by
    obtain ⟨V1, e1, b1, g1⟩ := one_new w1 #[.int .i64 (sl : Int), .int .i64 (fl : Int), .int .i64 (dr : Int), .int .i64 (mf : Int), .int .i64 (ls : Int), .int .i64 (pg : Int), .slice none 0 0] 38
    have hb : Below w.heap.size w w1 := hb0.trans (h1.mono hb0.size)
    have l1 := heap_lt g1
    refine ⟨V1, e1, (hT.next hb).next b1, fun X hX => ?_⟩
    have hbX : Below w.heap.size w X := (hb.trans (b1.mono hb.size)).trans (hX.mono (Nat.le_trans hb.size b1.size))
    refine ⟨hT.next hbX, (hX.block _ l1).trans g1, ?_, hbX⟩
    have h3 : w1.heap[w.heap.size]? = some (.cells #[.int .i64 0, .int .i64 0, .int .i64 0, .int .i64 0, .int .i64 0, .int .i64 0, .slice none 0 0] 38 (0, 0)) := (h1.block _ l0).trans g0
    exact (hX.block _ (Nat.lt_of_lt_of_le (heap_lt h3) b1.size)).trans ((b1.block _ (heap_lt h3)).trans h3)
  unfold cfV cfA Cn.cf at KC KM
  simp only at KC KM
  have hI : ¬ (s.size : Int) < 27 := by omega
  have hI2 : (27 : Int) ≤ (s.size : Int) := by omega
  clear g0 hb0 hno hl hT
  go_enter Tryd.func43, Tryd.ntmps43
  go_wp2_with fail
  refine (KC _).mono ?_
  rintro e w1 ⟨rfl, hb1⟩
  obtain ⟨V1, rfl, hT1, HV0⟩ := HX.out w1 hb1
  have KM1 := KM _ hT1
  have HV : Hid _ := HV0
  clear HX KM KC HV0 hT1
  go_wp2_with fail
  refine KM1.mono ?_
  rintro e w2 ⟨rfl, hb2⟩
  obtain ⟨hT2, q1, q2, q3⟩ := HV.out w2 hb2
  rcases hcase with hc | ⟨hc, hne⟩
  · obtain rfl : Z = false := by rw [← HZ.out]; exact decide_eq_false hc
    obtain ⟨c0, c1, c2, c3, c4, c5, c6, fz⟩ := cells7 q2
    obtain ⟨E1, E2⟩ := put7_res q2 q3 (Nat.le_refl _) (.int .i64 0) (.int .i64 0) (.int .i64 0) (.int .i64 0) (.int .i64 0) (.int .i64 0) (.slice none 0 0)
    unfold put7 at E1 E2
    have HE : Hid _ := E2
    have HE1 : Hid _ := E1
    clear E1 E2 q1 q2 q3 hT2 HV hc KP HIn KM1
    go_wp2
    exact bodyPost_ret (Tr.results_cellt rfl _ _ w.heap.size 38 _ (0, 0) _ rfl HE1.out Tryd.underlying38 rfl size38) rfl ⟨rfl, HE.out⟩
  · obtain rfl : Z = true := by rw [← HZ.out]; exact decide_eq_true hc
    obtain ⟨hIn, hM1⟩ := HIn.out hc
    have KP2 := KP hIn w2 hT2
    obtain ⟨M, hM⟩ : ∃ M, Cn.pgs ⟨sl, fl, dr, mf, ls, pg⟩ = M := ⟨_, rfl⟩
    rw [hM] at KP2 hne hM1
    obtain ⟨d0, d1, d2, d3, d4, d5, d6, -⟩ := cells7 q1
    have HK : Hid (∀ X, Below w2.heap.size w2 X → X.heap[w.heap.size]? = some (.cells #[.int .i64 0, .int .i64 0, .int .i64 0, .int .i64 0, .int .i64 0, .int .i64 0, .slice none 0 0] 38 (0, 0)) ∧ Below w.heap.size w X) := fun X hX => ⟨(hX.block _ (heap_lt q2)).trans q2, q3.trans (hX.mono q3.size)⟩
    have hneI : ((s.size : Int) != 27 + 32 * (M : Int)) = true := by
      rw [bne_iff_ne]
      omega
    clear q1 q2 q3 hT2 HV hc KP HIn KM1 hIn hM hne
    go_wp2_with fail
    refine KP2.mono ?_
    rintro e w3 ⟨rfl, hb3⟩
    obtain ⟨r1, r2⟩ := HK.out w3 hb3
    obtain ⟨c0, c1, c2, c3, c4, c5, c6, fz⟩ := cells7 r1
    obtain ⟨E1, E2⟩ := put7_res r1 r2 (Nat.le_refl _) (.int .i64 0) (.int .i64 0) (.int .i64 0) (.int .i64 0) (.int .i64 0) (.int .i64 0) (.slice none 0 0)
    unfold put7 at E1 E2
    have HE : Hid _ := E2
    have HE1 : Hid _ := E1
    clear E1 E2 r1 r2 HK hb3 hb2 hb1
    go_wp2
    exact bodyPost_ret (Tr.results_cellt rfl _ _ w.heap.size 38 _ (0, 0) _ rfl HE1.out Tryd.underlying38 rfl size38) rfl ⟨rfl, HE.out⟩
end Go.Proofs.YtckbbbcjpklnmaaDoor.Ix
