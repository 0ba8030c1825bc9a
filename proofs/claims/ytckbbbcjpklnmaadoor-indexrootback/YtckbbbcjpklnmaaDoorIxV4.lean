import Derived.Test.YtckbbbcjpklnmaaDoorIxV3
namespace Go.Proofs.YtckbbbcjpklnmaaDoor.Ix
open Go.RowKit Go.Lib Go.Deep

theorem toList_inj {a b : ByteArray} (h : a.toList = b.toList) : a = b := by
  rw [toList_data, toList_data] at h
  cases a
  cases b
  simp only at h
  rw [Array.toList_inj.1 h]
theorem one_new2 (w : World) (A : Array Value) (s : TypeId) : Below w.heap.size w (w.alloc (.cells A s)) ∧ (w.alloc (.cells A s)).heap[w.heap.size]? = some (.cells A s (0, 0)) := ⟨(Below.refl _ _).alloc (Nat.le_refl _) _, heap_new w _⟩
set_option maxRecDepth 20000 in
set_option maxHeartbeats 1000000 in
theorem decRoot_x (sl' fl' dr' mf' ls' pg' : Int) (s : ByteArray) (D : List UInt8) (hD : s.data.toList = D) (sl fl dr mf ls pg M : Nat) (hd : rdCf D = ⟨sl, fl, dr, mf, ls, pg⟩) (hIn : Cn.In ⟨sl, fl, dr, mf, ls, pg⟩) (hM : Cn.pgs ⟨sl, fl, dr, mf, ls, pg⟩ = M) (hM1 : M ≤ 1024) (hMp : 1 ≤ M) (hlen : s.size = 27 + 32 * M) (HCMP : ¬ str (rootL ⟨sl, fl, dr, mf, ls, pg⟩ (rdRs D M)) = s) (hm : Cf.May ⟨sl', fl', dr', mf', ls', pg'⟩) (w : World) (hT : RT w) :
    Calls Tryd.prog 17 #[.agg #[.int .i64 sl', .int .i64 fl', .int .i64 dr', .int .i64 mf', .int .i64 ls', .int .i64 pg'], .string s] w fun e w' => e = .returned (.tuple #[.agg zRoot, .int .i64 141]) ∧ Below w.heap.size w w' := by
  (try unfold zRoot)
  have KM := fun X hX => mayBe_any ⟨sl', fl', dr', mf', ls', pg'⟩ X hX
  rw [decide_eq_true hm] at KM
  have KR := fun X hX => readRoot_yes' s D hD sl fl dr mf ls pg M hd hIn hM hM1 hMp hlen X hX
  have hRf : ∀ r ∈ rdRs D M, RfF r := rdR_size (by rw [← hD, ← hlen]; rfl)
  have KO := fun X av k (h : See X 2 (.slice av M k) M (rfsC (rdRs D M))) => rootOf_any ⟨sl, fl, dr, mf, ls, pg⟩ hIn (rdRs D M) (by rw [rdRs_len]; exact hM1) hRf X av M k h (rdRs_len D M) (by omega)
  have eP : ∀ v : Value, cfA (Cn.cf ⟨sl, fl, dr, mf, ls, pg⟩) ++ #[v] = #[.int .i64 (sl : Int), .int .i64 (fl : Int), .int .i64 (dr : Int), .int .i64 (mf : Int), .int .i64 (ls : Int), .int .i64 (pg : Int), v] := fun v => rfl
  simp only [eP] at KO
  clear eP hRf hIn hM hd hm
  obtain ⟨RS, hRS⟩ : ∃ RS, str (rootL ⟨sl, fl, dr, mf, ls, pg⟩ (rdRs D M)) = RS := ⟨_, rfl⟩
  rw [hRS] at KO HCMP
  clear hRS
  unfold cfV cfA at KM
  simp only at KM
  obtain ⟨V, hV, hbV, g0, g1⟩ := two_new w #[.int .i64 sl', .int .i64 fl', .int .i64 dr', .int .i64 mf', .int .i64 ls', .int .i64 pg'] #[.int .i64 0, .int .i64 0, .int .i64 0, .int .i64 0, .int .i64 0, .int .i64 0, .slice none 0 0] 23 38
  have l0 := heap_lt g0
  have l1 := heap_lt g1
  have KM0 := KM V (hT.next hbV)
  obtain ⟨y0, y1, y2, y3, y4, y5⟩ := cells6 g0
  have HX : Hid (∀ X, Below V.heap.size V X → X.heap[w.heap.size]? = some (.cells #[.int .i64 sl', .int .i64 fl', .int .i64 dr', .int .i64 mf', .int .i64 ls', .int .i64 pg'] 23 (0, 0)) ∧ X.heap[w.heap.size + 1]? = some (.cells #[.int .i64 0, .int .i64 0, .int .i64 0, .int .i64 0, .int .i64 0, .int .i64 0, .slice none 0 0] 38 (0, 0)) ∧ Below w.heap.size w X ∧ RT X) := fun X hX => by
    have hb := hbV.trans (hX.mono hbV.size)
    exact ⟨(hX.block _ l0).trans g0, (hX.block _ l1).trans g1, hb, hT.next hb⟩
  have HVS : Hid (w.heap.size + 1 < V.heap.size) := l1
  clear g0 g1 hbV KM hT
  go_enter Tryd.func17, Tryd.ntmps17
  go_wp2_with fail
  refine KM0.mono ?_
  rintro e w1 ⟨rfl, hb1⟩
  obtain ⟨-, -, -, q3⟩ := HX.out w1 hb1
  clear y0 y1 y2 y3 y4 y5 KM0
  go_wp2_with fail
  refine (KR _ q3).mono ?_
  rintro e w2 ⟨av, cv, rfl, ho2, hb2'⟩
  have hb2 := hb1.trans (hb2'.mono hb1.size)
  have ho3 := owns_base (B' := V.heap.size) ho2 hb1.size
  obtain ⟨hn1, hn2⟩ := one_new2 w2 #[.int .i64 (sl : Int), .int .i64 (fl : Int), .int .i64 (dr : Int), .int .i64 (mf : Int), .int .i64 (ls : Int), .int .i64 (pg : Int), .slice av M cv] 38
  have hb3 := hb2.alloc (o := .cells #[.int .i64 (sl : Int), .int .i64 (fl : Int), .int .i64 (dr : Int), .int .i64 (mf : Int), .int .i64 (ls : Int), .int .i64 (pg : Int), .slice av M cv] 38) hb2.size
  have hO3 := owns_below ho3 hn1
  have KO1 := KO _ av cv (see_own hO3 (rfs_one _))
  have HX3 : Hid (∀ X, Below (w2.alloc (.cells #[.int .i64 (sl : Int), .int .i64 (fl : Int), .int .i64 (dr : Int), .int .i64 (mf : Int), .int .i64 (ls : Int), .int .i64 (pg : Int), .slice av M cv] 38)).heap.size (w2.alloc (.cells #[.int .i64 (sl : Int), .int .i64 (fl : Int), .int .i64 (dr : Int), .int .i64 (mf : Int), .int .i64 (ls : Int), .int .i64 (pg : Int), .slice av M cv] 38)) X → X.heap[w2.heap.size]? = some (.cells #[.int .i64 (sl : Int), .int .i64 (fl : Int), .int .i64 (dr : Int), .int .i64 (mf : Int), .int .i64 (ls : Int), .int .i64 (pg : Int), .slice av M cv] 38 (0, 0)) ∧ Below V.heap.size V X ∧ X.ownsRow V.heap.size 48 2 (.slice av M cv) M (rfsC (rdRs D M))) := fun X hX => ⟨(hX.block _ (heap_lt hn2)).trans hn2, hb3.trans (hX.mono hb3.size), owns_below hO3 hX⟩
  have hVs2 : V.heap.size ≤ w2.heap.size := hb2.size
  clear hb1 hb2' hb2 hb3 ho2 ho3 hn1 hn2 hO3 KR KO q3
  go_wp2_with fail
  refine KO1.mono ?_
  rintro e w3 ⟨rfl, hb4⟩
  obtain ⟨p1, p2, p3⟩ := HX3.out w3 hb4
  obtain ⟨q0, q1, q2, -⟩ := HX.out w3 p2
  obtain ⟨c0, c1, c2, c3, c4, c5, c6, fz, HE⟩ := zero7 q1 q2 (by omega)
  have hcm : (RS.toList == s.toList) = false := beq_false_of_ne (fun e => HCMP (toList_inj e))
  have hcm2 : (RS.toList != s.toList) = true := by rw [bne_iff_ne]; exact fun e => HCMP (toList_inj e)
  clear q0 q1 q2 p1 p2 p3 HX HX3 KO1 hb4 HCMP
  go_wp2
  refine bodyPost_ret (Tr.results_cellt rfl _ _ (w.heap.size + 1) 38 _ (0, 0) _ rfl HE.out.1 Tryd.underlying38 rfl size38) rfl ?_
  exact ⟨rfl, HE.out.2⟩
set_option maxRecDepth 20000 in
set_option maxHeartbeats 1000000 in
theorem decRoot_y (sl' fl' dr' mf' ls' pg' : Int) (s : ByteArray) (D : List UInt8) (hD : s.data.toList = D) (sl fl dr mf ls pg M : Nat) (hd : rdCf D = ⟨sl, fl, dr, mf, ls, pg⟩) (hIn : Cn.In ⟨sl, fl, dr, mf, ls, pg⟩) (hM : Cn.pgs ⟨sl, fl, dr, mf, ls, pg⟩ = M) (hM1 : M ≤ 1024) (hMp : 1 ≤ M) (hlen : s.size = 27 + 32 * M) (HCMP : str (rootL ⟨sl, fl, dr, mf, ls, pg⟩ (rdRs D M)) = s) (hm : Cf.May ⟨sl', fl', dr', mf', ls', pg'⟩) (HNE : Hid (¬ Cn.cf ⟨sl, fl, dr, mf, ls, pg⟩ = ⟨sl', fl', dr', mf', ls', pg'⟩)) (w : World) (hT : RT w) :
    Calls Tryd.prog 17 #[.agg #[.int .i64 sl', .int .i64 fl', .int .i64 dr', .int .i64 mf', .int .i64 ls', .int .i64 pg'], .string s] w fun e w' => e = .returned (.tuple #[.agg zRoot, .int .i64 140]) ∧ Below w.heap.size w w' := by
  (try unfold zRoot)
  have KM := fun X hX => mayBe_any ⟨sl', fl', dr', mf', ls', pg'⟩ X hX
  rw [decide_eq_true hm] at KM
  have KR := fun X hX => readRoot_yes' s D hD sl fl dr mf ls pg M hd hIn hM hM1 hMp hlen X hX
  have hRf : ∀ r ∈ rdRs D M, RfF r := rdR_size (by rw [← hD, ← hlen]; rfl)
  have KO := fun X av k (h : See X 2 (.slice av M k) M (rfsC (rdRs D M))) => rootOf_any ⟨sl, fl, dr, mf, ls, pg⟩ hIn (rdRs D M) (by rw [rdRs_len]; exact hM1) hRf X av M k h (rdRs_len D M) (by omega)
  have eP : ∀ v : Value, cfA (Cn.cf ⟨sl, fl, dr, mf, ls, pg⟩) ++ #[v] = #[.int .i64 (sl : Int), .int .i64 (fl : Int), .int .i64 (dr : Int), .int .i64 (mf : Int), .int .i64 (ls : Int), .int .i64 (pg : Int), v] := fun v => rfl
  simp only [eP] at KO
  clear eP hRf hIn hM hd hm
  obtain ⟨RS, hRS⟩ : ∃ RS, str (rootL ⟨sl, fl, dr, mf, ls, pg⟩ (rdRs D M)) = RS := ⟨_, rfl⟩
  rw [hRS] at KO HCMP
  clear hRS
  unfold cfV cfA at KM
  simp only at KM
  obtain ⟨V, hV, hbV, g0, g1⟩ := two_new w #[.int .i64 sl', .int .i64 fl', .int .i64 dr', .int .i64 mf', .int .i64 ls', .int .i64 pg'] #[.int .i64 0, .int .i64 0, .int .i64 0, .int .i64 0, .int .i64 0, .int .i64 0, .slice none 0 0] 23 38
  have l0 := heap_lt g0
  have l1 := heap_lt g1
  have KM0 := KM V (hT.next hbV)
  obtain ⟨y0, y1, y2, y3, y4, y5⟩ := cells6 g0
  have HX : Hid (∀ X, Below V.heap.size V X → X.heap[w.heap.size]? = some (.cells #[.int .i64 sl', .int .i64 fl', .int .i64 dr', .int .i64 mf', .int .i64 ls', .int .i64 pg'] 23 (0, 0)) ∧ X.heap[w.heap.size + 1]? = some (.cells #[.int .i64 0, .int .i64 0, .int .i64 0, .int .i64 0, .int .i64 0, .int .i64 0, .slice none 0 0] 38 (0, 0)) ∧ Below w.heap.size w X ∧ RT X) := fun X hX => by
    have hb := hbV.trans (hX.mono hbV.size)
    exact ⟨(hX.block _ l0).trans g0, (hX.block _ l1).trans g1, hb, hT.next hb⟩
  have HVS : Hid (w.heap.size + 1 < V.heap.size) := l1
  clear g0 g1 hbV KM hT
  go_enter Tryd.func17, Tryd.ntmps17
  go_wp2_with fail
  refine KM0.mono ?_
  rintro e w1 ⟨rfl, hb1⟩
  obtain ⟨-, -, -, q3⟩ := HX.out w1 hb1
  clear y0 y1 y2 y3 y4 y5 KM0
  go_wp2_with fail
  refine (KR _ q3).mono ?_
  rintro e w2 ⟨av, cv, rfl, ho2, hb2'⟩
  have hb2 := hb1.trans (hb2'.mono hb1.size)
  have ho3 := owns_base (B' := V.heap.size) ho2 hb1.size
  obtain ⟨hn1, hn2⟩ := one_new2 w2 #[.int .i64 (sl : Int), .int .i64 (fl : Int), .int .i64 (dr : Int), .int .i64 (mf : Int), .int .i64 (ls : Int), .int .i64 (pg : Int), .slice av M cv] 38
  have hb3 := hb2.alloc (o := .cells #[.int .i64 (sl : Int), .int .i64 (fl : Int), .int .i64 (dr : Int), .int .i64 (mf : Int), .int .i64 (ls : Int), .int .i64 (pg : Int), .slice av M cv] 38) hb2.size
  have hO3 := owns_below ho3 hn1
  have KO1 := KO _ av cv (see_own hO3 (rfs_one _))
  have HX3 : Hid (∀ X, Below (w2.alloc (.cells #[.int .i64 (sl : Int), .int .i64 (fl : Int), .int .i64 (dr : Int), .int .i64 (mf : Int), .int .i64 (ls : Int), .int .i64 (pg : Int), .slice av M cv] 38)).heap.size (w2.alloc (.cells #[.int .i64 (sl : Int), .int .i64 (fl : Int), .int .i64 (dr : Int), .int .i64 (mf : Int), .int .i64 (ls : Int), .int .i64 (pg : Int), .slice av M cv] 38)) X → X.heap[w2.heap.size]? = some (.cells #[.int .i64 (sl : Int), .int .i64 (fl : Int), .int .i64 (dr : Int), .int .i64 (mf : Int), .int .i64 (ls : Int), .int .i64 (pg : Int), .slice av M cv] 38 (0, 0)) ∧ Below V.heap.size V X ∧ X.ownsRow V.heap.size 48 2 (.slice av M cv) M (rfsC (rdRs D M))) := fun X hX => ⟨(hX.block _ (heap_lt hn2)).trans hn2, hb3.trans (hX.mono hb3.size), owns_below hO3 hX⟩
  have hVs2 : V.heap.size ≤ w2.heap.size := hb2.size
  clear hb1 hb2' hb2 hb3 ho2 ho3 hn1 hn2 hO3 KR KO q3
  go_wp2_with fail
  refine KO1.mono ?_
  rintro e w3 ⟨rfl, hb4⟩
  obtain ⟨p1, p2, p3⟩ := HX3.out w3 hb4
  obtain ⟨q0, q1, q2, -⟩ := HX.out w3 p2
  obtain ⟨c0, c1, c2, c3, c4, c5, c6, fz, HE⟩ := zero7 q1 q2 (by omega)
  obtain ⟨y0, y1, y2, y3, y4, y5⟩ := cells6 q0
  obtain ⟨u0, u1, u2, u3, u4, u5, u6, -⟩ := cells7 p1
  subst HCMP
  have hne : ¬ (sl : Int) = sl' ∨ ((sl : Int) = sl' ∧ ¬ (fl : Int) = fl') ∨ ((sl : Int) = sl' ∧ (fl : Int) = fl' ∧ ¬ (dr : Int) = dr') ∨ ((sl : Int) = sl' ∧ (fl : Int) = fl' ∧ (dr : Int) = dr' ∧ ¬ (mf : Int) = mf') ∨ ((sl : Int) = sl' ∧ (fl : Int) = fl' ∧ (dr : Int) = dr' ∧ (mf : Int) = mf' ∧ ¬ (ls : Int) = ls') ∨ ((sl : Int) = sl' ∧ (fl : Int) = fl' ∧ (dr : Int) = dr' ∧ (mf : Int) = mf' ∧ (ls : Int) = ls' ∧ ¬ (pg : Int) = pg') := by
    have h := HNE.out
    simp only [Cn.cf, Cf.mk.injEq] at h
    omega
  clear q0 q1 q2 p1 p2 p3 HX HX3 KO1 hb4 HNE hD hlen
  rcases hne with h | ⟨rfl, h⟩ | ⟨rfl, rfl, h⟩ | ⟨rfl, rfl, rfl, h⟩ | ⟨rfl, rfl, rfl, rfl, h⟩ | ⟨rfl, rfl, rfl, rfl, rfl, h⟩
  all_goals
    go_wp2
    refine bodyPost_ret (Tr.results_cellt rfl _ _ (w.heap.size + 1) 38 _ (0, 0) _ rfl HE.out.1 Tryd.underlying38 rfl size38) rfl ?_
    exact ⟨rfl, HE.out.2⟩
set_option maxRecDepth 20000 in
set_option maxHeartbeats 1000000 in
theorem decRoot_z  (s : ByteArray) (D : List UInt8) (hD : s.data.toList = D) (sl fl dr mf ls pg M : Nat) (hd : rdCf D = ⟨sl, fl, dr, mf, ls, pg⟩) (hIn : Cn.In ⟨sl, fl, dr, mf, ls, pg⟩) (hM : Cn.pgs ⟨sl, fl, dr, mf, ls, pg⟩ = M) (hM1 : M ≤ 1024) (hMp : 1 ≤ M) (hlen : s.size = 27 + 32 * M) (HCMP : str (rootL ⟨sl, fl, dr, mf, ls, pg⟩ (rdRs D M)) = s) (hm : Cf.May (Cn.cf ⟨sl, fl, dr, mf, ls, pg⟩)) (w : World) (hT : RT w) :
    Calls Tryd.prog 17 #[.agg #[.int .i64 (sl : Int), .int .i64 (fl : Int), .int .i64 (dr : Int), .int .i64 (mf : Int), .int .i64 (ls : Int), .int .i64 (pg : Int)], .string s] w fun e w' => ∃ a c, e = .returned (.tuple #[.agg #[.int .i64 (sl : Int), .int .i64 (fl : Int), .int .i64 (dr : Int), .int .i64 (mf : Int), .int .i64 (ls : Int), .int .i64 (pg : Int), .slice a M c], .int .i64 0]) ∧ w'.ownsRow w.heap.size 48 2 (.slice a M c) M (rfsC (rdRs D M)) ∧ Below w.heap.size w w' := by
  (try unfold zRoot)
  have KM := fun X hX => mayBe_any (Cn.cf ⟨sl, fl, dr, mf, ls, pg⟩) X hX
  rw [decide_eq_true hm] at KM
  have KR := fun X hX => readRoot_yes' s D hD sl fl dr mf ls pg M hd hIn hM hM1 hMp hlen X hX
  have hRf : ∀ r ∈ rdRs D M, RfF r := rdR_size (by rw [← hD, ← hlen]; rfl)
  have KO := fun X av k (h : See X 2 (.slice av M k) M (rfsC (rdRs D M))) => rootOf_any ⟨sl, fl, dr, mf, ls, pg⟩ hIn (rdRs D M) (by rw [rdRs_len]; exact hM1) hRf X av M k h (rdRs_len D M) (by omega)
  have eP : ∀ v : Value, cfA (Cn.cf ⟨sl, fl, dr, mf, ls, pg⟩) ++ #[v] = #[.int .i64 (sl : Int), .int .i64 (fl : Int), .int .i64 (dr : Int), .int .i64 (mf : Int), .int .i64 (ls : Int), .int .i64 (pg : Int), v] := fun v => rfl
  simp only [eP] at KO
  clear eP hRf hIn hM hd hm
  obtain ⟨RS, hRS⟩ : ∃ RS, str (rootL ⟨sl, fl, dr, mf, ls, pg⟩ (rdRs D M)) = RS := ⟨_, rfl⟩
  rw [hRS] at KO HCMP
  clear hRS
  unfold cfV cfA Cn.cf at KM
  simp only at KM
  obtain ⟨V, hV, hbV, g0, g1⟩ := two_new w #[.int .i64 (sl : Int), .int .i64 (fl : Int), .int .i64 (dr : Int), .int .i64 (mf : Int), .int .i64 (ls : Int), .int .i64 (pg : Int)] #[.int .i64 0, .int .i64 0, .int .i64 0, .int .i64 0, .int .i64 0, .int .i64 0, .slice none 0 0] 23 38
  have l0 := heap_lt g0
  have l1 := heap_lt g1
  have KM0 := KM V (hT.next hbV)
  obtain ⟨y0, y1, y2, y3, y4, y5⟩ := cells6 g0
  have HX : Hid (∀ X, Below V.heap.size V X → X.heap[w.heap.size]? = some (.cells #[.int .i64 (sl : Int), .int .i64 (fl : Int), .int .i64 (dr : Int), .int .i64 (mf : Int), .int .i64 (ls : Int), .int .i64 (pg : Int)] 23 (0, 0)) ∧ X.heap[w.heap.size + 1]? = some (.cells #[.int .i64 0, .int .i64 0, .int .i64 0, .int .i64 0, .int .i64 0, .int .i64 0, .slice none 0 0] 38 (0, 0)) ∧ Below w.heap.size w X ∧ RT X) := fun X hX => by
    have hb := hbV.trans (hX.mono hbV.size)
    exact ⟨(hX.block _ l0).trans g0, (hX.block _ l1).trans g1, hb, hT.next hb⟩
  have HVS : Hid (w.heap.size + 1 < V.heap.size) := l1
  clear g0 g1 hbV KM hT
  go_enter Tryd.func17, Tryd.ntmps17
  go_wp2_with fail
  refine KM0.mono ?_
  rintro e w1 ⟨rfl, hb1⟩
  obtain ⟨-, -, -, q3⟩ := HX.out w1 hb1
  clear y0 y1 y2 y3 y4 y5 KM0
  go_wp2_with fail
  refine (KR _ q3).mono ?_
  rintro e w2 ⟨av, cv, rfl, ho2, hb2'⟩
  have hb2 := hb1.trans (hb2'.mono hb1.size)
  have ho3 := owns_base (B' := V.heap.size) ho2 hb1.size
  obtain ⟨hn1, hn2⟩ := one_new2 w2 #[.int .i64 (sl : Int), .int .i64 (fl : Int), .int .i64 (dr : Int), .int .i64 (mf : Int), .int .i64 (ls : Int), .int .i64 (pg : Int), .slice av M cv] 38
  have hb3 := hb2.alloc (o := .cells #[.int .i64 (sl : Int), .int .i64 (fl : Int), .int .i64 (dr : Int), .int .i64 (mf : Int), .int .i64 (ls : Int), .int .i64 (pg : Int), .slice av M cv] 38) hb2.size
  have hO3 := owns_below ho3 hn1
  have KO1 := KO _ av cv (see_own hO3 (rfs_one _))
  have HX3 : Hid (∀ X, Below (w2.alloc (.cells #[.int .i64 (sl : Int), .int .i64 (fl : Int), .int .i64 (dr : Int), .int .i64 (mf : Int), .int .i64 (ls : Int), .int .i64 (pg : Int), .slice av M cv] 38)).heap.size (w2.alloc (.cells #[.int .i64 (sl : Int), .int .i64 (fl : Int), .int .i64 (dr : Int), .int .i64 (mf : Int), .int .i64 (ls : Int), .int .i64 (pg : Int), .slice av M cv] 38)) X → X.heap[w2.heap.size]? = some (.cells #[.int .i64 (sl : Int), .int .i64 (fl : Int), .int .i64 (dr : Int), .int .i64 (mf : Int), .int .i64 (ls : Int), .int .i64 (pg : Int), .slice av M cv] 38 (0, 0)) ∧ Below V.heap.size V X ∧ X.ownsRow V.heap.size 48 2 (.slice av M cv) M (rfsC (rdRs D M))) := fun X hX => ⟨(hX.block _ (heap_lt hn2)).trans hn2, hb3.trans (hX.mono hb3.size), owns_below hO3 hX⟩
  have hVs2 : V.heap.size ≤ w2.heap.size := hb2.size
  clear hb1 hb2' hb2 hb3 ho2 ho3 hn1 hn2 hO3 KR KO q3
  go_wp2_with fail
  refine KO1.mono ?_
  rintro e w3 ⟨rfl, hb4⟩
  obtain ⟨p1, p2, p3⟩ := HX3.out w3 hb4
  obtain ⟨q0, q1, q2, -⟩ := HX.out w3 p2
  obtain ⟨c0, c1, c2, c3, c4, c5, c6, fz⟩ := cells7 q1
  obtain ⟨y0, y1, y2, y3, y4, y5⟩ := cells6 q0
  obtain ⟨u0, u1, u2, u3, u4, u5, u6, -⟩ := cells7 p1
  subst HCMP
  obtain ⟨E1, E2⟩ := put7_res q1 q2 (by omega) (.int .i64 (sl : Int)) (.int .i64 (fl : Int)) (.int .i64 (dr : Int)) (.int .i64 (mf : Int)) (.int .i64 (ls : Int)) (.int .i64 (pg : Int)) (.slice av M cv)
  have HO : Hid ((put7 w3 (w.heap.size + 1) (.int .i64 (sl : Int)) (.int .i64 (fl : Int)) (.int .i64 (dr : Int)) (.int .i64 (mf : Int)) (.int .i64 (ls : Int)) (.int .i64 (pg : Int)) (.slice av M cv)).ownsRow w.heap.size 48 2 (.slice av M cv) M (rfsC (rdRs D M))) := by
    have hvs := HVS.out
    refine owns_base (B := V.heap.size) (owns_keep p3 fun g hg => ?_) (by omega)
    have hne : g ≠ w.heap.size + 1 := by
      have := (p3.lt g hg).1
      omega
    unfold put7
    rw [heap_setCell_other _ _ _ _ hne, heap_setCell_other _ _ _ _ hne, heap_setCell_other _ _ _ _ hne, heap_setCell_other _ _ _ _ hne, heap_setCell_other _ _ _ _ hne, heap_setCell_other _ _ _ _ hne, heap_setCell_other _ _ _ _ hne]
  unfold put7 at E1 E2 HO
  have HE2 : Hid _ := E2
  have HE1 : Hid _ := E1
  clear E1 E2 q0 q1 q2 p1 p2 p3 HX HX3 KO1 hb4 hD hlen HVS
  go_wp2
  refine bodyPost_ret (Tr.results_cellt rfl _ _ (w.heap.size + 1) 38 _ (0, 0) _ rfl HE1.out Tryd.underlying38 rfl size38) rfl ?_
  exact ⟨av, cv, rfl, HO.out, HE2.out⟩
end Go.Proofs.YtckbbbcjpklnmaaDoor.Ix
