import Derived.Test.YtpjigcccjiidpaaExY
namespace Go.Proofs.Ytpjigcccjiidpaa.Ex
open Go.RowKit Go.Lib Go.Deep

theorem cfCO (args : Array Value) (w : World) : (callFunc 20 args).run Try.prog w = .ok (.enter 20 args) w := by kernel_rfl
theorem cfWI (args : Array Value) (w : World) : (callFunc 39 args).run Try.prog w = .ok (.enter 39 args) w := by kernel_rfl
theorem cfPI (args : Array Value) (w : World) : (callFunc 37 args).run Try.prog w = .ok (.enter 37 args) w := by kernel_rfl
set_option maxRecDepth 20000 in
set_option maxHeartbeats 1000000 in
theorem replace_any (w : World) (m nn : Nat) (F : Nat → Prop) (L : Fl) (h : Liv w m nn F L) (e : Ef) (hf : wf e.gn) (cd n kd sz : Int) (da : ByteArray) (na : Option Addr) (nl nc : Nat) : Calls Try.prog 35 #[.map (some m), efV e, .agg #[.int .i64 cd, .string da, .int .i64 n, .slice na nl nc, .int .i64 kd, .int .i64 sz]] w fun x w' => DoP F w m nn (wo L e.gn) #[.int .i64 cd, .string da, .int .i64 n, .slice na nl nc, .int .i64 kd, .int .i64 sz] x w' := by
  obtain ⟨W, hW, hb, b3⟩ := b3_new w e (.int .i64 cd) (.string da) (.int .i64 n) (.slice na nl nc) (.int .i64 kd) (.int .i64 sz)
  have hF := h.lt
  obtain ⟨w2, hrun, ht, hl, hs⟩ := (h.below hb).del hf 0
  have hd : Dn F W w2 m nn (wo L e.gn) := ⟨ht, F, hl, fun _ _ x => x⟩
  have b32 := b3.dn hF hd
  obtain ⟨-, c1, -⟩ := b3.ec
  obtain ⟨a0, a1, a2, a3, a4, a5⟩ := cells6 b32.k1
  obtain ⟨z0, z1, z2, z3, z4, z5⟩ := cells6 b32.k2
  obtain ⟨f0, f1, f2, f3, f4, f5⟩ := froz6 b32.k2
  have HE : Hid (∀ U, Only [w.heap.size + 1 + 1] w2 U → Dn F w U m nn (wo L e.gn)) := fun U hU => hd.at_ hF (by omega) (heap_lt b3.k2) hb hU
  have HK : Hid _ := b32.k2
  unfold efV
  unfold efA at hW ⊢
  obtain ⟨ekd, fl, gn, at_, en, eda, esz⟩ := e
  dsimp only at *
  clear h hb b3 ht hl hs hd b32 hF
  go_enter Try.func35, Try.ntmps35
  go_wp2
  refine bodyPost_ret (Tr.results_cell1 rfl _ _ (w.heap.size + 1 + 1) 56 _ (0, 0) _ rfl (Tr.put6A HK.out) Try.underlying56 rfl sizeR) rfl ?_
  exact ⟨rfl, HE.out _ (only6 _ _ _ _ _ _ _ _)⟩
set_option maxRecDepth 20000 in
set_option maxHeartbeats 1000000 in
theorem create_any (w : World) (m nn : Nat) (F : Nat → Prop) (L : Fl) (h : Liv w m nn F L) (hnn : nn < maxLen) (e : Ef) (hf : wf e.fl) (cd n kd sz : Int) (da : ByteArray) (na : Option Addr) (nl nc : Nat) : Calls Try.prog 25 #[.map (some m), efV e, .agg #[.int .i64 cd, .string da, .int .i64 n, .slice na nl nc, .int .i64 kd, .int .i64 sz]] w fun x w' => DoP F w m (nn + 1) (wi L e.fl []) #[.int .i64 cd, .string da, .int .i64 n, .slice na nl nc, .int .i64 kd, .int .i64 sz] x w' := by
  obtain ⟨W, hW, hb, b3⟩ := b3_new w e (.int .i64 cd) (.string da) (.int .i64 n) (.slice na nl nc) (.int .i64 kd) (.int .i64 sz)
  have hF := h.lt
  have hLW := h.below hb
  have HE : Hid (∀ V U, Dn F W V m (nn + 1) (wi L e.fl []) → Only [w.heap.size + 1 + 1] V U → Dn F w U m (nn + 1) (wi L e.fl [])) := fun V U hd hU => hd.at_ hF (by omega) (heap_lt b3.k2) hb hU
  have HT : Hid (∀ V, Dn F W V m (nn + 1) (wi L e.fl []) → B3 w e (.int .i64 cd) (.string da) (.int .i64 n) (.slice na nl nc) (.int .i64 kd) (.int .i64 sz) V) := fun V hd => b3.dn hF hd
  obtain ⟨c1, c2, c3, c4, c5⟩ := b3.ec
  have HX : Hid (∀ V, Below W.heap.size W V → Calls Try.prog 20 #[.string { data := #[] }] V fun x w5 => ∃ g c, x = .returned (.agg #[.slice (some ⟨g, 0, none⟩) 0 c]) ∧ w5.cell? ⟨w.heap.size, 1, none⟩ = some (.int .i64 e.fl) ∧ ∃ w6, (Instr.mapUpdate 62 (.map (some m)) (.int .i64 e.fl) (.agg #[.slice (some ⟨g, 0, none⟩) 0 c])).run Try.prog w5 = .ok () w6 ∧ Hid (Dn F W w6 m (nn + 1) (wi L e.fl []))) := fun V hV => by
    refine (contentOf_any [] (Nat.zero_le _) V).mono ?_
    rintro x w5 ⟨g, c, rfl, hB, hg, hb5⟩
    have hb5' := hV.trans (hb5.mono hV.size)
    obtain ⟨w6, hrun, hd⟩ := hLW.put hnn hf hB (by have := hV.size; omega) hb5'
    exact ⟨g, c, rfl, (b3.below hb5').ec.1, w6, hrun, hd⟩
  unfold efV
  unfold efA at hW ⊢
  obtain ⟨ekd, fl, gn, at_, en, eda, esz⟩ := e
  dsimp only at *
  clear h hb b3 hF hLW
  go_enter Try.func25, Try.ntmps25
  go_wp2_with fail
  go_region_law (first
    | (refine step_call rfl 20 cfCO #[.const (.string { data := #[] })] #[9] rfl #[.string { data := #[] }] (by simp [Act.eval]) (HX.out _ (bdN _ _)) ?_; rintro e w5 ⟨g, c, rfl, hc5, w6, hrun, HD⟩; refine ⟨_, rfl, ?_⟩))
  all_goals
    have b32 := HT.out w6 HD.out
    obtain ⟨a0, a1, a2, a3, a4, a5⟩ := cells6 b32.k1
    obtain ⟨z0, z1, z2, z3, z4, z5⟩ := cells6 b32.k2
    obtain ⟨f0, f1, f2, f3, f4, f5⟩ := froz6 b32.k2
    have HK : Hid _ := b32.k2
    clear b32
    go_wp2
    refine bodyPost_ret (Tr.results_cell1 rfl _ _ (w.heap.size + 1 + 1) 56 _ (0, 0) _ rfl (Tr.put6A HK.out) Try.underlying56 rfl sizeR) rfl ?_
    exact ⟨rfl, HE.out _ _ HD.out (only6 _ _ _ _ _ _ _ _)⟩
set_option maxRecDepth 20000 in
set_option maxHeartbeats 1000000 in
theorem write_any (w : World) (m nn : Nat) (F : Nat → Prop) (L : Fl) (h : Liv w m nn F L) (hnn : nn < maxLen) (e : Ef) (hf : wf e.fl) (i : Nat) (hi : e.at_ = i) (hi2 : i + e.da.length ≤ 549755813888) (s : List UInt8) (hs : fnd L e.fl = some s) (hs2 : s.length ≤ 549755813888) (cd n kd sz : Int) (da : ByteArray) (na : Option Addr) (nl nc : Nat) : Calls Try.prog 29 #[.map (some m), efV e, .agg #[.int .i64 cd, .string da, .int .i64 n, .slice na nl nc, .int .i64 kd, .int .i64 sz]] w fun x w' => DoP F w m (nn + 1) (wi L e.fl (wrt s i e.da)) #[.int .i64 cd, .string da, .int .i64 n, .slice na nl nc, .int .i64 kd, .int .i64 sz] x w' := by
  obtain ⟨W, hW, hb, b3⟩ := b3_new w e (.int .i64 cd) (.string da) (.int .i64 n) (.slice na nl nc) (.int .i64 kd) (.int .i64 sz)
  have hF := h.lt
  have hLW := h.below hb
  have HE : Hid (∀ V U, Dn F W V m (nn + 1) (wi L e.fl (wrt s i e.da)) → Only [w.heap.size + 1 + 1] V U → Dn F w U m (nn + 1) (wi L e.fl (wrt s i e.da))) := fun V U hd hU => hd.at_ hF (by omega) (heap_lt b3.k2) hb hU
  have HT : Hid (∀ V, Dn F W V m (nn + 1) (wi L e.fl (wrt s i e.da)) → B3 w e (.int .i64 cd) (.string da) (.int .i64 n) (.slice na nl nc) (.int .i64 kd) (.int .i64 sz) V) := fun V hd => b3.dn hF hd
  obtain ⟨c1, c2, c3, c4, c5⟩ := b3.ec
  obtain ⟨g0, c0, hg0, hB0, hq, hput⟩ := hLW.some_ hnn hf hs
  have hr := (hq W.drew rfl).2
  have hr0 := (hq W rfl).2
  unfold cv at hr hr0
  have hgm : g0 ≠ w.heap.size := fun x => by have := hF g0 hg0; omega
  have hctt : ctt L e.fl = s := by unfold ctt; rw [hs]; rfl
  rw [hi] at c3
  have HX : Hid (∀ V, Below W.heap.size W V → Calls Try.prog 39 #[.agg #[.slice (some ⟨g0, 0, none⟩) s.length c0], .int .i64 (i : Int), .string (str e.da)] V fun x w5 => ∃ g c, x = .returned (.agg #[.slice (some ⟨g, 0, none⟩) (wrt s i e.da).length c]) ∧ w5.cell? ⟨w.heap.size, 1, none⟩ = some (.int .i64 e.fl) ∧ ∃ w6, (Instr.mapUpdate 62 (.map (some m)) (.int .i64 e.fl) (.agg #[.slice (some ⟨g, 0, none⟩) (wrt s i e.da).length c])).run Try.prog w5 = .ok () w6 ∧ Hid (Dn F W w6 m (nn + 1) (wi L e.fl (wrt s i e.da)))) := fun V hV => by
    refine (with_any g0 c0 s V (hB0.keep (hV.block _ hB0.lt)) i e.da hi2 hs2).mono ?_
    rintro x w5 ⟨g, c, rfl, hB, hg, ho5⟩
    have ho5' : Only [g0] W w5 := (only_of_below hV).trans ho5
    obtain ⟨w6, hrun, hd⟩ := hput w5 g c _ hB (by have := hV.size; omega) ho5'
    exact ⟨g, c, rfl, (cell_of_heap ((ho5'.block _ (heap_lt b3.k0) (by simp only [List.mem_singleton]; exact hgm.symm)).trans b3.k0)).trans rfl, w6, hrun, hd⟩
  unfold efV
  unfold efA at hW ⊢
  obtain ⟨ekd, fl, gn, at_, en, eda, esz⟩ := e
  dsimp only at *
  clear h hb b3 hF hLW
  go_enter Try.func29, Try.ntmps29
  go_wp2_with fail
  subst hi
  clear hq hput hs hs2 hi2 hB0 hg0 hgm hctt
  go_region_law (first
    | (refine step_call rfl 39 cfWI #[.tmp 13, .tmp 15, .tmp 17] #[72, 3, 9] rfl #[.agg #[.slice (some ⟨g0, 0, none⟩) s.length c0], .int .i64 (i : Int), .string (str eda)] (by simp [Act.eval]) (HX.out _ (bdN _ _)) ?_; rintro e w5 ⟨g, c, rfl, hc5, w6, hrun, HD⟩; refine ⟨_, rfl, ?_⟩))
  all_goals
    have b32 := HT.out w6 HD.out
    obtain ⟨a0, a1, a2, a3, a4, a5⟩ := cells6 b32.k1
    obtain ⟨z0, z1, z2, z3, z4, z5⟩ := cells6 b32.k2
    obtain ⟨f0, f1, f2, f3, f4, f5⟩ := froz6 b32.k2
    have HK : Hid _ := b32.k2
    clear b32
    go_wp2
    refine bodyPost_ret (Tr.results_cell1 rfl _ _ (w.heap.size + 1 + 1) 56 _ (0, 0) _ rfl (Tr.put6A HK.out) Try.underlying56 rfl sizeR) rfl ?_
    exact ⟨rfl, HE.out _ _ HD.out (only6 _ _ _ _ _ _ _ _)⟩
set_option maxRecDepth 20000 in
set_option maxHeartbeats 1000000 in
theorem cut_any (w : World) (m nn : Nat) (F : Nat → Prop) (L : Fl) (h : Liv w m nn F L) (hnn : nn < maxLen) (e : Ef) (hf : wf e.fl) (i : Nat) (hi : e.n = i) (hi2 : i ≤ 1099511627776) (s : List UInt8) (hs : fnd L e.fl = some s) (cd n kd sz : Int) (da : ByteArray) (na : Option Addr) (nl nc : Nat) : Calls Try.prog 31 #[.map (some m), efV e, .agg #[.int .i64 cd, .string da, .int .i64 n, .slice na nl nc, .int .i64 kd, .int .i64 sz]] w fun x w' => DoP F w m (nn + 1) (wi L e.fl (resz s i)) #[.int .i64 cd, .string da, .int .i64 n, .slice na nl nc, .int .i64 kd, .int .i64 sz] x w' := by
  obtain ⟨W, hW, hb, b3⟩ := b3_new w e (.int .i64 cd) (.string da) (.int .i64 n) (.slice na nl nc) (.int .i64 kd) (.int .i64 sz)
  have hF := h.lt
  have hLW := h.below hb
  have HE : Hid (∀ V U, Dn F W V m (nn + 1) (wi L e.fl (resz s i)) → Only [w.heap.size + 1 + 1] V U → Dn F w U m (nn + 1) (wi L e.fl (resz s i))) := fun V U hd hU => hd.at_ hF (by omega) (heap_lt b3.k2) hb hU
  have HT : Hid (∀ V, Dn F W V m (nn + 1) (wi L e.fl (resz s i)) → B3 w e (.int .i64 cd) (.string da) (.int .i64 n) (.slice na nl nc) (.int .i64 kd) (.int .i64 sz) V) := fun V hd => b3.dn hF hd
  obtain ⟨c1, c2, c3, c4, c5⟩ := b3.ec
  obtain ⟨g0, c0, hg0, hB0, hq, hput⟩ := hLW.some_ hnn hf hs
  have hr := (hq W.drew rfl).2
  have hr0 := (hq W rfl).2
  unfold cv at hr hr0
  have hgm : g0 ≠ w.heap.size := fun x => by have := hF g0 hg0; omega
  have hctt : ctt L e.fl = s := by unfold ctt; rw [hs]; rfl
  rw [hi] at c4
  have HX : Hid (∀ V, Below W.heap.size W V → Calls Try.prog 40 #[.agg #[.slice (some ⟨g0, 0, none⟩) s.length c0], .int .i64 (i : Int)] V fun x w5 => ∃ g c, x = .returned (.agg #[.slice (some ⟨g, 0, none⟩) (resz s i).length c]) ∧ w5.cell? ⟨w.heap.size, 1, none⟩ = some (.int .i64 e.fl) ∧ ∃ w6, (Instr.mapUpdate 62 (.map (some m)) (.int .i64 e.fl) (.agg #[.slice (some ⟨g, 0, none⟩) (resz s i).length c])).run Try.prog w5 = .ok () w6 ∧ Hid (Dn F W w6 m (nn + 1) (wi L e.fl (resz s i)))) := fun V hV => by
    refine (resized_any g0 c0 s V (hB0.keep (hV.block _ hB0.lt)) i hi2).mono ?_
    rintro x w5 ⟨g, c, rfl, hB, hg, ho5⟩
    have ho5' : Only [g0] W w5 := (only_of_below hV).trans ho5
    obtain ⟨w6, hrun, hd⟩ := hput w5 g c _ hB (by have := hV.size; omega) ho5'
    exact ⟨g, c, rfl, (cell_of_heap ((ho5'.block _ (heap_lt b3.k0) (by simp only [List.mem_singleton]; exact hgm.symm)).trans b3.k0)).trans rfl, w6, hrun, hd⟩
  unfold efV
  unfold efA at hW ⊢
  obtain ⟨ekd, fl, gn, at_, en, eda, esz⟩ := e
  dsimp only at *
  clear h hb b3 hF hLW
  go_enter Try.func31, Try.ntmps31
  go_wp2_with fail
  subst hi
  clear hq hput hs hi2 hB0 hg0 hgm hctt
  go_region_law (first
    | (refine step_call rfl 40 cfRZ #[.tmp 13, .tmp 15] #[72, 3] rfl #[.agg #[.slice (some ⟨g0, 0, none⟩) s.length c0], .int .i64 (i : Int)] (by simp [Act.eval]) (HX.out _ (bdN _ _)) ?_; rintro e w5 ⟨g, c, rfl, hc5, w6, hrun, HD⟩; refine ⟨_, rfl, ?_⟩))
  all_goals
    have b32 := HT.out w6 HD.out
    obtain ⟨a0, a1, a2, a3, a4, a5⟩ := cells6 b32.k1
    obtain ⟨z0, z1, z2, z3, z4, z5⟩ := cells6 b32.k2
    obtain ⟨f0, f1, f2, f3, f4, f5⟩ := froz6 b32.k2
    have HK : Hid _ := b32.k2
    clear b32
    go_wp2
    refine bodyPost_ret (Tr.results_cell1 rfl _ _ (w.heap.size + 1 + 1) 56 _ (0, 0) _ rfl (Tr.put6A HK.out) Try.underlying56 rfl sizeR) rfl ?_
    exact ⟨rfl, HE.out _ _ HD.out (only6 _ _ _ _ _ _ _ _)⟩
end Go.Proofs.Ytpjigcccjiidpaa.Ex
