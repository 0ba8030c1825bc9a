import Derived.Test.YtpjigcccjiidpaaExDk
namespace Go.Proofs.Ytpjigcccjiidpaa.Ex
open Go.RowKit Go.Lib Go.Deep

theorem pr_step {T : List St} {Z : Option (Fl × List Rs)} {i : Nat} {L L' : Fl} {R : List Rr} {x : St} {r : Rs} {u : Nv} (h : Pr T Z i L R) (hx : T[i]? = some x) (hl : i < R.length) (hg : go1 L x.s = some (L', r)) : Pr T Z (i + 1) L' (R.set i ⟨r, u, x.nm⟩) := by
  obtain ⟨h1, h2⟩ := h
  have hd : (T.map (·.s)).drop i = x.s :: (T.map (·.s)).drop (i + 1) := drop_at (by rw [List.getElem?_map, hx]; rfl)
  have ht : (R.set i ⟨r, u, x.nm⟩).take (i + 1) = R.take i ++ [⟨r, u, x.nm⟩] := by
    rw [List.take_add_one, List.getElem?_set_self hl, List.take_set_of_le (Nat.le_refl _)]
    rfl
  refine ⟨?_, ?_⟩
  · rw [← h1, hd, goL, hg, ht]
    simp only [Option.bind_some, Option.map_map]
    congr 1
    funext q
    simp
  · rw [ht, List.map_append, h2, List.take_add_one, hx]
    simp
theorem pr_none {T : List St} {Z : Option (Fl × List Rs)} {i : Nat} {L : Fl} {R : List Rr} {x : St} (h : Pr T Z i L R) (hx : T[i]? = some x) (hg : go1 L x.s = none) : Z = none := by
  obtain ⟨h1, -⟩ := h
  have hd : (T.map (·.s)).drop i = x.s :: (T.map (·.s)).drop (i + 1) := drop_at (by rw [List.getElem?_map, hx]; rfl)
  rw [← h1, hd, goL, hg]
  rfl
theorem go1_idle {L : Fl} {s : Sp} (h : s.r.cd ≠ 0 ∨ s.e.kd = 0) : go1 L s = some (L, s.r) := by
  unfold go1 idle
  rw [if_pos (by simpa using h)]
theorem go1_no {L : Fl} {s : Sp} (h0 : s.r.cd = 0) (h1 : s.e.kd ≠ 0) (h : may L s.e = false) : go1 L s = none := by
  unfold go1 idle
  rw [if_neg (by simp [h0, h1]), if_neg (by simp [h])]
theorem go1_yes {L : Fl} {s : Sp} (h0 : s.r.cd = 0) (h1 : s.e.kd ≠ 0) (h : may L s.e = true) : go1 L s = some (beh L s.e, ⟨s.r.cd, rdD L s.e s.r.da, s.r.n, s.r.kd, s.r.sz⟩) := by
  unfold go1 idle
  rw [if_neg (by simp [h0, h1]), if_pos h]
theorem may_out {L : Fl} {e : Ef} (h : e.kd < 1 ∨ 6 < e.kd) : may L e = false := by
  unfold may
  rw [if_neg (by omega), if_neg (by omega), if_neg (by omega), if_neg (by omega), if_neg (by omega), if_neg (by omega)]
theorem cells13 {W : World} {g : Nat} {t : TypeId} {x0 x1 x2 x3 x4 x5 x6 x7 x8 x9 y0 y1 y2 : Value} (h : W.heap[g]? = some (.cells #[x0, x1, x2, x3, x4, x5, x6, x7, x8, x9, y0, y1, y2] t (0, 0))) : (W.cell? ⟨g, 0, none⟩ = some x0 ∧ W.cell? ⟨g, 1, none⟩ = some x1 ∧ W.cell? ⟨g, 2, none⟩ = some x2 ∧ W.cell? ⟨g, 3, none⟩ = some x3 ∧ W.cell? ⟨g, 4, none⟩ = some x4 ∧ W.cell? ⟨g, 5, none⟩ = some x5) ∧ W.cell? ⟨g, 6, none⟩ = some x6 ∧ W.cell? ⟨g, 7, none⟩ = some x7 ∧ W.cell? ⟨g, 8, none⟩ = some x8 ∧ W.cell? ⟨g, 9, none⟩ = some x9 ∧ W.cell? ⟨g, 10, none⟩ = some y0 ∧ W.cell? ⟨g, 11, none⟩ = some y1 ∧ W.cell? ⟨g, 12, none⟩ = some y2 :=
  ⟨⟨(cell_of_heap h).trans rfl, (cell_of_heap h).trans rfl, (cell_of_heap h).trans rfl, (cell_of_heap h).trans rfl, (cell_of_heap h).trans rfl, (cell_of_heap h).trans rfl⟩, (cell_of_heap h).trans rfl, (cell_of_heap h).trans rfl, (cell_of_heap h).trans rfl, (cell_of_heap h).trans rfl, (cell_of_heap h).trans rfl, (cell_of_heap h).trans rfl, (cell_of_heap h).trans rfl⟩
theorem row6 {V : World} {B q n i : Nat} {R : List Rr} {x : Rr} (h : V.ownsRow B 56 6 (.slice (some ⟨q, 0, none⟩) n n) n (rrsC R)) (hx : R[i]? = some x) :
    (V.cell? ⟨q, i * 6, none⟩ = some (.int .i64 x.r.cd) ∧ V.cell? ⟨q, i * 6 + 1, none⟩ = some (.string (str x.r.da)) ∧ V.cell? ⟨q, i * 6 + 2, none⟩ = some (.int .i64 x.r.n) ∧ V.cell? ⟨q, i * 6 + 3, none⟩ = some (.slice x.v.a x.v.l x.v.c) ∧ V.cell? ⟨q, i * 6 + 4, none⟩ = some (.int .i64 x.r.kd) ∧ V.cell? ⟨q, i * 6 + 5, none⟩ = some (.int .i64 x.r.sz)) ∧
    V.frozen? ⟨q, i * 6, none⟩ = false ∧ V.frozen? ⟨q, i * 6 + 1, none⟩ = false ∧ V.frozen? ⟨q, i * 6 + 2, none⟩ = false ∧ V.frozen? ⟨q, i * 6 + 3, none⟩ = false ∧ V.frozen? ⟨q, i * 6 + 4, none⟩ = false ∧ V.frozen? ⟨q, i * 6 + 5, none⟩ = false := by
  have hg := fun j (hj : j < 6) => flat_get rrC 6 rrC_len R i x hx j hj
  have c : ∀ j u, j < 6 → (rrC x)[j]? = some u → V.cell? ⟨q, i * 6 + j, none⟩ = some u ∧ V.frozen? ⟨q, i * 6 + j, none⟩ = false := fun j u hj hu => owns_cell h (by show (R.flatMap rrC)[i * 6 + j]? = some u; rw [hg j hj]; exact hu)
  obtain ⟨a0, b0⟩ := c 0 _ (by omega) rfl
  obtain ⟨a1, b1⟩ := c 1 _ (by omega) rfl
  obtain ⟨a2, b2⟩ := c 2 _ (by omega) rfl
  obtain ⟨a3, b3⟩ := c 3 _ (by omega) rfl
  obtain ⟨a4, b4⟩ := c 4 _ (by omega) rfl
  obtain ⟨a5, b5⟩ := c 5 _ (by omega) rfl
  exact ⟨⟨a0, a1, a2, a3, a4, a5⟩, b0, b1, b2, b3, b4, b5⟩
theorem See.trn {w V : World} {F0 : Nat → Prop} {sz n : Nat} {a : Option Addr} {c : Nat} {xs : List Value} (h : See w sz (.slice a n c) n xs) (hF : ∀ b off, a = some ⟨b, off, none⟩ → ¬ F0 b) (ht : Trn F0 w V) : See V sz (.slice a n c) n xs := by
  obtain ⟨h0, h5, a', c', h1, h2, h3, h4⟩ := h
  injection h1 with e1 _ e2
  subst e1 e2
  refine ⟨h0, h5, a, c, rfl, h2, h3, fun hn => ?_⟩
  obtain ⟨b, off, e, hlt, hc⟩ := h4 hn
  exact ⟨b, off, e, Nat.lt_of_lt_of_le hlt ht.size, fun j u hu => (cell_same_heap (ht.block b hlt (hF b off e))).trans (hc j u hu)⟩
set_option maxRecDepth 20000 in
theorem round_any {T : List St} {w : World} {F0 : Nat → Prop} {m nn n : Nat} {a1 : Option Addr} {c1 : Nat} (hSt : ∀ V, Trn F0 w V → See V 13 (.slice a1 n c1) n (stsC T)) (hNm : ∀ x ∈ T, ∀ V, Trn F0 w V → See V 1 (.slice x.v.a x.v.l x.v.c) x.v.l (scC x.nm)) (hn : T.length = n) (hw : ∀ x ∈ T, EfW x.s.e) (hnl : ∀ x ∈ T, x.v.l ≤ 8796093022207) (hbd : n ≤ 1099511627776) (hnn : nn ≤ 1099511627776)
    (p6 q : Nat) (Z : Option (Fl × List Rs)) (wr : World) (i : Nat) (h : Nx w F0 m nn n p6 q T Z i wr) (hi : i < n) : Rd w F0 m nn n p6 q T Z a1 i wr := by
  obtain ⟨F, L, R, hF, hP⟩ := h
  obtain ⟨x, hx⟩ : ∃ x, T[i]? = some x := ⟨_, List.getElem?_eq_getElem (by omega)⟩
  have hmem := List.mem_of_getElem? hx
  have hwx := hw x hmem
  have hnx := hnl x hmem
  obtain ⟨was, hwas⟩ : ∃ y, R[i]? = some y := ⟨_, List.getElem?_eq_getElem (by have := hF.rl; omega)⟩
  have hil : i < R.length := some_lt hwas
  obtain ⟨b, off, e1, hbl, hcc⟩ := (hSt wr hF.tr).row stC_len (by decide) hx
  have hNx := hNm x hmem
  obtain ⟨⟨⟨cd, da, rn, rk, rz⟩, ⟨kd, fl, gn, at_, en, ed, ez⟩⟩, ⟨na, nl, nc⟩, nm⟩ := x
  dsimp only at *
  obtain ⟨U, hU, hbU, kU⟩ := one_new wr #[.int .i64 cd, .string (str da), .int .i64 rn, .slice na nl nc, .int .i64 rk, .int .i64 rz, .int .i64 kd, .int .i64 fl, .int .i64 gn, .int .i64 at_, .int .i64 en, .string (str ed), .int .i64 ez] 58
  have hFU := hF.below hbU
  obtain ⟨⟨x0, x1, x2, x3, x4, x5⟩, -⟩ := cells13 kU
  obtain ⟨hrc, f0, f1, f2, f3, f4, f5⟩ := row6 hFU.row hwas
  refine ⟨cd, str da, rn, na, nl, nc, rk, rz, kd, fl, gn, at_, en, str ed, ez, b, off, e1, hcc 0 _ rfl, hcc 1 _ rfl, hcc 2 _ rfl, hcc 3 _ rfl, hcc 4 _ rfl, hcc 5 _ rfl, hcc 6 _ rfl, hcc 7 _ rfl, hcc 8 _ rfl, hcc 9 _ rfl, hcc 10 _ rfl, hcc 11 _ rfl, hcc 12 _ rfl, U, hU, x0, x1, x2, x3, x4, x5, ⟨_, _, _, _, _, _, hrc⟩, f0, f1, f2, f3, f4, f5, P6r U q (i * 6) ⟨⟨cd, da, rn, rk, rz⟩, ⟨na, nl, nc⟩, nm⟩, rfl, ?_⟩
  obtain ⟨hr1, hg1⟩ := rrs_put hFU.row hwas ⟨⟨cd, da, rn, rk, rz⟩, ⟨na, nl, nc⟩, nm⟩
  obtain ⟨V1, hV1⟩ : ∃ V, P6r U q (i * 6) ⟨⟨cd, da, rn, rk, rz⟩, ⟨na, nl, nc⟩, nm⟩ = V := ⟨_, rfl⟩
  rw [hV1] at hr1 hg1 ⊢
  have hqw : q < wr.heap.size := heap_lt (hF.qb).choose_spec
  have k1 : V1.heap[wr.heap.size]? = _ := (hg1.block _ (heap_lt kU) (fun e => by have := Option.some.inj e; omega)).trans kU
  have ht1 : Trn F0 w V1 := trn_grown hFU.tr hg1 hFU.hq.1
  refine ⟨(cells13 k1).1.2.2.2.1, (clone_any V1 na nl nc nm (hNx V1 ht1) hnx).mono ?_⟩
  rintro e w2 ⟨ua, uc, rfl, hown, hb2⟩
  have hr2 := owns_below hr1 hb2
  obtain ⟨⟨-, -, -, g3, -⟩, -, -, -, gf3, -⟩ := row6 hr2 (i := i) (List.getElem?_set_self hil)
  have hF2 := hFU.laid hwas hV1 hb2 ⟨ua, nl, uc⟩ hown
  refine ⟨ua, uc, rfl, g3, gf3, _, rfl, ?_⟩
  obtain ⟨V2, hV2⟩ : ∃ V, w2.setCell ⟨q, i * 6 + 3, none⟩ (.slice ua nl uc) = V := ⟨_, rfl⟩
  have k2 : V2.heap[wr.heap.size]? = some (.cells #[.int .i64 cd, .string (str da), .int .i64 rn, .slice na nl nc, .int .i64 rk, .int .i64 rz, .int .i64 kd, .int .i64 fl, .int .i64 gn, .int .i64 at_, .int .i64 en, .string (str ed), .int .i64 ez] 58 (0, 0)) := by
    rw [← hV2]
    exact (heap_setCell_other _ _ _ _ (by show wr.heap.size ≠ q; omega)).trans ((hb2.block _ (heap_lt k1)).trans k1)
  dsimp only at hF2
  rw [hV2] at hF2 ⊢
  refine ⟨(cells13 k2).1.1, (cells13 k2).2.1, ?_⟩
  by_cases h0 : cd = 0
  case neg => exact .inl ⟨h0, F, L, _, hF2.mono (by omega), pr_step hP hx hil (go1_idle (.inl h0))⟩
  by_cases hk0 : kd = 0
  · exact .inr (.inl ⟨h0, hk0, F, L, _, hF2.mono (by omega), pr_step hP hx hil (go1_idle (.inr hk0))⟩)
  by_cases hk1 : kd < 1
  · exact .inr (.inr (.inl ⟨h0, hk0, hk1, pr_none hP hx (go1_no h0 hk0 (may_out (.inl hk1))), hF2.tr⟩))
  by_cases hk6 : 6 < kd
  · exact .inr (.inr (.inr (.inl ⟨h0, hk6, pr_none hP hx (go1_no h0 hk0 (may_out (.inr hk6))), hF2.tr⟩)))
  refine .inr (.inr (.inr (.inr ⟨h0, ?_⟩)))
  obtain ⟨k, fa, fd, hkk, hk1', hk6', ta, td, cfa, cfd, hask, hdo⟩ := deed_any ⟨kd, fl, gn, at_, en, ed, ez⟩ hwx (by dsimp only; omega) (by dsimp only; omega)
  dsimp only at hkk
  obtain ⟨U3, hU3, hb3, k3⟩ := one_new V2 #[.func (.func fa) #[] #[], .func (.func fd) #[] #[]] 77
  have hF3 := hF2.below hb3
  have k23 : U3.heap[wr.heap.size]? = _ := (hb3.block _ (heap_lt k2)).trans k2
  have hmx : nn + i < maxLen := by unfold maxLen; omega
  refine ⟨k, fa, fd, hkk, hk1', hk6', (cell_of_heap hF2.tb).trans ta, (cell_of_heap hF2.tb).trans td, cfa, cfd, U3, hU3, (cell_of_heap k3).trans rfl, (cells13 k23).2.1, (cells13 k23).2.2.1, (cells13 k23).2.2.2.1, (cells13 k23).2.2.2.2.1, (cells13 k23).2.2.2.2.2.1, (cells13 k23).2.2.2.2.2.2.1, (cells13 k23).2.2.2.2.2.2.2, (hask U3 m (nn + i) F L hF3.lv hmx hF3.sm).mono ?_⟩
  rintro e w4 ⟨rfl, hb4⟩
  have hF4 := hF3.below hb4
  refine ⟨_, rfl, ?_⟩
  cases hm : may L ⟨kd, fl, gn, at_, en, ed, ez⟩ with
  | false => exact .inl ⟨rfl, pr_none hP hx (go1_no h0 hk0 hm), hF4.tr⟩
  | true =>
    have k34 : w4.heap[V2.heap.size]? = _ := (hb4.block _ (heap_lt k3)).trans k3
    have k24 : w4.heap[wr.heap.size]? = _ := (hb4.block _ (heap_lt k23)).trans k23
    obtain ⟨s4, -⟩ := row6 hF4.row (i := i) (List.getElem?_set_self hil)
    obtain ⟨s0, s1, s2, s3, s4, s5⟩ := s4
    refine .inr ⟨rfl, (cell_of_heap k34).trans rfl, (cells13 k24).2.1, (cells13 k24).2.2.1, (cells13 k24).2.2.2.1, (cells13 k24).2.2.2.2.1, (cells13 k24).2.2.2.2.2.1, (cells13 k24).2.2.2.2.2.2.1, (cells13 k24).2.2.2.2.2.2.2, s0, s1, s2, s3, s4, s5, fun V hV => ?_⟩
    have hFV := hF4.below hV
    refine (hdo V m (nn + i) F L cd rn rk rz da ua nl uc hFV.lv hmx hFV.sm hm).mono ?_
    rintro e w5 ⟨rfl, hd⟩
    obtain ⟨F', hF5⟩ := hFV.dn hd (sm_beh hFV.sm _ hm)
    obtain ⟨⟨t0, t1, t2, t3, t4, t5⟩, y0, y1, y2, y3, y4, y5⟩ := row6 hF5.row (i := i) (List.getElem?_set_self hil)
    have hFE := hF5.again (j := i) (List.getElem?_set_self hil) ⟨cd, rdD L ⟨kd, fl, gn, at_, en, ed, ez⟩ da, rn, rk, rz⟩
    rw [List.set_set] at hFE
    exact ⟨_, rfl, t0, t1, t2, t3, t4, t5, y0, y1, y2, y3, y4, y5, F', _, _, hFE, pr_step hP hx hil (go1_yes h0 hk0 hm)⟩
end Go.Proofs.Ytpjigcccjiidpaa.Ex
