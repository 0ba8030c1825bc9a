import Derived.Test.YthmjjpaengackaaPoL
namespace Go.Proofs.Ythmjjpaengackaa.Po
open Go.RowKit Go.Lib Go.Deep

set_option maxRecDepth 20000 in
set_option maxHeartbeats 2000000 in
theorem put_any (w : World) (q : Nat) (F : List Nat) (nn : Nat) (S : Ps) (i : Nat) (was next : Ob) (hL : Lay w q F nn S) (hi : S.R[i]? = some was) (hn : next.nm.size ≤ 16) (hwn : was.nm.size ≤ 16) (how : -1 ≤ was.ow ∧ was.ow ≤ 65600) (hno : -1 ≤ next.ow ∧ next.ow ≤ 65600)
    (ho : next.ow ≠ -1 → ∀ (j : Nat) o, j ≠ i → S.R[j]? = some o → o.ow ≠ next.ow) (hnn : next.nm.size ≠ 0 → ∀ (j : Nat) o, j ≠ i → S.R[j]? = some o → o.nm ≠ next.nm) (hN : nn < maxLen) :
    Calls Try.prog 49 #[.pointer (some ⟨q, 0, none⟩), .int .i64 (i : Int), obV next] w fun e w' => e = .returned (.tuple #[]) ∧ Turn F w w' q (nn + 1) (putP S i next) := by
  have hL0 := hL
  obtain ⟨rv, mv, oa, na, room, h, rfl, hI⟩ := hL
  obtain ⟨g, cap, rfl⟩ := hI.form hi
  obtain ⟨hgq, hgo, hgn, hgm⟩ := hI.qr (g := g) rfl
  obtain ⟨hoq, hnq, hon⟩ := hI.qo
  have hlt : (i : Int) < (S.R.length : Int) := by have := some_lt hi; omega
  obtain ⟨W, hW, hb, k0⟩ := one_new w #[.string next.nm, .string next.tg, .int .i64 next.bk, .int .i64 next.ow] 35
  obtain ⟨V, hV, hb1, k1⟩ := one_new W #[.string was.nm, .string was.tg, .int .i64 was.bk, .int .i64 was.ow] 35
  have hbV : Below w.heap.size w V := hb.trans (hb1.mono hb.size)
  have hIW := hI.below hb
  obtain ⟨-, c1, -⟩ := hIW.cells
  obtain ⟨r0, r1, r2, r3, -⟩ := hIW.row hi
  have k0' := (hb1.block _ (heap_lt k0)).trans k0
  have x0 : V.cell? ⟨w.heap.size, 0, none⟩ = some (.string next.nm) := (cell_of_heap k0').trans rfl
  have x1 : V.cell? ⟨w.heap.size, 1, none⟩ = some (.string next.tg) := (cell_of_heap k0').trans rfl
  have x2 : V.cell? ⟨w.heap.size, 2, none⟩ = some (.int .i64 next.bk) := (cell_of_heap k0').trans rfl
  have x3 : V.cell? ⟨w.heap.size, 3, none⟩ = some (.int .i64 next.ow) := (cell_of_heap k0').trans rfl
  have y0 : V.cell? ⟨W.heap.size, 0, none⟩ = some (.string was.nm) := (cell_of_heap k1).trans rfl
  have y1 : V.cell? ⟨W.heap.size, 1, none⟩ = some (.string was.tg) := (cell_of_heap k1).trans rfl
  have y2 : V.cell? ⟨W.heap.size, 2, none⟩ = some (.int .i64 was.bk) := (cell_of_heap k1).trans rfl
  have y3 : V.cell? ⟨W.heap.size, 3, none⟩ = some (.int .i64 was.ow) := (cell_of_heap k1).trans rfl
  by_cases hE : was.nm = next.nm ∧ was.tg = next.tg ∧ was.bk = next.bk ∧ was.ow = next.ow
  · have hsame : putP S i next = S := by
      obtain ⟨wn, wt, wb, wo⟩ := was
      obtain ⟨nm, nt, nb, no⟩ := next
      obtain ⟨rfl, rfl, rfl, rfl⟩ := hE
      obtain ⟨fl, R, Q⟩ := S
      unfold putP
      simp only [Ps.mk.injEq, true_and, and_true]
      apply List.ext_getElem?
      intro j
      rw [set_get (some_lt hi) j]
      by_cases e : i = j
      · rw [if_pos e, ← e]; exact hi.symm
      · rw [if_neg e]
    have HT : Hid (Turn (fp q (.slice (some ⟨g, 0, none⟩) S.R.length cap) mv oa na) w V q (nn + 1) (putP S i next)) := by
      rw [hsame]
      exact (hL0.turn hbV).up (Nat.le_succ _)
    unfold obV
    obtain ⟨wn, wt, wb, wo⟩ := was
    obtain ⟨nm, nt, nb, no⟩ := next
    dsimp only at *
    obtain ⟨rfl, rfl, rfl, rfl⟩ := hE
    clear hsame hI hIW hi hL0 hb hb1 hbV k0 k1 k0' ho hnn
    go_enter Try.func49, Try.ntmps49
    go_wp2
    refine bodyPost_ret (results_none rfl _ _ _) rfl ?_
    exact ⟨rfl, HT.out⟩
  · have hIV := hI.below hbV
    have hE' : ¬ (was.nm.toList = next.nm.toList ∧ was.tg.toList = next.tg.toList ∧ was.bk = next.bk ∧ was.ow = next.ow) := fun ⟨e1, e2, e3, e4⟩ => hE ⟨ba_ext (by rw [toList_data, toList_data] at e1; exact e1), ba_ext (by rw [toList_data, toList_data] at e2; exact e2), e3, e4⟩
    obtain ⟨Do, fo, m1, t1, s1⟩ := (hI.below hbV.drew).ho
    obtain ⟨Dn, fn, m2, t2, s2⟩ := (hI.below hbV.drew).hn
    have hwf : (Lit.int .i64 (i : Int)).wf = true := wf_nat (by have := hI.lim; omega)
    have hmi := moveI_any V.drew oa nn Do fo m1 t1 was.ow next.ow i (wf_ow how) (wf_ow hno) hwf hN
    have iso := s1.move hi (next := next) fun e j hj => by
      obtain ⟨_, o, h1, h2⟩ := (s1 _ _).1 hj
      by_cases hji : j = i
      · exact hji
      · exact absurd h2 (ho e j o hji h1)
    have isn := s2.move hi (next := next) fun e j hj => by
      obtain ⟨_, o, h1, h2⟩ := (s2 _ _).1 hj
      by_cases hji : j = i
      · exact hji
      · exact absurd (ba_ext h2) (hnn (fun e2 => e (kyB_nil.2 e2)) j o hji h1)
    -- behind the first move
    have H3 : Hid (∀ w3 D', w3.ownsMap Try.prog 3 intR oa (nn + 1) D' → Tab litI D' (fun k => if k = next.ow ∧ next.ow ≠ -1 then some i else if k = was.ow then none else fo k) → V.drew.grownBy w3 (some oa) →
        ((w3.cell? ⟨q, 2, none⟩ = some (.map (some oa)) ∧ w3.cell? ⟨w.heap.size, 3, none⟩ = some (.int .i64 next.ow) ∧ w3.cell? ⟨W.heap.size, 3, none⟩ = some (.int .i64 was.ow)) ∧ w3.drew.cell? ⟨q, 3, none⟩ = some (.map (some na)) ∧ w3.drew.cell? ⟨w.heap.size, 0, none⟩ = some (.string next.nm) ∧ w3.drew.cell? ⟨W.heap.size, 0, none⟩ = some (.string was.nm) ∧
        Calls Try.prog 68 #[.map (some na), .string was.nm, .string next.nm, .string { data := #[] }, .int .i64 (i : Int)] w3.drew fun e w4 => e = .returned (.tuple #[]) ∧
          ((w4.cell? ⟨q, 3, none⟩ = some (.map (some na)) ∧ w4.cell? ⟨w.heap.size, 0, none⟩ = some (.string next.nm) ∧ w4.cell? ⟨W.heap.size, 0, none⟩ = some (.string was.nm)) ∧ w4.drew.cell? ⟨q, 1, none⟩ = some (.slice (some ⟨g, 0, none⟩) S.R.length cap) ∧ w4.drew.cell? ⟨w.heap.size, 0, none⟩ = some (.string next.nm) ∧ w4.drew.cell? ⟨w.heap.size, 1, none⟩ = some (.string next.tg) ∧ w4.drew.cell? ⟨w.heap.size, 2, none⟩ = some (.int .i64 next.bk) ∧ w4.drew.cell? ⟨w.heap.size, 3, none⟩ = some (.int .i64 next.ow) ∧
          (∃ a0 a1 a2 a3, w4.drew.cell? ⟨g, i * 5, none⟩ = some (.string a0) ∧ w4.drew.cell? ⟨g, i * 5 + 1, none⟩ = some (.string a1) ∧ w4.drew.cell? ⟨g, i * 5 + 2, none⟩ = some (.int .i64 a2) ∧ w4.drew.cell? ⟨g, i * 5 + 3, none⟩ = some (.int .i64 a3)) ∧
          w4.drew.frozen? ⟨g, i * 5, none⟩ = false ∧ w4.drew.frozen? ⟨g, i * 5 + 1, none⟩ = false ∧ w4.drew.frozen? ⟨g, i * 5 + 2, none⟩ = false ∧ w4.drew.frozen? ⟨g, i * 5 + 3, none⟩ = false ∧
          Hid (Turn (fp q (.slice (some ⟨g, 0, none⟩) S.R.length cap) mv oa na) w (put4 w4.drew g (i * 5) next) q (nn + 1) (putP S i next))))) := fun w3 D' h3 t3 g3 => by
      have old : ∀ k, k < V.heap.size → k ≠ oa → w3.heap[k]? = V.heap[k]? := fun k hk hne => g3.block k hk (fun e => hne (by injection e))
      have q3 := (old q (heap_lt hIV.hq) (fun e => hoq e.symm)).trans hIV.hq
      have ne0 : ∀ k, w.heap.size ≤ k → k ≠ oa ∧ k ≠ na ∧ k ≠ g := fun k hk => by
        have a := hI.lt (mem_fp.2 (.inr (.inl rfl)) : oa ∈ _)
        have b := hI.lt (mem_fp.2 (.inr (.inr (.inl rfl))) : na ∈ _)
        have c := (hI.hr.lt g rfl).2
        omega
      have b3 := (old _ (heap_lt k0') (ne0 _ (Nat.le_refl _)).1).trans k0'
      have a3 := (old _ (heap_lt k1) (ne0 _ hb.size).1).trans k1
      have m3 : w3.drew.ownsMap Try.prog 9 intR na nn Dn := map_keep m2 (old na m2.lt hon.symm)
      refine ⟨⟨(cell_of_heap q3).trans rfl, (cell_of_heap b3).trans rfl, (cell_of_heap a3).trans rfl⟩, (cell_of_heap q3).trans rfl, (cell_of_heap b3).trans rfl, (cell_of_heap a3).trans rfl, (moveS_any w3.drew na nn Dn fn m3 t2 was.nm next.nm i (by unfold maxLen; omega) (by unfold maxLen; omega) hwf hN).mono ?_⟩
      rintro e w4 ⟨rfl, D4, h4, t4, g4⟩
      refine ⟨rfl, ?_⟩
      have old4 : ∀ k, k < V.heap.size → k ≠ oa → k ≠ na → w4.heap[k]? = V.heap[k]? := fun k hk h1 h2 => (g4.block k (Nat.lt_of_lt_of_le hk g3.size) (fun e => h2 (by injection e))).trans (old k hk h1)
      have q4 := (old4 q (heap_lt hIV.hq) (fun e => hoq e.symm) (fun e => hnq e.symm)).trans hIV.hq
      have b4 := (old4 _ (heap_lt k0') (ne0 _ (Nat.le_refl _)).1 (ne0 _ (Nat.le_refl _)).2.1).trans k0'
      have a4 := (old4 _ (heap_lt k1) (ne0 _ hb.size).1 (ne0 _ hb.size).2.1).trans k1
      have hr4 : w4.drew.ownsRow 0 76 5 (.slice (some ⟨g, 0, none⟩) S.R.length cap) S.R.length (rwsC (rowsL S)) := owns_keep hIV.hr fun k hk => by
        have hk' := (hIV.hr.lt k hk).2
        simp [Value.ownBlock] at hk
        subst hk
        exact old4 _ hk' hgo hgn
      have hg : (rowsL S)[i]? = some (was, decide (i ∈ S.Q)) := by rw [rowsL_get, hi]; rfl
      have hc := fun j (hj : j < 5) => (hr4.cellAt (i * 5 + j) (by have := some_lt hi; omega)).trans (flat_get rwC 5 rwC_len (rowsL S) i _ hg j hj)
      refine ⟨⟨(cell_of_heap q4).trans rfl, (cell_of_heap b4).trans rfl, (cell_of_heap a4).trans rfl⟩, (cell_of_heap q4).trans rfl, (cell_of_heap b4).trans rfl, (cell_of_heap b4).trans rfl, (cell_of_heap b4).trans rfl, (cell_of_heap b4).trans rfl, ⟨_, _, _, _, hc 0 (by omega), hc 1 (by omega), hc 2 (by omega), hc 3 (by omega)⟩, hr4.frozenAt _, hr4.frozenAt _, hr4.frozenAt _, hr4.frozenAt _, ?_⟩
      exact hI.lay (w3 := w3) (w4 := w4.drew) (V := V.drew) hi hbV.drew h3 t3 iso g3 (map_keep h4 rfl) t4 isn ⟨g4.os, g4.tape, g4.output, g4.size, g4.block⟩ rfl
    have hIVd := hI.below hbV.drew
    obtain ⟨-, -, d2, -⟩ := hIVd.cells
    have x3' : V.drew.cell? ⟨w.heap.size, 3, none⟩ = some (.int .i64 next.ow) := x3
    have y3' : V.drew.cell? ⟨W.heap.size, 3, none⟩ = some (.int .i64 was.ow) := y3
    unfold obV
    obtain ⟨wn, wt, wb, wo⟩ := was
    obtain ⟨nm, nt, nb, no⟩ := next
    dsimp only at *
    generalize S.R.length = N at *
    clear hI hIW hIV hIVd hi hL0 hb hb1 hbV k0 k1 k0' ho hnn m1 t1 s1 m2 t2 s2 hwf iso isn hE
    go_enter Try.func49, Try.ntmps49
    go_wp2_with fail
    all_goals
      first
      | (exact absurd ⟨by assumption, by assumption, by assumption, by assumption⟩ hE')
      | (clear hE'
         go_region_held_law (fun U => U.cell? ⟨q, 2, none⟩ = some (.map (some oa)) ∧ U.cell? ⟨w.heap.size, 3, none⟩ = some (.int .i64 no) ∧ U.cell? ⟨W.heap.size, 3, none⟩ = some (.int .i64 wo)) (first | exact ⟨d2, x3', y3'⟩ | assumption | go_keep) (first | (go_at_call 67; refine hmi.mono ?_; rintro e w3 ⟨rfl, D', h3, t3, g3⟩; obtain ⟨HS3, z0, z1, z2, hms⟩ := H3.out w3 D' h3 t3 g3; clear h3 t3 g3))
         clear hmi H3 d2 x0 x1 x2 x3 y0 y1 y2 y3 x3' y3'
         go_wp2_with fail
         go_region_held_law (fun U => U.cell? ⟨q, 3, none⟩ = some (.map (some na)) ∧ U.cell? ⟨w.heap.size, 0, none⟩ = some (.string nm) ∧ U.cell? ⟨W.heap.size, 0, none⟩ = some (.string wn)) (first | exact ⟨z0, z1, z2⟩ | assumption | go_keep) (first | (go_at_call 68; refine hms.mono ?_; rintro e w4 ⟨rfl, HS4, u0, u1, u2, u3, u4, ⟨a0, a1, a2, a3, v0, v1, v2, v3⟩, f0, f1, f2, f3, HT⟩; have u0' : w4.cell? ⟨q, 1, none⟩ = _ := u0; have v0' : w4.cell? ⟨g, i * 5, none⟩ = _ := v0; have v1' : w4.cell? ⟨g, i * 5 + 1, none⟩ = _ := v1; have v2' : w4.cell? ⟨g, i * 5 + 2, none⟩ = _ := v2; have v3' : w4.cell? ⟨g, i * 5 + 3, none⟩ = _ := v3; have f0' : w4.frozen? ⟨g, i * 5, none⟩ = false := f0; have f1' : w4.frozen? ⟨g, i * 5 + 1, none⟩ = false := f1; have f2' : w4.frozen? ⟨g, i * 5 + 2, none⟩ = false := f2; have f3' : w4.frozen? ⟨g, i * 5 + 3, none⟩ = false := f3))
         clear hms z0 z1 z2
         go_wp2_with fail
         go_region
         all_goals
           go_wp2
           go_end0
           exact ⟨rfl, HT.out⟩)
end Go.Proofs.Ythmjjpaengackaa.Po
