import Derived.Test.YthmjjpaengackaaPoS
namespace Go.Proofs.Ythmjjpaengackaa.Po
open Go.RowKit Go.Lib Go.Deep

theorem obC_len (o : Ob) : (obC o).length = 4 := rfl
theorem obsC_len (l : List Ob) : (obsC l).length = l.length * 4 := flat_len obC 4 obC_len l
theorem obs_put {w : World} {B g cap N : Nat} {l : List Ob} (h : w.ownsRow B 35 4 (.slice (some ⟨g, 0, none⟩) N cap) N (obsC l)) {i : Nat} {was : Ob} (hi : l[i]? = some was) (x : Ob) :
    (put4 w g (i * 4) x).ownsRow B 35 4 (.slice (some ⟨g, 0, none⟩) N cap) N (obsC (l.set i x)) ∧ w.grownBy (put4 w g (i * 4) x) (some g) := by
  have hl := some_lt hi
  have h1 := h.stored (i * 4) (.string x.nm)
  rw [show obsC l = l.flatMap obC from rfl, show i * 4 = i * 4 + 0 by omega, flat_set obC 4 obC_len l i _ ⟨x.nm, was.tg, was.bk, was.ow⟩ hi 0 (.string x.nm) (by omega) rfl] at h1
  have h2 := h1.1.stored (i * 4 + 1) (.string x.tg)
  rw [flat_set obC 4 obC_len _ i ⟨x.nm, was.tg, was.bk, was.ow⟩ ⟨x.nm, x.tg, was.bk, was.ow⟩ (by rw [List.getElem?_set_self hl]) 1 (.string x.tg) (by omega) rfl, List.set_set] at h2
  have h3 := h2.1.stored (i * 4 + 2) (.int .i64 x.bk)
  rw [flat_set obC 4 obC_len _ i ⟨x.nm, x.tg, was.bk, was.ow⟩ ⟨x.nm, x.tg, x.bk, was.ow⟩ (by rw [List.getElem?_set_self hl]) 2 (.int .i64 x.bk) (by omega) rfl, List.set_set] at h3
  have h4 := h3.1.stored (i * 4 + 3) (.int .i64 x.ow)
  rw [flat_set obC 4 obC_len _ i ⟨x.nm, x.tg, x.bk, was.ow⟩ x (by rw [List.getElem?_set_self hl]) 3 (.int .i64 x.ow) (by omega) rfl, List.set_set] at h4
  exact ⟨h4.1, ((h1.2.trans h2.2).trans h3.2).trans h4.2⟩
def copL (R : List Ob) (k : Nat) : List Ob := R.take k ++ List.replicate (R.length - k) zOb
theorem cop_len {R : List Ob} {k : Nat} (h : k ≤ R.length) : (copL R k).length = R.length := by unfold copL; simp; omega
theorem cop_get {R : List Ob} {k : Nat} (h : k < R.length) : (copL R k)[k]? = some zOb := by
  unfold copL
  rw [List.getElem?_append_right (by simp; omega), List.length_take, show min k R.length = k by omega, Nat.sub_self, List.getElem?_replicate, if_pos (by omega)]
theorem cop_set {R : List Ob} {k : Nat} {o : Ob} (h : R[k]? = some o) : (copL R k).set k o = copL R (k + 1) := by
  have hl := some_lt h
  unfold copL
  have e1 : R.take (k + 1) = R.take k ++ [o] := by rw [List.take_add_one, h]; rfl
  rw [List.set_append_right _ _ (by simp; omega), List.length_take, show min k R.length = k by omega, Nat.sub_self, show R.length - k = (R.length - (k + 1)) + 1 by omega, List.replicate_succ, List.set_cons_zero, e1, List.append_assoc]
  rfl
theorem cop_full (R : List Ob) : copL R R.length = R := by unfold copL; simp
set_option maxRecDepth 20000 in
set_option maxHeartbeats 1000000 in
theorem told_any (w : World) (q : Nat) (F : List Nat) (nn : Nat) (S : Ps) (hL : Lay w q F nn S) : Calls Try.prog 27 #[.pointer (some ⟨q, 0, none⟩)] w fun e w' => ∃ ov qv, e = .returned (.agg #[ov, qv]) ∧ w'.ownsRow w.heap.size 35 4 ov S.R.length (obsC S.R) ∧ w'.ownsRow w.heap.size 3 1 qv S.Q.length (nsC S.Q) ∧ Below w.heap.size w w' := by
  obtain ⟨rv, mv, oa, na, room, h, rfl, hI⟩ := hL
  obtain ⟨ar, cr, rfl⟩ := owns_form hI.hr
  obtain ⟨i0, hi, hz0, hz1, hz2⟩ := info_parts infoOb
  obtain ⟨n, hn⟩ : ∃ n, S.R.length = n := ⟨_, rfl⟩
  have hnb : n ≤ 65600 := by have := hI.lim; omega
  obtain ⟨W1, hW1, b1, k1⟩ := one_new w #[.slice none 0 0, .slice none 0 0] 29
  have hmk := run_make (P := Try.prog) W1 27 35 i0 _ Try.underlying27 hi hz0 .i64 .i64 (n : Int) (n : Int) (by omega) (by omega) (by rw [hz2]; omega) (by omega)
  rw [Int.toNat_natCast, hz1] at hmk
  have hcs := made_flat obC 4 obC_len (by decide) (.agg #[.string { data := #[] }, .string { data := #[] }, .int .i64 0, .int .i64 0]) zOb rfl n
  have hsz := size_madeCells (Value.agg #[.string { data := #[] }, .string { data := #[] }, .int .i64 0, .int .i64 0]).cells (n * 4)
  generalize madeCells (Value.agg #[.string { data := #[] }, .string { data := #[] }, .int .i64 0, .int .i64 0]).cells (n * 4) = C at *
  obtain ⟨W2, hW2⟩ : ∃ W, W1.alloc (.cells C 35) = W := ⟨_, rfl⟩
  have b2 : Below w.heap.size w W2 := by rw [← hW2]; exact b1.alloc b1.size _
  have z1 : W1.heap.size = w.heap.size + 1 := by rw [← hW1]; simp
  have k2 : W2.heap[W1.heap.size]? = some (.cells C 35 (0, 0)) := by rw [← hW2]; exact heap_new _ _
  have k1' : W2.heap[w.heap.size]? = some (.cells #[.slice none 0 0, .slice none 0 0] 29 (0, 0)) := by rw [← hW2]; exact (Below.heap_alloc _ _ _ (by omega)).trans k1
  have hO2 : W2.ownsRow w.heap.size 35 4 (.slice (some ⟨W1.heap.size, 0, none⟩) n n) n (obsC (copL S.R 0)) := by
    refine ⟨by rw [obsC_len, cop_len (by omega), hn], .inr ⟨W1.heap.size, n, C, rfl, by omega, k2, Nat.le_refl _, by unfold maxLen; omega, by rw [hsz], ?_⟩⟩
    rw [hcs]
    unfold copL obsC
    rw [List.take_zero, List.nil_append, Nat.sub_zero, hn]
    exact List.take_of_length_le (by rw [flat_len obC 4 obC_len, List.length_replicate]; exact Nat.le_refl _)
  -- what holds in each round
  have RL : Hid (∀ V k, Below w.heap.size w V → V.heap[w.heap.size]? = some (.cells #[.slice none 0 0, .slice none 0 0] 29 (0, 0)) → V.ownsRow w.heap.size 35 4 (.slice (some ⟨W1.heap.size, 0, none⟩) n n) n (obsC (copL S.R k)) → k < n →
      ∃ g o, ar = some ⟨g, 0, none⟩ ∧ V.cell? ⟨g, k * 5, none⟩ = some (.string o.nm) ∧ V.cell? ⟨g, k * 5 + 1, none⟩ = some (.string o.tg) ∧ V.cell? ⟨g, k * 5 + 2, none⟩ = some (.int .i64 o.bk) ∧ V.cell? ⟨g, k * 5 + 3, none⟩ = some (.int .i64 o.ow) ∧ V.cell? ⟨g, k * 5 + 4, none⟩ = some (.bool (decide (k ∈ S.Q))) ∧
      ∃ U, V.alloc (.cells #[.string o.nm, .string o.tg, .int .i64 o.bk, .int .i64 o.ow, .bool (decide (k ∈ S.Q))] 76) = U ∧ U.cell? ⟨V.heap.size, 0, none⟩ = some (.string o.nm) ∧ U.cell? ⟨V.heap.size, 1, none⟩ = some (.string o.tg) ∧ U.cell? ⟨V.heap.size, 2, none⟩ = some (.int .i64 o.bk) ∧ U.cell? ⟨V.heap.size, 3, none⟩ = some (.int .i64 o.ow) ∧
      (∃ x0 x1 x2 x3, U.cell? ⟨W1.heap.size, k * 4, none⟩ = some (.string x0) ∧ U.cell? ⟨W1.heap.size, k * 4 + 1, none⟩ = some (.string x1) ∧ U.cell? ⟨W1.heap.size, k * 4 + 2, none⟩ = some (.int .i64 x2) ∧ U.cell? ⟨W1.heap.size, k * 4 + 3, none⟩ = some (.int .i64 x3)) ∧ (∀ j, U.frozen? ⟨W1.heap.size, j, none⟩ = false) ∧
      Hid (Below w.heap.size w (put4 U W1.heap.size (k * 4) o) ∧ (put4 U W1.heap.size (k * 4) o).heap[w.heap.size]? = some (.cells #[.slice none 0 0, .slice none 0 0] 29 (0, 0)) ∧ (put4 U W1.heap.size (k * 4) o).ownsRow w.heap.size 35 4 (.slice (some ⟨W1.heap.size, 0, none⟩) n n) n (obsC (copL S.R (k + 1))))) := fun V k hb hq ho hk => by
    have hk' : k < S.R.length := by omega
    obtain ⟨o, hko⟩ : ∃ o, S.R[k]? = some o := ⟨_, List.getElem?_eq_getElem hk'⟩
    have hIV := hI.below hb
    obtain ⟨g, cap, he⟩ := hIV.form hko
    injection he with he1 _ he2
    subst he1 he2
    obtain ⟨r0, r1, r2, r3, r4⟩ := hIV.row hko
    obtain ⟨U, hU, hbU, kU⟩ := one_new V #[.string o.nm, .string o.tg, .int .i64 o.bk, .int .i64 o.ow, .bool (decide (k ∈ S.Q))] 76
    have hoU := owns_below ho hbU
    have hc := fun j (hj : j < 4) => (hoU.cellAt (k * 4 + j) (by omega)).trans (flat_get obC 4 obC_len (copL S.R k) k _ (cop_get hk') j hj)
    obtain ⟨hp, gp⟩ := obs_put hoU (cop_get hk') o
    rw [cop_set hko] at hp
    refine ⟨g, o, rfl, r0, r1, r2, r3, r4, U, hU, (cell_of_heap kU).trans rfl, (cell_of_heap kU).trans rfl, (cell_of_heap kU).trans rfl, (cell_of_heap kU).trans rfl, ⟨_, _, _, _, hc 0 (by omega), hc 1 (by omega), hc 2 (by omega), hc 3 (by omega)⟩, fun j => hoU.frozenAt j, (hb.trans (hbU.mono hb.size)).trans (grown_base (v := .slice (some ⟨W1.heap.size, 0, none⟩) n n) gp (Nat.le_trans hb.size hbU.size) hoU), ?_, hp⟩
    rw [gp.block w.heap.size (by have := heap_lt hq; have := hbU.size; omega) (fun e => by injection e with e; omega)]
    exact (hbU.block _ (heap_lt hq)).trans hq
  have HL : Hid (∀ V, Below w.heap.size w V → Calls Try.prog 51 #[.pointer (some ⟨q, 4, none⟩)] V fun e w' => ∃ v, e = .returned v ∧ w'.ownsRow V.heap.size 3 1 v S.Q.length (nsC S.Q) ∧ Below V.heap.size V w') := fun V hb => by
    have x := hI.below hb
    obtain ⟨-, -, -, -, c4, c5, c6⟩ := x.cells
    exact list_any V q h mv room S.Q c4 c5 c6 x.hm x.rg x.rl
  have cq : Hid (∀ V, Below w.heap.size w V → V.cell? ⟨q, 1, none⟩ = some (.slice ar n cr)) := fun V hb => by rw [← hn]; exact (hI.below hb).cells.2.1
  have HCF : Hid (copL S.R n = S.R) := by rw [← hn]; exact cop_full _
  have q2 := cq.out W2 b2
  have q1 := cq.out W1 b1
  rw [hn] at *
  generalize W1.heap.size = g1 at *
  clear hi hz0 hz1 hz2 hcs hsz hI b1 k1 z1 k2
  go_enter Try.func27, Try.ntmps27
  go_wp2
  go_loopg [17] n (fun gk i wr => ∃ k : Nat, gk = n - k ∧ k ≤ n ∧ i = .int .i64 (k : Int) ∧ Below w.heap.size w wr ∧ wr.heap[w.heap.size]? = some (.cells #[.slice none 0 0, .slice none 0 0] 29 (0, 0)) ∧ wr.ownsRow w.heap.size 35 4 (.slice (some ⟨g1, 0, none⟩) n n) n (obsC (copL S.R k)))
  case atStart => exact ⟨0, by omega, by omega, rfl, b2, k1', hO2⟩
  case round =>
    clear hO2 b2 k1' hmk hW1 hW2 q1 q2
    obtain ⟨k, hgk, hkn, rfl, hb, hk1, hO⟩ := hrel
    by_cases hk : k < n
    · have hkI : (k : Int) < (n : Int) := by omega
      obtain ⟨g, o, rfl, r0, r1, r2, r3, r4, U, hU, u0, u1, u2, u3, ⟨x0, x1, x2, x3, y0, y1, y2, y3⟩, fz, HP⟩ := RL.out wr k hb hk1 hO hk
      have f0 := fz (k * 4)
      have f1 := fz (k * 4 + 1)
      have f2 := fz (k * 4 + 2)
      have f3 := fz (k * 4 + 3)
      have w1 : IntKind.i64.wrap ((k : Int) + 1) = ((k + 1 : Nat) : Int) := by rw [IntKind.wrap_i64]; omega
      generalize decide (k ∈ S.Q) = bq at *
      obtain ⟨nm, tg, bk, ow⟩ := o
      dsimp only at *
      clear hb hk1 hO RL HL cq fz
      go_wp2
      go_roundg (n - (k + 1))
      case measure => omega
      case rel => exact ⟨k + 1, rfl, by omega, rfl, HP.out⟩
    · obtain rfl : k = n := by omega
      have hkI : ¬ (k : Int) < (k : Int) := by omega
      have hls := HL.out wr hb
      have HE : Hid (∀ w5 v, w5.ownsRow wr.heap.size 3 1 v S.Q.length (nsC S.Q) → Below wr.heap.size wr w5 → ∃ av cv, v = .slice av S.Q.length cv ∧ w5.cell? ⟨w.heap.size, 0, none⟩ = some (.slice none 0 0) ∧ w5.cell? ⟨w.heap.size, 1, none⟩ = some (.slice none 0 0) ∧ w5.frozen? ⟨w.heap.size, 0, none⟩ = false ∧ w5.frozen? ⟨w.heap.size, 1, none⟩ = false ∧ Hid (w5.heap[w.heap.size]? = some (.cells #[.slice none 0 0, .slice none 0 0] 29 (0, 0))) ∧
          Hid (∀ a b, ((w5.setCell ⟨w.heap.size, 0, none⟩ a).setCell ⟨w.heap.size, 1, none⟩ b).ownsRow w.heap.size 35 4 (.slice (some ⟨g1, 0, none⟩) k k) k (obsC S.R) ∧ ((w5.setCell ⟨w.heap.size, 0, none⟩ a).setCell ⟨w.heap.size, 1, none⟩ b).ownsRow w.heap.size 3 1 v S.Q.length (nsC S.Q) ∧ Below w.heap.size w ((w5.setCell ⟨w.heap.size, 0, none⟩ a).setCell ⟨w.heap.size, 1, none⟩ b))) := fun w5 v ho5 hb5 => by
        obtain ⟨av, cv, rfl⟩ := owns_form ho5
        have hk5 := (hb5.block _ (heap_lt hk1)).trans hk1
        refine ⟨av, cv, rfl, (cell_of_heap hk5).trans rfl, (cell_of_heap hk5).trans rfl, frozen_of_heap hk5, frozen_of_heap hk5, hk5, fun a b => ⟨?_, ?_, ?_⟩⟩
        · have hO' : wr.ownsRow w.heap.size 35 4 (.slice (some ⟨g1, 0, none⟩) k k) k (obsC S.R) := by
            have := hO
            rw [HCF.out] at this
            exact this
          refine owns_keep (owns_below hO' hb5) fun g hg => ?_
          obtain ⟨cur, hcur⟩ := owns_block (owns_below hO hb5) hg
          have hne : g ≠ w.heap.size := fun e => by
            rw [e, hk5] at hcur
            injection hcur with hcur
            injection hcur with _ hcur _
            cases hcur
          exact (heap_setCell_other _ _ _ _ hne).trans (heap_setCell_other _ _ _ _ hne)
        · refine owns_keep (owns_base ho5 hb.size) fun g hg => ?_
          have hne : g ≠ w.heap.size := fun e => by
            have := (ho5.lt g hg).1
            have := heap_lt hk1
            omega
          exact (heap_setCell_other _ _ _ _ hne).trans (heap_setCell_other _ _ _ _ hne)
        · exact (((hb.trans (hb5.mono hb.size)).setCell (Nat.le_refl _) _).setCell (Nat.le_refl _) _)
      clear hb hk1 hO RL HL cq
      go_wp2_with fail
      refine hls.mono ?_
      rintro e w5 ⟨v, rfl, ho5, hb5⟩
      obtain ⟨av, cv, rfl, d0, d1, f0, f1, HK5, HE5⟩ := HE.out w5 v ho5 hb5
      clear ho5 hb5 HE hls
      go_wp2
      refine bodyPost_ret (Tr.results_cell1 rfl _ _ w.heap.size 29 _ (0, 0) _ rfl (Tr.put2A HK5.out) Try.underlying29 rfl sizePs) rfl ?_
      obtain ⟨h1, h2, h3⟩ := HE5.out (.slice (some ⟨g1, 0, none⟩) k k) (.slice av S.Q.length cv)
      exact ⟨_, _, rfl, h1, h2, h3⟩
set_option maxRecDepth 20000 in
set_option maxHeartbeats 1000000 in
theorem state_any (w : World) (pb q : Nat) (F : List Nat) (nn : Nat) (S : Ps) (hK : Ok w pb q F nn S) : Calls Try.prog 9 #[.pointer (some ⟨pb, 0, none⟩)] w fun e w' => ∃ ov qv, e = .returned (.agg #[ov, qv]) ∧ w'.ownsRow w.heap.size 35 4 ov S.R.length (obsC S.R) ∧ w'.ownsRow w.heap.size 3 1 qv S.Q.length (nsC S.Q) ∧ Below w.heap.size w w' := by
  obtain ⟨V, hV, hb, k0⟩ := one_new w #[.slice none 0 0, .slice none 0 0] 29
  have c0 := (hK.top.below hb).cell
  have hm := made_any V pb q c0
  have ht := told_any V q F nn S (hK.lay.below hb)
  have HE : Hid (∀ w5 ov qv, w5.ownsRow V.heap.size 35 4 ov S.R.length (obsC S.R) → w5.ownsRow V.heap.size 3 1 qv S.Q.length (nsC S.Q) → Below V.heap.size V w5 → ∃ a1 c1 a2 c2, ov = .slice a1 S.R.length c1 ∧ qv = .slice a2 S.Q.length c2 ∧ w5.cell? ⟨w.heap.size, 0, none⟩ = some (.slice none 0 0) ∧ w5.cell? ⟨w.heap.size, 1, none⟩ = some (.slice none 0 0) ∧ w5.frozen? ⟨w.heap.size, 0, none⟩ = false ∧ w5.frozen? ⟨w.heap.size, 1, none⟩ = false ∧ Hid (w5.heap[w.heap.size]? = some (.cells #[.slice none 0 0, .slice none 0 0] 29 (0, 0))) ∧
      Hid (∀ a b, ((w5.setCell ⟨w.heap.size, 0, none⟩ a).setCell ⟨w.heap.size, 1, none⟩ b).ownsRow w.heap.size 35 4 ov S.R.length (obsC S.R) ∧ ((w5.setCell ⟨w.heap.size, 0, none⟩ a).setCell ⟨w.heap.size, 1, none⟩ b).ownsRow w.heap.size 3 1 qv S.Q.length (nsC S.Q) ∧ Below w.heap.size w ((w5.setCell ⟨w.heap.size, 0, none⟩ a).setCell ⟨w.heap.size, 1, none⟩ b))) := fun w5 ov qv h1 h2 hb5 => by
    obtain ⟨a1, c1, rfl⟩ := owns_form h1
    obtain ⟨a2, c2, rfl⟩ := owns_form h2
    have hk5 := (hb5.block _ (heap_lt k0)).trans k0
    have lt := heap_lt k0
    refine ⟨a1, c1, a2, c2, rfl, rfl, (cell_of_heap hk5).trans rfl, (cell_of_heap hk5).trans rfl, frozen_of_heap hk5, frozen_of_heap hk5, hk5, fun a b => ⟨?_, ?_, ((hb.trans (hb5.mono hb.size)).setCell (Nat.le_refl _) _).setCell (Nat.le_refl _) _⟩⟩
    · refine owns_keep (owns_base h1 hb.size) fun g hg => ?_
      have hne : g ≠ w.heap.size := fun e => by have := (h1.lt g hg).1; omega
      exact (heap_setCell_other _ _ _ _ hne).trans (heap_setCell_other _ _ _ _ hne)
    · refine owns_keep (owns_base h2 hb.size) fun g hg => ?_
      have hne : g ≠ w.heap.size := fun e => by have := (h2.lt g hg).1; omega
      exact (heap_setCell_other _ _ _ _ hne).trans (heap_setCell_other _ _ _ _ hne)
  clear hb k0 hK
  go_enter Try.func9, Try.ntmps9
  go_wp2_with (first
    | (go_at_call 27; refine ht.mono ?_; rintro e w5 ⟨ov, qv, rfl, h1, h2, hb5⟩; obtain ⟨a1, e1, a2, e2, rfl, rfl, d0, d1, f0, f1, HK5, HE5⟩ := HE.out w5 ov qv h1 h2 hb5; clear h1 h2 hb5 HE)
    | (go_at_call 26; refine hm.mono ?_; rintro e w2 ⟨rfl, e2⟩; obtain rfl := e2.symm))
  refine bodyPost_ret (Tr.results_cell1 rfl _ _ w.heap.size 29 _ (0, 0) _ rfl (Tr.put2A HK5.out) Try.underlying29 rfl sizePs) rfl ?_
  obtain ⟨h1, h2, h3⟩ := HE5.out (.slice a1 S.R.length e1) (.slice a2 S.Q.length e2)
  exact ⟨_, _, rfl, h1, h2, h3⟩
end Go.Proofs.Ythmjjpaengackaa.Po
