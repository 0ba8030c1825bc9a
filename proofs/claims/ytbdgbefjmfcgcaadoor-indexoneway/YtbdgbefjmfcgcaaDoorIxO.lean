import Derived.Test.YtbdgbefjmfcgcaaDoorIxN
namespace Go.Proofs.YtbdgbefjmfcgcaaDoor.Ix
open Go.RowKit Go.Lib Go.Deep

theorem cells3 {W : World} {g : Nat} {t : TypeId} {x0 x1 x2 : Value} (h : W.heap[g]? = some (.cells #[x0, x1, x2] t (0, 0))) : W.cell? ⟨g, 0, none⟩ = some x0 ∧ W.cell? ⟨g, 1, none⟩ = some x1 ∧ W.cell? ⟨g, 2, none⟩ = some x2 :=
  ⟨(cell_of_heap h).trans rfl, (cell_of_heap h).trans rfl, (cell_of_heap h).trans rfl⟩
theorem cells5 {W : World} {g : Nat} {t : TypeId} {x0 x1 x2 x3 x4 : Value} (h : W.heap[g]? = some (.cells #[x0, x1, x2, x3, x4] t (0, 0))) : W.cell? ⟨g, 0, none⟩ = some x0 ∧ W.cell? ⟨g, 1, none⟩ = some x1 ∧ W.cell? ⟨g, 2, none⟩ = some x2 ∧ W.cell? ⟨g, 3, none⟩ = some x3 ∧ W.cell? ⟨g, 4, none⟩ = some x4 :=
  ⟨(cell_of_heap h).trans rfl, (cell_of_heap h).trans rfl, (cell_of_heap h).trans rfl, (cell_of_heap h).trans rfl, (cell_of_heap h).trans rfl⟩
theorem drop_at {α : Type} {T : List α} {i : Nat} {x : α} (h : T[i]? = some x) : T.drop i = x :: T.drop (i + 1) := by
  obtain ⟨h1, h2⟩ := List.getElem?_eq_some_iff.1 h
  rw [List.drop_eq_getElem_cons h1, h2]
set_option maxRecDepth 20000 in
set_option maxHeartbeats 1500000 in
theorem treeFits_any (sl fl dr mf ls pg : Nat) (hc : Cn.In ⟨sl, fl, dr, mf, ls, pg⟩) (f d : Int) (T : List Nd) (w : World) (a : Option Addr) (n k : Nat) (hS : See w 5 (.slice a n k) n (ndsC T)) (hn : T.length = n) (hnb : n ≤ 1099511000000) :
    Calls Tryd.prog 20 #[.agg #[.int .i64 (sl : Int), .int .i64 (fl : Int), .int .i64 (dr : Int), .int .i64 (mf : Int), .int .i64 (ls : Int), .int .i64 (pg : Int)], .agg #[.int .i64 f, .int .i64 d, .slice a n k]] w fun e w' => e = .returned (.bool (treeB ⟨sl, fl, dr, mf, ls, pg⟩ f d T)) ∧ Below w.heap.size w w' := by
  have hfl : fl ≤ 65536 := hc.2.2.2.1
  have hdr : dr ≤ 4096 := hc.2.2.2.2.1
  clear hc
  obtain ⟨V, hV, hbV, g0, g1⟩ := two_new w #[.int .i64 (sl : Int), .int .i64 (fl : Int), .int .i64 (dr : Int), .int .i64 (mf : Int), .int .i64 (ls : Int), .int .i64 (pg : Int)] #[.int .i64 f, .int .i64 d, .slice a n k] 23 28
  have l0 := heap_lt g0
  have HX : Hid (∀ X, Below V.heap.size V X → X.heap[w.heap.size]? = some (.cells #[.int .i64 (sl : Int), .int .i64 (fl : Int), .int .i64 (dr : Int), .int .i64 (mf : Int), .int .i64 (ls : Int), .int .i64 (pg : Int)] 23 (0, 0)) ∧ See X 5 (.slice a n k) n (ndsC T) ∧ Below w.heap.size w X) := fun X hX => by
    have hb := hbV.trans (hX.mono hbV.size)
    exact ⟨(hX.block _ l0).trans g0, hS.below hb, hb⟩
  obtain ⟨y0, y1, y2, y3, y4, y5⟩ := cells6 g0
  obtain ⟨x0, x1, x2⟩ := cells3 g1
  have HBV : Hid (Below w.heap.size w V) := hbV
  clear g0 g1 hbV hS
  unfold treeB
  by_cases h1 : f = (fl : Int)
  case neg =>
    rw [decide_eq_false (show ¬ (f = ((Cn.mk sl fl dr mf ls pg).fl : Int) ∧ d = ((Cn.mk sl fl dr mf ls pg).dr : Int)) from fun x => h1 x.1), Bool.false_and]
    have hb : (f != (fl : Int)) = true := by rw [bne_iff_ne]; exact h1
    go_enter Tryd.func20, Tryd.ntmps20
    go_wp2
    go_ret
    exact ⟨rfl, HBV.out⟩
  by_cases h2 : d = (dr : Int)
  case neg =>
    rw [decide_eq_false (show ¬ (f = ((Cn.mk sl fl dr mf ls pg).fl : Int) ∧ d = ((Cn.mk sl fl dr mf ls pg).dr : Int)) from fun x => h2 x.2), Bool.false_and]
    have hb : (d != (dr : Int)) = true := by rw [bne_iff_ne]; exact h2
    have hb1 : (f != (fl : Int)) = false := by rw [bne_eq_false_iff_eq]; exact h1
    clear h1
    go_enter Tryd.func20, Tryd.ntmps20
    go_wp2
    go_ret
    exact ⟨rfl, HBV.out⟩
  rw [decide_eq_true (show f = ((Cn.mk sl fl dr mf ls pg).fl : Int) ∧ d = ((Cn.mk sl fl dr mf ls pg).dr : Int) from ⟨h1, h2⟩), Bool.true_and]
  subst h1
  subst h2
  obtain ⟨Z, hZ⟩ : ∃ Z, risB ⟨sl, fl, dr, mf, ls, pg⟩ 0 T = Z := ⟨_, rfl⟩
  rw [hZ]
  have HZ : Hid (risB ⟨sl, fl, dr, mf, ls, pg⟩ 0 T = Z) := hZ
  clear hZ
  go_enter Tryd.func20, Tryd.ntmps20
  go_wp2_with fail
  clear y0 y1 y2 y3 y4 y5 x0 x1 x2 HBV
  go_loopg [5, 23] n (fun gk lv iv wr => ∃ (i : Nat) (l : Int), i + gk = n ∧ lv = .int .i64 l ∧ iv = .int .i64 (i : Int) ∧ Hid (Below V.heap.size V wr) ∧ Hid (risB ⟨sl, fl, dr, mf, ls, pg⟩ l (T.drop i) = Z))
  case atStart => exact ⟨0, 0, by omega, rfl, rfl, Below.refl _ _, HZ.out⟩
  case round =>
    obtain ⟨i, l, hik, rfl, rfl, hbr, hpre⟩ := hrel
    obtain ⟨k0, s1, hbw⟩ := HX.out wr hbr.out
    by_cases hlt : i < n
    · have hltI : (i : Int) < (n : Int) := by omega
      obtain ⟨x, hx⟩ : ∃ x, T[i]? = some x := ⟨_, List.getElem?_eq_getElem (by omega)⟩
      obtain ⟨b, off, rfl, hbl, hcc⟩ := s1.row ndC_len (by decide) hx
      have hp := hpre.out
      rw [drop_at hx, risB] at hp
      obtain ⟨kd, nu, pa, nm, sz⟩ := x
      have c0 : wr.cell? ⟨b, off + i * 5, none⟩ = some (.int .i64 kd) := hcc 0 _ rfl
      have c1 : wr.cell? ⟨b, off + i * 5 + 1, none⟩ = some (.int .i64 nu) := hcc 1 _ rfl
      have c2 : wr.cell? ⟨b, off + i * 5 + 2, none⟩ = some (.int .i64 pa) := hcc 2 _ rfl
      have c3 : wr.cell? ⟨b, off + i * 5 + 3, none⟩ = some (.string nm) := hcc 3 _ rfl
      have c4 : wr.cell? ⟨b, off + i * 5 + 4, none⟩ = some (.int .i64 sz) := hcc 4 _ rfl
      obtain ⟨W, hW, hbW, gn⟩ := one_new wr #[.int .i64 kd, .int .i64 nu, .int .i64 pa, .string nm, .int .i64 sz] 44
      have hbVW : Below V.heap.size V W := hbr.out.trans (hbW.mono hbr.out.size)
      obtain ⟨e0, e1, e2, e3, e4, e5⟩ := cells6 ((hbW.block _ (heap_lt k0)).trans k0)
      obtain ⟨m0, m1, m2, m3, m4⟩ := cells5 gn
      have HW : Hid (∀ X, Below W.heap.size W X → X.heap[w.heap.size]? = some (.cells #[.int .i64 (sl : Int), .int .i64 (fl : Int), .int .i64 (dr : Int), .int .i64 (mf : Int), .int .i64 (ls : Int), .int .i64 (pg : Int)] 23 (0, 0)) ∧ X.heap[wr.heap.size]? = some (.cells #[.int .i64 kd, .int .i64 nu, .int .i64 pa, .string nm, .int .i64 sz] 44 (0, 0)) ∧ Below V.heap.size V X ∧ Below w.heap.size w X) := fun X hX => by
        have hVX := hbVW.trans (hX.mono hbVW.size)
        exact ⟨(HX.out X hVX).1, (hX.block _ (heap_lt gn)).trans gn, hVX, (HX.out X hVX).2.2⟩
      have KN := nodeFits_any sl fl dr mf ls pg hfl kd nu pa sz nm W
      have KP := fun h X => placeOf_any sl fl dr mf ls pg kd nu pa sz nm hdr h X
      clear hcc hx s1 hbw gn k0 hbW hbVW
      by_cases hfit : NdF ⟨sl, fl, dr, mf, ls, pg⟩ ⟨kd, nu, pa, nm, sz⟩
      · rw [decide_eq_true hfit] at KN hp
        have hnu : -1 ≤ nu ∧ nu ≤ 100000 := by
          have := hfit.1
          simp only at this
          omega
        have KP' := KP hnu
        obtain ⟨q, hq⟩ : ∃ q, plc ⟨sl, fl, dr, mf, ls, pg⟩ ⟨kd, nu, pa, nm, sz⟩ = q := ⟨_, rfl⟩
        rw [hq] at KP' hp
        rw [Bool.true_and] at hp
        clear hq KP hfit hnu hpre
        by_cases hlq : l < q
        · have hlqI : ¬ q ≤ l := by omega
          rw [decide_eq_true hlq, Bool.true_and] at hp
          have HP : Hid _ := hp
          clear hp hlq
          go_wp2_with fail
          refine KN.mono ?_
          rintro e w1 ⟨rfl, hb1⟩
          obtain ⟨k0, k1, -⟩ := HW.out w1 hb1
          clear e0 e1 e2 e3 e4 e5 m0 m1 m2 m3 m4 c0 c1 c2 c3 c4 KN
          obtain ⟨e0, e1, e2, e3, e4, e5⟩ := cells6 k0
          obtain ⟨m0, m1, m2, m3, m4⟩ := cells5 k1
          go_wp2_with fail
          refine (KP' _).mono ?_
          rintro e w2 ⟨rfl, hb2'⟩
          have hb2 := hb1.trans (hb2'.mono hb1.size)
          obtain ⟨k2, k3, -⟩ := HW.out w2 hb2
          clear e0 e1 e2 e3 e4 e5 m0 m1 m2 m3 m4 k0 k1 hb2'
          obtain ⟨e0, e1, e2, e3, e4, e5⟩ := cells6 k2
          obtain ⟨m0, m1, m2, m3, m4⟩ := cells5 k3
          go_wp2_with fail
          refine (KP' _).mono ?_
          rintro e w3 ⟨rfl, hb3'⟩
          have HB3 : Hid (Below V.heap.size V w3) := (HW.out w3 (hb2.trans (hb3'.mono hb2.size))).2.2.1
          clear e0 e1 e2 e3 e4 e5 m0 m1 m2 m3 m4 k2 k3 hb3' hb2 hb1 HW
          go_wp2
          go_roundg (gk - 1)
          case measure => omega
          case rel => exact ⟨i + 1, q, by omega, rfl, rfl, HB3, HP⟩
        · have hlqI : q ≤ l := by omega
          rw [decide_eq_false hlq, Bool.false_and] at hp
          subst hp
          clear hlq
          go_wp2_with fail
          refine KN.mono ?_
          rintro e w1 ⟨rfl, hb1⟩
          obtain ⟨k0, k1, -⟩ := HW.out w1 hb1
          clear e0 e1 e2 e3 e4 e5 m0 m1 m2 m3 m4 c0 c1 c2 c3 c4 KN
          obtain ⟨e0, e1, e2, e3, e4, e5⟩ := cells6 k0
          obtain ⟨m0, m1, m2, m3, m4⟩ := cells5 k1
          go_wp2_with fail
          refine (KP' _).mono ?_
          rintro e w2 ⟨rfl, hb2'⟩
          have HB2 : Hid (Below w.heap.size w w2) := (HW.out w2 (hb1.trans (hb2'.mono hb1.size))).2.2.2
          clear e0 e1 e2 e3 e4 e5 m0 m1 m2 m3 m4 k0 k1 hb2' hb1 HW
          go_wp2
          go_ret
          exact ⟨rfl, HB2.out⟩
      · rw [decide_eq_false hfit] at KN hp
        rw [Bool.false_and, Bool.false_and] at hp
        subst hp
        clear hfit KP hpre
        go_wp2_with fail
        refine KN.mono ?_
        rintro e w1 ⟨rfl, hb1⟩
        have HB1 : Hid (Below w.heap.size w w1) := (HW.out w1 hb1).2.2.2
        clear e0 e1 e2 e3 e4 e5 m0 m1 m2 m3 m4 c0 c1 c2 c3 c4 KN HW hb1
        go_wp2
        go_ret
        exact ⟨rfl, HB1.out⟩
    · obtain rfl : i = n := by omega
      have hltI : ¬ (i : Int) < (i : Int) := by omega
      obtain rfl : Z = true := by
        have := hpre.out
        rw [List.drop_eq_nil_of_le (by omega)] at this
        exact this.symm
      have HB : Hid _ := hbw
      clear hbw HZ hpre k0 s1
      go_wp2
      go_ret
      exact ⟨rfl, HB.out⟩
end Go.Proofs.YtbdgbefjmfcgcaaDoor.Ix
