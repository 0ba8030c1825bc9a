import Derived.Test.YtpjigcccjiidpaaExDi
import Derived.Test.YtpjigcccjiidpaaExDh
namespace Go.Proofs.Ytpjigcccjiidpaa.Ex
open Go.RowKit Go.Lib Go.Deep

theorem sizeO : (Try.prog.info? 30).map (·.size) = some 2 := by kernel_rfl
/-- what Apply answers where all fits -/
structure ApO (w w' : World) (T : List St) (rs : List Rs) (cs : List (List UInt8)) (q n : Nat) (a : Option Addr) (l c : Nat) (R : List Rr) : Prop where
  row : w'.ownsRow w.heap.size 56 6 (.slice (some ⟨q, 0, none⟩) n n) n (rrsC R)
  rl : R.length = n
  hr : R.map (·.r) = rs
  hn : R.map (·.nm) = T.map (·.nm)
  nm : ∀ (j : Nat) x, R[j]? = some x → w'.ownsRow w.heap.size 9 1 (.slice x.v.a x.v.l x.v.c) x.v.l (scC x.nm)
  dj : Apt R
  ct : w'.ownsRow w.heap.size 9 1 (.slice a l c) l (scC (cs.map str))
  cl : l = cs.length
  cd : ∀ (j : Nat) x g, R[j]? = some x → (Value.slice x.v.a x.v.l x.v.c).ownBlock = some g → (Value.slice a l c).ownBlock ≠ some g
def ApP (w : World) (n : Nat) (T : List St) (Z : Option (List Rs × List (List UInt8))) (e : Ending) (w' : World) : Prop :=
  Below w.heap.size w w' ∧ ((Z = none ∧ e = .returned (.tuple #[.agg #[.slice none 0 0, .slice none 0 0], .int .i64 160])) ∨ ∃ rs cs q a l c R, Z = some (rs, cs) ∧ e = .returned (.tuple #[.agg #[.slice (some ⟨q, 0, none⟩) n n, .slice a l c], .int .i64 0]) ∧ ApO w w' T rs cs q n a l c R)
theorem opn_sm : ∀ (l : List (Sl × List UInt8)) (L L' : Fl), Sm L → (∀ x ∈ l, x.2.length ≤ 549755813888) → opn L l = some L' → Sm L'
  | [], L, L', h, _, e => by simp only [opn, Option.some.injEq] at e; subst e; exact h
  | x :: l, L, L', h, hl, e => by
    unfold opn at e
    split at e
    · exact opn_sm l L L' h (fun y hy => hl y (.tail _ hy)) e
    · split at e
      · cases e
      · exact opn_sm l _ L' (sm_wi h _ _ (hl x (.head _))) (fun y hy => hl y (.tail _ hy)) e
theorem see_lt {w : World} {sz n : Nat} {a : Option Addr} {c : Nat} {xs : List Value} (h : See w sz (.slice a n c) n xs) {b off : Nat} (e : a = some ⟨b, off, none⟩) (hn : 0 < n) : b < w.heap.size := by
  obtain ⟨h0, h5, a', c', h1, h2, h3, h4⟩ := h
  injection h1 with e1 _ e2
  subst e1 e2
  obtain ⟨b', off', e', hlt, _⟩ := h4 hn
  rw [e] at e'
  injection e' with e'
  injection e' with e'
  rw [e']
  exact hlt
set_option maxRecDepth 20000 in
set_option maxHeartbeats 2000000 in
theorem apply_any (sl : List Sl) (T : List St) (cs : List (List UInt8)) (w : World) (a1 a2 a3 : Option Addr) (n1 c1 n2 c2 n3 c3 : Nat) (hS : See w 4 (.slice a1 n1 c1) n1 (slsC sl)) (hn1 : sl.length = n1) (hT : See w 13 (.slice a2 n2 c2) n2 (stsC T)) (hn2 : T.length = n2) (hC : See w 1 (.slice a3 n3 c3) n3 (scC (cs.map str))) (hn3 : cs.length = n3)
    (hb1 : n1 ≤ 1099511627776) (hb2 : n2 ≤ 1099511627776) (hw1 : ∀ s ∈ sl, wf s.wa ∧ wf s.fi) (hw2 : ∀ x ∈ T, EfW x.s.e) (hnl : ∀ x ∈ T, x.v.l ≤ 8796093022207) (hNm : ∀ x ∈ T, See w 1 (.slice x.v.a x.v.l x.v.c) x.v.l (scC x.nm)) (hc : ∀ c ∈ cs, c.length ≤ 549755813888) :
    Calls Try.prog 9 #[.agg #[.slice a1 n1 c1, .slice a2 n2 c2], .slice a3 n3 c3] w fun e w' => ApP w n2 T (app sl (T.map (·.s)) cs) e w' := by
  obtain ⟨W, hW, hbW, k0, k1⟩ := two_new w #[.slice a1 n1 c1, .slice a2 n2 c2] #[.slice none 0 0, .slice none 0 0] 40 30
  have hfo := filesOf_any sl cs W a1 a3 n1 c1 n3 c3 (hS.below hbW) hn1 (hC.below hbW) hn3 hb1 (fun s hs => (hw1 s hs).1) (fun c h => by have := hc c h; unfold maxLen; omega)
  have hap : app sl (T.map (·.s)) cs = (foR sl cs).bind fun L => (goL L (T.map (·.s))).bind fun q => (cls q.1 sl).map fun c => (q.2, c) := by
    unfold app foR
    split <;> rfl
  rw [hap]
  clear hap
  -- the boxes, wherever
  have HB : Hid (∀ V, Below W.heap.size W V → V.cell? ⟨w.heap.size, 0, none⟩ = some (.slice a1 n1 c1) ∧ V.cell? ⟨w.heap.size, 1, none⟩ = some (.slice a2 n2 c2) ∧ V.cell? ⟨w.heap.size + 1, 0, none⟩ = some (.slice none 0 0) ∧ V.cell? ⟨w.heap.size + 1, 1, none⟩ = some (.slice none 0 0) ∧ V.frozen? ⟨w.heap.size + 1, 0, none⟩ = false ∧ V.frozen? ⟨w.heap.size + 1, 1, none⟩ = false ∧ Hid (V.heap[w.heap.size + 1]? = some (.cells #[.slice none 0 0, .slice none 0 0] 30 (0, 0)) ∧ Below w.heap.size w V)) := fun V hV => by
    have q0 := (hV.block _ (heap_lt k0)).trans k0
    have q1 := (hV.block _ (heap_lt k1)).trans k1
    exact ⟨(cell_of_heap q0).trans rfl, (cell_of_heap q0).trans rfl, (cell_of_heap q1).trans rfl, (cell_of_heap q1).trans rfl, frozen_of_heap q1, frozen_of_heap q1, q1, hbW.trans (hV.mono hbW.size)⟩
  -- behind filesOf: the steps
  have HF : Hid (∀ w1 L m F, Below W.heap.size W w1 → foR sl cs = some L → Liv w1 m n1 F L → (∀ k, F k → W.heap.size ≤ k) → Calls Try.prog 17 #[.map (some m), .slice a2 n2 c2] w1 fun e w2 => Below W.heap.size W w2 ∧ ((goL L (T.map (·.s)) = none ∧ e = .returned (.tuple #[.slice none 0 0, .bool false])) ∨ ∃ q L' R, goL L (T.map (·.s)) = some (L', R.map (·.r)) ∧ e = .returned (.tuple #[.slice (some ⟨q, 0, none⟩) n2 n2, .bool true]) ∧
      Calls Try.prog 18 #[.map (some m), .slice a1 n1 c1] w2 fun e w3 => Below W.heap.size W w3 ∧ ∃ a l c, e = .returned (.tuple #[.slice a l c, .bool (cls L' sl).isSome]) ∧ Hid (∀ cs', cls L' sl = some cs' → ∀ U, Only [w.heap.size + 1] w3 U → ApO w U T (R.map (·.r)) cs' q n2 a l c R))) := fun w1 L m F hb hfo hL hF => by
    have hbw := hbW.trans (hb.mono hbW.size)
    have hFw : ∀ k, k < w.heap.size → ¬ F k := fun k hk x => by have := hF k x; have := hbW.size; omega
    have hFW : ∀ k, k < W.heap.size → ¬ F k := fun k hk x => by have := hF k x; omega
    have hsm : Sm L := by
      unfold foR at hfo
      split at hfo
      · exact opn_sm _ [] L (fun k s h => by cases h) (fun x hx => hc x.2 (List.of_mem_zip hx).2) hfo
      · cases hfo
    refine (follow_any T w1 F m n1 L hL hsm a2 n2 c2 hn2 hb2 hb1 (fun p6 q Z wr i hN hi => round_any (fun V hV => hT.below (Trn.below hbw hV hFw)) (fun x hx V hV => (hNm x hx).below (Trn.below hbw hV hFw)) hn2 hw2 hnl hb2 hb1 p6 q Z wr i hN hi)).mono ?_
    rintro e w2 ⟨ht, hcase⟩
    have hb2' : Below W.heap.size W w2 := Trn.below hb ht hFW
    refine ⟨hb2', ?_⟩
    rcases hcase with ⟨h1, h2⟩ | ⟨p6, q, F', L', R, h1, rfl, hfw, hnm⟩
    · exact .inl ⟨h1, h2⟩
    · have hbw2 := hbW.trans (hb2'.mono hbW.size)
      have hF' : ∀ k, k < W.heap.size → ¬ F' k := fun k hk x => hFW k hk (hfw.ff k (Nat.lt_of_lt_of_le hk hb.size) x)
      refine .inr ⟨q, L', R, h1, rfl, (intoSlots_any sl w2 m (n1 + n2) F' L' hfw.lv (by unfold maxLen; omega) a1 n1 c1 (hS.below hbw2) (fun b off e hn => hF' b (Nat.lt_of_lt_of_le (see_lt hS e hn) hbW.size)) hn1 hb1 (fun s hs => (hw1 s hs).2)).mono ?_⟩
      rintro e w3 ⟨ht3, a, l, c, rfl, hrow⟩
      refine ⟨Trn.below hb2' ht3 hF', a, l, c, rfl, fun cs' hcs U hU => ?_⟩
      obtain ⟨hr3, rfl⟩ := hrow cs' hcs
      have hw12 : W.heap.size ≤ w1.heap.size := hb.size
      have hq2 := heap_lt (hfw.qb).choose_spec
      have hwW : w.heap.size + 1 < W.heap.size := heap_lt k1
      have hkeep : ∀ g, w1.heap.size ≤ g → g < w2.heap.size → ¬ F' g → U.heap[g]? = w2.heap[g]? := fun g h1 h2 h3 => (hU.block g (Nat.lt_of_lt_of_le h2 ht3.size) (by simp only [List.mem_singleton]; omega)).trans (ht3.block g h2 h3)
      have hown : ∀ g, (Value.slice a l c).ownBlock = some g → w2.heap.size ≤ g := fun g hg => (hr3.lt g hg).1
      refine ⟨owns_base (owns_keep hfw.row fun g hg => ?_) (by omega), hfw.rl, rfl, hnm, fun j x hj => ?_, hfw.dj, ?_, ?_, fun j x g hj hg hc => ?_⟩
      · have : g = q := by simp [Value.ownBlock] at hg; exact hg.symm
        subst this
        exact hkeep _ hfw.hq.1 hq2 hfw.hq.2
      · exact owns_base (owns_keep (hfw.nm j x hj).ow fun g hg => hkeep g ((hfw.nm j x hj).ow.lt g hg).1 (hfw.nq hj hg).2 ((hfw.nm j x hj).nF g hg)) (by omega)
      · exact owns_base (owns_keep hr3 fun g hg => hU.block g (hr3.lt g hg).2 (by have := hown g hg; simp only [List.mem_singleton]; have := hb2'.size; omega)) (by have := hb2'.size; omega)
      · have := cls_len _ _ _ hcs
        omega
      · have := hown g hc
        have := (hfw.nq hj hg).2
        omega
  have HE : Hid (∀ V u v, Below W.heap.size W V → Below w.heap.size w ((V.setCell ⟨w.heap.size + 1, 0, none⟩ u).setCell ⟨w.heap.size + 1, 1, none⟩ v)) := fun V u v hV => ((hbW.trans (hV.mono hbW.size)).setCell (by show w.heap.size ≤ w.heap.size + 1; omega) _).setCell (by show w.heap.size ≤ w.heap.size + 1; omega) _
  have HO : Hid (∀ V u v, Only [w.heap.size + 1] V ((V.setCell ⟨w.heap.size + 1, 0, none⟩ u).setCell ⟨w.heap.size + 1, 1, none⟩ v)) := fun V u v => ((Only.refl [w.heap.size + 1] V).setCell (p := ⟨w.heap.size + 1, 0, none⟩) (by simp) _).setCell (p := ⟨w.heap.size + 1, 1, none⟩) (by simp) _
  obtain ⟨c0, c1', o0, o1, fo0, fo1, -⟩ := HB.out W (Below.refl _ _)
  generalize foR sl cs = Z1 at *
  clear hS hT hC hNm hc hw1 hw2 hnl k0 k1 hbW hn1 hn2 hn3 hb1 hb2
  go_enter Try.func9, Try.ntmps9
  go_wp2_with fail
  refine hfo.mono ?_
  rintro e w1 ⟨hbe1, ⟨rfl, rfl⟩ | ⟨L, m, F, rfl, rfl, hL, hFr⟩⟩
  · obtain ⟨d0, d1, p0, p1, fp0, fp1, HK⟩ := HB.out w1 hbe1
    clear c0 c1' o0 o1 fo0 fo1 hfo HF
    go_wp2
    refine bodyPost_ret (Tr.results_cellt rfl _ _ (w.heap.size + 1) 30 _ (0, 0) _ rfl (Tr.put2A HK.out.1) Try.underlying30 rfl sizeO) rfl ?_
    exact ⟨HE.out _ _ _ hbe1, .inl ⟨rfl, rfl⟩⟩
  obtain ⟨d0, d1, p0, p1, fp0, fp1, -⟩ := HB.out w1 hbe1
  have hfl := HF.out w1 L m F hbe1 rfl hL hFr
  clear hL hFr hbe1 HF hfo c0 c1' o0 o1 fo0 fo1
  go_wp2_with fail
  refine hfl.mono ?_
  rintro e w2 ⟨hbe2, ⟨hg, rfl⟩ | ⟨q, L', R, hg, rfl, hin⟩⟩
  · obtain ⟨-, -, r0, r1, fr0, fr1, HK⟩ := HB.out w2 hbe2
    clear d0 d1 p0 p1 fp0 fp1 hfl
    go_wp2
    refine bodyPost_ret (Tr.results_cellt rfl _ _ (w.heap.size + 1) 30 _ (0, 0) _ rfl (Tr.put2A HK.out.1) Try.underlying30 rfl sizeO) rfl ?_
    exact ⟨HE.out _ _ _ hbe2, .inl ⟨by rw [Option.bind_some, hg]; rfl, rfl⟩⟩
  obtain ⟨e0, e1, r0, r1, fr0, fr1, -⟩ := HB.out w2 hbe2
  clear hbe2 hfl d0 d1 p0 p1 fp0 fp1
  go_wp2_with fail
  refine hin.mono ?_
  rintro e w3 ⟨hbe3, a, l, c, rfl, HA⟩
  obtain ⟨-, -, s0, s1, fs0, fs1, HK⟩ := HB.out w3 hbe3
  clear e0 e1 r0 r1 fr0 fr1 hin
  cases hc3 : cls L' sl with
  | none =>
    rw [show (none : Option (List (List UInt8))).isSome = false from rfl]
    go_wp2
    refine bodyPost_ret (Tr.results_cellt rfl _ _ (w.heap.size + 1) 30 _ (0, 0) _ rfl (Tr.put2A HK.out.1) Try.underlying30 rfl sizeO) rfl ?_
    exact ⟨HE.out _ _ _ hbe3, .inl ⟨by rw [Option.bind_some, hg, Option.bind_some, hc3]; rfl, rfl⟩⟩
  | some cs' =>
    rw [show (some cs').isSome = true from rfl]
    go_wp2
    refine bodyPost_ret (Tr.results_cellt rfl _ _ (w.heap.size + 1) 30 _ (0, 0) _ rfl (Tr.put2A HK.out.1) Try.underlying30 rfl sizeO) rfl ?_
    exact ⟨HE.out _ _ _ hbe3, .inr ⟨_, _, q, a, l, c, R, by rw [Option.bind_some, hg, Option.bind_some, hc3]; rfl, rfl, HA.out cs' hc3 _ (HO.out _ _ _)⟩⟩
end Go.Proofs.Ytpjigcccjiidpaa.Ex
