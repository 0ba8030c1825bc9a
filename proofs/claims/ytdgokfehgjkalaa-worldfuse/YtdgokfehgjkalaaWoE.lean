import Derived.Test.YtdgokfehgjkalaaWoG
import Derived.Deep.DeepCutAuto
namespace Go.Proofs.Ytdgokfehgjkalaa.Wd
open Go.RowKit Go.Lib Go.Deep

def Rel (k L : Int) (S : Wst) : Prop := (k < 0 ∧ L = k ∧ S.off = false ∧ S.left = 0) ∨ (0 ≤ k ∧ L = (S.left : Int) ∧ S.off = decide (S.left = 0))
theorem rel_arm (k : Int) : Rel k k (armS Sw k) := by
  unfold Rel armS
  by_cases h : k < 0
  · refine .inl ⟨h, rfl, decide_eq_false (by omega), ?_⟩
    show k.toNat = 0
    omega
  · refine .inr ⟨by omega, ?_, ?_⟩
    · show k = (k.toNat : Int)
      omega
    · show decide (k = 0) = decide (k.toNat = 0)
      by_cases h0 : k = 0
      · subst h0; rfl
      · rw [decide_eq_false h0, decide_eq_false (by omega)]
theorem rel_step {k L : Int} {S : Wst} {o : Ops} (h : Rel k L S) (h0 : S.off = false) (h1 : 4 ≤ o.kind) (h2 : o.kind ≤ 12) : Rel k (if cntB S o = true ∧ 0 < L then L - 1 else L) (doS S o) := by
  obtain ⟨e1, e2, _⟩ := doS_on h0 h1 h2
  unfold Rel at *
  rw [e1, e2]
  rcases h with ⟨a, b, _, d⟩ | ⟨a, b, c⟩
  · refine .inl ⟨a, by rw [if_neg (by omega)]; exact b, by rw [d]; simp, by rw [d]; split <;> rfl⟩
  · have hl : S.left ≠ 0 := by
      rw [h0] at c
      exact of_decide_eq_false c.symm
    refine .inr ⟨a, ?_, ?_⟩
    · cases cntB S o
      · simp [b]
      · rw [if_pos ⟨rfl, by omega⟩, if_pos rfl]
        omega
    · cases cntB S o
      · rw [if_neg (by decide), decide_eq_false hl]; rfl
      · rw [if_pos rfl]
        by_cases h : S.left = 1
        · rw [decide_eq_true h, decide_eq_true (by omega)]; rfl
        · rw [decide_eq_false h, decide_eq_false (by omega)]; rfl

theorem rel_end {k L : Int} {S : Wst} {o : Ops} {c ob : Bool} (h : Rel k L S) (hob : S.off = ob) (hc : ob = false → c = cntB S o) (h1 : 4 ≤ o.kind) (h2 : o.kind ≤ 12) : Rel k (if (c && !ob && decide (0 < L)) = true then L - 1 else L) (doS S o) := by
  cases ob with
  | true =>
    rw [doS_off hob h1 h2, if_neg (by simp)]
    exact h
  | false =>
    have := rel_step h hob h1 h2
    rw [hc rfl]
    by_cases hL : 0 < L
    · cases hcb : cntB S o
      · rw [hcb] at this
        rw [if_neg (by simp)]
        rw [if_neg (by simp)] at this
        exact this
      · rw [hcb] at this
        rw [if_pos (by simp [hL])]
        rw [if_pos ⟨rfl, hL⟩] at this
        exact this
    · rw [if_neg (by simp [hL])]
      rw [if_neg (by simp [hL])] at this
      exact this
set_option maxRecDepth 20000 in
set_option maxHeartbeats 8000000 in
theorem fuse_walk (w : World) (k : Int) (v : Value) (n : Nat) (ops : List Ops) (hk : k ≤ 9223372036854775807) (hS : SeeO w v n ops) (hn : n ≤ 1500000000000) : Calls Try.prog 3 #[.int .i64 k, v] w fun e w' => e = .returned (.bool true) ∧ Below w.heap.size w w' := by
  have hw := works_any w
  have nu := fun n W => num_any n W
  obtain ⟨sa, sc, rfl, -⟩ := hS.ex
  have HSC : Hid (SeeO w (.slice sa n sc) n ops) := hS
  clear hS
  go_enter Try.func3, Try.ntmps3
  go_wp2_with fail
  refine hw.mono ?_
  rintro e w1 ⟨pb, q, F, rfl, h1, h2, h3, h4, hb⟩
  have ha : Calls Try.prog 8 #[.pointer (some ⟨pb, 0, none⟩), .int .i64 k] w1 fun e w' => e = .returned (.int .i64 0) ∧ Turn F w1 w' q (armS Sw k) := armW_any w1 pb q F Sw k hk h1 h2
  have HL : Hid (Lv w w1 pb q F Sw) := ⟨h1, h2, h4, h3, hb⟩
  clear h1 h2 h3 h4 hb hw
  go_wp2_with fail
  refine ha.mono ?_
  rintro e w2 ⟨rfl, hT⟩
  have HI : Hid (∃ F, Lv w w2 pb q F (armS Sw k)) := HL.out.turn hT
  clear hT ha HL
  go_wp2_with (go_at_call 9; refine (nu _ _).mono ?_; rintro e w' ⟨rfl, rfl⟩)
  go_loopg [7, 8] n (fun gk lv iv wr => ∃ (j : Nat) (L : Int) (S : Wst) (F : List Nat), j + gk = n ∧ iv = .int .i64 (j : Int) ∧ lv = .int .i64 L ∧ Hid (Lv w wr pb q F S ∧ Bnd S (4 + j) (1 + j) ∧ Rel k L S))
  case atStart =>
    obtain ⟨F, hF⟩ := HI.out
    exact ⟨0, k, _, F, by omega, rfl, rfl, hF, ⟨sw_b.2.2.2.2.tr, sw_b.2.2.2.2.ah, sw_b.2.2.2.2.pu, sw_b.2.2.2.2.nn⟩, rel_arm k⟩
  case round =>
    obtain ⟨j, L, S, F, hj, rfl, rfl, HV⟩ := hrel
    have HJ : Hid (j + gk = n) := hj
    have hjn : j ≤ n := by omega
    clear hj HI
    by_cases hlt : j < n
    · have hltI : (j : Int) < (n : Int) := by omega
      obtain ⟨o, ho⟩ : ∃ o, ops[j]? = some o := ⟨_, List.getElem?_eq_getElem (by have := HSC.out.len; omega)⟩
      have hon := HSC.out.le j o ho
      obtain ⟨g, f, rfl, c0, c1, c2, c3, c4, c5, c6, c7, c8, c9, c10, c11, c12, c13, c14⟩ := (HSC.out.below HV.out.1.be).at_ ho
      clear ho
      by_cases hkd : 4 ≤ o.kind ∧ o.kind ≤ 12
      · obtain ⟨hk4, hk12⟩ := hkd
        obtain ⟨kd, at_, nm, bl, eb, ek, ep, ef, en, el, on, ba, bn, bc, rc, rp, rs⟩ := o
        dsimp only at *
        obtain ⟨W0, hW0⟩ : ∃ W, wr.alloc (.cells #[.int .i64 kd, .int .i64 at_, .string nm, .string bl, .int .i64 eb, .int .i64 ek, .int .i64 ep, .int .i64 ef, .string en, .string el, .int .i64 on, .slice ba bn bc, .string rc, .string rp, .bool rs] 34) = W := ⟨_, rfl⟩
        have hb0 : Below wr.heap.size wr W0 := by rw [← hW0]; exact (Below.refl _ _).alloc (Nat.le_refl _) _
        have hcl : W0.heap[wr.heap.size]? = some (.cells #[.int .i64 kd, .int .i64 at_, .string nm, .string bl, .int .i64 eb, .int .i64 ek, .int .i64 ep, .int .i64 ef, .string en, .string el, .int .i64 on, .slice ba bn bc, .string rc, .string rp, .bool rs] 34 (0, 0)) := by rw [← hW0]; exact heap_new _ _
        have hV0 : Lv w W0 pb q F S := HV.out.1.below hb0
        have hBd : Bnd S (4 + j) (1 + j) := HV.out.2.1
        have hRel : Rel k L S := HV.out.2.2
        obtain ⟨oo, hoo⟩ : ∃ oo : Ops, oo = ⟨kd, at_, nm, bl, eb, ek, ep, ef, en, el, on, ba, bn, bc, rc, rp, rs⟩ := ⟨_, rfl⟩
        have HDo : Hid (∀ W, Below W0.heap.size W0 W → Calls Try.prog 14 #[.pointer (some ⟨pb, 0, none⟩), .agg #[.int .i64 kd, .int .i64 at_, .string nm, .string bl, .int .i64 eb, .int .i64 ek, .int .i64 ep, .int .i64 ef, .string en, .string el, .int .i64 on, .slice ba bn bc, .string rc, .string rp, .bool rs]] W fun e w' => e = .returned (.tuple #[]) ∧ Kt W w' ∧ Turn F W0 w' q (doS S oo)) := fun W hb => by
          have hd := does_any W pb q F S oo (4 + j) (1 + j) (by rw [hoo]; exact hon) (hV0.below hb).top (hV0.below hb).st hBd (by omega) (by omega)
          have hov : opV oo = .agg #[.int .i64 kd, .int .i64 at_, .string nm, .string bl, .int .i64 eb, .int .i64 ek, .int .i64 ep, .int .i64 ef, .string en, .string el, .int .i64 on, .slice ba bn bc, .string rc, .string rp, .bool rs] := by rw [hoo]; rfl
          rw [hov] at hd
          refine hd.mono ?_
          rintro e w' ⟨rfl, hT⟩
          exact ⟨rfl, Kt.of (hV0.below hb).st hT, Turn.ahead hb hT⟩
        have HPb : Hid (∀ W, Kt W0 W → W.heap[wr.heap.size]? = some (.cells #[.int .i64 kd, .int .i64 at_, .string nm, .string bl, .int .i64 eb, .int .i64 ek, .int .i64 ep, .int .i64 ef, .string en, .string el, .int .i64 on, .slice ba bn bc, .string rc, .string rp, .bool rs] 34 (0, 0))) := fun W hkt => (hkt.2 _ _ _ _ hcl (by decide)).trans hcl
        have HEnd : Hid (∀ W S', Turn F W0 W q S' → ∃ F', Lv w W pb q F' S') := fun W S' hT => hV0.turn hT
        have hBd' : Bnd (doS S oo) (4 + (j + 1)) (1 + (j + 1)) := (doS_bnd hBd oo).mono (by omega) (by omega)
        have HBd' : Hid (Bnd (doS S oo) (4 + (j + 1)) (1 + (j + 1))) := hBd'
        have HKo : Hid (4 ≤ oo.kind ∧ oo.kind ≤ 12 ∧ oo.kind = kd ∧ oo.name = nm) := by rw [hoo]; exact ⟨hk4, hk12, rfl, rfl⟩
        have p0 : W0.cell? ⟨wr.heap.size, 0, none⟩ = some (.int .i64 kd) := (cell_of_heap hcl).trans rfl
        have hW0s : wr.heap.size < W0.heap.size := heap_lt hcl
        have HRel : Hid (Rel k L S) := hRel
        have hLb : L ≤ 9223372036854775807 := by
          rcases hRel with ⟨_, b, _⟩ | ⟨_, b, _⟩
          · omega
          · obtain ⟨m, pl, la, tv, av, uv, D, al, nv, hF, hI⟩ := hV0.st
            have := hI.hle
            omega
        rcases looks hV0 (by have := hBd.nn; omega) with ⟨LK, hndl⟩ | hno
        rotate_left
        · exfalso
          apply hno
          have hb1 := hBd.nn
          exact Nat.le_trans (keys_le hV0.st) (by omega)
        obtain ⟨nd, hnd⟩ : ∃ nd, (keysL S.f).length = nd := ⟨_, rfl⟩
        obtain ⟨bs, hbs⟩ : ∃ bs, dumpL S.f (keysL S.f) = bs := ⟨_, rfl⟩
        rw [hnd, hbs] at LK
        have HNN : Hid ((keysL S.f).length = nd ∧ dumpL S.f (keysL S.f) = bs ∧ S.nn ≤ 4398046511000 ∧ nd ≤ 4398046511000) := ⟨hnd, hbs, by have := hBd.nn; omega, by rw [← hnd]; exact hndl⟩
        have LK : Hid (Looks W0 pb S nd bs) := LK
        have hdn := LK.out.dn _ (Below.refl _ _)
        have hca := LK.out.ca _ (Below.refl _ _)
        have hke := LK.out.ke _ (Below.refl _ _)
        have HDu := LK.out.du
        have HDu : Hid _ := HDu
        obtain ⟨cu, hcu⟩ : ∃ cu, S.cur = cu := ⟨_, rfl⟩
        obtain ⟨pe, hpe⟩ : ∃ pe, S.pen = pe := ⟨_, rfl⟩
        obtain ⟨sp, hsp⟩ : ∃ sp, S.stp = sp := ⟨_, rfl⟩
        obtain ⟨tl, htl⟩ : ∃ tl, S.tr.length = tl := ⟨_, rfl⟩
        rw [hcu, hpe, hsp] at hke
        rw [htl] at hca
        have HS : Hid (S.cur = cu ∧ S.pen = pe ∧ S.stp = sp ∧ S.tr.length = tl) := ⟨hcu, hpe, hsp, htl⟩
        clear hcu hpe hsp htl hnd hbs hndl hBd' hb0 hcl hV0 hBd HV hoo hon
        obtain ⟨ob, hob⟩ : ∃ ob, S.off = ob := ⟨_, rfl⟩
        have HOB : Hid (S.off = ob) := hob
        rw [hob] at hdn
        clear hob
        have hr3 : (ob = true ∧ 0 ≤ k ∧ L = 0) ∨ (ob = false ∧ k < 0) ∨ (ob = false ∧ 0 ≤ k ∧ L ≠ 0) := by
          have hob := HOB.out
          rcases hRel with ⟨a, b, c, d⟩ | ⟨a, b, c⟩
          · exact .inr (.inl ⟨by rw [← hob]; exact c, a⟩)
          · by_cases h : S.left = 0
            · exact .inl ⟨by rw [← hob, c, decide_eq_true h], a, by omega⟩
            · exact .inr (.inr ⟨by rw [← hob, c, decide_eq_false h], a, by omega⟩)
        have HR3 : Hid ((ob = true ∧ 0 ≤ k ∧ L = 0) ∨ (ob = false ∧ k < 0) ∨ (ob = false ∧ 0 ≤ k ∧ L ≠ 0)) := hr3
        clear hRel hr3
        go_upto_region 13 with fail
        go_cut [55] (fun s wx => s = .bool false ∧ W0 = wx)
        case first =>
          as_aux_lemma =>
            rcases HR3.out with ⟨rfl, h1, rfl⟩ | ⟨rfl, h1⟩ | ⟨rfl, h1, h2⟩
            · go_wp2_with (go_at_call 10; refine hdn.mono ?_; rintro e w6 ⟨rfl, he6⟩; obtain rfl := he6.symm)
              go_meet
              exact ⟨rfl, rfl⟩
            · have h1' : ¬ (0 ≤ k) := by omega
              go_wp2_with (go_at_call 10; refine hdn.mono ?_; rintro e w6 ⟨rfl, he6⟩; obtain rfl := he6.symm)
              go_meet
              exact ⟨rfl, rfl⟩
            · have h2' : (L == 0) = false := by rw [beq_eq_false_iff_ne]; exact h2
              go_wp2_with (go_at_call 10; refine hdn.mono ?_; rintro e w6 ⟨rfl, he6⟩; obtain rfl := he6.symm)
              go_meet
              exact ⟨rfl, rfl⟩
        case rest =>
        obtain ⟨rfl, rfl⟩ := hcut
        clear c0 c1 c2 c3 c4 c5 c6 c7 c8 c9 c10 c11 c12 c13 c14 p0 hW0
        go_wp2_with fail
        refine hdn.mono ?_
        rintro e w6 ⟨rfl, he6⟩
        obtain rfl := he6.symm
        go_wp2_with fail
        refine hca.mono ?_
        rintro e w6 ⟨rfl, he6⟩
        obtain rfl := he6.symm
        go_wp2_with fail
        refine hke.mono ?_
        rintro e w3 ⟨rfl, hb3⟩
        obtain ⟨W3, hW3⟩ : ∃ W, w3.alloc (.cells #[.string cu, .string pe, .bool sp] 32) = W := ⟨_, rfl⟩
        have hbW3 : Below W0.heap.size W0 W3 := by rw [← hW3]; exact hb3.alloc hb3.size _
        have hr : W3.heap[w3.heap.size]? = some (.cells #[.string cu, .string pe, .bool sp] 32 (0, 0)) := by rw [← hW3]; exact heap_new _ _
        have HR : Hid (∀ W, Kt W3 W → W.heap[w3.heap.size]? = some (.cells #[.string cu, .string pe, .bool sp] 32 (0, 0))) := fun W hkt => (hkt.2 _ _ _ _ hr (by decide)).trans hr
        have hdu := HDu.out W3 hbW3
        clear hdn hca hke hb3 hbW3 hr
        go_wp2_with fail
        refine hdu.mono ?_
        rintro e w4 ⟨a4, c4, rfl, ho4, hb34, hb4⟩
        have hdo := HDo.out w4 hb4
        have hp4 := HPb.out w4 (Kt.below hb4)
        have q0 : w4.cell? ⟨wr.heap.size, 0, none⟩ = some (.int .i64 kd) := (cell_of_heap hp4).trans rfl
        have q1 : w4.cell? ⟨wr.heap.size, 1, none⟩ = some (.int .i64 at_) := (cell_of_heap hp4).trans rfl
        have q2 : w4.cell? ⟨wr.heap.size, 2, none⟩ = some (.string nm) := (cell_of_heap hp4).trans rfl
        have q3 : w4.cell? ⟨wr.heap.size, 3, none⟩ = some (.string bl) := (cell_of_heap hp4).trans rfl
        have q4 : w4.cell? ⟨wr.heap.size, 4, none⟩ = some (.int .i64 eb) := (cell_of_heap hp4).trans rfl
        have q5 : w4.cell? ⟨wr.heap.size, 5, none⟩ = some (.int .i64 ek) := (cell_of_heap hp4).trans rfl
        have q6 : w4.cell? ⟨wr.heap.size, 6, none⟩ = some (.int .i64 ep) := (cell_of_heap hp4).trans rfl
        have q7 : w4.cell? ⟨wr.heap.size, 7, none⟩ = some (.int .i64 ef) := (cell_of_heap hp4).trans rfl
        have q8 : w4.cell? ⟨wr.heap.size, 8, none⟩ = some (.string en) := (cell_of_heap hp4).trans rfl
        have q9 : w4.cell? ⟨wr.heap.size, 9, none⟩ = some (.string el) := (cell_of_heap hp4).trans rfl
        have q10 : w4.cell? ⟨wr.heap.size, 10, none⟩ = some (.int .i64 on) := (cell_of_heap hp4).trans rfl
        have q11 : w4.cell? ⟨wr.heap.size, 11, none⟩ = some (.slice ba bn bc) := (cell_of_heap hp4).trans rfl
        have q12 : w4.cell? ⟨wr.heap.size, 12, none⟩ = some (.string rc) := (cell_of_heap hp4).trans rfl
        have q13 : w4.cell? ⟨wr.heap.size, 13, none⟩ = some (.string rp) := (cell_of_heap hp4).trans rfl
        have q14 : w4.cell? ⟨wr.heap.size, 14, none⟩ = some (.bool rs) := (cell_of_heap hp4).trans rfl
        have HK4 : Hid (Kt W0 w4 ∧ Kt W3 w4 ∧ w4.ownsRow 0 56 2 (.slice a4 nd c4) nd (bCells bs)) := ⟨Kt.below hb4, Kt.below hb34, own_base ho4 (Nat.zero_le _)⟩
        clear ho4 hb34 hb4 hp4 hdu
        go_wp2_with fail
        refine hdo.mono ?_
        rintro e w5 ⟨rfl, hkt, hT5⟩
        have hp5 := HPb.out w5 (HK4.out.1.trans hkt)
        have t0 : w5.cell? ⟨wr.heap.size, 0, none⟩ = some (.int .i64 kd) := (cell_of_heap hp5).trans rfl
        have t2 : w5.cell? ⟨wr.heap.size, 2, none⟩ = some (.string nm) := (cell_of_heap hp5).trans rfl
        have hr5 := HR.out w5 (HK4.out.2.1.trans hkt)
        obtain ⟨F5, hL5⟩ := HEnd.out w5 _ hT5
        have HF5 : Hid (Lv w w5 pb q F5 (doS S oo)) := hL5
        have HO5 : Hid (w5.ownsRow 0 56 2 (.slice a4 nd c4) nd (bCells bs)) := hkt.owns HK4.out.2.2 (by decide)
        have HRC : Hid (∀ W, Below w5.heap.size w5 W → W.cell? ⟨w3.heap.size, 0, none⟩ = some (.string cu) ∧ W.cell? ⟨w3.heap.size, 1, none⟩ = some (.string pe) ∧ W.cell? ⟨w3.heap.size, 2, none⟩ = some (.bool sp)) := fun W hb => by
          have h := (hb.block _ (heap_lt hr5)).trans hr5
          exact ⟨(cell_of_heap h).trans rfl, (cell_of_heap h).trans rfl, (cell_of_heap h).trans rfl⟩
        have hc5 := calls_any w5 pb q F5 (doS S oo) hL5.top hL5.st
        obtain ⟨tl5, htl5⟩ : ∃ tl5, (doS S oo).tr.length = tl5 := ⟨_, rfl⟩
        rw [htl5] at hc5
        have HTL : Hid ((doS S oo).tr.length = tl5) := htl5
        clear hkt hT5 hp5 hr5 hL5 hdo htl5 q0 q1 q2 q3 q4 q5 q6 q7 q8 q9 q10 q11 q12 q13 q14
        have hkc : kd = 4 ∨ kd = 5 ∨ kd = 6 ∨ kd = 7 ∨ kd = 8 ∨ kd = 9 ∨ kd = 10 ∨ kd = 11 ∨ kd = 12 := by omega
        have HKC : Hid (kd = 4 ∨ kd = 5 ∨ kd = 6 ∨ kd = 7 ∨ kd = 8 ∨ kd = 9 ∨ kd = 10 ∨ kd = 11 ∨ kd = 12) := hkc
        clear hkc
        obtain ⟨cA, hcA⟩ : ∃ c, decide (kd = 7 ∨ kd = 8 ∨ kd = 10 ∨ kd = 11 ∨ kd = 12) = c := ⟨_, rfl⟩
        have HCA : Hid (decide (kd = 7 ∨ kd = 8 ∨ kd = 10 ∨ kd = 11 ∨ kd = 12) = cA) := hcA
        obtain ⟨cQ, hcQ⟩ : ∃ c, decide (kd = 4 ∨ kd = 5 ∨ kd = 6) = c := ⟨_, rfl⟩
        have HCQ : Hid (decide (kd = 4 ∨ kd = 5 ∨ kd = 6) = cQ) := hcQ
        clear hcA hcQ
        go_upto_region 20 with fail
        go_cut [14] (fun s wx => s = .bool cA ∧ w5 = wx)
        case first =>
          as_aux_lemma =>
            rcases HKC.out with rfl | rfl | rfl | rfl | rfl | rfl | rfl | rfl | rfl
            all_goals
              go_wp2_with fail
              go_meet
              exact ⟨by rw [← HCA.out]; rfl, rfl⟩
        case rest =>
        obtain ⟨rfl, rfl⟩ := hcut
        go_upto_region 21 with fail
        go_cut [102] (fun s wx => s = .bool cQ ∧ w5 = wx)
        case first =>
          as_aux_lemma =>
            rcases HKC.out with rfl | rfl | rfl | rfl | rfl | rfl | rfl | rfl | rfl
            all_goals
              go_wp2_with fail
              go_meet
              exact ⟨by rw [← HCQ.out]; rfl, rfl⟩
        case rest =>
        obtain ⟨rfl, rfl⟩ := hcut
        have HFin : Hid (∀ (cC : Bool) wx, (ob = false → cC = cntB S oo) → Below w5.heap.size w5 wx → Lv w wx pb q F5 (doS S oo) ∧ Bnd (doS S oo) (4 + (j + 1)) (1 + (j + 1)) ∧ Rel k (if (cC && !ob && decide (0 < L)) = true then L - 1 else L) (doS S oo)) := fun cC wx hc hb => ⟨HF5.out.below hb, HBd'.out, rel_end HRel.out HOB.out hc HKo.out.1 HKo.out.2.1⟩
        have HOff : Hid (ob = true → Looks w5 pb S nd bs ∧ tl5 = tl) := fun h => by
          have hd : doS S oo = S := doS_off (by rw [HOB.out]; exact h) HKo.out.1 HKo.out.2.1
          have hL5 := HF5.out
          have htl := HTL.out
          rw [hd] at hL5 htl
          refine ⟨?_, by rw [← htl, HS.out.2.2.2]⟩
          rcases looks hL5 HNN.out.2.2.1 with ⟨LK5, _⟩ | hno
          · rw [HNN.out.1, HNN.out.2.1] at LK5
            exact LK5
          · exact absurd (by rw [HNN.out.1]; exact HNN.out.2.2.2) hno
        have HCls : Hid ((cQ = true ∧ kd ≠ 9 ∧ (ob = false → decide (tl < tl5) = cntB S oo)) ∨ (cQ = false ∧ kd = 9 ∧ (ob = false → decide (nm.size = 16) = cntB S oo)) ∨ (cQ = false ∧ kd ≠ 9 ∧ cA = true ∧ (ob = false → true = cntB S oo))) := by
          have hQ := HCQ.out
          have hA := HCA.out
          have hon : ob = false → _ := fun h => doS_on (S := S) (o := oo) (by rw [HOB.out]; exact h) HKo.out.1 HKo.out.2.1
          have hkn := HKo.out.2.2
          by_cases h9 : kd = 9
          · refine .inr (.inl ⟨by rw [← hQ]; exact decide_eq_false (by omega), h9, fun h => ?_⟩)
            unfold cntB
            rw [hkn.1, h9, hkn.2]
            rfl
          · by_cases h6 : kd ≤ 6
            · refine .inl ⟨by rw [← hQ]; exact decide_eq_true (by omega), h9, fun h => ?_⟩
              have := (hon h).2.2 (by rw [hkn.1]; exact h6)
              rw [HTL.out, HS.out.2.2.2] at this
              rw [this]
              cases cntB S oo
              · rw [decide_eq_false]; simp
              · rw [decide_eq_true]; simp
            · refine .inr (.inr ⟨by rw [← hQ]; exact decide_eq_false (by omega), h9, by rw [← hA]; exact decide_eq_true (by omega), fun h => ?_⟩)
              unfold cntB
              rw [hkn.1, if_neg (by omega), if_neg (by omega), if_neg (by omega), if_neg h9]
        clear HCQ HCA HKC
        have fin : ∀ (cC : Bool), (ob = false → cC = cntB S oo) → True := fun _ _ => trivial
        clear fin
        rcases HCls.out with ⟨rfl, h9, hcc⟩ | ⟨rfl, h9, hcc⟩ | ⟨rfl, h9, rfl, hcc⟩
        · as_aux_lemma =>
            have h9' : (kd == 9) = false := by rw [beq_eq_false_iff_ne]; exact h9
            obtain ⟨cC, hcC⟩ : ∃ c, decide (tl < tl5) = c := ⟨_, rfl⟩
            rw [hcC] at hcc
            have HC : Hid (ob = false → cC = cntB S oo) := hcc
            clear hcc HCls
            go_upto_region 25 with (go_at_call 11; refine hc5.mono ?_; rintro e w6 ⟨rfl, he6⟩; obtain rfl := he6.symm)
            clear hcC
            go_cut [133] (fun s wx => s = .bool false ∧ Hid (Below w5.heap.size w5 wx))
            case first =>
              cases ob with
              | true =>
                obtain ⟨LK5, e5⟩ := HOff.out rfl
                have hca5 := LK5.ca
                rw [HS.out.2.2.2] at hca5
                have HCA5 : Hid (∀ W, Below w5.heap.size w5 W → Calls Try.prog 11 #[.pointer (some ⟨pb, 0, none⟩)] W fun e w' => e = .returned (.int .i64 (tl : Int)) ∧ w' = W) := hca5
                have hke5 := LK5.ke
                rw [HS.out.1, HS.out.2.1, HS.out.2.2.1] at hke5
                have HKE5 : Hid (∀ W, Below w5.heap.size w5 W → Calls Try.prog 12 #[.pointer (some ⟨pb, 0, none⟩)] W fun e w' => e = .returned (.agg #[.string cu, .string pe, .bool sp]) ∧ Below w5.heap.size w5 w') := hke5
                have HLK : Hid (Looks w5 pb S nd bs) := LK5
                clear LK5 e5 hca5 hke5 hc5
                go_region_held_law (fun W => W.cell? ⟨w3.heap.size, 0, none⟩ = some (.string cu) ∧ W.cell? ⟨w3.heap.size, 1, none⟩ = some (.string pe) ∧ W.cell? ⟨w3.heap.size, 2, none⟩ = some (.bool sp)) (first | exact HRC.out _ (bdN _ _) | exact HRC.out _ hb6 | exact HRC.out _ hb7 | exact HRC.out _ hb8 | go_keep) (first | (go_at_call 11; refine (HCA5.out _ (bdN _ _)).mono ?_; rintro e w6 ⟨rfl, he6⟩; subst he6) | (go_at_call 12; refine (HKE5.out _ (bdN _ _)).mono ?_; rintro e w6 ⟨rfl, hb6⟩) | (go_at_call 13; refine (HLK.out.du _ hb6).mono ?_; rintro e w7 ⟨a7, c7, rfl, ho7, hb67, hb7⟩) | (go_at_call 15; refine (HLK.out.sb _ _ _ _ _ (own_base ho7 (Nat.zero_le _)) ((Kt.below hb7).owns HO5.out (by decide))).mono ?_; rintro e w8 ⟨rfl, hb78⟩; have hb8 := hb7.trans (hb78.mono hb7.size)))
                all_goals
                  go_wp2_with fail
                  go_meet
                  exact ⟨rfl, hb8⟩
              | false =>
                go_quiet (fail)
                go_wp2_with fail
                go_meet
                exact ⟨rfl, bdN _ _⟩
            case rest =>
            obtain ⟨rfl, HW⟩ := hcut
            go_upto_region 27 with fail
            go_cut [142] (fun s wx => s = .bool (cC && !ob && decide (0 < L)) ∧ wc = wx)
            case first =>
              cases cC <;> cases ob <;> by_cases hL : 0 < L
              all_goals
                go_wp2_with fail
                go_meet
                exact ⟨by simp [hL], rfl⟩
            case rest =>
            obtain ⟨rfl, hq⟩ := hcut
            have HZ := HFin.out cC _ HC.out HW.out
            cases hD : (cC && !ob && decide (0 < L)) with
            | true =>
              have hL : 0 < L := by
                cases cC <;> cases ob <;> simp at hD
                exact hD
              rw [hD, if_pos rfl] at HZ
              have HZ : Hid _ := HZ
              clear hD
              go_wp2
              go_roundg (gk - 1)
              case measure => have := HJ.out; omega
              case rel => exact ⟨j + 1, L - 1, _, F5, by have := HJ.out; omega, by go_num, by go_num, hq ▸ HZ.out⟩
            | false =>
              rw [hD, if_neg (by decide)] at HZ
              have HZ : Hid _ := HZ
              clear hD
              go_wp2
              go_roundg (gk - 1)
              case measure => have := HJ.out; omega
              case rel => exact ⟨j + 1, L, _, F5, by have := HJ.out; omega, by go_num, rfl, hq ▸ HZ.out⟩
        · as_aux_lemma =>
            subst h9
            obtain ⟨cC, hcC⟩ : ∃ c, decide (nm.size = 16) = c := ⟨_, rfl⟩
            have hsz : ((nm.size : Int) == 16) = cC := by
              rw [← hcC]
              by_cases h : nm.size = 16
              · rw [decide_eq_true h, h]; rfl
              · rw [decide_eq_false h, beq_eq_false_iff_ne]; omega
            rw [hcC] at hcc
            have HC : Hid (ob = false → cC = cntB S oo) := hcc
            clear hcc HCls hcC
            go_upto_region 25 with fail
            clear hsz
            go_cut [133] (fun s wx => s = .bool false ∧ Hid (Below w5.heap.size w5 wx))
            case first =>
              cases ob with
              | true =>
                obtain ⟨LK5, e5⟩ := HOff.out rfl
                have hca5 := LK5.ca
                rw [HS.out.2.2.2] at hca5
                have HCA5 : Hid (∀ W, Below w5.heap.size w5 W → Calls Try.prog 11 #[.pointer (some ⟨pb, 0, none⟩)] W fun e w' => e = .returned (.int .i64 (tl : Int)) ∧ w' = W) := hca5
                have hke5 := LK5.ke
                rw [HS.out.1, HS.out.2.1, HS.out.2.2.1] at hke5
                have HKE5 : Hid (∀ W, Below w5.heap.size w5 W → Calls Try.prog 12 #[.pointer (some ⟨pb, 0, none⟩)] W fun e w' => e = .returned (.agg #[.string cu, .string pe, .bool sp]) ∧ Below w5.heap.size w5 w') := hke5
                have HLK : Hid (Looks w5 pb S nd bs) := LK5
                clear LK5 e5 hca5 hke5 hc5
                go_region_held_law (fun W => W.cell? ⟨w3.heap.size, 0, none⟩ = some (.string cu) ∧ W.cell? ⟨w3.heap.size, 1, none⟩ = some (.string pe) ∧ W.cell? ⟨w3.heap.size, 2, none⟩ = some (.bool sp)) (first | exact HRC.out _ (bdN _ _) | exact HRC.out _ hb6 | exact HRC.out _ hb7 | exact HRC.out _ hb8 | go_keep) (first | (go_at_call 11; refine (HCA5.out _ (bdN _ _)).mono ?_; rintro e w6 ⟨rfl, he6⟩; subst he6) | (go_at_call 12; refine (HKE5.out _ (bdN _ _)).mono ?_; rintro e w6 ⟨rfl, hb6⟩) | (go_at_call 13; refine (HLK.out.du _ hb6).mono ?_; rintro e w7 ⟨a7, c7, rfl, ho7, hb67, hb7⟩) | (go_at_call 15; refine (HLK.out.sb _ _ _ _ _ (own_base ho7 (Nat.zero_le _)) ((Kt.below hb7).owns HO5.out (by decide))).mono ?_; rintro e w8 ⟨rfl, hb78⟩; have hb8 := hb7.trans (hb78.mono hb7.size)))
                all_goals
                  go_wp2_with fail
                  go_meet
                  exact ⟨rfl, hb8⟩
              | false =>
                go_quiet (fail)
                go_wp2_with fail
                go_meet
                exact ⟨rfl, bdN _ _⟩
            case rest =>
            obtain ⟨rfl, HW⟩ := hcut
            go_upto_region 27 with fail
            go_cut [142] (fun s wx => s = .bool (cC && !ob && decide (0 < L)) ∧ wc = wx)
            case first =>
              cases cC <;> cases ob <;> by_cases hL : 0 < L
              all_goals
                go_wp2_with fail
                go_meet
                exact ⟨by simp [hL], rfl⟩
            case rest =>
            obtain ⟨rfl, hq⟩ := hcut
            have HZ := HFin.out cC _ HC.out HW.out
            cases hD : (cC && !ob && decide (0 < L)) with
            | true =>
              have hL : 0 < L := by
                cases cC <;> cases ob <;> simp at hD
                exact hD
              rw [hD, if_pos rfl] at HZ
              have HZ : Hid _ := HZ
              clear hD
              go_wp2
              go_roundg (gk - 1)
              case measure => have := HJ.out; omega
              case rel => exact ⟨j + 1, L - 1, _, F5, by have := HJ.out; omega, by go_num, by go_num, hq ▸ HZ.out⟩
            | false =>
              rw [hD, if_neg (by decide)] at HZ
              have HZ : Hid _ := HZ
              clear hD
              go_wp2
              go_roundg (gk - 1)
              case measure => have := HJ.out; omega
              case rel => exact ⟨j + 1, L, _, F5, by have := HJ.out; omega, by go_num, rfl, hq ▸ HZ.out⟩
        · as_aux_lemma =>
            have h9' : (kd == 9) = false := by rw [beq_eq_false_iff_ne]; exact h9
            have HC : Hid (ob = false → true = cntB S oo) := hcc
            clear hcc HCls
            go_upto_region 25 with fail
            go_cut [133] (fun s wx => s = .bool false ∧ Hid (Below w5.heap.size w5 wx))
            case first =>
              cases ob with
              | true =>
                obtain ⟨LK5, e5⟩ := HOff.out rfl
                have hca5 := LK5.ca
                rw [HS.out.2.2.2] at hca5
                have HCA5 : Hid (∀ W, Below w5.heap.size w5 W → Calls Try.prog 11 #[.pointer (some ⟨pb, 0, none⟩)] W fun e w' => e = .returned (.int .i64 (tl : Int)) ∧ w' = W) := hca5
                have hke5 := LK5.ke
                rw [HS.out.1, HS.out.2.1, HS.out.2.2.1] at hke5
                have HKE5 : Hid (∀ W, Below w5.heap.size w5 W → Calls Try.prog 12 #[.pointer (some ⟨pb, 0, none⟩)] W fun e w' => e = .returned (.agg #[.string cu, .string pe, .bool sp]) ∧ Below w5.heap.size w5 w') := hke5
                have HLK : Hid (Looks w5 pb S nd bs) := LK5
                clear LK5 e5 hca5 hke5 hc5
                go_region_held_law (fun W => W.cell? ⟨w3.heap.size, 0, none⟩ = some (.string cu) ∧ W.cell? ⟨w3.heap.size, 1, none⟩ = some (.string pe) ∧ W.cell? ⟨w3.heap.size, 2, none⟩ = some (.bool sp)) (first | exact HRC.out _ (bdN _ _) | exact HRC.out _ hb6 | exact HRC.out _ hb7 | exact HRC.out _ hb8 | go_keep) (first | (go_at_call 11; refine (HCA5.out _ (bdN _ _)).mono ?_; rintro e w6 ⟨rfl, he6⟩; subst he6) | (go_at_call 12; refine (HKE5.out _ (bdN _ _)).mono ?_; rintro e w6 ⟨rfl, hb6⟩) | (go_at_call 13; refine (HLK.out.du _ hb6).mono ?_; rintro e w7 ⟨a7, c7, rfl, ho7, hb67, hb7⟩) | (go_at_call 15; refine (HLK.out.sb _ _ _ _ _ (own_base ho7 (Nat.zero_le _)) ((Kt.below hb7).owns HO5.out (by decide))).mono ?_; rintro e w8 ⟨rfl, hb78⟩; have hb8 := hb7.trans (hb78.mono hb7.size)))
                all_goals
                  go_wp2_with fail
                  go_meet
                  exact ⟨rfl, hb8⟩
              | false =>
                go_quiet (fail)
                go_wp2_with fail
                go_meet
                exact ⟨rfl, bdN _ _⟩
            case rest =>
            obtain ⟨rfl, HW⟩ := hcut
            go_upto_region 27 with fail
            go_cut [142] (fun s wx => s = .bool (true && !ob && decide (0 < L)) ∧ wc = wx)
            case first =>
              cases ob <;> by_cases hL : 0 < L
              all_goals
                go_wp2_with fail
                go_meet
                exact ⟨by simp [hL], rfl⟩
            case rest =>
            obtain ⟨rfl, hq⟩ := hcut
            have HZ := HFin.out true _ HC.out HW.out
            cases hD : (true && !ob && decide (0 < L)) with
            | true =>
              have hL : 0 < L := by
                cases ob <;> simp at hD
                exact hD
              rw [hD, if_pos rfl] at HZ
              have HZ : Hid _ := HZ
              clear hD
              go_wp2
              go_roundg (gk - 1)
              case measure => have := HJ.out; omega
              case rel => exact ⟨j + 1, L - 1, _, F5, by have := HJ.out; omega, by go_num, by go_num, hq ▸ HZ.out⟩
            | false =>
              rw [hD, if_neg (by decide)] at HZ
              have HZ : Hid _ := HZ
              clear hD
              go_wp2
              go_roundg (gk - 1)
              case measure => have := HJ.out; omega
              case rel => exact ⟨j + 1, L, _, F5, by have := HJ.out; omega, by go_num, rfl, hq ▸ HZ.out⟩
      · have HE : Hid (∀ x, Lv w (wr.alloc x) pb q F S ∧ Bnd S (4 + (j + 1)) (1 + (j + 1)) ∧ Rel k L S) := fun x => ⟨HV.out.1.below ((Below.refl _ _).alloc (Nat.le_refl _) _), HV.out.2.1.mono (by omega) (by omega), HV.out.2.2⟩
        as_aux_lemma =>
          by_cases h4 : o.kind < 4
          · clear hkd
            go_wp2
            go_roundg (gk - 1)
            case measure => have := HJ.out; omega
            case rel => exact ⟨j + 1, L, S, F, by have := HJ.out; omega, by go_num, rfl, HE.out _⟩
          · have h12 : 12 < o.kind := by omega
            clear hkd
            go_wp2
            go_roundg (gk - 1)
            case measure => have := HJ.out; omega
            case rel => exact ⟨j + 1, L, S, F, by have := HJ.out; omega, by go_num, rfl, HE.out _⟩
    · obtain rfl : j = n := by omega
      have hltI : ¬ (j : Int) < (j : Int) := by omega
      have hV := HV.out.1
      have hBd := HV.out.2.1
      rcases looks hV (by have := hBd.nn; omega) with ⟨LK, hndl⟩ | hno
      rotate_left
      · exfalso
        apply hno
        have hb1 := hBd.nn
        exact Nat.le_trans (keys_le hV.st) (by omega)
      have hP : Hid (∀ W, Below wr.heap.size wr W → Calls Try.prog 16 #[.pointer (some ⟨pb, 0, none⟩)] W fun e w' => e = .returned (.tuple #[]) ∧ Kt W w' ∧ ∃ F', Lv w w' pb q F' (powS S)) := fun W hb => (power_any W pb q F S (hV.below hb).top (hV.below hb).st).mono (by
        rintro e w' ⟨rfl, hT⟩
        exact ⟨rfl, Kt.of (hV.below hb).st hT, (hV.below hb).turn hT⟩)
      have hLd : Hid (∀ W F', Lv w W pb q F' (powS S) → Calls Try.prog 17 #[.pointer (some ⟨pb, 0, none⟩)] W fun e w' => e = .returned (.tuple #[.agg #[.string S.cur, .string S.pen, .bool S.stp], .int .i64 0]) ∧ Kt W w' ∧ ∃ F'', Lv w w' pb q F'' (powS S)) := fun W F' hL => (load_any W pb q F' (powS S) hL.top hL.st).mono (by
        rintro e w' ⟨rfl, hT⟩
        refine ⟨rfl, Kt.of hL.st hT, ?_⟩
        have e : loadS (powS S) = powS S := rfl
        rw [e] at hT
        exact hL.turn hT)
      have hLK2 : Hid (∀ W F', Lv w W pb q F' (powS S) → Looks W pb (powS S) (keysL S.f).length (dumpL S.f (keysL S.f))) := fun W F' hL => by
        rcases looks hL (by show S.nn ≤ _; have := hBd.nn; omega) with ⟨LK, _⟩ | hno
        · exact LK
        · exact absurd hndl hno
      obtain ⟨nd, hnd⟩ : ∃ nd, (keysL S.f).length = nd := ⟨_, rfl⟩
      obtain ⟨bs, hbs⟩ : ∃ bs, dumpL S.f (keysL S.f) = bs := ⟨_, rfl⟩
      rw [hnd, hbs] at LK hLK2
      obtain ⟨cu, hcu⟩ : ∃ cu, S.cur = cu := ⟨_, rfl⟩
      obtain ⟨pe, hpe⟩ : ∃ pe, S.pen = pe := ⟨_, rfl⟩
      obtain ⟨sp, hsp⟩ : ∃ sp, S.stp = sp := ⟨_, rfl⟩
      have hke := LK.ke _ (Below.refl _ _)
      rw [hcu, hpe, hsp] at hke hLd
      have HKE2 : Hid (∀ W F', Lv w W pb q F' (powS S) → ∀ W', Below W.heap.size W W' → Calls Try.prog 12 #[.pointer (some ⟨pb, 0, none⟩)] W' fun e w' => e = .returned (.agg #[.string cu, .string pe, .bool sp]) ∧ Below W.heap.size W w') := fun W F' hL W' hb => by
        have := (hLK2.out W F' hL).ke W' hb
        rw [show (powS S).cur = S.cur from rfl, show (powS S).pen = S.pen from rfl, show (powS S).stp = S.stp from rfl, hcu, hpe, hsp] at this
        exact this
      have HDu : Hid (∀ W, Below wr.heap.size wr W → _) := LK.du
      have HNE : Hid (Below w.heap.size w wr) := hV.be
      clear hnd hbs hcu hpe hsp LK hV hBd HV hndl
      go_wp2_with fail
      refine hke.mono ?_
      rintro e w3 ⟨rfl, hb3⟩
      obtain ⟨W3, hW3⟩ : ∃ W, w3.alloc (.cells #[.string cu, .string pe, .bool sp] 32) = W := ⟨_, rfl⟩
      have hbW3 : Below wr.heap.size wr W3 := by rw [← hW3]; exact hb3.alloc hb3.size _
      have hr : W3.heap[w3.heap.size]? = some (.cells #[.string cu, .string pe, .bool sp] 32 (0, 0)) := by rw [← hW3]; exact heap_new _ _
      have HR : Hid (∀ W, Kt W3 W → W.heap[w3.heap.size]? = some (.cells #[.string cu, .string pe, .bool sp] 32 (0, 0))) := fun W hkt => (hkt.2 _ _ _ _ hr (by decide)).trans hr
      have hdu := HDu.out W3 hbW3
      clear hke hb3 hbW3 hr
      go_wp2_with fail
      refine hdu.mono ?_
      rintro e w4 ⟨a4, c4, rfl, ho4, hb34, hb4⟩
      have hpo := hP.out w4 hb4
      have HK4 : Hid (Kt W3 w4 ∧ w4.ownsRow 0 56 2 (.slice a4 nd c4) nd (bCells bs)) := ⟨Kt.below hb34, own_base ho4 (Nat.zero_le _)⟩
      clear ho4 hb34 hb4 hdu
      go_wp2_with fail
      refine hpo.mono ?_
      rintro e w5 ⟨rfl, hkt5, F5, hL5⟩
      have hld := hLd.out w5 F5 hL5
      have HK5 : Hid (Kt W3 w5 ∧ w5.ownsRow 0 56 2 (.slice a4 nd c4) nd (bCells bs)) := ⟨HK4.out.1.trans hkt5, hkt5.owns HK4.out.2 (by decide)⟩
      clear hkt5 hL5 hpo
      go_wp2_with fail
      refine hld.mono ?_
      rintro e w6 ⟨rfl, hkt6, F6, hL6⟩
      obtain ⟨W6, hW6⟩ : ∃ W, w6.alloc (.cells #[.string cu, .string pe, .bool sp] 32) = W := ⟨_, rfl⟩
      have hb6 : Below w6.heap.size w6 W6 := by rw [← hW6]; exact (Below.refl _ _).alloc (Nat.le_refl _) _
      have hL6' := hL6.below hb6
      have hkt6' : Kt W3 W6 := (HK5.out.1.trans hkt6).trans (Kt.below hb6)
      have HO6 : Hid (W6.ownsRow 0 56 2 (.slice a4 nd c4) nd (bCells bs)) := (hkt6.trans (Kt.below hb6)).owns HK5.out.2 (by decide)
      have hr6 := HR.out W6 hkt6'
      have HRC : Hid (∀ W, Below W6.heap.size W6 W → W.cell? ⟨w3.heap.size, 0, none⟩ = some (.string cu) ∧ W.cell? ⟨w3.heap.size, 1, none⟩ = some (.string pe) ∧ W.cell? ⟨w3.heap.size, 2, none⟩ = some (.bool sp)) := fun W hb => by
        have h := (hb.block _ (heap_lt hr6)).trans hr6
        exact ⟨(cell_of_heap h).trans rfl, (cell_of_heap h).trans rfl, (cell_of_heap h).trans rfl⟩
      have HLK : Hid (Looks W6 pb (powS S) nd bs) := hLK2.out W6 F6 hL6'
      have HKE : Hid (∀ W', Below W6.heap.size W6 W' → Calls Try.prog 12 #[.pointer (some ⟨pb, 0, none⟩)] W' fun e w' => e = .returned (.agg #[.string cu, .string pe, .bool sp]) ∧ Below W6.heap.size W6 w') := HKE2.out W6 F6 hL6'
      have HDN : Hid (∀ W', Below W6.heap.size W6 W' → Calls Try.prog 10 #[.pointer (some ⟨pb, 0, none⟩)] W' fun e w' => e = .returned (.bool false) ∧ w' = W') := (hLK2.out W6 F6 hL6').dn
      have HBE : Hid (Below w.heap.size w W6) := hL6'.be
      clear hL6 hL6' hkt6 hkt6' hr6 hb6 hld HK5 HK4
      go_wp2_with fail
      go_region_held_law (fun W => W.cell? ⟨w3.heap.size, 0, none⟩ = some (.string cu) ∧ W.cell? ⟨w3.heap.size, 1, none⟩ = some (.string pe) ∧ W.cell? ⟨w3.heap.size, 2, none⟩ = some (.bool sp)) (first | exact HRC.out _ (bdN _ _) | exact HRC.out _ hb7 | exact HRC.out _ hb8 | exact HRC.out _ hb9 | go_keep) (first | (go_at_call 9; refine (nu _ _).mono ?_; rintro e w7 ⟨rfl, he7⟩; subst he7) | (go_at_call 10; refine (HDN.out _ (bdN _ _)).mono ?_; rintro e w7 ⟨rfl, he7⟩; subst he7) | (go_at_call 12; refine (HKE.out _ (bdN _ _)).mono ?_; rintro e w7 ⟨rfl, hb7⟩) | (go_at_call 13; refine (HLK.out.du _ hb7).mono ?_; rintro e w8 ⟨a8, c8, rfl, ho8, hb78, hb8⟩) | (go_at_call 15; refine (HLK.out.sb _ _ _ _ _ (own_base ho8 (Nat.zero_le _)) ((Kt.below hb8).owns HO6.out (by decide))).mono ?_; rintro e w9 ⟨rfl, hb89⟩; have hb9 := hb8.trans (hb89.mono hb8.size)))
      all_goals
        have HB9 : Hid (Below w.heap.size w w9) := HBE.out.trans (hb9.mono HBE.out.size)
        go_wp2
        go_ret
        exact ⟨rfl, HB9.out⟩

end Go.Proofs.Ytdgokfehgjkalaa.Wd
