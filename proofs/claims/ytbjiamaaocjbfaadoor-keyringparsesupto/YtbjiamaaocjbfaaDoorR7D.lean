import Derived.Test.YtbjiamaaocjbfaaDoorR7M
import Derived.Test.YtbjiamaaocjbfaaDoorKrP
namespace Go.Proofs.YtbjiamaaocjbfaaDoor.Kr
open Go.RowKit Go.Lib Go.Deep

/-- what read has: its answer's block, the ring's, the lines' row -/
structure Rd (w W : World) (g : Nat) (L : List (List UInt8)) (x : ByteArray) (v : Value) : Prop where
  res : W.heap[w.heap.size]? = some (.cells #[.string { data := #[] }, .slice none 0 0] 24 (0, 0))
  rng : W.heap[w.heap.size + 1]? = some (.cells #[.string x, v] 24 (0, 0))
  row : ∀ i y, L[i]? = some y → W.cell? ⟨g, i, none⟩ = some (.string (str y))
  gl : g < W.heap.size
  gw : w.heap.size + 2 ≤ g
  bel : Below w.heap.size w W
section
variable {w W : World} {g : Nat} {L : List (List UInt8)} {x : ByteArray} {v : Value}
theorem Rd.below {W' : World} {B : Nat} (h : Rd w W g L x v) (hb : Below B W W') (hB : g < B) (_ : B ≤ W.heap.size) : Rd w W' g L x v := by
  have hg := h.gw
  refine ⟨(hb.block _ (by omega)).trans h.res, (hb.block _ (by omega)).trans h.rng, fun i y hy => (hb.cell (p := ⟨g, i, none⟩) hB).trans (h.row i y hy), Nat.lt_of_lt_of_le h.gl hb.size, h.gw, ?_⟩
  exact h.bel.trans (hb.mono (by omega))
theorem Rd.over {W' : World} (h : Rd w W g L x v) (hb : Below W.heap.size W W') : Rd w W' g L x v := h.below hb h.gl (Nat.le_refl _)
theorem Rd.alloc (h : Rd w W g L x v) (o : Obj) : Rd w (W.alloc o) g L x v := h.over ((Below.refl _ _).alloc (Nat.le_refl _) _)
theorem Rd.setCell (h : Rd w W g L x v) (p : Addr) (hp : W.heap.size ≤ p.block) (y : Value) : Rd w (W.setCell p y) g L x v := h.over ((Below.refl _ _).setCell hp y)
theorem Rd.putId (h : Rd w W g L x v) (y : ByteArray) : Rd w (W.setCell ⟨w.heap.size + 1, 0, none⟩ (.string y)) g L y v := by
  have hg := h.gw
  refine ⟨(heap_setCell_other W _ _ _ (by simp)).trans h.res, heap_setCell_same _ _ 0 _ _ (.string y) h.rng, fun i z hz => ?_, by simpa using h.gl, h.gw, h.bel.setCell (by simp) _⟩
  rw [World.cell?_of_block (heap_setCell_other W _ g _ (by simp; omega))]
  exact h.row i z hz
theorem Rd.putV (h : Rd w W g L x v) (y : Value) : Rd w (W.setCell ⟨w.heap.size + 1, 1, none⟩ y) g L x y := by
  have hg := h.gw
  refine ⟨(heap_setCell_other W _ _ _ (by simp)).trans h.res, heap_setCell_same _ _ 1 _ _ y h.rng, fun i z hz => ?_, by simpa using h.gl, h.gw, h.bel.setCell (by simp) _⟩
  rw [World.cell?_of_block (heap_setCell_other W _ g _ (by simp; omega))]
  exact h.row i z hz
theorem Rd.q0 (h : Rd w W g L x v) : W.cell? ⟨w.heap.size, 0, none⟩ = some (.string { data := #[] }) := (cell_of_heap h.res).trans rfl
theorem Rd.q1 (h : Rd w W g L x v) : W.cell? ⟨w.heap.size, 1, none⟩ = some (.slice none 0 0) := (cell_of_heap h.res).trans rfl
theorem Rd.r0 (h : Rd w W g L x v) : W.cell? ⟨w.heap.size + 1, 0, none⟩ = some (.string x) := (cell_of_heap h.rng).trans rfl
theorem Rd.r1 (h : Rd w W g L x v) : W.cell? ⟨w.heap.size + 1, 1, none⟩ = some v := (cell_of_heap h.rng).trans rfl
theorem Rd.fq (h : Rd w W g L x v) (i : Nat) : W.frozen? ⟨w.heap.size, i, none⟩ = false := frozen_of_heap h.res
theorem Rd.fr (h : Rd w W g L x v) (i : Nat) : W.frozen? ⟨w.heap.size + 1, i, none⟩ = false := frozen_of_heap h.rng
end
def ReadPost (t : List UInt8) (w : World) (e : Ending) (w' : World) : Prop :=
  ((∃ id ss sum v, Form t id ss sum ∧ e = .returned (.tuple #[.agg #[.string (str id), v], .string (str sum), .bool true]) ∧ OwnS w' w.heap.size v ss) ∨
    ((∀ id ss sum, ¬ Form t id ss sum) ∧ ∃ a b n c d, e = .returned (.tuple #[.agg #[.string a, .slice b n c], .string d, .bool false]))) ∧ Below w.heap.size w w'
/-- a text has no more lines than bytes -/
theorem lines_few (t : ByteArray) (hs : t.size ≤ 4194304) : (linesL t.data.toList).length ≤ 4194304 := by
  have hc := (cut_glue 10 t.data.toList).1
  have hl := congrArg List.length hc
  rw [List.length_append, ← size_eq] at hl
  have hg : ∀ ps : List (List UInt8), ps.length ≤ (glue 10 ps).length := by
    intro ps
    induction ps with
    | nil => simp
    | cons a ps ih => rw [glue_cons]; simp; omega
  have := hg (cutS 10 t.data.toList).1
  unfold linesL
  split
  · omega
  · simp

set_option maxRecDepth 20000 in
set_option maxHeartbeats 4000000 in
theorem rread_any (t : ByteArray) (hs : t.size ≤ 4194304) (w : World) :
    Calls Tryd.prog 49 #[.string t] w (ReadPost t.data.toList w) := by
  obtain ⟨i0, hi, hz0, hz1, hz2⟩ := info_S
  have hln := rlines_any t hs ((w.alloc (.cells #[.string { data := #[] }, .slice none 0 0] 24)).alloc (.cells #[.string { data := #[] }, .slice none 0 0] 24))
  have hb0 : Below w.heap.size w ((w.alloc (.cells #[.string { data := #[] }, .slice none 0 0] 24)).alloc (.cells #[.string { data := #[] }, .slice none 0 0] 24)) := ((Below.refl _ _).alloc (Nat.le_refl _) _).alloc (by simp) _
  have hq0 : ((w.alloc (.cells #[.string { data := #[] }, .slice none 0 0] 24)).alloc (.cells #[.string { data := #[] }, .slice none 0 0] 24)).heap[w.heap.size]? = some (.cells #[.string { data := #[] }, .slice none 0 0] 24 (0, 0)) := (Below.heap_alloc _ _ _ (by simp)).trans (heap_new _ _)
  have hr0 : ((w.alloc (.cells #[.string { data := #[] }, .slice none 0 0] 24)).alloc (.cells #[.string { data := #[] }, .slice none 0 0] 24)).heap[w.heap.size + 1]? = some (.cells #[.string { data := #[] }, .slice none 0 0] 24 (0, 0)) := by
    have h := heap_new (w.alloc (.cells #[.string { data := #[] }, .slice none 0 0] 24)) (.cells #[.string { data := #[] }, .slice none 0 0] 24)
    simpa using h
  have HFP : Hid (∀ id ss sum, Form t.data.toList id ss sum → (linesL t.data.toList).length = ss.length + 4 ∧ (linesL t.data.toList)[0]? = some kHead ∧ (linesL t.data.toList)[1]? = some (idLine id) ∧ (linesL t.data.toList)[2]? = some (slotsLine ss.length) ∧
    (∀ i s, ss[i]? = some s → (linesL t.data.toList)[3 + i]? = some (slotLine s)) ∧ (linesL t.data.toList)[ss.length + 3]? = some (sumLine sum) ∧ Fits ss) := fun id ss sum h => form_parts h
  have HFM : Hid (∀ id ss sum, (linesL t.data.toList).length = ss.length + 4 → (linesL t.data.toList)[0]? = some kHead → (linesL t.data.toList)[1]? = some (idLine id) → (linesL t.data.toList)[2]? = some (slotsLine ss.length) →
    ((linesL t.data.toList).drop 3).take ss.length = ss.map slotLine → (linesL t.data.toList)[ss.length + 3]? = some (sumLine sum) → Fits ss → Form t.data.toList id ss sum) := fun id ss sum h0 h1 h2 h3 h4 h5 h6 => form_make h0 h1 h2 h3 h4 h5 h6
  have HSH : Hid (∀ p ∈ linesL t.data.toList, p.length ≤ 4194304) := fun p hp => by have h := lines_short t.data.toList p hp; rw [← size_eq] at h; omega
  have HLT : Hid ((linesL t.data.toList).length ≤ 4194304) := lines_few t hs
  revert hln HFP HFM HSH HLT
  generalize linesL t.data.toList = L
  intro hln HFP HFM HSH HLT
  obtain ⟨n, hn⟩ : ∃ n, L.length = n := ⟨_, rfl⟩
  have HN : Hid (L.length = n) := hn
  by_cases hn4 : n < 4
  · have hnI : (n : Int) < 4 := by omega
    have HNF : Hid (∀ id ss sum, ¬ Form t.data.toList id ss sum) := fun id ss sum h => by have h1 := (HFP.out id ss sum h).1; have h2 := HN.out; omega
    go_enter Tryd.func49, Tryd.ntmps49
    go_wp2_with fail
    refine hln.mono ?_
    rintro e w1 ⟨⟨v, rfl, hown⟩, hb1⟩
    clear hln
    obtain ⟨a, cap, rfl⟩ := hown.len
    rw [hn]
    have hq := (hb1.block _ (by simp; omega)).trans hq0
    have hr := (hb1.block _ (by simp)).trans hr0
    have q0 : w1.cell? ⟨w.heap.size, 0, none⟩ = some (.string { data := #[] }) := (cell_of_heap hq).trans rfl
    have q1 : w1.cell? ⟨w.heap.size, 1, none⟩ = some (.slice none 0 0) := (cell_of_heap hq).trans rfl
    have r0 : w1.cell? ⟨w.heap.size + 1, 0, none⟩ = some (.string { data := #[] }) := (cell_of_heap hr).trans rfl
    have r1 : w1.cell? ⟨w.heap.size + 1, 1, none⟩ = some (.slice none 0 0) := (cell_of_heap hr).trans rfl
    have f0 : w1.frozen? ⟨w.heap.size, 0, none⟩ = false := frozen_of_heap hq
    have f1 : w1.frozen? ⟨w.heap.size, 1, none⟩ = false := frozen_of_heap hq
    clear hown hr hr0
    go_wp2
    refine bodyPost_ret (results_cell_tmp2 rfl _ _ w.heap.size 24 _ (0, 0) _ rfl (put2 hq) Tryd.underlying24 rfl sizeRing) rfl ?_
    exact ⟨.inr ⟨HNF.out, _, _, _, _, _, rfl⟩, ((hb0.trans (hb1.mono (by simp; omega))).setCell (Nat.le_refl _) _).setCell (Nat.le_refl _) _⟩
  have hnI : ¬ (n : Int) < 4 := by omega
  obtain ⟨M, hM⟩ : ∃ M, n = M + 4 := ⟨n - 4, by omega⟩
  have HM : Hid (n = M + 4) := hM
  have hMI : (n : Int) - 4 = (M : Int) := by omega
  have hML : M ≤ 4194304 := by have h := HLT.out; rw [hn] at h; omega
  have hwM : IntKind.i64.wrap (M : Int) = (M : Int) := by rw [IntKind.wrap_i64]; omega
  clear hM
  obtain ⟨l0, h0⟩ : ∃ x, L[0]? = some x := ⟨_, List.getElem?_eq_getElem (by omega)⟩
  obtain ⟨l1, h1⟩ : ∃ x, L[1]? = some x := ⟨_, List.getElem?_eq_getElem (by omega)⟩
  obtain ⟨l2, h2⟩ : ∃ x, L[2]? = some x := ⟨_, List.getElem?_eq_getElem (by omega)⟩
  have HRd : Hid (∀ w1 g, Below ((w.alloc (.cells #[.string { data := #[] }, .slice none 0 0] 24)).alloc (.cells #[.string { data := #[] }, .slice none 0 0] 24)).heap.size ((w.alloc (.cells #[.string { data := #[] }, .slice none 0 0] 24)).alloc (.cells #[.string { data := #[] }, .slice none 0 0] 24)) w1 → ((w.alloc (.cells #[.string { data := #[] }, .slice none 0 0] 24)).alloc (.cells #[.string { data := #[] }, .slice none 0 0] 24)).heap.size ≤ g → g < w1.heap.size → (∀ i x, L[i]? = some x → w1.cell? ⟨g, i, none⟩ = some (.string (str x))) → Rd w w1 g L { data := #[] } (.slice none 0 0)) := fun w1 g hb hg hgl hc =>
    ⟨(hb.block _ (by simp; omega)).trans hq0, (hb.block _ (by simp)).trans hr0, hc, hgl, by simpa using hg, hb0.trans (hb.mono (by simp; omega))⟩
  by_cases hk : l0 = kHead
  · have heq : (str l0).toList = [99, 97, 115, 107, 101, 116, 32, 114, 105, 110, 103, 32, 49] := by rw [str_toList, hk]; rfl
    have HK0 : Hid (L[0]? = some kHead) := by show _ = _; rw [h0, hk]
    clear hk
    have hl1 : l1.length ≤ 4194304 := HSH.out l1 (List.mem_of_getElem? h1)
    have hl2 : l2.length ≤ 4194304 := HSH.out l2 (List.mem_of_getElem? h2)
    have hone0 := fun W => rone_any (str l1) kId (by rw [str_size]; exact hl1) W
    have hwd := fun W => rwords_any (str l2) (by rw [str_size]; exact hl2) W
    rw [str_data] at hone0 hwd
    cases hid : oneL l1 kId with
    | none =>
      have hone : ∀ W, Calls Tryd.prog 63 #[.string (str l1), .string (str kId)] W fun e w' => (∃ y, e = .returned (.tuple #[.string y, .bool false])) ∧ Below W.heap.size W w' := fun W => (hone0 W).mono (by
        rintro e w' ⟨⟨y, h1, _⟩, h2⟩
        rw [hid] at h1
        exact ⟨⟨y, h1⟩, h2⟩)
      have HNF : Hid (∀ id ss sum, ¬ Form t.data.toList id ss sum) := fun id ss sum h => by
        have e := (HFP.out id ss sum h).2.2.1
        rw [h1] at e
        rw [Option.some.inj e, idLine_one] at hid
        cases hid
      clear hone0 hid
      go_enter Tryd.func49, Tryd.ntmps49
      go_wp2_with fail
      refine hln.mono ?_
      rintro e w1 ⟨⟨v, rfl, hown⟩, hb1⟩
      clear hln
      obtain ⟨g, cap, rfl, hg, hgl, hcell⟩ := hown.at (by omega)
      rw [hn]
      have hR := HRd.out w1 g hb1 hg hgl hcell
      have c0 := hR.row 0 l0 h0
      have c1 := hR.row 1 l1 h1
      clear hown hcell HRd hq0 hr0 hb0 hb1 hg hgl
      go_wp2_with fail
      refine (hone w1).mono ?_
      rintro e w2 ⟨⟨y, rfl⟩, hb2⟩
      have hR2 := hR.over hb2
      have c2 := hR2.row 2 l2 h2
      clear hR hb2 c0 c1 hone
      go_wp2_with fail
      refine (hwd w2).mono ?_
      rintro e w3 ⟨⟨v3, rfl, hown3⟩, hb3⟩
      have hR3 := hR2.over hb3
      clear hR2 hwd c2
      obtain ⟨a3, cap3, rfl⟩ := hown3.len
      clear hown3
      generalize (wordsL l2).length = n3
      have q0 := hR3.q0
      have q1 := hR3.q1
      have r0 := hR3.r0
      have r1 := hR3.r1
      have f0 := hR3.fq 0
      have f1 := hR3.fq 1
      go_wp2
      refine bodyPost_ret (results_cell_tmp2 rfl _ _ w.heap.size 24 _ (0, 0) _ rfl (put2 hR3.res) Tryd.underlying24 rfl sizeRing) rfl ?_
      exact ⟨.inr ⟨HNF.out, _, _, _, _, _, rfl⟩, (hR3.bel.setCell (Nat.le_refl _) _).setCell (Nat.le_refl _) _⟩
    | some id =>
      have hone : ∀ W, Calls Tryd.prog 63 #[.string (str l1), .string (str kId)] W fun e w' => e = .returned (.tuple #[.string (str id), .bool true]) ∧ Below W.heap.size W w' := fun W => (hone0 W).mono (by
        rintro e w' ⟨⟨y, h1, h3⟩, h2⟩
        rw [hid] at h1
        rw [h3 id hid] at h1
        exact ⟨h1, h2⟩)
      have HID : Hid (L[1]? = some (idLine id)) := by
        show _ = _
        rw [h1, (one_iff l1 kId id (by decide)).1 hid]
        rfl
      clear hone0 hid
      by_cases hw2 : (wordsL l2).length = 2
      · obtain ⟨a, d, had⟩ : ∃ a d, wordsL l2 = [a, d] := by
          match h : wordsL l2, hw2 with
          | [a, d], _ => exact ⟨a, d, rfl⟩
        have hdl : d.length ≤ 4194304 := Nat.le_trans (words_short l2 d (by rw [had]; simp)) hl2
        have hnum := fun W => rnumber_any (str d) (by rw [str_size]; exact hdl) W
        rw [str_data] at hnum
        have HAD : Hid (wordsL l2 = [a, d]) := had
        rw [had] at hwd
        clear had hw2
        by_cases hak : a = kSlots
        · have heq2 : (str a).toList = [115, 108, 111, 116, 115] := by rw [str_toList, hak]; rfl
          have HAK : Hid (a = kSlots) := hak
          clear hak
          obtain ⟨N, hN⟩ : ∃ N : Int, (if numOK d = true then (valL d : Int) else -1) = N := ⟨_, rfl⟩
          rw [hN] at hnum
          by_cases hNn : N = (M : Int)
          · have HND : Hid (numOK d = true ∧ valL d = M) := by
              rw [← hN] at hNn
              by_cases hd : numOK d = true
              · rw [if_pos hd] at hNn
                exact ⟨hd, by omega⟩
              · rw [if_neg hd] at hNn
                omega
            subst hNn
            clear hN
            go_enter Tryd.func49, Tryd.ntmps49
            go_wp2_with fail
            refine hln.mono ?_
            rintro e w1 ⟨⟨v, rfl, hown⟩, hb1⟩
            clear hln
            obtain ⟨g, cap, rfl, hg, hgl, hcell⟩ := hown.at (by omega)
            rw [hn]
            have hR := HRd.out w1 g hb1 hg hgl hcell
            have c0 := hR.row 0 l0 h0
            have c1 := hR.row 1 l1 h1
            clear hown hcell HRd hq0 hr0 hb0 hb1 hg hgl
            go_wp2_with fail
            refine (hone w1).mono ?_
            rintro e w2 ⟨rfl, hb2⟩
            have hR2 := hR.over hb2
            have c2 := hR2.row 2 l2 h2
            clear hR hb2 c0 c1 hone
            go_wp2_with fail
            refine (hwd w2).mono ?_
            rintro e w3 ⟨⟨v3, rfl, hown3⟩, hb3⟩
            have hR3 := hR2.over hb3
            clear hR2 hwd c2
            obtain ⟨g3, cap3, rfl, hg3, hgl3, hcell3⟩ := hown3.at (by simp)
            have e0 : w3.cell? ⟨g3, 0, none⟩ = some (.string (str a)) := hcell3 0 a rfl
            have e1 : w3.cell? ⟨g3, 1, none⟩ = some (.string (str d)) := hcell3 1 d rfl
            clear hown3 hcell3
            have r0 := hR3.r0
            have f0 := hR3.fr 0
            go_wp2_with (go_at_call 65; refine (hnum _).mono ?_; rintro e w3' ⟨rfl, rfl⟩)
            have hR5 := hR3.putId (str id)
            clear r0 f0 e0 e1 hR3 hnum heq heq2
            revert hR5
            generalize w3.setCell ⟨w.heap.size + 1, 0, none⟩ (.string (str id)) = w5
            intro hR5
            obtain ⟨B1, hB1⟩ : ∃ B, w5.heap.size = B := ⟨_, rfl⟩
            have hgB : g < B1 := by have := hR5.gl; omega
            have HB5 : Hid (Rd w w5 g L (str id) (.slice none 0 0) ∧ B1 ≤ w5.heap.size) := ⟨hR5, by show B1 ≤ _; omega⟩
            have hn1I : (n : Int) - 1 = (M : Int) + 3 := by have := HM.out; omega
            have hw1 : IntKind.i64.wrap ((M : Int) + 3) = (M : Int) + 3 := by rw [IntKind.wrap_i64]; omega
            clear hR5 hB1
            go_loopg [10] M (fun gk i wr => ∃ (k j : Nat) (ss : List Slot) (v : Value), k + gk = M ∧ j = k + 3 ∧ i = .int .i64 (j : Int) ∧ Hid (ss.length = k ∧ (L.drop 3).take k = ss.map slotLine ∧ ∀ s ∈ ss, 0 ≤ s.rounds ∧ s.rounds ≤ 9999) ∧ Hid (OwnS wr B1 v ss) ∧ Hid (Rd w wr g L (str id) v) ∧ B1 ≤ wr.heap.size)
            case atStart => exact ⟨0, 3, [], .slice none 0 0, by omega, rfl, rfl, ⟨rfl, by simp, by simp⟩, World.ownsRow_nil _ _ _ _, HB5.out.1, HB5.out.2⟩
            case round =>
              clear HB5
              obtain ⟨k, j, ss, v, hk, hj, rfl, HSS, HO, HR, hBw⟩ := hrel
              have HK : Hid (k + gk = M ∧ j = k + 3) := ⟨hk, hj⟩
              have hjM : j ≤ M + 3 := by omega
              clear hk hj
              by_cases hlt : j < M + 3
              · have hltI : (j : Int) < (M : Int) + 3 := by omega
                have hjn : (j : Int) < (n : Int) := by have := HM.out; omega
                obtain ⟨lk, hlk⟩ : ∃ x, L[j]? = some x := ⟨_, List.getElem?_eq_getElem (by have := HM.out; have := HN.out; omega)⟩
                have cj := HR.out.row j lk hlk
                have hsl0 := fun W => rslot_any (str lk) (by rw [str_size]; exact HSH.out lk (List.mem_of_getElem? hlk)) W
                rw [str_data] at hsl0
                cases hsk : slotL lk with
                | none =>
                  have hsl : ∀ W, Calls Tryd.prog 66 #[.string (str lk)] W fun e w' => (∃ a b c, e = .returned (.tuple #[.agg #[.string a, .int .i64 b, .string c], .bool false])) ∧ Below W.heap.size W w' := fun W => (hsl0 W).mono (by
                    rintro e w' ⟨⟨y, h1, _, a, b, c, h3⟩, h2⟩
                    rw [hsk, h3] at h1
                    exact ⟨⟨a, b, c, h1⟩, h2⟩)
                  have HNF : Hid (∀ id ss sum, ¬ Form t.data.toList id ss sum) := fun id' ss' sum' h => by
                    obtain ⟨k0, _, _, _, k4, _, k5⟩ := HFP.out id' ss' sum' h
                    have e1 := HN.out
                    have e2 := HM.out
                    obtain ⟨e3, e4⟩ := HK.out
                    obtain ⟨s', hs'⟩ : ∃ s', ss'[k]? = some s' := ⟨_, List.getElem?_eq_getElem (by omega)⟩
                    have e5 := k4 k s' hs'
                    rw [show 3 + k = j by omega, hlk] at e5
                    rw [Option.some.inj e5, slotLine_one s' (k5.r s' (List.mem_of_getElem? hs'))] at hsk
                    cases hsk
                  clear hsl0 hsk hlk
                  obtain ⟨av, cv, rfl⟩ := HO.out.len
                  go_wp2_with fail
                  refine (hsl wr).mono ?_
                  rintro e w6 ⟨⟨xa, xb, xc, rfl⟩, hb6⟩
                  have hR6 := (HR.out.over hb6).alloc (.cells #[.string xa, .int .i64 xb, .string xc] 26)
                  generalize ss.length = sn at hR6 ⊢
                  have q0 := hR6.q0
                  have q1 := hR6.q1
                  have r0 := hR6.r0
                  have r1 := hR6.r1
                  have f0 := hR6.fq 0
                  have f1 := hR6.fq 1
                  go_wp2
                  refine bodyPost_ret (results_cell_tmp2 rfl _ _ w.heap.size 24 _ (0, 0) _ rfl (put2 hR6.res) Tryd.underlying24 rfl sizeRing) rfl ?_
                  exact ⟨.inr ⟨HNF.out, _, _, _, _, _, rfl⟩, (hR6.bel.setCell (Nat.le_refl _) _).setCell (Nat.le_refl _) _⟩
                | some s =>
                  have hsl : ∀ W, Calls Tryd.prog 66 #[.string (str lk)] W fun e w' => e = .returned (.tuple #[.agg #[.string (str s.salt), .int .i64 s.rounds, .string (str s.wrapped)], .bool true]) ∧ Below W.heap.size W w' := fun W => (hsl0 W).mono (by
                    rintro e w' ⟨⟨y, h1, h3, _⟩, h2⟩
                    rw [hsk, h3 s hsk] at h1
                    exact ⟨h1, h2⟩)
                  obtain ⟨hs1, hs2⟩ := (slot_iff lk s).1 hsk
                  have HSS2 : Hid ((ss ++ [s]).length = k + 1 ∧ (L.drop 3).take (k + 1) = (ss ++ [s]).map slotLine ∧ ∀ x ∈ ss ++ [s], 0 ≤ x.rounds ∧ x.rounds ≤ 9999) := by
                    obtain ⟨a1, a2, a3⟩ := HSS.out
                    refine ⟨by simp [a1], ?_, fun x hx => (List.mem_append.1 hx).elim (a3 x) (fun h => by simp at h; subst h; exact hs2)⟩
                    rw [List.take_add_one, List.getElem?_drop, show 3 + k = j by have := HK.out; omega, hlk, a2, hs1]
                    simp
                  have HRC : Hid (ringCells (ss ++ [s]) = ringCells ss ++ [.string (str s.salt), .int .i64 s.rounds, .string (str s.wrapped)]) := by
                    show _ = _
                    rw [ringCells_append]
                    simp [ringCells, slotCells]
                  clear hsl0 hsk hlk hs1 hs2 HSS
                  generalize str s.salt = xa at hsl HRC
                  generalize s.rounds = xb at hsl HRC
                  generalize str s.wrapped = xc at hsl HRC
                  go_wp2_with fail
                  refine (hsl wr).mono ?_
                  rintro e w6 ⟨rfl, hb6⟩
                  have hR6 := (HR.out.over hb6).alloc (.cells #[.string xa, .int .i64 xb, .string xc] 26)
                  have hR8 := hR6.alloc (.cells #[.string xa, .int .i64 xb, .string xc] 26)
                  have hO6 : OwnS w6 B1 v ss := HO.out.below hb6
                  have hown8 := (World.ownsRow.alloc hO6 (.cells #[.string xa, .int .i64 xb, .string xc] 26)).alloc (.cells #[.string xa, .int .i64 xb, .string xc] 26)
                  have hnews : ∀ i u, [Value.string xa, .int .i64 xb, .string xc][i]? = some u → ((w6.alloc (.cells #[.string xa, .int .i64 xb, .string xc] 26)).alloc (.cells #[.string xa, .int .i64 xb, .string xc] 26)).cell? ((⟨w6.heap.size + 1, 0, none⟩ : Addr).add i) = some u := fun i u h => by
                    have h1 := cells_new (w6.alloc (.cells #[.string xa, .int .i64 xb, .string xc] 26)) #[.string xa, .int .i64 xb, .string xc] 26 i u (by simpa using h)
                    simpa using h1
                  have hone : ∀ u ∈ [Value.string xa, .int .i64 xb, .string xc], u.oneCell' = true := by simp [Value.oneCell']
                  have hsl1 : ss.length ≤ 4194304 := by have h1 := HSS2.out.1; have h2 := HK.out; rw [List.length_append] at h1; simp at h1; omega
                  have hml : ss.length + 1 ≤ maxLen := by unfold maxLen; omega
                  have hBs := hb6.size
                  have r1 := hR6.r1
                  have f1 := hR6.fr 1
                  clear hO6 hsl HR HO hb6
                  generalize hsn : ss.length = sn at hown8 hsl1 hml
                  have HSN : Hid (ss.length = sn) := hsn
                  clear hsn
                  go_wp2_with (at_builtin; refine wpList_append_own _ rfl _ _ 22 rfl B1 26 i0 (.agg #[.string { data := #[] }, .int .i64 0, .string { data := #[] }]) 3 40 Tryd.underlying22 hi hz0 hz1 hz2 rfl (by decide) v sn (ringCells ss) rfl hown8 ⟨w6.heap.size + 1, 0, none⟩ 1 1 [.string xa, .int .i64 xb, .string xc] rfl rfl hnews hone hml (by omega) (by simp; omega) ?_; intro v' w' hown' hgrow' _; refine Hid.out ?_)
                  unfold Hid
                  obtain ⟨av', cv', rfl⟩ := owns_len hown'
                  have hb8 : Below B1 ((w6.alloc (.cells #[.string xa, .int .i64 xb, .string xc] 26)).alloc (.cells #[.string xa, .int .i64 xb, .string xc] 26)) w' := grown_below hgrow' (by simp; omega) hown8
                  have hR9 := hR8.below hb8 hgB (by simp; omega)
                  have hBw' : B1 ≤ w'.heap.size := by have := hb8.size; simp at this; omega
                  have s1 := hR9.r1
                  have s2 := hR9.fr 1
                  have hR10 := hR9.putV (.slice av' (sn + 1) cv')
                  have hO10 : OwnS (w'.setCell ⟨w.heap.size + 1, 1, none⟩ (.slice av' (sn + 1) cv')) B1 (.slice av' (sn + 1) cv') (ss ++ [s]) := by
                    unfold OwnS
                    rw [HRC.out, List.length_append, HSN.out]
                    have hgw := hR9.gw
                    exact owns_set hown' (by simp; omega)
                  clear hown' hgrow' hown8 hb8 hR8 hR6 r1 f1 hnews hR9
                  go_wp2
                  go_roundg (gk - 1)
                  case measure => have := HK.out; omega
                  case rel => exact ⟨k + 1, j + 1, ss ++ [s], _, by have := HK.out; omega, by have := HK.out; omega, by go_num, HSS2, hO10, hR10, by simpa using hBw'⟩
              · have hjI : ¬ (j : Int) < (M : Int) + 3 := by omega
                obtain rfl : j = M + 3 := by omega
                have hkM : k = M := by have := HK.out; omega
                obtain ⟨lz, hlz⟩ : ∃ x, L[M + 3]? = some x := ⟨_, List.getElem?_eq_getElem (by have := HM.out; have := HN.out; omega)⟩
                have cz := HR.out.row (M + 3) lz hlz
                have hzn : (M : Int) + 3 < (n : Int) := by have := HM.out; omega
                have hsm0 := fun W => rone_any (str lz) kSum (by rw [str_size]; exact HSH.out lz (List.mem_of_getElem? hlz)) W
                rw [str_data] at hsm0
                obtain ⟨av, cv, rfl⟩ := HO.out.len
                cases hsm : oneL lz kSum with
                | none =>
                  have hsl : ∀ W, Calls Tryd.prog 63 #[.string (str lz), .string (str kSum)] W fun e w' => (∃ y, e = .returned (.tuple #[.string y, .bool false])) ∧ Below W.heap.size W w' := fun W => (hsm0 W).mono (by
                    rintro e w' ⟨⟨y, h1, _⟩, h2⟩
                    rw [hsm] at h1
                    exact ⟨⟨y, h1⟩, h2⟩)
                  have HNF : Hid (∀ id ss sum, ¬ Form t.data.toList id ss sum) := fun id' ss' sum' h => by
                    obtain ⟨k0, _, _, _, _, k5, _⟩ := HFP.out id' ss' sum' h
                    have e1 := HN.out
                    have e2 := HM.out
                    rw [show ss'.length + 3 = M + 3 by omega, hlz] at k5
                    rw [Option.some.inj k5, sumLine_one] at hsm
                    cases hsm
                  clear hsm0 hsm hlz hkM
                  generalize ss.length = sn at HR ⊢
                  go_wp2_with fail
                  refine (hsl wr).mono ?_
                  rintro e w6 ⟨⟨y, rfl⟩, hb6⟩
                  have hR6 := HR.out.over hb6
                  have q0 := hR6.q0
                  have q1 := hR6.q1
                  have r0 := hR6.r0
                  have r1 := hR6.r1
                  have f0 := hR6.fq 0
                  have f1 := hR6.fq 1
                  go_wp2
                  refine bodyPost_ret (results_cell_tmp2 rfl _ _ w.heap.size 24 _ (0, 0) _ rfl (put2 hR6.res) Tryd.underlying24 rfl sizeRing) rfl ?_
                  exact ⟨.inr ⟨HNF.out, _, _, _, _, _, rfl⟩, (hR6.bel.setCell (Nat.le_refl _) _).setCell (Nat.le_refl _) _⟩
                | some sum =>
                  have hsl : ∀ W, Calls Tryd.prog 63 #[.string (str lz), .string (str kSum)] W fun e w' => e = .returned (.tuple #[.string (str sum), .bool true]) ∧ Below W.heap.size W w' := fun W => (hsm0 W).mono (by
                    rintro e w' ⟨⟨y, h1, h3⟩, h2⟩
                    rw [hsm] at h1
                    rw [h3 sum hsm] at h1
                    exact ⟨h1, h2⟩)
                  have HF : Hid (Form t.data.toList id ss sum) := by
                    obtain ⟨a1, a2, a3⟩ := HSS.out
                    have e1 := HN.out
                    have e2 := HM.out
                    have e3 : ss.length = M := by omega
                    have e4 := words_slots (by rw [HAD.out, HAK.out]) HND.out.1
                    rw [HND.out.2] at e4
                    refine HFM.out id ss sum (by omega) HK0.out HID.out (by rw [h2, e4, e3]) (by rw [a1]; exact a2) ?_ ⟨?_, a3⟩
                    · rw [e3, hlz, (one_iff lz kSum sum (by decide)).1 hsm]
                      rfl
                    · have := (dec_val d HND.out.1).2
                      have := HND.out.2
                      omega
                  clear hsm0 hsm hlz hkM
                  generalize hsn : ss.length = sn at HR HO ⊢
                  clear hsn
                  go_wp2_with fail
                  refine (hsl wr).mono ?_
                  rintro e w6 ⟨rfl, hb6⟩
                  have hR6 := HR.out.over hb6
                  have hO6 : OwnS w6 B1 (.slice av sn cv) ss := HO.out.below hb6
                  have q0 := hR6.q0
                  have q1 := hR6.q1
                  have r0 := hR6.r0
                  have r1 := hR6.r1
                  have f0 := hR6.fq 0
                  have f1 := hR6.fq 1
                  go_wp2
                  refine bodyPost_ret (results_cell_tmp2 rfl _ _ w.heap.size 24 _ (0, 0) _ rfl (put2 hR6.res) Tryd.underlying24 rfl sizeRing) rfl ?_
                  have hgw := hR6.gw
                  exact ⟨.inl ⟨id, ss, sum, _, HF.out, rfl, owns_mono (owns_set (owns_set hO6 (by show w.heap.size < B1; omega)) (by show w.heap.size < B1; omega)) (by omega)⟩, (hR6.bel.setCell (Nat.le_refl _) _).setCell (Nat.le_refl _) _⟩
          · have HNF : Hid (∀ id ss sum, ¬ Form t.data.toList id ss sum) := fun id ss sum h => by
              obtain ⟨k0, _, _, k2, _, _, k5⟩ := HFP.out id ss sum h
              rw [h2] at k2
              have k6 := HAD.out
              rw [Option.some.inj k2, slotsLine_words] at k6
              have k7 : dec ss.length = d := (List.cons.inj (List.cons.inj k6).2).1
              obtain ⟨k8, k9⟩ := num_dec ss.length k5.n
              rw [k7] at k8 k9
              rw [← hN, if_pos k8, k9] at hNn
              have := HN.out
              omega
            have hNne : (N == (M : Int)) = false := by simpa using hNn
            have hNn2 : ¬ N = (M : Int) := hNn
            clear hN
            go_enter Tryd.func49, Tryd.ntmps49
            go_wp2_with fail
            refine hln.mono ?_
            rintro e w1 ⟨⟨v, rfl, hown⟩, hb1⟩
            clear hln
            obtain ⟨g, cap, rfl, hg, hgl, hcell⟩ := hown.at (by omega)
            rw [hn]
            have hR := HRd.out w1 g hb1 hg hgl hcell
            have c0 := hR.row 0 l0 h0
            have c1 := hR.row 1 l1 h1
            clear hown hcell HRd hq0 hr0 hb0 hb1 hg hgl
            go_wp2_with fail
            refine (hone w1).mono ?_
            rintro e w2 ⟨rfl, hb2⟩
            have hR2 := hR.over hb2
            have c2 := hR2.row 2 l2 h2
            clear hR hb2 c0 c1 hone
            go_wp2_with fail
            refine (hwd w2).mono ?_
            rintro e w3 ⟨⟨v3, rfl, hown3⟩, hb3⟩
            have hR3 := hR2.over hb3
            clear hR2 hwd c2
            obtain ⟨g3, cap3, rfl, hg3, hgl3, hcell3⟩ := hown3.at (by simp)
            have e0 : w3.cell? ⟨g3, 0, none⟩ = some (.string (str a)) := hcell3 0 a rfl
            have e1 : w3.cell? ⟨g3, 1, none⟩ = some (.string (str d)) := hcell3 1 d rfl
            clear hown3 hcell3
            have q0 := hR3.q0
            have q1 := hR3.q1
            have r0 := hR3.r0
            have r1 := hR3.r1
            have f0 := hR3.fq 0
            have f1 := hR3.fq 1
            go_wp2_with (go_at_call 65; refine (hnum _).mono ?_; rintro e w3' ⟨rfl, rfl⟩)
            refine bodyPost_ret (results_cell_tmp2 rfl _ _ w.heap.size 24 _ (0, 0) _ rfl (put2 hR3.res) Tryd.underlying24 rfl sizeRing) rfl ?_
            exact ⟨.inr ⟨HNF.out, _, _, _, _, _, rfl⟩, (hR3.bel.setCell (Nat.le_refl _) _).setCell (Nat.le_refl _) _⟩
        · have hne3 : ((str a).toList == [115, 108, 111, 116, 115]) = false := by rw [str_toList]; exact beq_eq_false_iff_ne.2 hak
          have hne4 : ¬ (str a).toList = [115, 108, 111, 116, 115] := by rw [str_toList]; exact hak
          have HNF : Hid (∀ id ss sum, ¬ Form t.data.toList id ss sum) := fun id ss sum h => by
            obtain ⟨_, _, _, k2, _⟩ := HFP.out id ss sum h
            rw [h2] at k2
            have k6 := HAD.out
            rw [Option.some.inj k2, slotsLine_words] at k6
            exact hak (List.cons.inj k6).1.symm
          clear hak
          go_enter Tryd.func49, Tryd.ntmps49
          go_wp2_with fail
          refine hln.mono ?_
          rintro e w1 ⟨⟨v, rfl, hown⟩, hb1⟩
          clear hln
          obtain ⟨g, cap, rfl, hg, hgl, hcell⟩ := hown.at (by omega)
          rw [hn]
          have hR := HRd.out w1 g hb1 hg hgl hcell
          have c0 := hR.row 0 l0 h0
          have c1 := hR.row 1 l1 h1
          clear hown hcell HRd hq0 hr0 hb0 hb1 hg hgl
          go_wp2_with fail
          refine (hone w1).mono ?_
          rintro e w2 ⟨rfl, hb2⟩
          have hR2 := hR.over hb2
          have c2 := hR2.row 2 l2 h2
          clear hR hb2 c0 c1 hone
          go_wp2_with fail
          refine (hwd w2).mono ?_
          rintro e w3 ⟨⟨v3, rfl, hown3⟩, hb3⟩
          have hR3 := hR2.over hb3
          clear hR2 hwd c2
          obtain ⟨g3, cap3, rfl, hg3, hgl3, hcell3⟩ := hown3.at (by simp)
          have e0 : w3.cell? ⟨g3, 0, none⟩ = some (.string (str a)) := hcell3 0 a rfl
          clear hown3 hcell3
          have q0 := hR3.q0
          have q1 := hR3.q1
          have r0 := hR3.r0
          have r1 := hR3.r1
          have f0 := hR3.fq 0
          have f1 := hR3.fq 1
          go_wp2
          refine bodyPost_ret (results_cell_tmp2 rfl _ _ w.heap.size 24 _ (0, 0) _ rfl (put2 hR3.res) Tryd.underlying24 rfl sizeRing) rfl ?_
          exact ⟨.inr ⟨HNF.out, _, _, _, _, _, rfl⟩, (hR3.bel.setCell (Nat.le_refl _) _).setCell (Nat.le_refl _) _⟩
      · have HNF : Hid (∀ id ss sum, ¬ Form t.data.toList id ss sum) := fun id ss sum h => by
          obtain ⟨_, _, _, k2, _⟩ := HFP.out id ss sum h
          rw [h2] at k2
          rw [Option.some.inj k2, slotsLine_words] at hw2
          exact hw2 rfl
        go_enter Tryd.func49, Tryd.ntmps49
        go_wp2_with fail
        refine hln.mono ?_
        rintro e w1 ⟨⟨v, rfl, hown⟩, hb1⟩
        clear hln
        obtain ⟨g, cap, rfl, hg, hgl, hcell⟩ := hown.at (by omega)
        rw [hn]
        have hR := HRd.out w1 g hb1 hg hgl hcell
        have c0 := hR.row 0 l0 h0
        have c1 := hR.row 1 l1 h1
        clear hown hcell HRd hq0 hr0 hb0 hb1 hg hgl
        go_wp2_with fail
        refine (hone w1).mono ?_
        rintro e w2 ⟨rfl, hb2⟩
        have hR2 := hR.over hb2
        have c2 := hR2.row 2 l2 h2
        clear hR hb2 c0 c1 hone
        go_wp2_with fail
        refine (hwd w2).mono ?_
        rintro e w3 ⟨⟨v3, rfl, hown3⟩, hb3⟩
        have hR3 := hR2.over hb3
        clear hR2 hwd c2
        obtain ⟨a3, cap3, rfl⟩ := hown3.len
        clear hown3
        generalize (wordsL l2).length = n3 at hw2 ⊢
        have i3 : ¬ (n3 : Int) = 2 := by omega
        have q0 := hR3.q0
        have q1 := hR3.q1
        have r0 := hR3.r0
        have r1 := hR3.r1
        have f0 := hR3.fq 0
        have f1 := hR3.fq 1
        go_wp2
        refine bodyPost_ret (results_cell_tmp2 rfl _ _ w.heap.size 24 _ (0, 0) _ rfl (put2 hR3.res) Tryd.underlying24 rfl sizeRing) rfl ?_
        exact ⟨.inr ⟨HNF.out, _, _, _, _, _, rfl⟩, (hR3.bel.setCell (Nat.le_refl _) _).setCell (Nat.le_refl _) _⟩
  · have hne : ((str l0).toList == [99, 97, 115, 107, 101, 116, 32, 114, 105, 110, 103, 32, 49]) = false := by rw [str_toList]; exact beq_eq_false_iff_ne.2 hk
    have hne2 : ¬ (str l0).toList = [99, 97, 115, 107, 101, 116, 32, 114, 105, 110, 103, 32, 49] := by rw [str_toList]; exact hk
    have HNF : Hid (∀ id ss sum, ¬ Form t.data.toList id ss sum) := fun id ss sum h => hk (Option.some.inj (h0.symm.trans (HFP.out id ss sum h).2.1))
    clear hk
    go_enter Tryd.func49, Tryd.ntmps49
    go_wp2_with fail
    refine hln.mono ?_
    rintro e w1 ⟨⟨v, rfl, hown⟩, hb1⟩
    clear hln
    obtain ⟨g, cap, rfl, hg, hgl, hcell⟩ := hown.at (by omega)
    rw [hn]
    have hR := HRd.out w1 g hb1 hg hgl hcell
    have c0 := hR.row 0 l0 h0
    clear hown hcell HRd
    have q0 := hR.q0
    have q1 := hR.q1
    have r0 := hR.r0
    have r1 := hR.r1
    have f0 := hR.fq 0
    have f1 := hR.fq 1
    go_wp2
    refine bodyPost_ret (results_cell_tmp2 rfl _ _ w.heap.size 24 _ (0, 0) _ rfl (put2 hR.res) Tryd.underlying24 rfl sizeRing) rfl ?_
    exact ⟨.inr ⟨HNF.out, _, _, _, _, _, rfl⟩, (hR.bel.setCell (Nat.le_refl _) _).setCell (Nat.le_refl _) _⟩

end Go.Proofs.YtbjiamaaocjbfaaDoor.Kr
