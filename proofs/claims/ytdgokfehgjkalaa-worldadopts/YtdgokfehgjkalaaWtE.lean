import Derived.Test.YtdgokfehgjkalaaWtD
import Derived.Deep.DeepCutAuto
namespace Go.Proofs.Ytdgokfehgjkalaa.Wd
open Go.RowKit Go.Lib Go.Deep

theorem tagOrNone_any (t : ByteArray) (w : World) : Calls Try.prog 45 #[.string t] w fun e w' => e = .returned (.bool (noneOrTag t)) ∧ w' = w := by
  have hc := isTag_any t w
  by_cases h0 : t.size = 0
  · have ht : t = { data := #[] } := ByteArray.ext (Array.eq_empty_of_size_eq_zero h0)
    subst ht
    have e : noneOrTag { data := #[] } = true := by decide
    rw [e]
    clear e h0
    go_enter Try.func45, Try.ntmps45
    go_wp2_with (go_at_call 65; refine hc.mono ?_; rintro e w6 ⟨rfl, he6⟩; subst he6)
    go_ret
    exact ⟨rfl, rfl⟩
  · have hne : t.toList.isEmpty = false := by
      rw [toList_data, List.isEmpty_eq_false_iff]
      intro e
      exact h0 (by show t.data.size = 0; rw [← Array.length_toList, e]; rfl)
    have e : noneOrTag t = tagOK t := by
      unfold noneOrTag tagOK
      by_cases h : t.size = 16
      · rw [decide_eq_true h, decide_eq_true (.inr h)]
      · rw [decide_eq_false h, decide_eq_false (by omega)]
    rw [e]
    clear e h0
    go_enter Try.func45, Try.ntmps45
    go_wp2_with (go_at_call 65; refine hc.mono ?_; rintro e w6 ⟨rfl, he6⟩; subst he6)
    go_ret
    exact ⟨rfl, rfl⟩
/-- a state that was made since w -/
structure Lw (w wr : World) (q : Nat) (F : List Nat) (S : Wst) : Prop where
  st : St wr q F S
  fr : ∀ k, k ∈ F → w.heap.size ≤ k
  be : Below w.heap.size w wr
theorem Lw.turn {w wr W : World} {q : Nat} {F : List Nat} {S S' : Wst} (h : Lw w wr q F S) (hT : Turn F wr W q S') : ∃ F', Lw w W q F' S' := by
  obtain ⟨o1, F2, s2, k2⟩ := id hT
  refine ⟨F2, s2, fun k hk => ?_, o1.os.trans h.be.os, o1.tape.trans h.be.tape, o1.output.trans h.be.output, Nat.le_trans h.be.size o1.size, fun k hk => ?_⟩
  · rcases k2 k hk with h' | h'
    · exact h.fr k h'
    · exact Nat.le_trans h.be.size h'
  · exact (o1.block k (Nat.lt_of_lt_of_le hk h.be.size) (fun e => by have := h.fr k e; omega)).trans (h.be.block k hk)
theorem Lw.below {w wr W : World} {q : Nat} {F : List Nat} {S : Wst} (h : Lw w wr q F S) (hb : Below wr.heap.size wr W) : Lw w W q F S := ⟨h.st.below hb, h.fr, h.be.trans (hb.mono h.be.size)⟩
def adS (bs : List Bl) (cur pen : ByteArray) (stp : Bool) : Wst := ⟨cont bs, cur, pen, stp, false, 0, [], [], [], bs.length, 0⟩
def Good (bs : List Bl) (cur pen : ByteArray) : Prop := (∀ x ∈ bs, nameOK x.1 = true ∧ blobOK x.2 = true) ∧ ND bs ∧ noneOrTag cur = true ∧ noneOrTag pen = true
def AdP (w : World) (bs : List Bl) (cur pen : ByteArray) (stp : Bool) (e : Ending) (w' : World) : Prop :=
  (¬ Good bs cur pen ∧ ∃ code : Int, code ≠ 0 ∧ e = .returned (.tuple #[.pointer none, .int .i64 code]) ∧ Below w.heap.size w w') ∨ (Good bs cur pen ∧ ∃ pb q F, e = .returned (.tuple #[.pointer (some ⟨pb, 0, none⟩), .int .i64 0]) ∧ Lv w w' pb q F (adS bs cur pen stp))
theorem cont_mem {L : List Bl} {n : ByteArray} (h : (cont L (ky n)).isSome = true) : ∃ x ∈ L, x.1 = n := by
  obtain ⟨b, hb⟩ := Option.isSome_iff_exists.1 h
  obtain ⟨j, _, h2⟩ := fidx_some hb
  exact ⟨_, List.mem_of_getElem? h2, rfl⟩
theorem cont_none {L : List Bl} {n : ByteArray} (h : (cont L (ky n)).isSome = false) : ∀ x ∈ L, x.1 ≠ n := fun x hx e => by
  have : (cont L (ky n)).isSome = true := by
    unfold cont
    rw [Option.isSome_map, List.find?_isSome]
    exact ⟨x, hx, by simp [e]⟩
  rw [h] at this
  cases this
theorem ad_step {bs : List Bl} {k : Nat} {x : Bl} (hx : bs[k]? = some x) (hno : (cont (bs.take k) (ky x.1)).isSome = false) : layS (adS (bs.take k) { data := #[] } { data := #[] } false) x.1 x.2 = adS (bs.take (k + 1)) { data := #[] } { data := #[] } false := by
  have e : bs.take (k + 1) = bs.take k ++ [x] := by rw [List.take_add_one, hx]; rfl
  rw [e]
  unfold layS adS
  rw [show (x : Bl) = (x.1, x.2) from rfl, cont_snoc _ _ _ (cont_none hno)]
  simp
theorem dup_bad {bs : List Bl} {k : Nat} {x : Bl} {cur pen : ByteArray} (hx : bs[k]? = some x) (hyes : (cont (bs.take k) (ky x.1)).isSome = true) : ¬ Good bs cur pen := fun hg => by
  obtain ⟨y, hy, e⟩ := cont_mem hyes
  obtain ⟨i, hi⟩ := List.mem_iff_getElem?.1 hy
  have hik : i < k := by
    have := (List.getElem?_eq_some_iff.1 hi).1
    simp at this
    omega
  rw [List.getElem?_take, if_pos hik] at hi
  obtain ⟨h1, e1⟩ := List.getElem?_eq_some_iff.1 hi
  obtain ⟨h2, e2⟩ := List.getElem?_eq_some_iff.1 hx
  have hnd := hg.2.1
  unfold ND List.Nodup at hnd
  rw [List.pairwise_map] at hnd
  have := List.pairwise_iff_getElem.1 hnd i k h1 h2 hik
  rw [e1, e2] at this
  exact this e
set_option maxRecDepth 10000 in
set_option maxHeartbeats 2000000 in
theorem adopt_any (w : World) (v : Value) (n : Nat) (bs : List Bl) (cur pen : ByteArray) (stp : Bool) (h1 : SeeB w v n bs) (hn : n ≤ 4398046511000) (hsz : ∀ x ∈ bs, x.1.size ≤ maxLen) : Calls Try.prog 18 #[v, .agg #[.string cur, .string pen, .bool stp]] w fun e w' => AdP w bs cur pen stp e w' := by
  obtain ⟨W0, hW0⟩ : ∃ W, w.alloc (.cells #[.string cur, .string pen, .bool stp] 32) = W := ⟨_, rfl⟩
  have hb0 : Below w.heap.size w W0 := by rw [← hW0]; exact (Below.refl _ _).alloc (Nat.le_refl _) _
  have hcl : W0.heap[w.heap.size]? = some (.cells #[.string cur, .string pen, .bool stp] 32 (0, 0)) := by rw [← hW0]; exact heap_new _ _
  have HA : Hid (∀ W, Below W0.heap.size W0 W → SeeB W v n bs) := fun W hb => h1.below (hb0.trans (hb.mono hb0.size))
  have HR : Hid (∀ W, Below W0.heap.size W0 W → W.cell? ⟨w.heap.size, 0, none⟩ = some (.string cur) ∧ W.cell? ⟨w.heap.size, 1, none⟩ = some (.string pen) ∧ W.cell? ⟨w.heap.size, 2, none⟩ = some (.bool stp)) := fun W hb => by
    have h := (hb.block _ (heap_lt hcl)).trans hcl
    exact ⟨(cell_of_heap h).trans rfl, (cell_of_heap h).trans rfl, (cell_of_heap h).trans rfl⟩
  obtain ⟨hl, a1, k1, rfl, -⟩ := h1
  have HL : Hid (bs.length = n) := hl
  have hns := newState_any W0
  have HB0 : Hid (Below w.heap.size w W0) := hb0
  have HSZ : Hid (∀ x ∈ bs, x.1.size ≤ maxLen) := hsz
  have HNm : Hid (∀ (n : ByteArray) (W : World), _) := fun n W => isName_any n W
  have HBl : Hid (∀ (n : ByteArray) (W : World), _) := fun n W => isBlob_any n W
  have HTg : Hid (∀ (n : ByteArray) (W : World), _) := fun n W => tagOrNone_any n W
  have HBad : Hid (∀ (W : World) (code : Int), ¬ Good bs cur pen → code ≠ 0 → Below W0.heap.size W0 W → AdP w bs cur pen stp (.returned (.tuple #[.pointer none, .int .i64 code])) W) := fun W code hg hc hb => .inl ⟨hg, code, hc, rfl, hb0.trans (hb.mono hb0.size)⟩
  have HGd : Hid (∀ (W : World) q F, Good bs cur pen → Lw W0 W q F (adS bs cur pen stp) → AdP w bs cur pen stp (.returned (.tuple #[.pointer (some ⟨W.heap.size, 0, none⟩), .int .i64 0])) (W.alloc (.cells #[.pointer (some ⟨q, 0, none⟩)] 79))) := fun W q F hg hL => .inr ⟨hg, W.heap.size, q, F, rfl, heap_new _ _, hL.st.below ((Below.refl _ _).alloc (Nat.le_refl _) _), fun k hk => Nat.le_trans hb0.size (hL.fr k hk), Nat.le_trans hb0.size hL.be.size, hb0.trans ((hL.be.alloc hL.be.size _).mono hb0.size)⟩
  clear hl hcl hb0 hsz
  go_enter Try.func18, Try.ntmps18
  go_wp2_with fail
  (try rw [hW0])
  refine hns.mono ?_
  rintro e w1 ⟨q, F1, rfl, g1, g2, g3⟩
  have HS1 : Hid (Lw W0 w1 q F1 (adS (bs.take 0) { data := #[] } { data := #[] } false)) := ⟨g1, g2, g3⟩
  clear g1 g2 g3 hns hW0
  go_wp2_with fail
  go_loopg [14] n (fun gk iv wr => ∃ (k : Nat) (F : List Nat), k + gk = n ∧ iv = .int .i64 (k : Int) ∧ Hid (Lw W0 wr q F (adS (bs.take k) { data := #[] } { data := #[] } false)) ∧ Hid (∀ x ∈ bs.take k, nameOK x.1 = true ∧ blobOK x.2 = true) ∧ Hid (ND (bs.take k)))
  case atStart => exact ⟨0, F1, by omega, rfl, HS1.out, (show ∀ x ∈ bs.take 0, _ from fun x hx => by simp at hx), (show ND (bs.take 0) by simp [ND])⟩
  case round =>
    obtain ⟨k, F, hk, rfl, HW, HOk, HNd⟩ := hrel
    have HKG : Hid (k + gk = n) := hk
    have hkn : k ≤ n := by omega
    clear hk HS1
    by_cases hlt : k < n
    · have hltI : (k : Int) < (n : Int) := by omega
      obtain ⟨x, hx⟩ : ∃ x, bs[k]? = some x := ⟨_, List.getElem?_eq_getElem (by have := HL.out; omega)⟩
      have HX : Hid (bs[k]? = some x) := hx
      obtain ⟨-, y1, z1, e1, h1⟩ := HA.out _ HW.out.be
      injection e1 with e1 _ e1'
      subst e1 e1'
      obtain ⟨g1, o1, rfl, _, c0, c1⟩ := h1 k x hx
      have hxs := HSZ.out x (List.mem_of_getElem? hx)
      obtain ⟨W1, hW1⟩ : ∃ W, wr.alloc (.cells #[.string x.1, .string x.2] 56) = W := ⟨_, rfl⟩
      have hb1 : Below wr.heap.size wr W1 := by rw [← hW1]; exact (Below.refl _ _).alloc (Nat.le_refl _) _
      have hc1 : W1.heap[wr.heap.size]? = some (.cells #[.string x.1, .string x.2] 56 (0, 0)) := by rw [← hW1]; exact heap_new _ _
      have HL1 : Hid (Lw W0 W1 q F (adS (bs.take k) { data := #[] } { data := #[] } false)) := HW.out.below hb1
      have HP1 : Hid (∀ W, Below W1.heap.size W1 W → W.cell? ⟨wr.heap.size, 0, none⟩ = some (.string x.1) ∧ W.cell? ⟨wr.heap.size, 1, none⟩ = some (.string x.2)) := fun W hb => by
        have h := (hb.block _ (heap_lt hc1)).trans hc1
        exact ⟨(cell_of_heap h).trans rfl, (cell_of_heap h).trans rfl⟩
      obtain ⟨th, hth⟩ : ∃ th, (cont (bs.take k) (ky x.1)).isSome = th := ⟨_, rfl⟩
      have HTH : Hid ((cont (bs.take k) (ky x.1)).isSome = th) := hth
      have HObj : Hid (∀ W, Below W1.heap.size W1 W → ∃ on ob, Calls Try.prog 35 #[.pointer (some ⟨q, 0, none⟩), .string x.1] W fun e w' => e = .returned (.tuple #[.agg #[.string on, .string ob], .bool th]) ∧ Below W1.heap.size W1 w' ∧ Below W.heap.size W w') := fun W hb => ⟨_, _, (object_any W q F _ x.1 hxs (HL1.out.below hb).st).mono (by
        rintro e w' ⟨rfl, hb'⟩
        exact ⟨by rw [← hth]; rfl, hb.trans (hb'.mono hb.size), hb'⟩)⟩
      have HLay : Hid (th = false → ∀ W, Below W1.heap.size W1 W → Calls Try.prog 44 #[.pointer (some ⟨q, 0, none⟩), .agg #[.string x.1, .string x.2]] W fun e w' => e = .returned (.tuple #[]) ∧ ∃ F', Lw W0 w' q F' (adS (bs.take (k + 1)) { data := #[] } { data := #[] } false)) := fun h W hb => (lay_any W q F _ x.1 x.2 hxs (HL1.out.below hb).st (by
        have : (bs.take k).length ≤ k := List.length_take_le _ _
        show (bs.take k).length < maxLen
        unfold maxLen
        omega)).mono (by
        rintro e w' ⟨rfl, hT⟩
        rw [ad_step hx (by rw [hth]; exact h)] at hT
        exact ⟨rfl, (HL1.out.below hb).turn hT⟩)
      obtain ⟨p0, p1⟩ := HP1.out _ (Below.refl _ _)
      have p0' : W1.drew.cell? ⟨wr.heap.size, 0, none⟩ = some (.string x.1) := p0
      have HBe : Hid (∀ W, Below W1.heap.size W1 W → Below W0.heap.size W0 W) := fun W hb => HL1.out.be.trans (hb.mono HL1.out.be.size)
      have HAt : Hid (x ∈ bs) := List.mem_of_getElem? hx
      have HTk : Hid (bs.take (k + 1) = bs.take k ++ [x]) := by show bs.take (k + 1) = bs.take k ++ [x]; rw [List.take_add_one, hx]; rfl
      obtain ⟨n1, b1⟩ := x
      dsimp only at *
      obtain ⟨on, ob, hob⟩ := HObj.out W1.drew (Below.refl _ _).drew
      obtain ⟨on2, ob2, hobA⟩ := HObj.out (W1.alloc (.cells #[.string { data := #[] }, .string { data := #[] }] 56)).drew ((Below.refl _ _).alloc (Nat.le_refl _) _).drew
      have pA : (W1.alloc (.cells #[.string { data := #[] }, .string { data := #[] }] 56)).cell? ⟨wr.heap.size, 0, none⟩ = some (.string n1) := (HP1.out _ ((Below.refl _ _).alloc (Nat.le_refl _) _)).1
      have pA' : (W1.alloc (.cells #[.string { data := #[] }, .string { data := #[] }] 56)).drew.cell? ⟨wr.heap.size, 0, none⟩ = some (.string n1) := pA
      have HZ : Hid (∀ w5, Below (W1.alloc (.cells #[.string { data := #[] }, .string { data := #[] }] 56)).drew.heap.size (W1.alloc (.cells #[.string { data := #[] }, .string { data := #[] }] 56)).drew w5 → (w5.cell? ⟨W1.heap.size, 0, none⟩ = some (.string { data := #[] }) ∧ w5.cell? ⟨W1.heap.size, 1, none⟩ = some (.string { data := #[] })) ∧ w5.frozen? ⟨W1.heap.size, 0, none⟩ = false ∧ w5.frozen? ⟨W1.heap.size, 1, none⟩ = false) := fun w5 hb => by
        have hk : (W1.alloc (.cells #[.string { data := #[] }, .string { data := #[] }] 56)).drew.heap[W1.heap.size]? = some (.cells #[.string { data := #[] }, .string { data := #[] }] 56 (0, 0)) := heap_new _ _
        have h := (hb.block _ (heap_lt hk)).trans hk
        exact ⟨⟨(cell_of_heap h).trans rfl, (cell_of_heap h).trans rfl⟩, frozen_of_heap h, frozen_of_heap h⟩
      clear h1 hx hth hb1 hc1 hxs
      go_upto_region 5 with fail
      go_cut [10] (fun s wx => s = .bool th ∧ Hid (Below W1.heap.size W1 wx))
      case first =>
        go_region_with (go_at_call 35; first | (refine hob.mono ?_; rintro e w5 ⟨rfl, hb5, hb5'⟩) | (refine hobA.mono ?_; rintro e w5 ⟨rfl, hb5, hb5'⟩; obtain ⟨⟨z0, z1⟩, z2, z3⟩ := HZ.out _ hb5'))
        all_goals
          go_wp2_with fail
          go_meet
          first
          | exact ⟨rfl, hb5.alloc hb5.size _⟩
          | exact ⟨rfl, (hb5.setCell (Nat.le_refl _) _).setCell (Nat.le_refl _) _⟩
      case rest =>
      obtain ⟨rfl, HWc⟩ := hcut
      clear c0 c1 p0 p1 p0' pA pA' hob hobA hW1
      obtain ⟨p0, p1⟩ := HP1.out _ HWc.out
      have p0' : wc.drew.cell? ⟨wr.heap.size, 0, none⟩ = some (.string n1) := p0
      have p1' : wc.drew.cell? ⟨wr.heap.size, 1, none⟩ = some (.string b1) := p1
      cases th with
      | true =>
        have hbad := dup_bad (cur := cur) (pen := pen) HX.out HTH.out
        have HQ : Hid (AdP w bs cur pen stp (.returned (.tuple #[.pointer none, .int .i64 1])) wc) := HBad.out _ 1 hbad (by decide) (HBe.out _ HWc.out)
        clear hbad
        go_wp2
        go_ret2
        exact HQ.out
      | false =>
        have hnm := HNm.out n1 wc
        cases hbn : nameOK n1 with
        | false =>
          rw [hbn] at hnm
          have hbad : ¬ Good bs cur pen := fun hg => by
            have := (hg.1 _ HAt.out).1
            rw [hbn] at this
            cases this
          have HQ : Hid (AdP w bs cur pen stp (.returned (.tuple #[.pointer none, .int .i64 1])) wc) := HBad.out _ 1 hbad (by decide) (HBe.out _ HWc.out)
          clear hbad hbn
          go_wp2_with (go_at_call 42; refine hnm.mono ?_; rintro e w6 ⟨rfl, he6⟩; subst he6)
          go_ret2
          exact HQ.out
        | true =>
          rw [hbn] at hnm
          have hbl := HBl.out b1 wc
          cases hbb : blobOK b1 with
          | false =>
            rw [hbb] at hbl
            have hbad : ¬ Good bs cur pen := fun hg => by
              have := (hg.1 _ HAt.out).2
              rw [hbb] at this
              cases this
            have HQ : Hid (AdP w bs cur pen stp (.returned (.tuple #[.pointer none, .int .i64 3])) wc) := HBad.out _ 3 hbad (by decide) (HBe.out _ HWc.out)
            clear hbad hbn hbb
            go_wp2_with (first | (go_at_call 42; refine hnm.mono ?_; rintro e w6 ⟨rfl, he6⟩; obtain rfl := he6.symm) | (go_at_call 43; refine hbl.mono ?_; rintro e w6 ⟨rfl, he6⟩; obtain rfl := he6.symm))
            go_ret2
            exact HQ.out
          | true =>
            rw [hbb] at hbl
            have HOK : Hid (nameOK n1 = true ∧ blobOK b1 = true) := ⟨hbn, hbb⟩
            have hly := HLay.out rfl wc.drew (HWc.out.trans ((Below.refl _ _).drew.mono HWc.out.size))
            clear hbn hbb
            go_upto_region 10 with (first | (go_at_call 42; refine hnm.mono ?_; rintro e w6 ⟨rfl, he6⟩; obtain rfl := he6.symm) | (go_at_call 43; refine hbl.mono ?_; rintro e w6 ⟨rfl, he6⟩; obtain rfl := he6.symm))
            have HOk2 : Hid (∀ x ∈ bs.take (k + 1), nameOK x.1 = true ∧ blobOK x.2 = true) := by
              show ∀ x ∈ bs.take (k + 1), nameOK x.1 = true ∧ blobOK x.2 = true
              rw [HTk.out]
              intro x hx
              rcases List.mem_append.1 hx with hx | hx
              · exact HOk.out x hx
              · simp at hx
                subst hx
                exact HOK.out
            have HNd2 : Hid (ND (bs.take (k + 1))) := by
              show ND (bs.take (k + 1))
              rw [HTk.out]
              exact nd_snoc HNd.out (cont_none HTH.out)
            go_region_with (go_at_call 44; refine hly.mono ?_; rintro e w6 ⟨rfl, hF6⟩)
            all_goals
              have HF6 : Hid (∃ F', Lw W0 w6 q F' (adS (bs.take (k + 1)) { data := #[] } { data := #[] } false)) := hF6
              clear hF6
              go_wp2
              go_roundg (gk - 1)
              case measure => have := HKG.out; omega
              case rel =>
                obtain ⟨F', hL⟩ := HF6.out
                exact ⟨k + 1, F', by have := HKG.out; omega, by go_num, hL, HOk2.out, HNd2.out⟩
    · obtain rfl : k = n := by omega
      have hltI : ¬ (k : Int) < (k : Int) := by omega
      have htk : bs.take k = bs := by rw [← HL.out]; exact List.take_length
      rw [htk] at HW HOk HNd
      have hbe := HW.out.be
      obtain ⟨r0, r1, r2⟩ := HR.out _ hbe
      have hse := HW.out.st.see
      have c2 := hse.c2
      have c3 := hse.c3
      have c4 := hse.c4
      have f2 := hse.fr 2
      have f3 := hse.fr 3
      have f4 := hse.fr 4
      have ht1 := HTg.out cur wr
      have ht2 := HTg.out pen wr
      have HT : Hid (Good bs cur pen → AdP w bs cur pen stp (.returned (.tuple #[.pointer (some ⟨wr.heap.size, 0, none⟩), .int .i64 0])) ((((wr.setCell ⟨q, 2, none⟩ (.string cur)).setCell ⟨q, 3, none⟩ (.string pen)).setCell ⟨q, 4, none⟩ (.bool stp)).alloc (.cells #[.pointer (some ⟨q, 0, none⟩)] 79))) := fun hg => by
        have hT : Turn F wr (((wr.setCell ⟨q, 2, none⟩ (.string cur)).setCell ⟨q, 3, none⟩ (.string pen)).setCell ⟨q, 4, none⟩ (.bool stp)) q (adS bs cur pen stp) := by
          refine HW.out.st.self (fun m la tv av uv pl hq => ?_) (((only_set _).trans (only_set _)).trans (only_set _)) rfl rfl rfl rfl rfl (Nat.zero_le _)
          rw [put12 4 _ (put12 3 _ (put12 2 _ hq))]
          rfl
        obtain ⟨F', hL⟩ := HW.out.turn hT
        have := HGd.out _ q F' hg hL
        rw [show (((wr.setCell ⟨q, 2, none⟩ (.string cur)).setCell ⟨q, 3, none⟩ (.string pen)).setCell ⟨q, 4, none⟩ (.bool stp)).heap.size = wr.heap.size by simp] at this
        exact this
      have HB1 : Hid (¬ Good bs cur pen → AdP w bs cur pen stp (.returned (.tuple #[.pointer none, .int .i64 1])) wr) := fun hg => HBad.out _ 1 hg (by decide) hbe
      have HGI : Hid (Good bs cur pen ↔ (noneOrTag cur = true ∧ noneOrTag pen = true)) := ⟨fun h => h.2.2, fun h => ⟨HOk.out, HNd.out, h⟩⟩
      clear htk hbe hse HW HOk HNd
      cases hc1 : noneOrTag cur with
      | false =>
        rw [hc1] at ht1
        have HQ : Hid (AdP w bs cur pen stp (.returned (.tuple #[.pointer none, .int .i64 1])) wr) := HB1.out (fun hg => by have := (HGI.out.1 hg).1; rw [hc1] at this; cases this)
        clear hc1
        go_wp2_with (go_at_call 45; refine ht1.mono ?_; rintro e w6 ⟨rfl, he6⟩; obtain rfl := he6.symm)
        go_ret2
        exact HQ.out
      | true =>
        rw [hc1] at ht1
        cases hc2 : noneOrTag pen with
        | false =>
          rw [hc2] at ht2
          have HQ : Hid (AdP w bs cur pen stp (.returned (.tuple #[.pointer none, .int .i64 1])) wr) := HB1.out (fun hg => by have := (HGI.out.1 hg).2; rw [hc2] at this; cases this)
          clear hc1 hc2
          go_wp2_with fail
          refine ht1.mono ?_
          rintro e w6 ⟨rfl, he6⟩
          obtain rfl := he6.symm
          go_wp2_with fail
          refine ht2.mono ?_
          rintro e w6 ⟨rfl, he6⟩
          obtain rfl := he6.symm
          go_wp2
          go_ret2
          exact HQ.out
        | true =>
          rw [hc2] at ht2
          have HQ : Hid _ := HT.out (HGI.out.2 ⟨hc1, hc2⟩)
          clear hc1 hc2
          go_wp2_with fail
          refine ht1.mono ?_
          rintro e w6 ⟨rfl, he6⟩
          obtain rfl := he6.symm
          go_wp2_with fail
          refine ht2.mono ?_
          rintro e w6 ⟨rfl, he6⟩
          obtain rfl := he6.symm
          go_wp2
          go_ret2
          exact HQ.out

end Go.Proofs.Ytdgokfehgjkalaa.Wd
