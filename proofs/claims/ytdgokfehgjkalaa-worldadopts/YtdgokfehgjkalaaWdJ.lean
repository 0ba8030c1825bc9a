import Derived.Test.YtdgokfehgjkalaaWdI
namespace Go.Proofs.Ytdgokfehgjkalaa.Wd
open Go.RowKit Go.Lib Go.Deep

set_option maxRecDepth 10000 in
set_option maxHeartbeats 1000000 in
theorem delete_any (w : World) (pb q : Nat) (F : List Nat) (S : Wst) (n : ByteArray) (B N : Nat) (h : Top w pb q) (hs : St w q F S) (hb : Bnd S B N) (hB : B ≤ 1580000000000) : Calls Try.prog 30 #[.pointer (some ⟨pb, 0, none⟩), .string n] w fun e w' => e = .returned (.int .i64 (getE S n)) ∧ Turn F w w' q (delS S n) := by
  have hf1 := nameFault_any n w
  obtain ⟨W0, hW0, hb0, h', hs', hr⟩ := laid1 w pb q F S (nameE n) h hs
  have c0 := h'.cell
  have HT0 : Turn F w W0 q S := hs.turn hb0
  by_cases he : getR S n = 0
  · have e1 : delS S n = endS (dropS (begS S) n) ⟨3, n, { data := #[] }, codeF S.f n, { data := #[] }, []⟩ := if_pos he
    have e3 : getE S n = codeF S.f n := if_pos he
    have hnl := name_le he
    rw [e1, e3]
    unfold getR at he
    rw [he] at hr
    have HC : Hid (∀ W S', Turn F w W q S' → W.cell? ⟨pb, 0, none⟩ = some (.pointer (some ⟨q, 0, none⟩))) := fun W S' hT => Turn.cell h hs hT
    have H1 := HT0.call (S' := begS S) (fun F' hF' => begin_any W0 q F' S hF' (by have := hb.tr; omega) (by have := hb.ah; omega))
    have H2 : Hid (∀ W, Turn F w W q (begS S) → Calls Try.prog 35 #[.pointer (some ⟨q, 0, none⟩), .string n] W fun e w' => e = .returned (.tuple #[.agg #[.string (objN S.f n), .string (objB S.f n)], .bool (S.f (ky n)).isSome]) ∧ Turn F w w' q (begS S)) := fun W hT => hT.look (fun F' hF' => object_any W q F' (begS S) n hnl hF')
    have H3 : Hid (∀ W, Turn F w W q (begS S) → Calls Try.prog 60 #[.pointer (some ⟨q, 0, none⟩), .string n] W fun e w' => e = .returned (.tuple #[]) ∧ Turn F w w' q (dropS (begS S) n)) := fun W hT => hT.call (fun F' hF' => drop_any W q F' (begS S) n hnl hF')
    have H4 : Hid (∀ W, Turn F w W q (dropS (begS S) n) → Calls Try.prog 50 #[.pointer (some ⟨q, 0, none⟩), .agg #[.int .i64 3, .string n, .string { data := #[] }, .int .i64 (codeF S.f n), .string { data := #[] }, .slice none 0 0]] W fun e w' => e = .returned (.tuple #[]) ∧ Turn F w w' q (endS (dropS (begS S) n) ⟨3, n, { data := #[] }, codeF S.f n, { data := #[] }, []⟩)) := fun W hT => hT.call (fun F' hF' => end_any W q F' _ ⟨3, n, { data := #[] }, codeF S.f n, { data := #[] }, []⟩ none 0 0 hF' (by have := hb.tr; have : (dropS (begS S) n).tr = S.tr := rfl; rw [this]; omega) (nil9 W))
    generalize nameE n = ne at *
    generalize objN S.f n = on at *
    generalize objB S.f n = ob at *
    unfold codeF at *
    generalize hth : (S.f (ky n)).isSome = th at *
    clear hth e1 e3 he hs h h' hs' hb0 hnl HT0 hb
    cases th
    all_goals
      simp only [Bool.false_eq_true, if_true, if_false] at *
      go_enter Try.func30, Try.ntmps30
      go_wp2_with fail
      refine hf1.mono ?_
      rintro e w' ⟨rfl, rfl⟩
      go_wp2_with fail
      refine hr.mono ?_
      rintro e w' ⟨rfl, rfl⟩
      go_wp2_with fail
      refine H1.mono ?_
      rintro e w1 ⟨rfl, hT1⟩
      have d1 := HC.out _ _ hT1
      have hc2 := H2.out _ hT1
      clear hT1 c0 H1
      go_wp2_with fail
      refine hc2.mono ?_
      rintro e w2 ⟨rfl, hT2⟩
      have d2 := HC.out _ _ (hT2.alloc (.cells #[.string on, .string ob] 56))
      have hc3 := H3.out _ (hT2.alloc (.cells #[.string on, .string ob] 56))
      clear hT2 d1 hc2
      go_wp2_with fail
      refine hc3.mono ?_
      rintro e w3 ⟨rfl, hT3⟩
      have d3 := HC.out _ _ hT3
      have hc4 := H4.out _ hT3
      clear hT3 d2 hc3
      go_wp2_with fail
      refine hc4.mono ?_
      rintro e w4 ⟨rfl, hT4⟩
      clear d3 hc4
      go_wp2
      go_ret
      exact ⟨rfl, hT4⟩
  · have e1 : delS S n = S := if_neg he
    have e3 : getE S n = getR S n := if_neg he
    rw [e1, e3]
    unfold getR at he ⊢
    have hne : (refE S [nameE n] != 0) = true := by simpa using he
    generalize refE S [nameE n] = re at *
    generalize nameE n = ne at *
    clear e1 e3 he hs h h' hs' hb0 hb
    go_enter Try.func30, Try.ntmps30
    go_wp2_with fail
    refine hf1.mono ?_
    rintro e w' ⟨rfl, rfl⟩
    go_wp2_with fail
    refine hr.mono ?_
    rintro e w' ⟨rfl, rfl⟩
    go_wp2
    go_ret
    exact ⟨rfl, HT0⟩

theorem bdN (w : World) (n : Nat) : Below w.heap.size w (w.drewN n) := ⟨rfl, rfl, rfl, Nat.le_refl _, fun _ _ => rfl⟩
theorem grown_below {W W' : World} {v : Value} {B e size n : Nat} {xs : List Value} (hg : W.grownBy W' v.ownBlock) (hB : B ≤ W.heap.size) (ho : W.ownsRow B e size v n xs) : Below B W W' :=
  ⟨hg.os, hg.tape, hg.output, hg.size, fun k hk => hg.block k (Nat.lt_of_lt_of_le hk hB) (fun e => by
    have := (World.ownsRow.lt ho k e.symm).1
    omega)⟩
set_option maxRecDepth 20000 in
set_option maxHeartbeats 1000000 in
theorem cloneS_any (w : World) (v : Value) (ks : List (List UInt8)) (hn : ks.length ≤ 8796093022207) (h3 : w.ownsRow 0 9 1 v ks.length (ks.map encStr)) :
    Calls Try.prog 47 #[v] w fun e w' => ∃ a c, e = .returned (.slice a ks.length c) ∧ w'.ownsRow w.heap.size 9 1 (.slice a ks.length c) ks.length (ks.map encStr) ∧ Below w.heap.size w w' := by
  have hq : ∀ (w : World) (a : Option Addr) (n c n' c' : Nat), (binOp .eql 50 (.slice a n c) (.slice none n' c')).run Try.prog w = .ok (.bool a.isNone) w := fun w a n c n' c' => Lib.run_eql_slice_nil w _ _ a n c n' c' Try.underlying50
  rcases h3.2 with ⟨h1, h2⟩ | ⟨g, cap, cur, h1, h2, h4, h5, h6, h7, h8⟩
  · subst h1
    have hR : ks = [] := List.eq_nil_of_length_eq_zero h2
    subst hR
    clear h3
    go_enter Try.func47, Try.ntmps47
    go_wp2
    go_ret
    exact ⟨_, _, rfl, ⟨rfl, .inl ⟨rfl, rfl⟩⟩, Below.refl _ _⟩
  · subst h1
    obtain ⟨i0, hi, hz0, hz1, hz2⟩ := info_parts info9
    obtain ⟨W1, hW1⟩ : ∃ W, w.alloc (.cells #[] 9) = W := ⟨_, rfl⟩
    have hb1 : Below w.heap.size w W1 := by rw [← hW1]; exact (Below.refl _ _).alloc (Nat.le_refl _) _
    have HO : Hid (W1.ownsRow w.heap.size 9 1 (.slice (some ⟨w.heap.size, 0, none⟩) 0 0) 0 []) := ⟨rfl, .inr ⟨w.heap.size, 0, #[], rfl, Nat.le_refl _, by rw [← hW1]; exact heap_new _ _, Nat.le_refl _, Nat.zero_le _, rfl, rfl⟩⟩
    have HC : Hid (∀ j u, (ks.map encStr)[j]? = some u → W1.cell? ((⟨g, 0, none⟩ : Addr).add j) = some u) := fun j u hu => by
      have hj := (List.getElem?_eq_some_iff.1 hu).1
      rw [List.length_map] at hj
      rw [← h8, List.getElem?_take, if_pos (by omega), Array.getElem?_toList] at hu
      rw [Addr.add_lit, Nat.zero_add, hb1.cell (p := ⟨g, j, none⟩) (heap_lt h4), cell_of_heap h4]
      exact hu
    have HL : Hid ((ks.map encStr).length = ks.length * 1 ∧ ∀ u ∈ ks.map encStr, u.oneCell' = true) := ⟨by simp, fun u hu => by
      obtain ⟨r, _, rfl⟩ := List.mem_map.1 hu
      rfl⟩
    have hz : 0 + ks.length ≤ maxLen ∧ (0 + ks.length) * 16 ≤ 140737488355328 ∧ w.heap.size ≤ W1.heap.size := ⟨by unfold maxLen; omega, by omega, hb1.size⟩
    generalize ks.length = n at *
    clear h3 h2 h4 h5 h6 h7 h8
    go_enter Try.func47, Try.ntmps47
    go_wp2_with (first | (at_builtin; (try rw [hW1]); refine wpList_append_own _ rfl _ _ 50 rfl w.heap.size 9 i0 _ 1 16 Try.underlying50 hi hz0 hz1 hz2 rfl (by decide) _ _ _ rfl HO.out _ _ _ _ rfl HL.out.1 HC.out HL.out.2 hz.1 hz.2.1 hz.2.2 ?_; intro v' w2 hown hgrow _) | go_in)
    rw [Nat.zero_add, List.nil_append] at hown
    obtain ⟨a, c, rfl⟩ := own_len hown
    go_ret
    exact ⟨a, c, rfl, hown, hb1.trans (grown_below hgrow hz.2.2 HO.out)⟩

set_option maxRecDepth 10000 in
set_option maxHeartbeats 1000000 in
theorem list_any (w : World) (pb q : Nat) (F : List Nat) (S : Wst) (B N : Nat) (h : Top w pb q) (hs : St w q F S) (hb : Bnd S B N) (hB : B ≤ 1580000000000) (hN : N ≤ 4398046511000) : Calls Try.prog 24 #[.pointer (some ⟨pb, 0, none⟩)] w fun e w' => ∃ a n c, e = .returned (.tuple #[.slice a n c, .int .i64 (refE S [])]) ∧ (S.off = true → n = 0) ∧ (S.off = false → n = (keysL S.f).length ∧ Rises (keysL S.f) S.f ∧ (keysL S.f).length ≤ S.nn ∧ w'.ownsRow w.heap.size 9 1 (.slice a n c) n ((keysL S.f).map encStr)) ∧ Turn F w w' q (listS S) := by
  have hr := refusal0_any w pb q F S h hs
  have c0 := h.cell
  have HT0 : Turn F w w q S := hs.turn (Below.refl _ _)
  cases hoff : S.off with
  | true =>
    rw [refE_off hoff] at hr ⊢
    have e2 : listS S = S := if_pos hoff
    rw [e2]
    clear e2 hoff hs h hb
    go_enter Try.func24, Try.ntmps24
    go_wp2_with fail
    refine hr.mono ?_
    rintro e w' ⟨rfl, rfl⟩
    go_wp2
    go_ret2
    exact ⟨_, _, _, rfl, fun _ => rfl, fun h => by (cases h), HT0⟩
  | false =>
    rw [refE_on0 hoff] at hr ⊢
    have e2 : listS S = endS (begS S) ⟨4, { data := #[] }, { data := #[] }, 0, { data := #[] }, keysL S.f⟩ := if_neg (by rw [hoff]; decide)
    rw [e2]
    have HC : Hid (∀ W S', Turn F w W q S' → W.cell? ⟨pb, 0, none⟩ = some (.pointer (some ⟨q, 0, none⟩))) := fun W S' hT => Turn.cell h hs hT
    have H1 := HT0.call (S' := begS S) (fun F' hF' => begin_any w q F' S hF' (by have := hb.tr; omega) (by have := hb.ah; omega))
    have H2 : Hid (∀ W, Turn F w W q (begS S) → Calls Try.prog 34 #[.pointer (some ⟨q, 0, none⟩)] W fun e w' => ∃ a c, e = .returned (.slice a (keysL S.f).length c) ∧ Rises (keysL S.f) S.f ∧ (keysL S.f).length ≤ S.nn ∧ w'.ownsRow w.heap.size 9 1 (.slice a (keysL S.f).length c) (keysL S.f).length ((keysL S.f).map encStr) ∧ Turn F w w' q (begS S)) := fun W hT => by
      obtain ⟨h1, F2, h2, h3⟩ := id hT
      refine (names_any W q F2 (begS S) h2 (by have := hb.nn; have : (begS S).nn = S.nn := rfl; omega)).mono ?_
      rintro e w' ⟨v, ks, rfl, hR, hl, ho, hbl⟩
      have hks : keysL S.f = ks := keysL_eq hR
      obtain ⟨a, c, rfl⟩ := own_len ho
      rw [hks]
      refine ⟨a, c, rfl, hR, hl, ⟨ho.1, ?_⟩, hT.below hbl⟩
      rcases ho.2 with q | ⟨g, cap, cur, e1, e2, e3⟩
      · exact .inl q
      · exact .inr ⟨g, cap, cur, e1, Nat.le_trans h1.size e2, e3⟩
    have H3 : Hid (∀ W a c, Turn F w W q (begS S) → (keysL S.f).length ≤ S.nn → W.ownsRow w.heap.size 9 1 (.slice a (keysL S.f).length c) (keysL S.f).length ((keysL S.f).map encStr) → Calls Try.prog 47 #[.slice a (keysL S.f).length c] W fun e w' => ∃ a' c', e = .returned (.slice a' (keysL S.f).length c') ∧ w'.ownsRow w.heap.size 9 1 (.slice a (keysL S.f).length c) (keysL S.f).length ((keysL S.f).map encStr) ∧ w'.ownsRow 0 9 1 (.slice a' (keysL S.f).length c') (keysL S.f).length ((keysL S.f).map encStr) ∧ Turn F w w' q (begS S)) := fun W a c hT hl ho => by
      have ho0 : W.ownsRow 0 9 1 (.slice a (keysL S.f).length c) (keysL S.f).length ((keysL S.f).map encStr) := ⟨ho.1, by
        rcases ho.2 with q | ⟨g, cap, cur, e1, e2, e3⟩
        · exact .inl q
        · exact .inr ⟨g, cap, cur, e1, Nat.zero_le _, e3⟩⟩
      refine (cloneS_any W _ (keysL S.f) (by have := hb.nn; omega) ho0).mono ?_
      rintro e w' ⟨a', c', rfl, hO, hbl⟩
      refine ⟨a', c', rfl, owns_keep ho (fun g hg => hbl.block g (World.ownsRow.lt ho g hg).2), ⟨hO.1, ?_⟩, hT.below hbl⟩
      rcases hO.2 with q | ⟨g, cap, cur, e1, e2, e3⟩
      · exact .inl q
      · exact .inr ⟨g, cap, cur, e1, Nat.zero_le _, e3⟩
    have H4 : Hid (∀ W a c a' c', Turn F w W q (begS S) → W.ownsRow w.heap.size 9 1 (.slice a (keysL S.f).length c) (keysL S.f).length ((keysL S.f).map encStr) → W.ownsRow 0 9 1 (.slice a' (keysL S.f).length c') (keysL S.f).length ((keysL S.f).map encStr) → Calls Try.prog 50 #[.pointer (some ⟨q, 0, none⟩), .agg #[.int .i64 4, .string { data := #[] }, .string { data := #[] }, .int .i64 0, .string { data := #[] }, .slice a' (keysL S.f).length c']] W fun e w' => e = .returned (.tuple #[]) ∧ w'.ownsRow w.heap.size 9 1 (.slice a (keysL S.f).length c) (keysL S.f).length ((keysL S.f).map encStr) ∧ Turn F w w' q (endS (begS S) ⟨4, { data := #[] }, { data := #[] }, 0, { data := #[] }, keysL S.f⟩)) := fun W a c a' c' hT ho hO => by
      obtain ⟨h1, F2, h2, h3⟩ := id hT
      refine (end_any W q F2 (begS S) ⟨4, { data := #[] }, { data := #[] }, 0, { data := #[] }, keysL S.f⟩ a' _ c' h2 (by have := hb.tr; have : (begS S).tr = S.tr := rfl; rw [this]; omega) hO).mono ?_
      rintro e w' ⟨rfl, hT2⟩
      refine ⟨rfl, owns_keep ho (fun g hg => ?_), turn_trans h1 h3 hT2⟩
      obtain ⟨cu, hcu⟩ := owns_block ho hg
      exact hT2.1.block g (heap_lt hcu) (h2.notin hcu (by decide))
    generalize keysL S.f = ks at *
    clear e2 hoff hs h hb HT0
    go_enter Try.func24, Try.ntmps24
    go_wp2_with fail
    refine hr.mono ?_
    rintro e w' ⟨rfl, rfl⟩
    go_wp2_with fail
    refine H1.mono ?_
    rintro e w1 ⟨rfl, hT1⟩
    have d1 := HC.out _ _ hT1
    have hc2 := H2.out _ hT1
    clear hT1 c0 H1
    go_wp2_with fail
    refine hc2.mono ?_
    rintro e w2 ⟨a, c, rfl, hR, hl, ho, hT2⟩
    have d2 := HC.out _ _ hT2
    have HCl : Hid (∀ W, Below w2.heap.size w2 W → Calls Try.prog 47 #[.slice a ks.length c] W fun e w' => ∃ a' c', e = .returned (.slice a' ks.length c') ∧ _ ∧ _ ∧ _) := fun W hbl => H3.out W a c (hT2.below hbl) hl (owns_keep ho (fun g hg => hbl.block g (World.ownsRow.lt ho g hg).2))
    have HK : Hid (∀ W, Below w2.heap.size w2 W → W.cell? ⟨pb, 0, none⟩ = some (.pointer (some ⟨q, 0, none⟩))) := fun W hbl => HC.out _ _ (hT2.below hbl)
    have HR : Hid (Rises ks S.f ∧ ks.length ≤ S.nn) := ⟨hR, hl⟩
    have HH4 : Hid (∀ W a' c', Turn F w' W q (begS S) → W.ownsRow w'.heap.size 9 1 (.slice a ks.length c) ks.length (ks.map encStr) → W.ownsRow 0 9 1 (.slice a' ks.length c') ks.length (ks.map encStr) → _) := fun W a' c' => H4.out W a c a' c'
    generalize hnk : ks.length = nk at *
    have HNK : Hid (ks.length = nk) := hnk
    clear hT2 d1 hc2 hR hl ho H4 H3 H2 hnk
    go_wp2_with fail
    go_region_held_law (fun W => W.cell? ⟨pb, 0, none⟩ = some (.pointer (some ⟨q, 0, none⟩))) (first | exact HK.out _ (bdN _ _) | exact d3 | exact d4 | go_keep) (first | (go_at_call 47; refine (HCl.out _ (bdN _ _)).mono ?_; rintro e w3 ⟨a', c', rfl, ho3, hO3, hT3⟩; have d3 := HC.out _ _ hT3; have hc4 := HH4.out _ a' c' hT3 ho3 hO3; clear ho3 hO3 hT3) | (go_at_call 50; refine hc4.mono ?_; rintro e w4 ⟨rfl, ho4, hT4⟩; have d4 := HC.out _ _ hT4))
    all_goals
      have HO4 : Hid _ := ho4
      clear ho4 d4 d3 hc4
      go_wp2
      go_ret2
      exact ⟨_, _, _, rfl, fun h => by (cases h), fun _ => ⟨HNK.out.symm, HR.out.1, by rw [HNK.out]; exact HR.out.2, HO4.out⟩, hT4⟩

end Go.Proofs.Ytdgokfehgjkalaa.Wd
