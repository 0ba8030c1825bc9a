import Derived.Test.YtbjiamaaocjbfaaDoorR7F
import Derived.Test.YtbjiamaaocjbfaaDoorRfM2
namespace Go.Proofs.YtbjiamaaocjbfaaDoor.Kr
open Go.RowKit Go.Lib Go.Deep

theorem whole_eq (id : List UInt8) (ss : List Slot) (sum : List UInt8) : textL id ss ++ (kSum ++ [32]) ++ hexL sum ++ [10] = wholeL id ss sum := by
  simp [wholeL, sumLine, unwords]
/-- nothing of a text of the form is longer than it -/
theorem form_sizes {t id : List UInt8} {ss : List Slot} {sum : List UInt8} (h : Form t id ss sum) : 2 * id.length ≤ t.length ∧ (∀ s ∈ ss, 2 * s.salt.length ≤ t.length ∧ 2 * s.wrapped.length ≤ t.length) ∧ (textL id ss).length ≤ t.length ∧ 2 * sum.length ≤ t.length := by
  obtain ⟨_, _, h1, _, h4, h5, _⟩ := form_parts h
  refine ⟨?_, fun s hs => ?_, ?_, ?_⟩
  · have := lines_short t _ (List.mem_of_getElem? h1)
    simp [idLine, unwords, kId, hexL_length] at this
    omega
  · obtain ⟨i, hi⟩ := List.getElem?_of_mem hs
    have := lines_short t _ (List.mem_of_getElem? (h4 i s hi))
    simp [slotLine, unwords, kSlot, hexL_length] at this
    omega
  · have := congrArg List.length h.1
    rw [wholeL, List.length_append] at this
    omega
  · have := lines_short t _ (List.mem_of_getElem? h5)
    simp [sumLine, unwords, kSum, hexL_length] at this
    omega
set_option maxRecDepth 20000 in
set_option maxHeartbeats 1000000 in
theorem rprint_any (id : List UInt8) (v : Value) (ss : List Slot) (w : World) (hS : SeeS w v ss) (hid : id.length ≤ 9223372036854775807) (hn : ss.length ≤ 9223372036854775807) (hI : ITab w) (hT : RTabs w) (h4 : 8 ≤ w.heap.size) :
    Calls Tryd.prog 6 #[.agg #[.string (str id), v]] w fun e w' => e = .returned (.tuple #[.string (str (printY id ss)), .int .i64 (printE id ss)]) ∧ Below w.heap.size w w' := by
  have hb0 : Below w.heap.size w (w.alloc (.cells #[.string (str id), v] 24)) := (Below.refl _ _).alloc (Nat.le_refl _) _
  have hA0 : (w.alloc (.cells #[.string (str id), v] 24)).heap[w.heap.size]? = some (.cells #[.string (str id), v] 24 (0, 0)) := heap_new _ _
  have hrt := rright_any id v ss _ (hS.below hb0) hid hn
  obtain ⟨a, b, off, cap, rfl, _⟩ := hS.ex
  unfold printY printE
  cases hr : rightR id ss with
  | false =>
    rw [hr] at hrt
    rw [if_neg (by decide), if_neg (by decide)]
    generalize str id = yi at *
    go_enter Tryd.func6, Tryd.ntmps6
    go_wp2_with fail
    refine hrt.mono ?_
    rintro e w1 ⟨rfl, hb1⟩
    have hb := hb0.trans (hb1.mono (by simp))
    go_wp2
    go_ret2
    exact ⟨rfl, hb⟩
  | true =>
    rw [hr] at hrt
    rw [if_pos rfl, if_pos rfl]
    obtain ⟨z1, z2, z3, z4⟩ := right_sizes hr
    have htl := textL_le hr
    have htx := fun W (hb : Below w.heap.size w W) => rtext_any id (.slice a ss.length cap) ss W (hS.below hb) (right_fits hr) (by omega) (fun s hs => by have := z4 s hs; omega) (hI.below hb (by omega)) (by have := hb.size; omega)
    have hsm := fun W (hb : Below w.heap.size w W) => rsum_any (str (textL id ss)) (by rw [str_size]; omega) W (hT.below hb (by omega)) (by have := hb.size; omega)
    rw [str_data] at hsm
    have hhx := fun W => refHex_any (str (shaL (textL id ss))) W (by rw [str_size, shaL_length]; omega)
    have HF : Hid (str (textL id ss) ++ { data := #[115, 117, 109, 32] } ++ hexS (str (shaL (textL id ss))) ++ { data := #[10] } = str (printL id ss)) := by
      show _ = _
      unfold printL hexS
      rw [str_data, ← whole_eq, show ({ data := #[115, 117, 109, 32] } : ByteArray) = str (kSum ++ [32]) from rfl, show ({ data := #[10] } : ByteArray) = str [10] from rfl]
      simp only [strs_append]
    have hz1 : (str (textL id ss)).size ≤ 4096 := by rw [str_size]; exact htl
    have hz2 : (hexS (str (shaL (textL id ss)))).size = 64 := by unfold hexS; rw [str_size, hexL_length, str_data, shaL_length]
    rw [← HF.out]
    clear HF hT hI hS z1 z2 z3 z4 htl hr
    generalize hexS (str (shaL (textL id ss))) = yx at *
    generalize str (shaL (textL id ss)) = ys at *
    generalize str (textL id ss) = yt at *
    generalize str id = yi at *
    generalize ss.length = sn at *
    go_enter Tryd.func6, Tryd.ntmps6
    go_wp2_with fail
    refine hrt.mono ?_
    rintro e w1 ⟨rfl, hb1'⟩
    have hA1 := (hb1'.block _ (by simp)).trans hA0
    have hb1 := hb0.trans (hb1'.mono (by simp))
    have c0 : w1.cell? ⟨w.heap.size, 0, none⟩ = some (.string yi) := (cell_of_heap hA1).trans rfl
    have c1 : w1.cell? ⟨w.heap.size, 1, none⟩ = some (.slice a sn cap) := (cell_of_heap hA1).trans rfl
    clear hrt hb1' hA0 hb0 hA1
    go_wp2_with fail
    refine (htx w1 hb1).mono ?_
    rintro e w2 ⟨rfl, hb2'⟩
    have hb2 := hb1.trans (hb2'.mono hb1.size)
    clear c0 c1 htx hb2' hb1
    go_wp2_with fail
    refine (hsm w2 hb2).mono ?_
    rintro e w3 ⟨rfl, hb3'⟩
    have hb3 := hb2.trans (hb3'.mono hb2.size)
    clear hsm hb3' hb2
    go_wp2_with fail
    refine (hhx w3).mono ?_
    rintro e w4 ⟨rfl, hb4'⟩
    have hb4 := hb3.trans (hb4'.mono hb3.size)
    clear hhx hb4' hb3
    go_wp2
    go_ret2
    exact ⟨rfl, hb4⟩

theorem own_down {W w : World} {B : Nat} {y0 y1 v : Value} {ss : List Slot} (h : OwnS W (B + 1) v ss) (_hw : w.heap.size = B) : OwnS ((W.setCell ⟨B, 0, none⟩ y0).setCell ⟨B, 1, none⟩ y1) B v ss :=
  owns_mono (owns_set (owns_set h (by show B < B + 1; omega)) (by show B < B + 1; omega)) (by omega)

def ParsePost (t : List UInt8) (w : World) (e : Ending) (w' : World) : Prop :=
  (∃ v, e = .returned (.tuple #[.agg #[.string (str (parseI t)), v], .int .i64 (parseE t)]) ∧ OwnS w' w.heap.size v (parseS t)) ∧ Below w.heap.size w w'

set_option maxRecDepth 20000 in
set_option maxHeartbeats 2000000 in
theorem rparse_any (t : ByteArray) (hs : t.size ≤ 4194304) (w : World) (hI : ITab w) (hT : RTabs w) (h4 : 8 ≤ w.heap.size) :
    Calls Tryd.prog 26 #[.string t] w (ParsePost t.data.toList w) := by
  have hrd := rread_any t hs (w.alloc (.cells #[.string { data := #[] }, .slice none 0 0] 24))
  have hb0 : Below w.heap.size w (w.alloc (.cells #[.string { data := #[] }, .slice none 0 0] 24)) := (Below.refl _ _).alloc (Nat.le_refl _) _
  have hA0 : (w.alloc (.cells #[.string { data := #[] }, .slice none 0 0] 24)).heap[w.heap.size]? = some (.cells #[.string { data := #[] }, .slice none 0 0] 24 (0, 0)) := heap_new _ _
  have HP : Hid (∀ e w', ParsePost t.data.toList w e w' ↔ (∃ v, e = .returned (.tuple #[.agg #[.string (str (parseI t.data.toList)), v], .int .i64 (parseE t.data.toList)]) ∧ OwnS w' w.heap.size v (parseS t.data.toList)) ∧ Below w.heap.size w w') := fun e w' => Iff.rfl
  by_cases hex : ∃ id ss sum, Form t.data.toList id ss sum
  · obtain ⟨id, ss, sum, hf⟩ := hex
    obtain ⟨z1, z2, z3, z4⟩ := form_sizes hf
    have hl : t.data.toList.length = t.size := (size_eq t).symm
    rw [hl] at z1 z2 z3 z4
    have htx := fun W v (hb : Below w.heap.size w W) (hS : SeeS W v ss) => rtext_any id v ss W hS hf.2 (by omega) (fun s hs => by have := z2 s hs; omega) (hI.below hb (by omega)) (by have := hb.size; omega)
    have hsm := fun W (hb : Below w.heap.size w W) => rsum_any (str (textL id ss)) (by rw [str_size]; omega) W (hT.below hb (by omega)) (by have := hb.size; omega)
    rw [str_data] at hsm
    have hrt := fun W v (hS : SeeS W v ss) => rright_any id v ss W hS (by omega) (by have := hf.2.n; omega)
    have HOne : Hid (∀ id' ss' sum', Form t.data.toList id' ss' sum' → id' = id ∧ ss' = ss ∧ sum' = sum) := fun id' ss' sum' h => form_one h hf
    clear z1 z2 z3 z4 hl
    by_cases hq : sum = shaL (textL id ss)
    · have heq : (str sum).toList = (str (shaL (textL id ss))).toList := by rw [hq]
      cases hr : rightR id ss with
      | true =>
        obtain ⟨p1, p2, p3⟩ := parse_yes hf hq hr
        rw [p1, p2, p3] at HP
        rw [hr] at hrt
        clear hq hr p1 p2 p3
        go_enter Tryd.func26, Tryd.ntmps26
        go_wp2_with fail
        refine hrd.mono ?_
        rintro e w1 ⟨⟨id', ss', sum', v, hf', rfl, hown⟩ | ⟨hnf', xa, xb, xn, xc, xd, rfl⟩, hb1'⟩
        · obtain ⟨rfl, rfl, rfl⟩ := HOne.out _ _ _ hf'
          have hb1 := hb0.trans (hb1'.mono (by simp))
          have hA1 := (hb1'.block _ (by simp)).trans hA0
          have hown := owns_mono hown (show w.heap.size + 1 ≤ _ by simp)
          obtain ⟨av, cv, rfl⟩ := owns_len hown
          have hb2 := hb1.alloc hb1.size (.cells #[.string (str id'), .slice av ss'.length cv] 24)
          have hA2 := (Below.heap_alloc w1 (.cells #[.string (str id'), .slice av ss'.length cv] 24) _ (heap_lt hA1)).trans hA1
          have hB2 : (w1.alloc (.cells #[.string (str id'), .slice av ss'.length cv] 24)).heap[w1.heap.size]? = some (.cells #[.string (str id'), .slice av ss'.length cv] 24 (0, 0)) := heap_new _ _
          have hO2 : OwnS (w1.alloc (.cells #[.string (str id'), .slice av ss'.length cv] 24)) (w.heap.size + 1) (.slice av ss'.length cv) ss' := World.ownsRow.alloc hown (.cells #[.string (str id'), .slice av ss'.length cv] 24)
          clear hown hA1 hb1 hb1' hb0 hA0
          generalize hsn : ss'.length = sn at htx hrt hb2 hA2 hB2 hO2 ⊢
          clear hsn
          generalize str (shaL (textL id' ss')) = ys at *
          generalize str (textL id' ss') = yt at *
          generalize hyi : str id' = yi at *
          generalize str sum' = ym at *
          have ht := htx _ _ hb2 (SeeS.of_own hO2)
          go_wp2_with fail
          refine (ht).mono ?_
          rintro e w3 ⟨rfl, hb3'⟩
          have hb3 := hb2.trans (hb3'.mono hb2.size)
          have hA3 := (hb3'.block _ (heap_lt hA2)).trans hA2
          have hB3 := (hb3'.block _ (heap_lt hB2)).trans hB2
          have hO3 := OwnS.below hO2 hb3'
          clear hb3' hb2 hA2 hB2 hO2
          go_wp2_with fail
          refine (hsm w3 hb3).mono ?_
          rintro e w4 ⟨rfl, hb4'⟩
          have hb4 := hb3.trans (hb4'.mono hb3.size)
          have hA4 := (hb4'.block _ (heap_lt hA3)).trans hA3
          have hB4 := (hb4'.block _ (heap_lt hB3)).trans hB3
          have hO4 := OwnS.below hO3 hb4'
          clear hb4' hb3 hA3 hB3 hO3
          have r0 : w4.cell? ⟨w1.heap.size, 0, none⟩ = some (.string yi) := (cell_of_heap hB4).trans rfl
          have r1 : w4.cell? ⟨w1.heap.size, 1, none⟩ = some (.slice av sn cv) := (cell_of_heap hB4).trans rfl
          have hr4 := hrt w4 _ (SeeS.of_own hO4)
          go_wp2_with fail
          refine (hr4).mono ?_
          rintro e w5 ⟨rfl, hb5'⟩
          have hb5 := hb4.trans (hb5'.mono hb4.size)
          have hA5 := (hb5'.block _ (heap_lt hA4)).trans hA4
          have hB5 := (hb5'.block _ (heap_lt hB4)).trans hB4
          have hO5 := OwnS.below hO4 hb5'
          clear r0 r1 hb5' hb4 hA4 hB4 hO4
          have r0 : w5.cell? ⟨w1.heap.size, 0, none⟩ = some (.string yi) := (cell_of_heap hB5).trans rfl
          have r1 : w5.cell? ⟨w1.heap.size, 1, none⟩ = some (.slice av sn cv) := (cell_of_heap hB5).trans rfl
          have q0 : w5.cell? ⟨w.heap.size, 0, none⟩ = some (.string { data := #[] }) := (cell_of_heap hA5).trans rfl
          have q1 : w5.cell? ⟨w.heap.size, 1, none⟩ = some (.slice none 0 0) := (cell_of_heap hA5).trans rfl
          have f0 : w5.frozen? ⟨w.heap.size, 0, none⟩ = false := frozen_of_heap hA5
          have f1 : w5.frozen? ⟨w.heap.size, 1, none⟩ = false := frozen_of_heap hA5
          go_wp2
          refine bodyPost_ret (results_cell_tmp rfl _ _ w.heap.size 24 _ (0, 0) _ rfl (put2 hA5) Tryd.underlying24 rfl sizeRing) rfl ?_
          exact (HP.out _ _).2 ⟨⟨_, rfl, own_down hO5 rfl⟩, (hb5.setCell (Nat.le_refl _) _).setCell (Nat.le_refl _) _⟩
        · exact absurd hf (hnf' _ _ _)
      | false =>
        obtain ⟨p1, p2, p3⟩ := parse_field hf hq hr
        rw [p1, p2, p3] at HP
        rw [hr] at hrt
        clear hq hr p1 p2 p3
        go_enter Tryd.func26, Tryd.ntmps26
        go_wp2_with fail
        refine hrd.mono ?_
        rintro e w1 ⟨⟨id', ss', sum', v, hf', rfl, hown⟩ | ⟨hnf', xa, xb, xn, xc, xd, rfl⟩, hb1'⟩
        · obtain ⟨rfl, rfl, rfl⟩ := HOne.out _ _ _ hf'
          have hb1 := hb0.trans (hb1'.mono (by simp))
          have hA1 := (hb1'.block _ (by simp)).trans hA0
          have hown := owns_mono hown (show w.heap.size + 1 ≤ _ by simp)
          obtain ⟨av, cv, rfl⟩ := owns_len hown
          have hb2 := hb1.alloc hb1.size (.cells #[.string (str id'), .slice av ss'.length cv] 24)
          have hA2 := (Below.heap_alloc w1 (.cells #[.string (str id'), .slice av ss'.length cv] 24) _ (heap_lt hA1)).trans hA1
          have hB2 : (w1.alloc (.cells #[.string (str id'), .slice av ss'.length cv] 24)).heap[w1.heap.size]? = some (.cells #[.string (str id'), .slice av ss'.length cv] 24 (0, 0)) := heap_new _ _
          have hO2 : OwnS (w1.alloc (.cells #[.string (str id'), .slice av ss'.length cv] 24)) (w.heap.size + 1) (.slice av ss'.length cv) ss' := World.ownsRow.alloc hown (.cells #[.string (str id'), .slice av ss'.length cv] 24)
          clear hown hA1 hb1 hb1' hb0 hA0
          generalize hsn : ss'.length = sn at htx hrt hb2 hA2 hB2 hO2 ⊢
          clear hsn
          generalize str (shaL (textL id' ss')) = ys at *
          generalize str (textL id' ss') = yt at *
          generalize hyi : str id' = yi at *
          generalize str sum' = ym at *
          have ht := htx _ _ hb2 (SeeS.of_own hO2)
          go_wp2_with fail
          refine (ht).mono ?_
          rintro e w3 ⟨rfl, hb3'⟩
          have hb3 := hb2.trans (hb3'.mono hb2.size)
          have hA3 := (hb3'.block _ (heap_lt hA2)).trans hA2
          have hB3 := (hb3'.block _ (heap_lt hB2)).trans hB2
          have hO3 := OwnS.below hO2 hb3'
          clear hb3' hb2 hA2 hB2 hO2
          go_wp2_with fail
          refine (hsm w3 hb3).mono ?_
          rintro e w4 ⟨rfl, hb4'⟩
          have hb4 := hb3.trans (hb4'.mono hb3.size)
          have hA4 := (hb4'.block _ (heap_lt hA3)).trans hA3
          have hB4 := (hb4'.block _ (heap_lt hB3)).trans hB3
          have hO4 := OwnS.below hO3 hb4'
          clear hb4' hb3 hA3 hB3 hO3
          have r0 : w4.cell? ⟨w1.heap.size, 0, none⟩ = some (.string yi) := (cell_of_heap hB4).trans rfl
          have r1 : w4.cell? ⟨w1.heap.size, 1, none⟩ = some (.slice av sn cv) := (cell_of_heap hB4).trans rfl
          have hr4 := hrt w4 _ (SeeS.of_own hO4)
          go_wp2_with fail
          refine (hr4).mono ?_
          rintro e w5 ⟨rfl, hb5'⟩
          have hb5 := hb4.trans (hb5'.mono hb4.size)
          have hA5 := (hb5'.block _ (heap_lt hA4)).trans hA4
          have hB5 := (hb5'.block _ (heap_lt hB4)).trans hB4
          have hO5 := OwnS.below hO4 hb5'
          clear r0 r1 hb5' hb4 hA4 hB4 hO4
          have q0 : w5.cell? ⟨w.heap.size, 0, none⟩ = some (.string { data := #[] }) := (cell_of_heap hA5).trans rfl
          have q1 : w5.cell? ⟨w.heap.size, 1, none⟩ = some (.slice none 0 0) := (cell_of_heap hA5).trans rfl
          have f0 : w5.frozen? ⟨w.heap.size, 0, none⟩ = false := frozen_of_heap hA5
          have f1 : w5.frozen? ⟨w.heap.size, 1, none⟩ = false := frozen_of_heap hA5
          go_wp2
          refine bodyPost_ret (results_cell_tmp rfl _ _ w.heap.size 24 _ (0, 0) _ rfl (put2 hA5) Tryd.underlying24 rfl sizeRing) rfl ?_
          exact (HP.out _ _).2 ⟨⟨_, rfl, World.ownsRow_nil _ _ _ _⟩, (hb5.setCell (Nat.le_refl _) _).setCell (Nat.le_refl _) _⟩
        · exact absurd hf (hnf' _ _ _)
    · have heq : ((str sum).toList == (str (shaL (textL id ss))).toList) = false := str_ne hq
      have heq2 : ¬ (str sum).toList = (str (shaL (textL id ss))).toList := by rw [str_toList, str_toList]; exact hq
      obtain ⟨p1, p2, p3⟩ := parse_check hf hq
      rw [p1, p2, p3] at HP
      clear hq p1 p2 p3
      go_enter Tryd.func26, Tryd.ntmps26
      go_wp2_with fail
      refine hrd.mono ?_
      rintro e w1 ⟨⟨id', ss', sum', v, hf', rfl, hown⟩ | ⟨hnf', xa, xb, xn, xc, xd, rfl⟩, hb1'⟩
      · obtain ⟨rfl, rfl, rfl⟩ := HOne.out _ _ _ hf'
        have hb1 := hb0.trans (hb1'.mono (by simp))
        have hA1 := (hb1'.block _ (by simp)).trans hA0
        have hown := owns_mono hown (show w.heap.size + 1 ≤ _ by simp)
        obtain ⟨av, cv, rfl⟩ := owns_len hown
        have hb2 := hb1.alloc hb1.size (.cells #[.string (str id'), .slice av ss'.length cv] 24)
        have hA2 := (Below.heap_alloc w1 (.cells #[.string (str id'), .slice av ss'.length cv] 24) _ (heap_lt hA1)).trans hA1
        have hB2 : (w1.alloc (.cells #[.string (str id'), .slice av ss'.length cv] 24)).heap[w1.heap.size]? = some (.cells #[.string (str id'), .slice av ss'.length cv] 24 (0, 0)) := heap_new _ _
        have hO2 : OwnS (w1.alloc (.cells #[.string (str id'), .slice av ss'.length cv] 24)) (w.heap.size + 1) (.slice av ss'.length cv) ss' := World.ownsRow.alloc hown (.cells #[.string (str id'), .slice av ss'.length cv] 24)
        clear hown hA1 hb1 hb1' hb0 hA0
        generalize hsn : ss'.length = sn at htx hrt hb2 hA2 hB2 hO2 ⊢
        clear hsn
        generalize str (shaL (textL id' ss')) = ys at *
        generalize str (textL id' ss') = yt at *
        generalize hyi : str id' = yi at *
        generalize str sum' = ym at *
        have ht := htx _ _ hb2 (SeeS.of_own hO2)
        go_wp2_with fail
        refine (ht).mono ?_
        rintro e w3 ⟨rfl, hb3'⟩
        have hb3 := hb2.trans (hb3'.mono hb2.size)
        have hA3 := (hb3'.block _ (heap_lt hA2)).trans hA2
        have hB3 := (hb3'.block _ (heap_lt hB2)).trans hB2
        have hO3 := OwnS.below hO2 hb3'
        clear hb3' hb2 hA2 hB2 hO2
        go_wp2_with fail
        refine (hsm w3 hb3).mono ?_
        rintro e w4 ⟨rfl, hb4'⟩
        have hb4 := hb3.trans (hb4'.mono hb3.size)
        have hA4 := (hb4'.block _ (heap_lt hA3)).trans hA3
        have hB4 := (hb4'.block _ (heap_lt hB3)).trans hB3
        have hO4 := OwnS.below hO3 hb4'
        clear hb4' hb3 hA3 hB3 hO3
        have q0 : w4.cell? ⟨w.heap.size, 0, none⟩ = some (.string { data := #[] }) := (cell_of_heap hA4).trans rfl
        have q1 : w4.cell? ⟨w.heap.size, 1, none⟩ = some (.slice none 0 0) := (cell_of_heap hA4).trans rfl
        have f0 : w4.frozen? ⟨w.heap.size, 0, none⟩ = false := frozen_of_heap hA4
        have f1 : w4.frozen? ⟨w.heap.size, 1, none⟩ = false := frozen_of_heap hA4
        go_wp2
        refine bodyPost_ret (results_cell_tmp rfl _ _ w.heap.size 24 _ (0, 0) _ rfl (put2 hA4) Tryd.underlying24 rfl sizeRing) rfl ?_
        exact (HP.out _ _).2 ⟨⟨_, rfl, World.ownsRow_nil _ _ _ _⟩, (hb4.setCell (Nat.le_refl _) _).setCell (Nat.le_refl _) _⟩
      · exact absurd hf (hnf' _ _ _)
  · have hnf : ∀ id ss sum, ¬ Form t.data.toList id ss sum := fun id ss sum h => hex ⟨id, ss, sum, h⟩
    obtain ⟨p1, p2, p3⟩ := parse_none hnf
    rw [p1, p2, p3] at HP
    go_enter Tryd.func26, Tryd.ntmps26
    go_wp2_with fail
    refine hrd.mono ?_
    rintro e w1 ⟨⟨id', ss', sum', v, hf', rfl, hown⟩ | ⟨hnf', xa, xb, xn, xc, xd, rfl⟩, hb1'⟩
    · exact absurd hf' (hnf _ _ _)
    · have hb1 := hb0.trans (hb1'.mono (by simp))
      have hA1 := (hb1'.block _ (by simp)).trans hA0
      have hb2 := hb1.alloc hb1.size (.cells #[.string xa, .slice xb xn xc] 24)
      have hA2 := (Below.heap_alloc w1 (.cells #[.string xa, .slice xb xn xc] 24) _ (heap_lt hA1)).trans hA1
      have q0 : (w1.alloc (.cells #[.string xa, .slice xb xn xc] 24)).cell? ⟨w.heap.size, 0, none⟩ = some (.string { data := #[] }) := (cell_of_heap hA2).trans rfl
      have q1 : (w1.alloc (.cells #[.string xa, .slice xb xn xc] 24)).cell? ⟨w.heap.size, 1, none⟩ = some (.slice none 0 0) := (cell_of_heap hA2).trans rfl
      have f0 : (w1.alloc (.cells #[.string xa, .slice xb xn xc] 24)).frozen? ⟨w.heap.size, 0, none⟩ = false := frozen_of_heap hA2
      have f1 : (w1.alloc (.cells #[.string xa, .slice xb xn xc] 24)).frozen? ⟨w.heap.size, 1, none⟩ = false := frozen_of_heap hA2
      go_wp2
      refine bodyPost_ret (results_cell_tmp rfl _ _ w.heap.size 24 _ (0, 0) _ rfl (put2 hA2) Tryd.underlying24 rfl sizeRing) rfl ?_
      exact (HP.out _ _).2 ⟨⟨_, rfl, World.ownsRow_nil _ _ _ _⟩, (hb2.setCell (Nat.le_refl _) _).setCell (Nat.le_refl _) _⟩

end Go.Proofs.YtbjiamaaocjbfaaDoor.Kr
