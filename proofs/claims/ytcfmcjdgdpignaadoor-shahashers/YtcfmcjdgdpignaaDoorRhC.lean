import Derived.Test.YtcfmcjdgdpignaaDoorRhB
namespace Go.Proofs.YtcfmcjdgdpignaaDoor
open Go.RowKit Go.Lib

/-- what the reference's Restore answers -/
def RRest (w : World) (l : List UInt8) (e : Ending) (w' : World) : Prop :=
  (Good l ∧ (∃ q, e = .returned (.tuple #[.pointer (some ⟨q, 0, none⟩), .int .i64 0]) ∧ w.heap.size ≤ q ∧ Rh w' q (w8 (stWords l)) (stCount l - stCount l % 64) (str (l.drop 40))) ∨ ¬ Good l ∧ e = .returned (.tuple #[.pointer none, .int .i64 21])) ∧ Below w.heap.size w w'

theorem rbuilt3 (f : W8) (k : Nat) (y : ByteArray) : Tryd.prog.built 73 [(0, Value.agg (i64s f.list)), (1, .int .i64 (k : Int)), (2, .string y)] = some (rcells f k y) := by kernel_rfl

theorem beNum_mono (l : List UInt8) (k : Nat) : ∀ m, k ≤ m → beNum (l.take k) ≤ beNum (l.take m)
  | 0, h => by rw [show k = 0 by omega]; exact Nat.le_refl _
  | m + 1, h => by
    by_cases hk : k = m + 1
    · rw [hk]; exact Nat.le_refl _
    · have ih := beNum_mono l k m (by omega)
      cases hc : l[m]? with
      | none =>
        have hlen : l.length ≤ m := List.getElem?_eq_none_iff.1 hc
        rw [List.take_of_length_le (by omega : l.length ≤ m + 1)]
        rw [List.take_of_length_le hlen] at ih
        exact ih
      | some b =>
        rw [beNum_take l m b hc]
        omega
theorem four_word (l : List UInt8) (hl : 32 ≤ l.length) (i : Nat) (hi : i < 8) : fourN l (4 * i) = wordAt (l.take 32) i := by
  have g : ∀ j, j < 4 → l[4 * i + j]? = some (l.getD (4 * i + j) 0) := fun j hj => by
    rw [List.getD_eq_getElem?_getD, List.getElem?_eq_getElem (by omega)]
    rfl
  have e : ∀ j, j < 4 → ((l.take 32).drop (4 * i))[j]? = some (l.getD (4 * i + j) 0) := fun j hj => by
    rw [List.getElem?_drop, List.getElem?_take, if_pos (by omega)]
    exact g j hj
  have h4 : ((l.take 32).drop (4 * i)).take 4 = [l.getD (4 * i) 0, l.getD (4 * i + 1) 0, l.getD (4 * i + 2) 0, l.getD (4 * i + 3) 0] := by
    rw [take_succ_of _ 3 _ (e 3 (by omega)), take_succ_of _ 2 _ (e 2 (by omega)), take_succ_of _ 1 _ (e 1 (by omega)), take_succ_of _ 0 _ (e 0 (by omega))]
    rfl
  unfold wordAt
  rw [h4]
  unfold fourN beNum
  simp only [List.foldl]
  omega

theorem i64s_set (l : List Nat) (i x : Nat) : (i64s l).setIfInBounds i (.int .i64 (x : Int)) = i64s (l.set i x) := by
  simp [i64s, i64L]

/-- what Restore holds: the words so far, the first words -/
structure Rw (w wr : World) (B : Nat) (ws : List Nat) : Prop where
  own : wr.heap[w.heap.size]? = some (.cells (i64s (ws ++ List.replicate (8 - ws.length) 0)) 70 (0, 0))
  fst : wr.heap[B]? = some (.cells (i64s first.list) 70 (0, 0))
  ne : w.heap.size < B
  bel : Below w.heap.size w wr
section
variable {w wr w1 : World} {B : Nat} {ws : List Nat}
theorem Rw.below (h : Rw w wr B ws) (hb : Below wr.heap.size wr w1) : Rw w w1 B ws :=
  ⟨(hb.block _ (heap_lt h.own)).trans h.own, (hb.block _ (heap_lt h.fst)).trans h.fst, h.ne, h.bel.trans (hb.mono h.bel.size)⟩
theorem Rw.put (h : Rw w wr B ws) (x : Nat) (hl : ws.length < 8) : Rw w (wr.setCell ⟨w.heap.size, ws.length, none⟩ (.int .i64 (x : Int))) B (ws ++ [x]) := by
  refine ⟨?_, (Below.heap_setCell _ _ _ _ (by have := h.ne; simp; omega)).trans h.fst, h.ne, h.bel.setCell (Nat.le_refl _) _⟩
  have e := heap_setCell_same _ _ ws.length _ _ (.int .i64 (x : Int)) h.own
  rw [i64s_set] at e
  rw [e]
  congr 3
  rw [List.set_append_right _ _ (Nat.le_refl _), Nat.sub_self, List.length_append, List.append_assoc]
  congr 1
  rw [show 8 - ws.length = (8 - (ws.length + 1)) + 1 by omega, List.replicate_succ]
  rfl
theorem Rw.at_ (h : Rw w wr B ws) (i : Nat) (hi : i < ws.length) : wr.cell? ⟨w.heap.size, i, none⟩ = some (.int .i64 ((ws.getD i 0 : Nat) : Int)) := by
  rw [cell_of_heap h.own, i64s_at _ _ (by rw [List.length_append]; omega)]
  rw [List.getD_eq_getElem?_getD, List.getElem?_append_left hi, ← List.getD_eq_getElem?_getD]
theorem Rw.next (h : Rw w wr B ws) (hl : ws.length < 8) : wr.cell? ⟨w.heap.size, ws.length, none⟩ = some (.int .i64 0) ∧ wr.frozen? ⟨w.heap.size, ws.length, none⟩ = false := by
  refine ⟨?_, frozen_of_heap h.own⟩
  rw [cell_of_heap h.own, i64s_at _ _ (by rw [List.length_append, List.length_replicate]; omega)]
  rw [List.getD_eq_getElem?_getD, List.getElem?_append_right (Nat.le_refl _), Nat.sub_self, show 8 - ws.length = (8 - (ws.length + 1)) + 1 by omega, List.replicate_succ]
  rfl
theorem Rw.firstAt (h : Rw w wr B ws) (i : Nat) (hi : i < 8) : wr.cell? ⟨B, i, none⟩ = some (.int .i64 ((first.list.getD i 0 : Nat) : Int)) := by
  rw [cell_of_heap h.fst, i64s_at _ _ hi]
end

theorem rrest_short (s : ByteArray) (w : World) (h : s.size < 40) : Calls Tryd.prog 35 #[.string s] w (RRest w s.data.toList) := by
  have hl : s.data.toList.length = s.size := (size_eq s).symm
  have hi : (s.size : Int) < 40 := by omega
  have HG : Hid (¬ Good s.data.toList) := fun g => by have := g.len; omega
  go_enter Tryd.func35, Tryd.ntmps35
  go_wp2
  go_ret2
  exact ⟨.inr ⟨HG.out, rfl⟩, Below.refl _ _⟩

set_option maxRecDepth 20000 in
set_option maxHeartbeats 1000000 in
theorem rrest_long (s : ByteArray) (w : World) (h : 40 ≤ s.size) (hs : s.size ≤ 9223372036854775807) : Calls Tryd.prog 35 #[.string s] w (RRest w s.data.toList) := by
  have hl : s.data.toList.length = s.size := (size_eq s).symm
  have hi : ¬ (s.size : Int) < 40 := by omega
  go_enter Tryd.func35, Tryd.ntmps35
  have HB : Hid (∀ k, k < 8 → ∃ c : UInt8, s.data.toList[32 + k]? = some c ∧ beNum ((s.data.toList.drop 32).take (k + 1)) = 256 * beNum ((s.data.toList.drop 32).take k) + c.toNat) := fun k hk => by
    have e : s.data.toList[32 + k]? = some (s.data.toList.getD (32 + k) 0) := by
      rw [List.getD_eq_getElem?_getD, List.getElem?_eq_getElem (by omega)]
      rfl
    exact ⟨_, e, beNum_take _ _ _ (by rw [List.getElem?_drop]; exact e)⟩
  have HM : Hid (∀ k, k ≤ 8 → beNum ((s.data.toList.drop 32).take k) ≤ stCount s.data.toList) := fun k hk => beNum_mono _ _ _ hk
  have HE : Hid (beNum ((s.data.toList.drop 32).take 8) = stCount s.data.toList) := rfl
  have HZ : Hid (beNum ((s.data.toList.drop 32).take 0) = 0) := rfl
  go_wp2
  go_loopg [4, 5] 8 (fun gk v i wr => ∃ k n : Nat, k + gk = 8 ∧ i = .int .i64 ((32 + k : Nat) : Int) ∧ v = .int .i64 (n : Int) ∧ beNum ((s.data.toList.drop 32).take k) = n ∧ n ≤ 1099511627776 ∧ w = wr)
  case atStart => exact ⟨0, 0, by omega, rfl, rfl, rfl, by omega, rfl⟩
  case round =>
    obtain ⟨k, n, hk, rfl, rfl, hn, hle, rfl⟩ := hrel
    have HK : Hid (k + gk = 8) := hk
    have HN : Hid (beNum ((s.data.toList.drop 32).take k) = n) := hn
    have hk' : k ≤ 8 := by omega
    clear hk hn
    by_cases hlt : k < 8
    · obtain ⟨c, hc, hb⟩ := HB.out k hlt
      have hcl := c.toNat_lt
      have hltI : ((32 + k : Nat) : Int) < 40 := by omega
      have hix := fun W => rindex_at (P := Tryd.prog) W 9 s .i64 (32 + (k : Int)) (32 + k) c Tryd.underlying9 (by omega) hc
      rw [HN.out] at hb
      have HBB : Hid (beNum ((s.data.toList.drop 32).take (k + 1)) = 256 * n + c.toNat) := hb
      clear hb hc
      generalize c.toNat = x at hcl hix HBB
      have hw1 : IntKind.i64.wrap (256 * (n : Int)) = 256 * (n : Int) := by rw [IntKind.wrap_i64]; omega
      have hw2 : IntKind.i64.wrap (256 * (n : Int) + (x : Int)) = 256 * (n : Int) + (x : Int) := by rw [IntKind.wrap_i64]; omega
      by_cases hbig : 1099511627776 < 256 * n + x
      · have hbI : (1099511627776 : Int) < 256 * (n : Int) + (x : Int) := by omega
        have HG : Hid (¬ Good s.data.toList) := fun g => by
          have h1 := g.cnt
          have h2 := HM.out (k + 1) (by omega)
          rw [HBB.out] at h2
          omega
        go_wp2
        go_ret2
        exact ⟨.inr ⟨HG.out, rfl⟩, Below.refl _ _⟩
      · have hbI : ¬ (1099511627776 : Int) < 256 * (n : Int) + (x : Int) := by omega
        go_wp2
        go_roundg (gk - 1)
        case measure => have := HK.out; omega
        case rel => exact ⟨k + 1, 256 * n + x, by have := HK.out; omega, by go_num, by go_num, HBB.out, by omega, rfl⟩
    · obtain rfl : k = 8 := by omega
      have hnc : stCount s.data.toList = n := by rw [← HE.out, HN.out]
      clear HN HE HM HB HZ HK hlt hk'
      by_cases hz : s.size = 40 + n % 64
      · have hzI : (s.size : Int) = 40 + (n : Int) % 64 := by omega
        go_wp2_with fail
        refine (rfirst_any _).mono ?_
        rintro e w1 ⟨rfl, hb1⟩
        have hA : w1.heap[w.heap.size]? = some (.cells (i64s (List.replicate 8 0)) 70 (0, 0)) := (hb1.block _ (by simp)).trans (heap_new _ _)
        have hbw : Below w.heap.size w w1 := ((Below.refl _ _).alloc (Nat.le_refl _) _).trans (hb1.mono (by simp))
        clear hb1
        have hst := esize first
        have hone := eone first
        have H8 : Hid ((i64s first.list).size = 8) := e8 first
        obtain ⟨C1, hC1⟩ : ∃ C1, i64s first.list = C1 := ⟨_, rfl⟩
        have HC1 : Hid (i64s first.list = C1) := hC1
        rw [hC1] at hst hone H8 ⊢
        clear hC1
        have hth : ∀ z : Array Value, z.size = 8 → (w1.alloc (.cells z 70)).there w1.heap.size 0 C1.size := fun z hz => there_of_heap (heap_new _ _) (by rw [H8.out, hz]; exact Nat.le_refl 8)
        have HR : Hid (∀ z : Array Value, z.size = 8 → Rw w ((w1.alloc (.cells z 70)).setCells w1.heap.size 0 C1.toList) w1.heap.size []) := fun z hz => by
          have h := heap_setCells w1.heap.size 70 C1.toList 0 z _ (heap_new w1 (.cells z 70))
          rw [setMany_all _ _ (by rw [hz, Array.length_toList, H8.out]), Array.toArray_toList] at h
          have hlt := heap_lt hA
          exact ⟨(heap_setCells_other _ _ (by omega) _ _ _).trans ((Below.heap_alloc _ _ _ hlt).trans hA), by rw [HC1.out]; exact h, hlt, Below.setCells (hbw.alloc hbw.size _) hbw.size _ _⟩
        go_wp2_with (refine wpList_store_mid rfl 70 (.tmp 7) (.tmp 31) rfl w1.heap.size 0 C1 rfl rfl (hth _ rfl) hst hone ?_)
        refine with_world (R := fun W => Code.wp _ _ _ _ W) (Q := fun W => Rw w W w1.heap.size []) _ (HR.out _ rfl) ?_
        clear HR hth hst hone H8 HC1 hbw hA
        generalize w1.heap.size = B
        clear w1
        intro w2 hR2
        have HNC : Hid (stCount s.data.toList = n) := hnc
        have HZ : Hid (s.size = 40 + n % 64) := hz
        have hz1 : 40 ≤ s.size := h
        clear hnc hz hzI h hi
        have HW : Hid (∀ k, k < 8 → wordsL (s.data.toList.take 32) (k + 1) = wordsL (s.data.toList.take 32) k ++ [fourN s.data.toList (4 * k)]) := fun k hk => by
          rw [wordsL_succ, four_word _ (by omega) k hk]
        have HWL : Hid (∀ k, (wordsL (s.data.toList.take 32) k).length = k) := wordsL_length _
        have HG : Hid (∀ k, k < 8 → n < 64 → fourN s.data.toList (4 * k) ≠ first.list.getD k 0 → ¬ Good s.data.toList) := fun k hk hn hne g => by
          have h1 := g.few (by rw [HNC.out]; exact hn)
          have h2 : (stWords s.data.toList).getD k 0 = fourN s.data.toList (4 * k) := by
            rw [four_word _ (by omega) k hk]
            unfold stWords wordsL
            rw [List.getD_eq_getElem?_getD, List.getElem?_map, List.getElem?_range hk]
            rfl
          rw [h1] at h2
          exact hne h2.symm
        go_wp2
        go_loopg [8] 8 (fun gk i wr => ∃ k : Nat, k + gk = 8 ∧ i = .int .i64 (k : Int) ∧ Rw w wr B (wordsL (s.data.toList.take 32) k) ∧ (n < 64 → wordsL (s.data.toList.take 32) k = first.list.take k))
        case atStart => exact ⟨0, by omega, rfl, hR2, fun _ => rfl⟩
        case round =>
          obtain ⟨k, hk, rfl, hR, hF⟩ := hrel
          have HK : Hid (k + gk = 8) := hk
          have HF : Hid (n < 64 → wordsL (s.data.toList.take 32) k = first.list.take k) := hF
          have hk' : k ≤ 8 := by omega
          clear hk hF
          by_cases hlt : k < 8
          · have hltI : (k : Int) < 8 := by omega
            have hfo := fun W => four_any s (4 * k) (by omega) hs W
            rw [show ((4 * k : Nat) : Int) = 4 * (k : Int) by omega] at hfo
            have HX : Hid (wordsL (s.data.toList.take 32) (k + 1) = wordsL (s.data.toList.take 32) k ++ [fourN s.data.toList (4 * k)]) := HW.out k hlt
            have HGk := HG.out k hlt
            have HGK : Hid (n < 64 → fourN s.data.toList (4 * k) ≠ first.list.getD k 0 → ¬ Good s.data.toList) := HGk
            clear HGk
            generalize fourN s.data.toList (4 * k) = x at hfo HX HGK
            go_wp2_with fail
            refine (hfo _).mono ?_
            rintro e w4 ⟨rfl, hb4⟩
            have hR4 := hR.below hb4
            clear hR hb4 hfo
            obtain ⟨c0, f0⟩ := hR4.next (by rw [HWL.out]; exact hlt)
            rw [HWL.out] at c0 f0
            have hP := hR4.put x (by rw [HWL.out]; exact hlt)
            rw [HWL.out, ← HX.out] at hP
            clear hR4
            go_upto_region 18 with fail
            refine with_world (R := fun W => Code.wp _ _ _ _ W) (Q := fun W => Rw w W B (wordsL (s.data.toList.take 32) (k + 1))) _ hP ?_
            clear hP c0 f0
            intro w5 hR5
            have c1 := hR5.at_ k (by rw [HWL.out]; omega)
            have c2 := hR5.firstAt k hlt
            rw [show (wordsL (s.data.toList.take 32) (k + 1)).getD k 0 = x by
              rw [HX.out, List.getD_eq_getElem?_getD, List.getElem?_append_right (by rw [HWL.out]; exact Nat.le_refl _), HWL.out, Nat.sub_self]
              rfl] at c1
            have HFX : Hid (first.list.take (k + 1) = first.list.take k ++ [first.list.getD k 0]) := by
              show _ = _
              rw [List.take_add_one, List.getD_eq_getElem?_getD]
              have : first.list[k]? = some (first.list.getD k 0) := by
                rw [List.getD_eq_getElem?_getD, List.getElem?_eq_getElem (by exact hlt)]
                rfl
              rw [this]
              rfl
            generalize first.list.getD k 0 = y at c2 HGK HFX
            by_cases hn64 : n < 64
            · have hnI : (n : Int) < 64 := by omega
              by_cases hxy : x = y
              · subst hxy
                go_wp2_with fail
                go_quiet (fail)
                go_wp2
                go_roundg (gk - 1)
                case measure => have := HK.out; omega
                case rel => exact ⟨k + 1, by have := HK.out; omega, by go_num, hR5.below (below_drewN w5 nq), fun hn => by rw [HX.out, HFX.out, HF.out hn]⟩
              · have hxI : ¬ (x : Int) = (y : Int) := by omega
                have HNG : Hid (¬ Good s.data.toList) := HGK.out hn64 hxy
                go_wp2_with fail
                go_quiet (fail)
                go_wp2
                go_ret2
                exact ⟨.inr ⟨HNG.out, rfl⟩, (hR5.below (below_drewN w5 nq)).bel⟩
            · have hnI : decide ((n : Int) < 64) = false := decide_eq_false (by omega)
              go_wp2_with fail
              go_quiet (fail)
              go_wp2
              go_roundg (gk - 1)
              case measure => have := HK.out; omega
              case rel => exact ⟨k + 1, by have := HK.out; omega, by go_num, hR5.below (below_drewN w5 nq), fun hn => absurd hn hn64⟩
          · obtain rfl : k = 8 := by omega
            -- LAST
            have HGOOD : Hid (Good s.data.toList) := ⟨by rw [hl, HNC.out]; exact HZ.out, by rw [HNC.out]; exact hle, fun hh => by rw [HNC.out] at hh; exact HF.out hh⟩
            have e8w : wordsL (s.data.toList.take 32) 8 = (w8 (stWords s.data.toList)).list := (w8_list _ (wordsL_length _ _)).symm
            have hown := hR.own
            rw [HWL.out, e8w, show List.replicate (8 - 8) 0 = ([] : List Nat) from rfl, List.append_nil] at hown
            have hm : (n : Int).tmod 64 = ((n % 64 : Nat) : Int) := by rw [Int.tmod_eq_emod_of_nonneg (by omega)]; omega
            have hsub : (n : Int) - ((n % 64 : Nat) : Int) = ((n - n % 64 : Nat) : Int) := by omega
            have hwm : IntKind.i64.wrap ((n % 64 : Nat) : Int) = ((n % 64 : Nat) : Int) := by rw [IntKind.wrap_i64]; omega
            have hwk : IntKind.i64.wrap ((n - n % 64 : Nat) : Int) = ((n - n % 64 : Nat) : Int) := by rw [IntKind.wrap_i64]; omega
            have hsl : ∀ W, (Instr.slice 9 (.string s) (some (.int .i64 40)) none none).run Tryd.prog W = .ok (.string (str (s.data.toList.drop 40))) W := fun W => by
              rw [run_slice_string_l (P := Tryd.prog) W 9 s Tryd.underlying9 .i64 40 (by omega) (by omega), show (40 : Int).toNat = 40 from rfl]
              congr 2
              rw [← str_of (s.extract _ s.size), extract_data, List.take_of_length_le (by rw [List.length_drop]; omega)]
            have hbl := rbuilt3 (w8 (stWords s.data.toList)) (n - n % 64) (str (s.data.toList.drop 40))
            have HFIN : Hid (∀ (W : World) (h : Nat), W.heap[h]? = some (.cells (rcells (w8 (stWords s.data.toList)) (n - n % 64) (str (s.data.toList.drop 40))) 73 (0, 0)) → Rh W h (w8 (stWords s.data.toList)) (stCount s.data.toList - stCount s.data.toList % 64) (str (s.data.toList.drop 40))) := fun W h k => by rw [HNC.out]; exact k
            have hbV0 := hR.bel.drew
            have hzF : (Tryd.prog.info? 70).map (·.size) = some (i64L (w8 (stWords s.data.toList)).list).length := isize8
            have HLF : Hid ((i64L (w8 (stWords s.data.toList)).list).length = 8) := rfl
            have hown' : wr.heap[w.heap.size]? = some (.cells (i64L (w8 (stWords s.data.toList)).list).toArray 70 (0, 0)) := hown
            clear hR HF HK HW HG HWL hown e8w HNC HZ
            unfold i64s at hbl
            generalize rcells (w8 (stWords s.data.toList)) (n - n % 64) (str (s.data.toList.drop 40)) = C at hbl HFIN
            generalize i64L (w8 (stWords s.data.toList)).list = FL at hbl hzF hown' HLF
            obtain ⟨yr, hyr⟩ : ∃ yr, str (s.data.toList.drop 40) = yr := ⟨_, rfl⟩
            rw [hyr] at hbl hsl
            generalize n - n % 64 = k at hsub hwk hbl
            generalize n % 64 = m at hm hsub hwm
            have HK : Hid (∀ V W : World, V.rangeAt w.heap.size 0 FL → Below V.heap.size V W → W.rangeAt w.heap.size 0 FL) := fun V W k hb => range_below8 k (by rw [HLF.out]; omega) hb
            have hS0 : wr.drew.rangeAt w.heap.size 0 FL := range_of_heap (pre := []) (post := []) hown' (by simp)
            obtain ⟨g, hg⟩ : ∃ g, w.heap.size = g := ⟨_, rfl⟩
            clear hown' HLF hyr
            go_wp2_with fail
            rw [hg] at hS0 HK
            simp only [hg]
            refine wp_region_held_drew (S := fun W => W.rangeAt g 0 FL) (by kernel_rfl) hS0 ?_
            intro hS
            clear hS0
            revert hS hbV0
            generalize wr.drew = V
            intro hbV hS
            refine wpAnyH_take (i := 0) (oi := { dst := some 56, op := .load 70 (.tmp 6), type := _, pos := _, after := _, guard := none }) (v := .agg (FL).toArray) rfl (by kernel_rfl) (by kernel_rfl) (by kernel_rfl) (fun _ _ _ h => h) (yieldsIf_load_mid (by rfl) 70 (.tmp 6) rfl g 0 (by simp [Act.eval]) (FL) _ (fun x hx => hx) Tryd.underlying70 rfl hzF) hS ?_
            (try simp only [Act.put, List.setIfInBounds_toArray, List.set_cons_zero, List.set_cons_succ])
            refine wpAnyH_take (i := 1) (oi := { dst := some 57, op := .move (.tmp 4), type := _, pos := _, after := _, guard := none }) (v := .int .i64 (n : Int)) rfl (by kernel_rfl) (by kernel_rfl) (by kernel_rfl) (fun _ _ _ h => h) (Or.inl ⟨by rfl, by intro x _; go_simp⟩) hS ?_
            (try simp only [Act.put, List.setIfInBounds_toArray, List.set_cons_zero, List.set_cons_succ])
            refine wpAnyH_take (i := 2) (oi := { dst := some 58, op := .move (.tmp 4), type := _, pos := _, after := _, guard := none }) (v := .int .i64 (n : Int)) rfl (by kernel_rfl) (by kernel_rfl) (by kernel_rfl) (fun _ _ _ h => h) (Or.inl ⟨by rfl, by intro x _; go_simp⟩) hS ?_
            (try simp only [Act.put, List.setIfInBounds_toArray, List.set_cons_zero, List.set_cons_succ])
            refine wpAnyH_take (i := 3) (oi := { dst := some 59, op := .binOp .rem 3 (.tmp 58) (.const (.int .i64 64)) 3, type := _, pos := _, after := _, guard := none }) (v := .int .i64 (m : Int)) rfl (by kernel_rfl) (by kernel_rfl) (by kernel_rfl) (fun _ _ _ h => h) (Or.inl ⟨by rfl, by intro x _; go_simp⟩) hS ?_
            (try simp only [Act.put, List.setIfInBounds_toArray, List.set_cons_zero, List.set_cons_succ])
            refine wpAnyH_take (i := 4) (oi := { dst := some 60, op := .binOp .sub 3 (.tmp 57) (.tmp 59) 3, type := _, pos := _, after := _, guard := none }) (v := .int .i64 (k : Int)) rfl (by kernel_rfl) (by kernel_rfl) (by kernel_rfl) (fun _ _ _ h => h) (Or.inl ⟨by rfl, by intro x _; go_simp⟩) hS ?_
            (try simp only [Act.put, List.setIfInBounds_toArray, List.set_cons_zero, List.set_cons_succ])
            refine wpAnyH_take (i := 5) (oi := { dst := some 61, op := .move (.tmp 0), type := _, pos := _, after := _, guard := none }) (v := .string s) rfl (by kernel_rfl) (by kernel_rfl) (by kernel_rfl) (fun _ _ _ h => h) (Or.inl ⟨by rfl, by intro x _; go_simp⟩) hS ?_
            (try simp only [Act.put, List.setIfInBounds_toArray, List.set_cons_zero, List.set_cons_succ])
            refine wpAnyH_take (i := 6) (oi := { dst := some 62, op := .slice 9 (.tmp 61) (some (.const (.int .i64 40))) none none, type := _, pos := _, after := _, guard := none }) (v := .string yr) rfl (by kernel_rfl) (by kernel_rfl) (by kernel_rfl) (fun _ _ _ h => h) (Or.inl ⟨by rfl, by intro x _; go_simp⟩) hS ?_
            (try simp only [Act.put, List.setIfInBounds_toArray, List.set_cons_zero, List.set_cons_succ])
            refine wpAnyH_take (i := 7) (oi := { dst := some 63, op := .build 73 #[(0, .tmp 56), (1, .tmp 60), (2, .tmp 62)], type := _, pos := _, after := _, guard := none }) (v := .agg C) rfl (by kernel_rfl) (by kernel_rfl) (by kernel_rfl) (fun _ _ _ h => h) (Or.inl ⟨by rfl, by intro x _; exact exec_build _ _ rfl _ (by simp [Act.eval]) _ hbl⟩) hS ?_
            (try simp only [Act.put, List.setIfInBounds_toArray, List.set_cons_zero, List.set_cons_succ])
            refine wpAnyH_ready (rs := [8]) (by kernel_rfl) (by simp) ?_
            refine AllReadyH.cons (o := { dst := some 64, op := .box 73 (.tmp 63), type := _, pos := _, after := _, guard := none }) rfl (fun K hK => ?_) AllReadyH.nil
            go_simp
            have hn2 : (V.alloc (.cells C 73)).heap[V.heap.size]? = some (.cells C 73 (0, 0)) := heap_new _ _
            have hb2 := hbV.alloc hbV.size (.cells C 73)
            have hS2 := HK.out V (V.alloc (.cells C 73)) hS ((Below.refl _ _).alloc (Nat.le_refl _) _)
            have hgx := hbV.size
            refine hK.out _ _ hS2 (fun _ => ?_)
            clear hK K
            (try simp only [Act.put, List.setIfInBounds_toArray, List.set_cons_zero, List.set_cons_succ])
            revert hn2 hb2 hS2 hgx
            clear hS hbV
            generalize V.alloc (.cells C 73) = V2
            generalize V.heap.size = h
            intro hn hbV hS hgx
            revert hn hbV hS
            generalize V2 = V
            intro hn hbV hS
            refine wpAnyH_take (i := 9) (oi := { dst := some 2, op := .assign (.tmp 64), type := _, pos := _, after := _, guard := none }) (v := .pointer (some ⟨h, 0, none⟩)) rfl (by kernel_rfl) (by kernel_rfl) (by kernel_rfl) (fun _ _ _ h => h) (Or.inl ⟨by rfl, by intro x _; go_simp⟩) hS ?_
            (try simp only [Act.put, List.setIfInBounds_toArray, List.set_cons_zero, List.set_cons_succ])
            refine wpAnyH_take (i := 10) (oi := { dst := some 3, op := .assign (.const (.int .i64 0)), type := _, pos := _, after := _, guard := none }) (v := .int .i64 0) rfl (by kernel_rfl) (by kernel_rfl) (by kernel_rfl) (fun _ _ _ h => h) (Or.inl ⟨by rfl, by intro x _; go_simp⟩) hS ?_
            (try simp only [Act.put, List.setIfInBounds_toArray, List.set_cons_zero, List.set_cons_succ])
            refine wpAnyH_done (by kernel_rfl) ?_ _
            go_wp2
            go_ret2
            exact ⟨.inl ⟨HGOOD.out, h, rfl, hgx, HFIN.out V h hn⟩, hbV⟩
            -- END
      · have hzI : ¬ (s.size : Int) = 40 + (n : Int) % 64 := by omega
        have HG : Hid (¬ Good s.data.toList) := fun g => by
          have h1 := g.len
          rw [hnc, hl] at h1
          omega
        go_wp2
        go_ret2
        exact ⟨.inr ⟨HG.out, rfl⟩, Below.refl _ _⟩

end Go.Proofs.YtcfmcjdgdpignaaDoor
