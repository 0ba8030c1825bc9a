import Derived.Test.YtgeadhgomhgmoaaDoorSumA
import Derived.BigRegion
namespace Go.Proofs.YtgeadhgomhgmoaaDoor
open Go.RowKit Go.Lib Go.Deep

/-- half turned -/
def mixed (ss : List ByteArray) (k : Nat) : List ByteArray := (ss.take k).map twist ++ ss.drop k
theorem mixed_length (ss : List ByteArray) (k : Nat) (h : k ≤ ss.length) : (mixed ss k).length = ss.length := by simp [mixed]; omega
theorem mixed_zero (ss : List ByteArray) : mixed ss 0 = ss := by simp [mixed]
theorem mixed_all (ss : List ByteArray) : mixed ss ss.length = ss.map twist := by simp [mixed]
theorem mixed_at (ss : List ByteArray) (k : Nat) (s : ByteArray) (h : ss[k]? = some s) (r : List ByteArray) : (mixed ss k ++ r)[k]? = some s := by
  have hk : k < ss.length := (List.getElem?_eq_some_iff.1 h).1
  have hl : ((ss.take k).map twist).length = k := by rw [List.length_map, List.length_take]; omega
  rw [List.getElem?_append_left (by rw [mixed_length ss k (by omega)]; exact hk), mixed, List.getElem?_append_right (by omega), hl, Nat.sub_self, List.getElem?_drop]
  exact h
theorem mixed_set (ss : List ByteArray) (k : Nat) (s : ByteArray) (h : ss[k]? = some s) (r : List ByteArray) : (mixed ss k ++ r).set k (twist s) = mixed ss (k + 1) ++ r := by
  have hk : k < ss.length := (List.getElem?_eq_some_iff.1 h).1
  have hl : ((ss.take k).map twist).length = k := by rw [List.length_map, List.length_take]; omega
  have hd : ss.drop k = s :: ss.drop (k + 1) := by
    rw [List.drop_eq_getElem_cons hk]
    congr 1
    exact (List.getElem?_eq_some_iff.1 h).2
  rw [List.set_append_left _ _ (by rw [mixed_length ss k (by omega)]; exact hk), mixed, List.set_append_right _ _ (by omega), hl, Nat.sub_self, hd, mixed, List.take_add_one, h]
  simp
theorem map_take_succ (ss : List ByteArray) (k : Nat) (s : ByteArray) (h : ss[k]? = some s) : strCells ((ss.take (k + 1)).map twist) = strCells ((ss.take k).map twist) ++ [.string (twist s)] := by
  rw [List.take_add_one, h]
  simp [strCells]

theorem owns_below {w w' : World} {B n : Nat} {v : Value} {e : TypeId} {xs : List Value} (h : w.ownsRow B e 1 v n xs) (hb : ∀ k, B ≤ k → k < w.heap.size → w'.heap[k]? = w.heap[k]?) : w'.ownsRow B e 1 v n xs := by
  obtain ⟨h1, h2⟩ := h
  refine ⟨h1, ?_⟩
  rcases h2 with h0 | ⟨g', cap', cur', e1, e2, e3, e4⟩
  · exact .inl h0
  · exact .inr ⟨g', cap', cur', e1, e2, (hb _ e2 (heap_lt e3)).trans e3, e4⟩

/-- the list of an own row, as it is handed on -/
theorem lst_owns {w : World} {B n : Nat} {v : Value} {ss : List ByteArray} (h : w.ownsRow B 9 1 v n (strCells ss)) : ∃ a cap, v = .slice a n cap ∧ Lst w a n ss := by
  have hl : ss.length = n := by have := h.1; rw [strCells_length] at this; omega
  rcases h.2 with ⟨rfl, rfl⟩ | ⟨g, cap, cur, rfl, h1, h2, h3, h4, h5, h6⟩
  · have h0 : ss = [] := List.eq_nil_of_length_eq_zero hl
    subst h0
    exact ⟨none, 0, rfl, ⟨rfl, by omega, fun i s hs => by simp at hs⟩⟩
  · refine ⟨some ⟨g, 0, none⟩, cap, rfl, ⟨hl, by unfold maxLen at h4; omega, fun i s hs => ⟨g, 0, rfl, heap_lt h2, ?_⟩⟩⟩
    have hi : i < ss.length := (List.getElem?_eq_some_iff.1 hs).1
    rw [Nat.zero_add, h.cellAt i (by omega)]
    simp [strCells, hs]

set_option maxRecDepth 20000 in
set_option maxHeartbeats 4000000 in
theorem shaSums_walk (w : World) (ht : Tabs w) (hr : RTabs w) (h4 : 4 ≤ w.heap.size) (a : Option Addr) (len cap : Nat) (ss : List ByteArray) (hL : Lst w a len ss) (hsm : (joinL ss).length + ss.length ≤ 1048576) :
    Calls Tryd.prog 5 #[.slice a len cap] w fun e w' => e = .returned (.bool true) ∧ Below w.heap.size w w' := by
  obtain ⟨i0, hi, hz0, hz1, hz2⟩ := info_parts info9
  have hl := hL.sz
  have HL : Hid (Lst w a len ss) := hL
  have HJ2 := twist_join ss
  go_enter Tryd.func5, Tryd.ntmps5
  go_wp2_with fail
  refine (marked_any w a len cap ss hL (by omega)).mono ?_
  clear hL
  rintro e w1 ⟨v, rfl, hown, hb1⟩
  rcases hown.2 with ⟨_, h0⟩ | ⟨g, cp, cur, rfl, hg1, hg2, hg3, hg4, hg5, hg6⟩
  · omega
  · have z1 := hb1.size
    have HM1 : Mk w1 g (ss ++ [mark1, mark2, mark3]) := ⟨cur, hg2, by rw [List.length_append, hl, hg5]; simp; omega, by
      rw [List.length_append, hl]
      have : strCells (ss ++ [mark1, mark2, mark3]) = strCells ss ++ [.string mark1, .string mark2, .string mark3] := by simp [strCells]
      rw [this]
      simpa using hg6⟩
    have HG : Hid (w.heap.size ≤ g) := hg1
    clear hown hg1 hg2 hg4 hg5 hg6
    have hcp : (len : Int) ≤ (cp : Int) := by omega
    have hsum := sum_some w1 (ht.below hb1 (by omega)) (by omega) g 0 len cp ss hl (by omega) HM1.lt (fun i s hs => by rw [Nat.zero_add]; exact HM1.cell i s (by rw [List.getElem?_append_left (List.getElem?_eq_some_iff.1 hs).1]; exact hs)) (by omega)
    go_wp2_with fail
    refine hsum.mono ?_
    clear hsum
    rintro e w2 ⟨rfl, hb2'⟩
    have hb2 := hb1.trans (hb2'.mono z1)
    have HM2 := HM1.below hb2' HM1.lt
    clear hb1 hb2' HM1
    have z2 := hb2.size
    go_wp2_with fail
    refine (join_any w2 a len cap ss (HL.out.below hb2) (by omega)).mono ?_
    rintro e w3 ⟨rfl, hb3'⟩
    have hb3 := hb2.trans (hb3'.mono z2)
    have HM3 := HM2.below hb3' HM2.lt
    clear hb2 hb3' HM2
    have z3 := hb3.size
    have hrs := rsum_any (str (joinL ss)) (by rw [str_size]; omega) w3 (hr.below hb3 h4) (by omega)
    rw [str_data] at hrs
    go_wp2_with fail
    refine hrs.mono ?_
    clear hrs
    rintro e w4 ⟨rfl, hb4'⟩
    have hb4 := hb3.trans (hb4'.mono z3)
    have HM4 := HM3.below hb4' HM3.lt
    clear hb3 hb4' HM3
    have z4 := hb4.size
    go_wp2_with fail
    refine (still_any w4 g cp a len cap ss (HL.out.below hb4) HM4 hg3 (by omega)).mono ?_
    rintro e w5 ⟨rfl, hb5'⟩
    have hb5 := hb4.trans (hb5'.mono z4)
    have HM5 := HM4.below hb5' HM4.lt
    clear hb4 hb5' HM4
    have z5 := hb5.size
    have hg5 := HM5.lt
    rw [← mixed_zero ss] at HM5
    obtain ⟨y0, hy0⟩ : ∃ y0, str (shaL (joinL ss)) = y0 := ⟨_, rfl⟩
    rw [hy0]
    clear hy0
    obtain ⟨y1, hy1⟩ : ∃ y1, str (joinL ss) = y1 := ⟨_, rfl⟩
    rw [hy1]
    clear hy1
    go_wp2
    go_loopg [6, 7] len (fun gk v i wr => ∃ k : Nat, k + gk = len ∧ i = .int .i64 k ∧ wr.ownsRow w5.heap.size 9 1 v k (strCells ((ss.take k).map twist)) ∧ Mk wr g (mixed ss k ++ [mark1, mark2, mark3]) ∧ Below w.heap.size w wr ∧ w5.heap.size ≤ wr.heap.size)
    case atStart => exact ⟨0, by omega, rfl, World.ownsRow_nil _ _ _ _, HM5, hb5, Nat.le_refl _⟩
    case round =>
      clear HM5 hb5
      obtain ⟨k, hk, rfl, hown, HM, hbel, hsz5⟩ := hrel
      have HK : Hid (k + gk = len) := hk
      have hk' : k ≤ len := by omega
      clear hk
      by_cases hlt : k < len
      · obtain ⟨s, hs⟩ : ∃ s, ss[k]? = some s := ⟨_, List.getElem?_eq_getElem (by omega)⟩
        have HS : Hid (ss[k]? = some s) := hs
        have c0 := HM.cell k s (mixed_at ss k s hs _)
        have f0 := HM.frozen k
        clear hs
        have hkc : (k : Int) < (len : Int) + 3 := by omega
        have hone : ∀ u ∈ [Value.string (twist s)], u.oneCell' = true := strCells_one [twist s]
        have hml : k + 1 ≤ maxLen := by unfold maxLen; omega
        by_cases he : s.size = 0
        · have hs0 : s = { data := #[] } := by
            apply ByteArray.ext
            apply Array.ext'
            exact List.eq_nil_of_length_eq_zero (by rw [← size_eq]; exact he)
          have htw : twist s = { data := #[120] } := by rw [twist, if_pos he]; rfl
          have HM2 := HM.put k (twist s)
          rw [mixed_set ss k s HS.out] at HM2
          have hown2 : (wr.setCell ⟨g, k, none⟩ (.string (twist s))).ownsRow w5.heap.size 9 1 _ k (strCells ((ss.take k).map twist)) := owns_below hown (fun j hj _ => Below.heap_setCell _ _ _ _ (by simp; omega))
          have hbel2 : Below w.heap.size w (wr.setCell ⟨g, k, none⟩ (.string (twist s))) := hbel.setCell HG.out _
          have c1 := HM2.cell k (twist s) (by rw [← mixed_set ss k s HS.out, List.getElem?_set_self (by rw [List.length_append, mixed_length ss k (by omega)]; omega)])
          have HT : Hid (strCells ((ss.take (k + 1)).map twist) = strCells ((ss.take k).map twist) ++ [.string (twist s)]) := map_take_succ ss k s HS.out
          have hszs : (wr.setCell ⟨g, k, none⟩ (.string (twist s))).heap.size = wr.heap.size := by simp [World.setCell]
          rw [htw] at HM2 hown2 hbel2 c1 HT hone hszs
          subst hs0
          clear HM hown htw he
          go_wp2_with (at_builtin; refine wpList_append_own _ rfl _ _ 29 rfl w5.heap.size 9 i0 (.string { data := #[] }) 1 16 Tryd.underlying29 hi hz0 hz1 hz2 rfl (by decide) _ _ _ rfl (hown2.alloc _) ⟨(wr.setCell ⟨g, k, none⟩ (.string { data := #[120] })).heap.size, 0, none⟩ 1 1 [.string { data := #[120] }] (by first | rfl | simp [Act.eval, hszs]) rfl (by intro j u h; exact cells_new _ #[.string { data := #[120] }] 9 j u (by simpa using h)) hone hml (by omega) (by simp [hszs]; omega) ?_; intro v' w' hown' hgrow' _)
          have R1 : w'.ownsRow w5.heap.size 9 1 v' (k + 1) (strCells ((ss.take (k + 1)).map twist)) := by rw [HT.out]; exact hown'
          have hsa : w5.heap.size ≤ ((wr.setCell ⟨g, k, none⟩ (.string { data := #[120] })).alloc (.cells #[.string { data := #[120] }] 9)).heap.size := by simp [hszs]; omega
          have hgb := grown_below hgrow' hsa (hown2.alloc _)
          have R2 : Mk w' g (mixed ss (k + 1) ++ [mark1, mark2, mark3]) := (HM2.kept (Below.heap_alloc _ _ _ HM2.lt)).below hgb hg5
          have R3 : Below w.heap.size w w' := (hbel2.alloc (by rw [hszs]; omega) _).trans (hgb.mono z5)
          have R4 : w5.heap.size ≤ w'.heap.size := Nat.le_trans hsa hgb.size
          clear hown' hgrow' hown2 HM2 hbel2 hgb hsa
          go_roundg (gk - 1)
          case measure => have := HK.out; omega
          case rel => exact ⟨k + 1, by have := HK.out; omega, by go_num, R1, R2, R3, R4⟩
        · obtain ⟨c, hc⟩ : ∃ c, s.data.toList[0]? = some c := ⟨_, List.getElem?_eq_getElem (by rw [← size_eq]; omega)⟩
          have hgd : s.data.toList.getD 0 0 = c := by rw [List.getD_eq_getElem?_getD, hc]; rfl
          have hix := fun W => rindex_at (P := Tryd.prog) W 9 s .i64 0 0 c Tryd.underlying9 rfl hc
          have hc8 := c.toNat_lt
          have hxor : bits .xor .u8 (c.toNat : Int) 1 = ((c ^^^ 1).toNat : Int) := by
            have h := u8_xor_nat c.toNat 1 hc8 (by omega)
            rw [UInt8.toNat_xor]
            exact h
          have hemp : s.toList.isEmpty = false := by
            rw [toList_data, List.isEmpty_eq_false_iff]
            intro h0
            exact he (by rw [size_eq, h0]; rfl)
          have htw : str [c ^^^ 1] ++ s.extract 1 s.size = twist s := by
            rw [twist, if_neg he, hgd]
            apply ByteArray.ext
            apply Array.ext'
            rw [ByteArray.data_append, Array.toList_append, str_data, str_data, extract_data, List.take_of_length_le (by rw [List.length_drop, ← size_eq]; omega)]
            rfl
          have hcv : (convert 40 9 (.slice (some ⟨wr.heap.size, 0, none⟩) 1 1)).run Tryd.prog (wr.alloc (.cells #[.int .u8 ((c ^^^ 1).toNat : Int)] 5)).drew = .ok (.string (str [c ^^^ 1])) (wr.alloc (.cells #[.int .u8 ((c ^^^ 1).toNat : Int)] 5)).drew := by
            refine run_convert_bytes_back (P := Tryd.prog) _ 40 9 5 ⟨wr.heap.size, 0, none⟩ 1 [c ^^^ 1] Tryd.underlying40 Tryd.underlying5 Tryd.underlying9 (fun j hj => ?_)
            have hj0 : j = 0 := by simp at hj; omega
            subst hj0
            exact cells_new wr #[.int .u8 ((c ^^^ 1).toNat : Int)] 5 0 (.int .u8 ((c ^^^ 1).toNat : Int)) rfl
          have hadd : (str [c ^^^ 1]).size + (s.extract 1 s.size).size ≤ 9223372036854775807 := by
            have hss := twist_size s
            have e1 : (twist s).size = (str [c ^^^ 1]).size + (s.extract 1 s.size).size := by rw [← htw, size_eq, ByteArray.data_append, Array.toList_append, List.length_append, ← size_eq, ← size_eq]
            have hle : s.size ≤ (joinL ss).length := by
              have h1 := joinL_le ss (k + 1)
              rw [joinL_take ss k s HS.out, List.length_append, ← size_eq] at h1
              omega
            omega
          have h1s : (1 : Int) ≤ (s.size : Int) := by omega
          clear hgd
          obtain ⟨y2, hy2⟩ : ∃ y2, str [c ^^^ 1] = y2 := ⟨_, rfl⟩
          rw [hy2] at htw hcv hadd
          clear hy2
          obtain ⟨x2, hx2⟩ : ∃ x2, (c ^^^ 1).toNat = x2 := ⟨_, rfl⟩
          rw [hx2] at hxor hcv
          clear hx2
          have HMa := HM.kept (w' := wr.alloc (.cells #[.int .u8 (x2 : Int)] 5)) (Below.heap_alloc wr _ _ HM.lt)
          have c0' := HMa.cell k s (mixed_at ss k s HS.out _)
          have f0' := HMa.frozen k
          have c0d : (wr.alloc (.cells #[.int .u8 (x2 : Int)] 5)).drew.cell? ⟨g, k, none⟩ = some (.string s) := c0'
          have f0d : (wr.alloc (.cells #[.int .u8 (x2 : Int)] 5)).drew.frozen? ⟨g, k, none⟩ = false := f0'
          have HM2 := (HMa.put k (twist s)).kept (w' := ((wr.alloc (.cells #[.int .u8 (x2 : Int)] 5)).setCell ⟨g, k, none⟩ (.string (twist s))).drew) rfl
          rw [mixed_set ss k s HS.out] at HM2
          have hown2 : ((wr.alloc (.cells #[.int .u8 (x2 : Int)] 5)).setCell ⟨g, k, none⟩ (.string (twist s))).drew.ownsRow w5.heap.size 9 1 _ k (strCells ((ss.take k).map twist)) := owns_below hown (fun j hj hjl => (Below.heap_setCell (wr.alloc (.cells #[.int .u8 (x2 : Int)] 5)) _ _ _ (by simp; omega)).trans (Below.heap_alloc wr _ _ hjl))
          have hbel2 : Below w.heap.size w ((wr.alloc (.cells #[.int .u8 (x2 : Int)] 5)).setCell ⟨g, k, none⟩ (.string (twist s))).drew := ((hbel.alloc hbel.size _).setCell HG.out _).drew
          have c1 := HM2.cell k (twist s) (by rw [← mixed_set ss k s HS.out, List.getElem?_set_self (by rw [List.length_append, mixed_length ss k (by omega)]; omega)])
          have HT : Hid (strCells ((ss.take (k + 1)).map twist) = strCells ((ss.take k).map twist) ++ [.string (twist s)]) := map_take_succ ss k s HS.out
          have hszs : ((wr.alloc (.cells #[.int .u8 (x2 : Int)] 5)).setCell ⟨g, k, none⟩ (.string (twist s))).drew.heap.size = wr.heap.size + 1 := by simp [World.setCell]
          revert htw HM2 hown2 hbel2 c1 HT hone hszs
          generalize twist s = tw
          intro hone htw HM2 hown2 hbel2 c1 HT hszs
          clear HM HMa hown hc
          go_wp2_with fail
          go_region
          refine with_world (R := fun W => Exit.then _ _ _ _ W) (Q := fun W => Mk W g (mixed ss (k + 1) ++ [mark1, mark2, mark3]) ∧ W.ownsRow w5.heap.size 9 1 u6 k (strCells ((ss.take k).map twist)) ∧ Below w.heap.size w W ∧ W.heap.size = wr.heap.size + 1 ∧ W.cell? ⟨g, k, none⟩ = some (.string tw)) _ ⟨HM2, hown2, hbel2, hszs, c1⟩ ?_
          clear HM2 hown2 hbel2 hszs c1 c0 f0 c0' f0' c0d f0d hcv hix hxor htw hadd
          rintro w9 ⟨HM2, hown2, hbel2, hszs, c1⟩
          go_wp2_with (at_builtin; refine wpList_append_own _ rfl _ _ 29 rfl w5.heap.size 9 i0 (.string { data := #[] }) 1 16 Tryd.underlying29 hi hz0 hz1 hz2 rfl (by decide) _ _ _ rfl (hown2.alloc _) ⟨w9.heap.size, 0, none⟩ 1 1 [.string tw] (by first | rfl | simp [Act.eval, hszs]) rfl (by intro j u h; exact cells_new w9 #[.string tw] 9 j u (by simpa using h)) hone hml (by omega) (by simp [hszs]; omega) ?_; intro v' w' hown' hgrow' _)
          have R1 : w'.ownsRow w5.heap.size 9 1 v' (k + 1) (strCells ((ss.take (k + 1)).map twist)) := by rw [HT.out]; exact hown'
          have hsa : w5.heap.size ≤ (w9.alloc (.cells #[.string tw] 9)).heap.size := by simp [hszs]; omega
          have hgb := grown_below hgrow' hsa (hown2.alloc _)
          have R2 : Mk w' g (mixed ss (k + 1) ++ [mark1, mark2, mark3]) := (HM2.kept (Below.heap_alloc _ _ _ HM2.lt)).below hgb hg5
          have R3 : Below w.heap.size w w' := (hbel2.alloc (by rw [hszs]; omega) _).trans (hgb.mono z5)
          have R4 : w5.heap.size ≤ w'.heap.size := Nat.le_trans hsa hgb.size
          clear hown' hgrow' hown2 HM2 hbel2 hgb hsa
          go_roundg (gk - 1)
          case measure => have := HK.out; omega
          case rel => exact ⟨k + 1, by have := HK.out; omega, by go_num, R1, R2, R3, R4⟩
      · obtain rfl : k = len := by omega
        rw [List.take_of_length_le (by omega)] at hown
        have HMx : Mk wr g (ss.map twist ++ [mark1, mark2, mark3]) := by
          rw [← mixed_all ss, hl]
          exact HM
        have hlm : (ss.map twist).length = k := by rw [List.length_map]; exact hl
        obtain ⟨a6, cap6, rfl, hL6⟩ := lst_owns hown
        have zr := hbel.size
        have hsum := sum_some wr (ht.below hbel (by omega)) (by omega) g 0 k cp (ss.map twist) hlm (by omega) HMx.lt (fun i s hs => by rw [Nat.zero_add]; exact HMx.cell i s (by rw [List.getElem?_append_left (List.getElem?_eq_some_iff.1 hs).1]; exact hs)) (by omega)
        clear HM HMx hown
        have HL6 : Hid (Lst wr a6 k (ss.map twist)) := hL6
        clear hL6
        go_wp2_with fail
        refine hsum.mono ?_
        clear hsum
        rintro e w6 ⟨rfl, hb6'⟩
        have hb6 := hbel.trans (hb6'.mono zr)
        have HL6' : Hid (Lst w6 a6 k (ss.map twist)) := HL6.out.below hb6'
        clear hbel hb6' HL6
        have z6 := hb6.size
        go_wp2_with fail
        refine (join_any w6 a6 k cap6 (ss.map twist) HL6'.out (by omega)).mono ?_
        rintro e w7 ⟨rfl, hb7'⟩
        have hb7 := hb6.trans (hb7'.mono z6)
        clear hb6 hb7'
        have z7 := hb7.size
        have hrs := rsum_any (str (joinL (ss.map twist))) (by rw [str_size]; omega) w7 (hr.below hb7 h4) (by omega)
        rw [str_data] at hrs
        go_wp2_with (go_at_call 21; refine hrs.mono ?_; rintro e w8 ⟨rfl, hb8⟩)
        go_ret
        exact ⟨rfl, hb7.trans (hb8.mono z7)⟩

end Go.Proofs.YtgeadhgomhgmoaaDoor
