import Derived.Test.YtbjiamaaocjbfaaDoorLwE
namespace Go.Proofs.YtbjiamaaocjbfaaDoor.Kl
open Go.RowKit Go.Lib Go.Deep Kr Kp

/-- a list that is written over, up to k -/
def ovP (k : Nat) : Slot := ⟨woL, -(k : Int), []⟩
def overP (n : Nat) : List Slot := (List.range n).map ovP
def mixP (k : Nat) (ss : List Slot) : List Slot := (overP ss.length).take k ++ ss.drop k
theorem overP_length (n : Nat) : (overP n).length = n := by simp [overP]
theorem overP_at (n k : Nat) (h : k < n) : (overP n)[k]? = some (ovP k) := by
  unfold overP
  rw [List.getElem?_map, List.getElem?_range h]
  rfl
theorem mixP_length (k : Nat) (ss : List Slot) (h : k ≤ ss.length) : (mixP k ss).length = ss.length := by
  unfold mixP
  rw [List.length_append, List.length_take, overP_length, List.length_drop]
  omega
theorem mixP_zero (ss : List Slot) : mixP 0 ss = ss := by simp [mixP]
theorem mixP_all (ss : List Slot) : mixP ss.length ss = overP ss.length := by
  unfold mixP
  rw [List.take_of_length_le (by rw [overP_length]; omega), List.drop_length, List.append_nil]
theorem mixP_set (k : Nat) (ss : List Slot) (h : k < ss.length) : (mixP k ss).set k (ovP k) = mixP (k + 1) ss := by
  unfold mixP
  have hl : ((overP ss.length).take k).length = k := by rw [List.length_take, overP_length]; omega
  rw [List.set_append_right _ _ (by omega), hl, Nat.sub_self, List.take_add_one, overP_at _ k h, List.append_assoc]
  congr 1
  rw [List.drop_eq_getElem_cons h, List.set_cons_zero]
  rfl
theorem SS_le (t : List UInt8) : (parseS t).length ≤ 8 := by
  have := LL_le t 0
  unfold LL tx at this
  rw [if_neg (by omega)] at this
  exact this
def bhL : List UInt8 := [98, 101, 104, 105, 110, 100]
def baL : List UInt8 := [98, 101, 104, 105, 110, 100, 32, 97, 110, 111, 116, 104, 101, 114]
theorem grown_below_of {B : Nat} {w w' : World} {r : Option Nat} (h : w.grownBy w' r) (hB : B ≤ w.heap.size) (hr : ∀ g, r = some g → B ≤ g) : Below B w w' :=
  ⟨h.os, h.tape, h.output, h.size, fun k hk => h.block k (by omega) (fun e => by have := hr k e.symm; omega)⟩
theorem below_grown {w w' : World} (h : Below w.heap.size w w') (r : Option Nat) : w.grownBy w' r := ⟨h.os, h.tape, h.output, h.size, fun k hk _ => h.block k hk⟩

theorem grown_put3 {w3 W : World} {g : Nat} {r : Option Nat} (h : w3.grownBy W r) (hr : r = some g) (o0 o1 o2 : Nat) (v0 v1 v2 : Value) : w3.grownBy (((W.setCell ⟨g, o0, none⟩ v0).setCell ⟨g, o1, none⟩ v1).setCell ⟨g, o2, none⟩ v2) r :=
  ⟨h.os, h.tape, h.output, by simpa using h.size, fun k hk hne => (heap_put3 (fun e => hne (by rw [hr, e])) _ _ _ _ _ _).trans (h.block k hk hne)⟩

set_option maxRecDepth 20000 in
set_option maxHeartbeats 4000000 in
theorem parses_any (t : List UInt8) (w : World) (ht : t.length ≤ 4194304) (hT : Tabs w) (hRT : RTabs w) (hI : ITab w) (h4 : 8 ≤ w.heap.size) :
    Calls Tryd.prog 11 #[.string (str t)] w fun e w' => e = .returned (.bool true) ∧ Below w.heap.size w w' := by
  have ca := apart_any t w ht hT hRT hI h4
  have KP : Hid (∀ W, Below w.heap.size w W → Calls Tryd.prog 10 #[.string (str t)] W fun e w' => (∃ a n c, e = .returned (.tuple #[.agg #[.string (str (parseI t)), .slice a n c], .int .i64 (parseE t)]) ∧ OwnS w' W.heap.size (sl (a, n, c)) (parseS t)) ∧ Below W.heap.size W w') := fun W hb => by
    have h := parse_any (str t) W (by rw [str_data]; exact ht) (hT.below hb (by omega)) (by have := hb.size; omega)
    rw [str_data] at h
    exact h
  have KR : Hid (∀ W, Below w.heap.size w W → Calls Tryd.prog 26 #[.string (str t)] W (ParsePost t W)) := fun W hb => by
    have h := rparse_any (str t) (by rw [str_size]; exact ht) W (hI.below hb (by omega)) (hRT.below hb (by omega)) (by have := hb.size; omega)
    rw [str_data] at h
    exact h
  have HN : Hid ((parseS t).length ≤ 8) := SS_le t
  obtain ⟨SS, hSS⟩ : ∃ SS, parseS t = SS := ⟨_, rfl⟩
  obtain ⟨pe, hpe⟩ : ∃ pe, parseE t = pe := ⟨_, rfl⟩
  obtain ⟨ii, hii⟩ : ∃ ii, parseI t = ii := ⟨_, rfl⟩
  have HE : Hid (parseS t = SS ∧ parseE t = pe ∧ parseI t = ii) := ⟨hSS, hpe, hii⟩
  rw [hSS] at HN KP
  rw [hpe, hii] at KP
  clear hSS hpe hii hT hRT hI
  obtain ⟨id, hid⟩ : ∃ id, str ii = id := ⟨_, rfl⟩
  have HID : Hid (str ii = id) := hid
  rw [hid] at KP
  clear hid
  go_enter Tryd.func11, Tryd.ntmps11
  go_wp2_with fail
  refine ca.mono ?_
  clear ca
  rintro e w0 ⟨rfl, hb0⟩
  go_wp2_with fail
  refine (KP.out _ hb0).mono ?_
  rintro e w1 ⟨⟨a, n, c, rfl, ho1⟩, hb1⟩
  obtain ⟨W1, hW1⟩ : ∃ W, w1.alloc (.cells #[.string id, .slice a n c] 24) = W := ⟨_, rfl⟩
  have hbW1 : Below w0.heap.size w0 W1 := by rw [← hW1]; exact hb1.alloc hb1.size _
  have hb01 : Below w.heap.size w W1 := hb0.trans (hbW1.mono hb0.size)
  have hR1 : W1.heap[w1.heap.size]? = some (.cells #[.string id, .slice a n c] 24 (0, 0)) := by rw [← hW1]; exact heap_new _ _
  have hoW1 : OwnS W1 w0.heap.size (sl (a, n, c)) SS := by rw [← hW1]; exact ho1.below ((Below.refl _ _).alloc (Nat.le_refl _) _)
  have c2 := KR.out W1 hb01
  go_wp2_with fail
  refine c2.mono ?_
  clear c2
  rintro e w2 ⟨⟨v2, rfl, ho2⟩, hb2⟩
  rw [HE.out.1] at ho2
  rw [HE.out.2.1, HE.out.2.2, HID.out]
  obtain ⟨a2, c2, rfl⟩ := ho2.len
  obtain ⟨n2, hn2⟩ : ∃ n2, SS.length = n2 := ⟨_, rfl⟩
  rw [hn2] at ho2
  rw [hn2]
  obtain ⟨W2, hW2⟩ : ∃ W, w2.alloc (.cells #[.string id, .slice a2 n2 c2] 24) = W := ⟨_, rfl⟩
  have hbW2 : Below W1.heap.size W1 W2 := by rw [← hW2]; exact hb2.alloc hb2.size _
  have hQ2 : W2.heap[w2.heap.size]? = some (.cells #[.string id, .slice a2 n2 c2] 24 (0, 0)) := by rw [← hW2]; exact heap_new _ _
  have hR2 : W2.heap[w1.heap.size]? = _ := (hbW2.block _ (heap_lt hR1)).trans hR1
  have hoW2 : OwnS W2 W1.heap.size (.slice a2 n2 c2) SS := by rw [← hW2]; exact ho2.below ((Below.refl _ _).alloc (Nat.le_refl _) _)
  have hoR2 : OwnS W2 w0.heap.size (sl (a, n, c)) SS := hoW1.below hbW2
  have x0 : W2.cell? ⟨w1.heap.size, 0, none⟩ = some (.string id) := (cell_of_heap hR2).trans rfl
  have x1 : W2.cell? ⟨w1.heap.size, 1, none⟩ = some (.slice a n c) := (cell_of_heap hR2).trans rfl
  have x2 : W2.cell? ⟨w2.heap.size, 0, none⟩ = some (.string id) := (cell_of_heap hQ2).trans rfl
  have x3 : W2.cell? ⟨w2.heap.size, 1, none⟩ = some (.slice a2 n2 c2) := (cell_of_heap hQ2).trans rfl
  have hs8 : SS.length ≤ 9223372036854775807 := by have := HN.out; omega
  have c3 := sameRing_any ii ii (.slice a n c) (.slice a2 n2 c2) SS SS W2 (SeeS.of_own hoR2) (SeeS.of_own hoW2) hs8 hs8
  rw [show decide (ii = ii ∧ SS = SS) = true by simp, HID.out] at c3
  have hnn : SS.length = n := own_sl hoR2
  go_wp2_with (first | (go_at_call 7; refine (lnum7 _ _).mono ?_; rintro e wn ⟨rfl, rfl⟩) | (go_at_call 8; refine c3.mono ?_; rintro e w3 ⟨rfl, hb3⟩) | fail)
  obtain ⟨R, hR⟩ : ∃ R, w1.heap.size = R := ⟨_, rfl⟩
  obtain ⟨Q, hQ⟩ : ∃ Q, w2.heap.size = Q := ⟨_, rfl⟩
  have HVl : Hid (∀ g, (sl (a, n, c)).ownBlock = some g → w0.heap.size ≤ g ∧ g < R) := fun g hg => by
    have := own_lt ho1 g hg
    rw [hR] at this
    exact this
  have hRQ : R < Q := by
    have h1 : W1.heap.size = w1.heap.size + 1 := by rw [← hW1]; simp
    have := hb2.size
    omega
  have hRW : R < W1.heap.size := by rw [← hW1, ← hR]; simp
  rw [hR] at hR2
  rw [hQ] at hQ2
  have HR3 : Hid (w3.heap[R]? = some (.cells #[.string id, .slice a n c] 24 (0, 0))) := (hb3.block _ (heap_lt hR2)).trans hR2
  have HQ3 : Hid (w3.heap[Q]? = some (.cells #[.string id, .slice a2 n2 c2] 24 (0, 0))) := (hb3.block _ (heap_lt hQ2)).trans hQ2
  have HV3 : Hid (OwnS w3 w0.heap.size (sl (a, n, c)) SS) := hoR2.below hb3
  have HW3 : Hid (OwnS w3 W1.heap.size (.slice a2 n2 c2) SS) := hoW2.below hb3
  have HB3 : Hid (Below w.heap.size w w3) := hb01.trans ((hbW2.trans (hb3.mono hbW2.size)).mono hb01.size)
  have HB0 : Hid (w.heap.size ≤ w0.heap.size) := hb0.size
  have HZ3 : Hid (w0.heap.size ≤ w3.heap.size) := by
    have a1 := hbW1.size
    have a2 := hbW2.size
    have a3 := hb3.size
    show _ ≤ _
    omega
  have r1 : w3.cell? ⟨R, 1, none⟩ = some (.slice a n c) := (cell_of_heap HR3.out).trans rfl
  have hn8 : n ≤ 8 := by have := HN.out; omega
  rw [hR, hQ]
  clear c3 x0 x1 x2 x3 hb3 hoW2 hoR2 hQ2 hR2 hbW2 hbW1 hR1 hoW1 hW1 hW2 hb2 ho2 ho1 hb1 hb0 hb01 hR hQ hn2 hs8
  have HNN : Hid (SS.length = n) := hnn
  clear hnn
  go_loopg [7] n (fun gk iv wr => ∃ k : Nat, k + gk = n ∧ iv = .int .i64 (k : Int) ∧ Hid (w3.grownBy wr (sl (a, n, c)).ownBlock) ∧ Hid (OwnS wr w0.heap.size (sl (a, n, c)) (mixP k SS)))
  case atStart => exact ⟨0, by omega, rfl, ⟨rfl, rfl, rfl, Nat.le_refl _, fun _ _ _ => rfl⟩, by rw [mixP_zero]; exact HV3.out⟩
  case round =>
    clear r1
    obtain ⟨k, hk, rfl, HGr, HOr⟩ := hrel
    have HK : Hid (k + gk = n) := hk
    have hk' : k ≤ n := by omega
    clear hk
    have hRr : wr.heap[R]? = some (.cells #[.string id, .slice a n c] 24 (0, 0)) := (HGr.out.block R (heap_lt HR3.out) (fun e => by have := (HVl.out R e.symm).2; omega)).trans HR3.out
    have r1 : wr.cell? ⟨R, 1, none⟩ = some (.slice a n c) := (cell_of_heap hRr).trans rfl
    by_cases hlt : k < n
    · have hltI : (k : Int) < (n : Int) := by omega
      have hml : (mixP k SS).length = n := by rw [mixP_length k SS (by rw [HNN.out]; exact hk'), HNN.out]
      obtain ⟨g, hg, hBg, hcs, hput⟩ := own_rowH HOr.out (by omega)
      simp only at hg
      subst hg
      obtain ⟨s0, hs0⟩ : ∃ s0, (mixP k SS)[k]? = some s0 := ⟨_, List.getElem?_eq_getElem (by omega)⟩
      obtain ⟨⟨c0, c1, c2'⟩, f0, f1, f2⟩ := hcs k s0 hs0
      have hP := hput k (ovP k) (by omega)
      rw [mixP_set k SS (by rw [HNN.out]; exact hlt)] at hP
      have HP : Hid _ := hP
      have HGp : Hid _ := grown_put3 HGr.out (g := g) rfl (k * 3) (k * 3 + 1) (k * 3 + 2) (.string (str (ovP k).salt)) (.int .i64 (ovP k).rounds) (.string (str (ovP k).wrapped))
      rw [show str (ovP k).salt = { data := #[119, 114, 105, 116, 116, 101, 110, 32, 111, 118, 101, 114] } by rfl, show str (ovP k).wrapped = { data := #[] } by rfl, show (ovP k).rounds = -(k : Int) by rfl] at HP HGp
      clear hcs hput hs0 hml HOr HGr hRr hP
      generalize str s0.salt = z0 at *
      generalize str s0.wrapped = z2 at *
      generalize s0.rounds = z1 at *
      go_wp2
      go_roundg (gk - 1)
      case measure => have := HK.out; omega
      case rel => exact ⟨k + 1, by have := HK.out; omega, by go_num, HGp, HP⟩
    · obtain rfl : k = n := by omega
      have hltI : ¬ (k : Int) < (k : Int) := by omega
      obtain ⟨w4, hUe⟩ : ∃ w4, w4 = wr := ⟨_, rfl⟩
      subst hUe
      have HO4 : Hid (OwnS w4 w0.heap.size (sl (a, k, c)) (overP k)) := by
        have h := HOr.out
        have e := mixP_all SS
        rw [HNN.out] at e
        rw [e] at h
        exact h
      have HZ4 : Hid (w0.heap.size ≤ w4.heap.size) := Nat.le_trans HZ3.out HGr.out.size
      have cl := longer_any w4 w0.heap.size a k c (overP k) HO4.out (overP_length k) (by omega) HZ4.out bhL
      rw [show str bhL = { data := #[98, 101, 104, 105, 110, 100] } by rfl] at cl
      clear HOr
      go_wp2_with fail
      refine cl.mono ?_
      clear cl
      rintro e w5 ⟨a5, c5, rfl, hl5⟩
      have HL5 : Hid (Lng w4 w0.heap.size (sl (a, k, c)) (overP k) w5 (sl (a5, k + 64, c5)) (overP k ++ List.replicate 64 ⟨bhL, 0, []⟩)) := hl5
      have HB5 : Hid (Below w.heap.size w w5) := HB3.out.trans ((grown_below_of HGr.out (Nat.le_trans HB0.out HZ3.out) (fun g hg => Nat.le_trans HB0.out (HVl.out g hg).1)).trans ((lng_below hl5 HB0.out (Nat.le_trans HB0.out HZ4.out))))
      have hk5 : ∀ g, g < w3.heap.size → R ≤ g → w5.heap[g]? = w3.heap[g]? := fun g hg hge => by
        have n1 : some g ≠ (sl (a, k, c)).ownBlock := fun e => by have := (HVl.out g e.symm).2; omega
        exact (hl5.frame.block g (Nat.lt_of_lt_of_le hg HGr.out.size) n1).trans (HGr.out.block g hg n1)
      have HR5 : Hid (w5.heap[R]? = some (.cells #[.string id, .slice a k c] 24 (0, 0))) := (hk5 R (heap_lt HR3.out) (Nat.le_refl _)).trans HR3.out
      have HQ5 : Hid (w5.heap[Q]? = some (.cells #[.string id, .slice a2 n2 c2] 24 (0, 0))) := (hk5 Q (heap_lt HQ3.out) (by omega)).trans HQ3.out
      have HW5 : Hid (OwnS w5 W1.heap.size (.slice a2 n2 c2) SS) := own_kept HW3.out (fun g hg => by
        have := own_lt HW3.out g hg
        exact hk5 g this.2 (by omega))
      clear hl5 hk5 HR3 HQ3 HW3 HV3 HGr HB3 hRr r1
      have c6 := KP.out w5 HB5.out
      go_wp2_with fail
      refine c6.mono ?_
      clear c6
      rintro e w6 ⟨⟨a6, n6, c6, rfl, ho6⟩, hb6⟩
      have hn6 : SS.length = n6 := own_sl ho6
      obtain rfl : n6 = k := by rw [← hn6, HNN.out]
      obtain ⟨W6, hW6⟩ : ∃ W, w6.alloc (.cells #[.string id, .slice a6 n6 c6] 24) = W := ⟨_, rfl⟩
      obtain ⟨A, hA⟩ : ∃ A, w6.heap.size = A := ⟨_, rfl⟩
      have hbW6 : Below w5.heap.size w5 W6 := by rw [← hW6]; exact hb6.alloc hb6.size _
      have hA6 : W6.heap[A]? = some (.cells #[.string id, .slice a6 n6 c6] 24 (0, 0)) := by rw [← hW6, ← hA]; exact heap_new _ _
      have hAl : ∀ g, (sl (a6, n6, c6)).ownBlock = some g → w5.heap.size ≤ g ∧ g < A := fun g hg => by
        have := own_lt ho6 g hg
        rw [hA] at this
        exact this
      have ho6' : OwnS W6 w5.heap.size (sl (a6, n6, c6)) SS := by rw [← hW6]; exact ho6.below ((Below.refl _ _).alloc (Nat.le_refl _) _)
      have hR6 : W6.heap[R]? = _ := (hbW6.block _ (heap_lt HR5.out)).trans HR5.out
      have hQ6 : W6.heap[Q]? = _ := (hbW6.block _ (heap_lt HQ5.out)).trans HQ5.out
      have x0 : W6.cell? ⟨A, 0, none⟩ = some (.string id) := (cell_of_heap hA6).trans rfl
      have x1 : W6.cell? ⟨A, 1, none⟩ = some (.slice a6 n6 c6) := (cell_of_heap hA6).trans rfl
      have x2 : W6.cell? ⟨Q, 0, none⟩ = some (.string id) := (cell_of_heap hQ6).trans rfl
      have x3 : W6.cell? ⟨Q, 1, none⟩ = some (.slice a2 n2 c2) := (cell_of_heap hQ6).trans rfl
      have hs8 : SS.length ≤ 9223372036854775807 := by have := HN.out; omega
      have c3 := sameRing_any ii ii (.slice a6 n6 c6) (.slice a2 n2 c2) SS SS W6 (SeeS.of_own ho6') ((SeeS.of_own HW5.out).below hbW6) hs8 hs8
      rw [show decide (ii = ii ∧ SS = SS) = true by simp, HID.out] at c3
      have HbW6 : Hid _ := hbW6
      have HA6 : Hid _ := hA6
      have HAl : Hid _ := hAl
      have Ho6 : Hid (OwnS W6 w5.heap.size (sl (a6, n6, c6)) SS) := ho6'
      clear hbW6 hA6 hAl ho6' hR6 hQ6 hb6 ho6 hs8
      go_wp2_with (first | (go_at_call 7; refine (lnum7 _ _).mono ?_; rintro e wn ⟨rfl, rfl⟩) | (go_at_call 8; refine c3.mono ?_; rintro e w7 ⟨rfl, hb7⟩; have y1 : w7.cell? ⟨A, 1, none⟩ = some (.slice a6 n6 c6) := (hb7.cell (p := ⟨A, 1, none⟩) (heap_lt HA6.out)).trans x1) | (go_at_call 27; refine Hid.out ?_))
      unfold Hid
      have hz7 : w5.heap.size ≤ w7.heap.size := Nat.le_trans HbW6.out.size hb7.size
      have cl := longer_any w7 w5.heap.size a6 n6 c6 SS (OwnS.below Ho6.out hb7) hn6 (by omega) hz7 baL
      rw [show str baL = { data := #[98, 101, 104, 105, 110, 100, 32, 97, 110, 111, 116, 104, 101, 114] } by rfl] at cl
      refine cl.mono ?_
      clear cl c3 x0 x1 x2 x3 y1
      rintro e w8 ⟨a8, c8, rfl, hl8⟩
      have hb57 : Below w5.heap.size w5 w7 := HbW6.out.trans (hb7.mono HbW6.out.size)
      have hk8 : ∀ g, g < w5.heap.size → w8.heap[g]? = w7.heap[g]? := fun g hg => hl8.frame.block g (by omega) (fun e => by have := (HAl.out g e.symm).1; omega)
      have HLo : Hid (OwnS w8 w0.heap.size (sl (a5, n6 + 64, c5)) (overP n6 ++ List.replicate 64 ⟨bhL, 0, []⟩)) := own_kept (HL5.out.new.below hb57) (fun g hg => hk8 g (own_lt HL5.out.new g hg).2)
      have HVo : Hid (OwnS w8 w0.heap.size (sl (a, n6, c)) (overP n6)) := own_kept (HL5.out.old.below hb57) (fun g hg => hk8 g (own_lt HL5.out.old g hg).2)
      have HMo : Hid (OwnS w8 w5.heap.size (sl (a8, n6 + 64, c8)) (SS ++ List.replicate 64 ⟨baL, 0, []⟩)) := hl8.new
      have HR8 : Hid (w8.heap[R]? = some (.cells #[.string id, .slice a n6 c] 24 (0, 0))) := (hk8 R (heap_lt HR5.out)).trans ((hb57.block _ (heap_lt HR5.out)).trans HR5.out)
      have HA8 : Hid (w8.heap[A]? = some (.cells #[.string id, .slice a6 n6 c6] 24 (0, 0))) := (hl8.frame.block A (Nat.lt_of_lt_of_le (heap_lt HA6.out) hb7.size) (fun e => by have := (HAl.out A e.symm).2; omega)).trans ((hb7.block _ (heap_lt HA6.out)).trans HA6.out)
      have HB8 : Hid (Below w.heap.size w w8) := by
        have h1 : Below w.heap.size w w7 := HB5.out.trans (hb57.mono HB5.out.size)
        exact h1.trans (lng_below hl8 HB5.out.size h1.size)
      clear hl8 hk8 hb57 hb7 hz7 HL5 HB5 HR5 HQ5 HW5 HbW6 HA6 HAl Ho6 HO4 HZ4 HZ3 KP KR HE HID hA hW6
      obtain ⟨g5, hg5, _, hc5, _⟩ := own_rowH HLo.out (by rw [List.length_append, List.length_replicate]; omega)
      obtain ⟨g8, hg8, _, hc8, _⟩ := own_rowH HMo.out (by rw [List.length_append, List.length_replicate]; omega)
      simp only at hg5 hg8
      subst hg5 hg8
      have hg5l := (own_lt HLo.out g5 rfl).2
      have hg8l := (own_lt HMo.out g8 rfl).2
      have HF : Hid (∀ W, Below w8.heap.size w8 W → W.cell? ⟨R, 1, none⟩ = some (.slice a n6 c) ∧ W.cell? ⟨A, 1, none⟩ = some (.slice a6 n6 c6)) := fun W hb => ⟨(cell_of_heap ((hb.block _ (heap_lt HR8.out)).trans HR8.out)).trans rfl, (cell_of_heap ((hb.block _ (heap_lt HA8.out)).trans HA8.out)).trans rfl⟩
      have HC : Hid (∀ W, Below w8.heap.size w8 W → ∀ r, r < 64 → W.cell? ⟨g5, (n6 + r) * 3, none⟩ = some (.string { data := #[98, 101, 104, 105, 110, 100] }) ∧ W.cell? ⟨g8, (n6 + r) * 3, none⟩ = some (.string { data := #[98, 101, 104, 105, 110, 100, 32, 97, 110, 111, 116, 104, 101, 114] })) := fun W hb r hr => by
        obtain ⟨⟨q0, _⟩, _⟩ := hc5 (n6 + r) ⟨bhL, 0, []⟩ (by rw [List.getElem?_append_right (by rw [overP_length]; omega), overP_length, show n6 + r - n6 = r by omega, List.getElem?_replicate, if_pos hr])
        obtain ⟨⟨q1, _⟩, _⟩ := hc8 (n6 + r) ⟨baL, 0, []⟩ (by rw [List.getElem?_append_right (by omega), hn6, show n6 + r - n6 = r by omega, List.getElem?_replicate, if_pos hr])
        exact ⟨(hb.cell (p := ⟨g5, (n6 + r) * 3, none⟩) hg5l).trans q0, (hb.cell (p := ⟨g8, (n6 + r) * 3, none⟩) hg8l).trans q1⟩
      clear hc5 hc8 hg5l hg8l HLo HMo HR8 HA8
      generalize hny : n6 + 64 = ny at *
      go_wp2
      go_loopg [12] 64 (fun gk kv wr => ∃ r : Nat, r + gk = 64 ∧ kv = .int .i64 (r : Int) ∧ Hid (Below w8.heap.size w8 wr))
      case atStart => exact ⟨0, by omega, rfl, Below.refl _ _⟩
      case round =>
        obtain ⟨r, hr, rfl, HBr⟩ := hrel
        have HKR : Hid (r + gk = 64) := hr
        have hr' : r ≤ 64 := by omega
        clear hr
        obtain ⟨y0, y1⟩ := HF.out _ HBr.out
        by_cases hrn : r < 64
        · have hrI : (r : Int) < 64 := by omega
          obtain ⟨d0, d1⟩ := HC.out _ HBr.out r hrn
          obtain ⟨q, hq⟩ : ∃ q, n6 + r = q := ⟨_, rfl⟩
          rw [hq] at d0 d1
          have hqI : (n6 : Int) + (r : Int) = (q : Int) := by omega
          have hqw : IntKind.i64.wrap ((n6 : Int) + (r : Int)) = (q : Int) := by rw [IntKind.wrap_i64]; omega
          have hqv : IntKind.i64.wrap (q : Int) = (q : Int) := by rw [IntKind.wrap_i64]; omega
          have hq1 : (q : Int) < (ny : Int) := by omega
          have hq0 : (0 : Int) ≤ (q : Int) := by omega
          have hq2 : q < ny := by omega
          clear hq
          go_wp2
          go_roundg (gk - 1)
          case measure => have := HKR.out; omega
          case rel => exact ⟨r + 1, by have := HKR.out; omega, by go_num, HBr⟩
        · obtain rfl : r = 64 := by omega
          have hrI : ¬ ((64 : Nat) : Int) < 64 := by omega
          clear HC
          obtain ⟨w9, hUe⟩ : ∃ w9, w9 = wr := ⟨_, rfl⟩
          subst hUe
          go_wp2
          go_loopg [13] n6 (fun gk kv wr => ∃ r : Nat, r + gk = n6 ∧ kv = .int .i64 (r : Int) ∧ Hid (Below w8.heap.size w8 wr))
          case atStart => exact ⟨0, by omega, rfl, HBr⟩
          case round =>
            clear y0 y1
            obtain ⟨r, hr, rfl, HBs⟩ := hrel
            have HKS : Hid (r + gk = n6) := hr
            have hr'' : r ≤ n6 := by omega
            clear hr
            obtain ⟨y0, y1⟩ := HF.out _ HBs.out
            by_cases hrn : r < n6
            · have hrI : (r : Int) < (n6 : Int) := by omega
              obtain ⟨g, hg, _, hcs, _⟩ := own_rowH (HVo.out.below HBs.out) (by rw [overP_length]; omega)
              simp only at hg
              subst hg
              obtain ⟨⟨c0, c1, _⟩, _⟩ := hcs r (ovP r) (overP_at n6 r hrn)
              rw [show str (ovP r).salt = { data := #[119, 114, 105, 116, 116, 101, 110, 32, 111, 118, 101, 114] } by rfl] at c0
              rw [show (ovP r).rounds = -(r : Int) by rfl] at c1
              clear hcs
              go_wp2
              go_roundg (gk - 1)
              case measure => have := HKS.out; omega
              case rel => exact ⟨r + 1, by have := HKS.out; omega, by go_num, HBs⟩
            · obtain rfl : r = n6 := by omega
              have hrI : ¬ (r : Int) < (r : Int) := by omega
              have HBF : Hid (Below w.heap.size w wr) := HB8.out.trans (HBs.out.mono HB8.out.size)
              go_wp2
              go_ret
              exact ⟨rfl, HBF.out⟩

set_option maxRecDepth 20000 in
set_option maxHeartbeats 1000000 in
theorem parsesLaw_walk (t : ByteArray) (w : World) (ht : t.size ≤ 4194304) (hT : Tabs w) (hRT : RTabs w) (hI : ITab w) (h4 : 8 ≤ w.heap.size) :
    Calls Tryd.prog 4 #[.string t] w fun e w' => e = .returned (.bool true) ∧ Below w.heap.size w w' := by
  obtain ⟨T, rfl⟩ : ∃ T, t = str T := ⟨t.data.toList, (str_of t).symm⟩
  rw [str_size] at ht
  have ch := head_any w hT h4
  go_enter Tryd.func4, Tryd.ntmps4
  go_wp2_with fail
  refine ch.mono ?_
  clear ch
  rintro e w1 ⟨rfl, hb1⟩
  have cp := parses_any T w1 ht (hT.below hb1 (by omega)) (hRT.below hb1 (by omega)) (hI.below hb1 (by omega)) (by have := hb1.size; omega)
  have HB1 : Hid _ := hb1
  clear hb1
  go_wp2_with fail
  refine cp.mono ?_
  clear cp
  rintro e w2 ⟨rfl, hb2⟩
  have HB2 : Hid (Below w.heap.size w w2) := HB1.out.trans (hb2.mono HB1.out.size)
  clear hb2
  go_wp2
  go_ret
  exact ⟨rfl, HB2.out⟩

end Go.Proofs.YtbjiamaaocjbfaaDoor.Kl
