import Derived.Test.YtbjiamaaocjbfaaDoorBaseM
import Derived.Test.YtbjiamaaocjbfaaDoorRows
namespace Go.Proofs.YtbjiamaaocjbfaaDoor
open Go.RowKit Go.Lib Go.Deep


theorem two_cells (w : World) (x y : Value) : ∀ j u, [x, y][j]? = some u → (w.alloc (.cells #[x, y] 5)).cell? ((⟨w.heap.size, 0, none⟩ : Addr).add j) = some u := by
  intro j u h
  exact cells_new w #[x, y] 5 j u (by simpa using h)

theorem hex_rel {w wr w' : World} {v v' : Value} {s : ByteArray} {k : Nat} {c : UInt8} (hc : s.data.toList[k]? = some c) (hb : Below w.heap.size w wr) (ho : wr.ownsRow w.heap.size 5 1 v (hexL (s.data.toList.take k)).length (byteCells (hexL (s.data.toList.take k))))
    (ho' : w'.ownsRow w.heap.size 5 1 v' ((hexL (s.data.toList.take k)).length + 2) (byteCells (hexL (s.data.toList.take k)) ++ [.int .u8 ((dig (c.toNat / 16)).toNat : Int), .int .u8 ((dig (c.toNat % 16)).toNat : Int)]))
    (cs : Array Value) (hg : ((wr.alloc (.cells cs 5)).drew).grownBy w' v.ownBlock) :
    w'.ownsRow w.heap.size 5 1 v' (hexL (s.data.toList.take (k + 1))).length (byteCells (hexL (s.data.toList.take (k + 1)))) ∧ Below w.heap.size w w' := by
  rw [hexL_take _ _ _ hc, byteCells_append]
  refine ⟨by simpa [byteCells] using ho', ?_⟩
  have h1 : Below w.heap.size w (wr.alloc (.cells cs 5)).drew := (hb.alloc hb.size _).drew
  exact h1.trans (grown_below hg h1.size (by exact (ho.alloc _).drew))

set_option maxRecDepth 20000 in
set_option maxHeartbeats 1000000 in
theorem hex_any (s : ByteArray) (w : World) (hs : s.size ≤ 4194304) :
    Calls Tryd.prog 14 #[.string s] w fun e w' => e = .returned (.string (hexS s)) ∧ Below w.heap.size w w' := by
  obtain ⟨i0, hi, hz0, hz1, hz2⟩ := info_parts info5
  go_enter Tryd.func14, Tryd.ntmps14
  go_wp2_with (at_make; refine wpList_make_own _ rfl _ _ 40 rfl w.heap.size 5 i0 (.int .u8 0) 1 Tryd.underlying40 hi hz0 hz1 .i64 .i64 (2 * (s.size : Int)) (2 * s.size) rfl rfl (by omega) (by rw [hz2]; omega) (by unfold maxLen; omega) (Nat.le_refl _) ?_; intro w1 hown1 hg1)
  have hb1 : Below w.heap.size w w1 := Below.grown (Below.refl _ _) hg1 (Nat.le_refl _) (by simp)
  go_loopg [3, 11] s.size (fun gk v i wr => ∃ k : Nat, k + gk = s.size ∧ i = .int .i64 k ∧ wr.ownsRow w.heap.size 5 1 v (hexL (s.data.toList.take k)).length (byteCells (hexL (s.data.toList.take k))) ∧ Below w.heap.size w wr)
  case atStart => exact ⟨0, by omega, rfl, by simpa [hexL, byteCells] using hown1, hb1⟩
  case round =>
    clear hown1 hg1 hb1
    obtain ⟨k, hk, rfl, hown, hbel⟩ := hrel
    have HK : Hid (k + gk = s.size) := hk
    have hk' : k ≤ s.size := by omega
    clear hk
    by_cases hlt : k < s.size
    · obtain ⟨c, hc⟩ : ∃ c, s.data.toList[k]? = some c := ⟨_, List.getElem?_eq_getElem (by simpa using hlt)⟩
      have hix := fun w => index_at (P := Tryd.prog) w 9 s .i64 k c Tryd.underlying9 hc
      have hn := c.toNat_lt
      have hx1 := fun w => index_at (P := Tryd.prog) w 9 digs .u8 (c.toNat / 16) (dig (c.toNat / 16)) Tryd.underlying9 (by have := digs_at (c.toNat / 16) (by omega); simpa using this)
      have hx2 := fun w => index_at (P := Tryd.prog) w 9 digs .u8 (c.toNat % 16) (dig (c.toNat % 16)) Tryd.underlying9 (by have := digs_at (c.toNat % 16) (by omega); simpa using this)
      unfold digs at hx1 hx2
      rw [show ((c.toNat / 16 : Nat) : Int) = (c.toNat : Int) / 16 by omega] at hx1
      have hand : bits .and .u8 (c.toNat : Int) 15 = (c.toNat : Int) % 16 := by
        have := u8_and_nat c.toNat 15 hn (by omega)
        rw [nat_mask4] at this
        exact this.trans (by omega)
      rw [show ((c.toNat % 16 : Nat) : Int) = (c.toNat : Int) % 16 by omega] at hx2
      go_wp2_with fail
      have hone : ∀ u ∈ [Value.int .u8 ((dig (c.toNat / 16)).toNat : Int), Value.int .u8 ((dig (c.toNat % 16)).toNat : Int)], u.oneCell' = true := by
        intro u hu
        simp only [List.mem_cons, List.not_mem_nil, or_false] at hu
        rcases hu with rfl | rfl <;> rfl
      have hlen : (hexL (s.data.toList.take k)).length ≤ 8388608 := by rw [hexL_length]; simp; omega
      have hml : (hexL (s.data.toList.take k)).length + 2 ≤ maxLen := by unfold maxLen; omega
      go_region_law (refine step_append_own rfl (.tmp 14) (.tmp 25) 40 rfl w.heap.size 5 i0 (.int .u8 0) 1 1 Tryd.underlying40 hi hz0 hz1 hz2 rfl (by decide) _ _ _ (by simp [Act.eval]) (hown.alloc _) ⟨wr.heap.size, 0, none⟩ 2 2 [.int .u8 ((dig (c.toNat / 16)).toNat : Int), .int .u8 ((dig (c.toNat % 16)).toNat : Int)] (by simp [Act.eval]) rfl (two_cells wr _ _) hone hml (by omega) (by have := hbel.size; simp; omega) ?_; intro v' w' hown' hgrow')
      all_goals
        have R := hex_rel hc hbel hown hown' _ hgrow'
        clear hown' hgrow' hown hix hx1 hx2
        go_wp2
        go_roundg (gk - 1)
        case measure => have := HK.out; omega
        case rel => exact ⟨k + 1, by have := HK.out; omega, by go_num, R.1, R.2⟩
    · obtain rfl : k = s.size := by omega
      have htk : s.data.toList.take s.size = s.data.toList := List.take_of_length_le (by simp)
      rw [htk] at hown
      have hcv := convert_own (P := Tryd.prog) wr 40 9 5 w.heap.size _ (hexL s.data.toList) Tryd.underlying40 Tryd.underlying5 Tryd.underlying9 hown
      go_wp2
      go_ret
      exact ⟨rfl, hbel⟩

end Go.Proofs.YtbjiamaaocjbfaaDoor

namespace Go.Proofs.YtbjiamaaocjbfaaDoor
open Go.RowKit Go.Lib Go.Deep

theorem index_at' {P : Program} (w : World) (t : TypeId) (s : ByteArray) (k : IntKind) (z : Int) (i : Nat) (c : UInt8) (h : P.underlying t = some .string) (hz : z = (i : Int)) (hc : s.data.toList[i]? = some c) :
    (Instr.index t (.string s) (.int k z)).run P w = .ok (.int .u8 (c.toNat : Int)) w := by
  subst hz
  exact index_at w t s k i c h hc

theorem digitOf_yes (c : UInt8) (w : World) (h : isDig c = true) :
    Calls Tryd.prog 79 #[.int .u8 (c.toNat : Int)] w fun e w' => e = .returned (.tuple #[.int .u8 (digVal c : Int), .bool true]) ∧ w = w' := by
  have hn := c.toNat_lt
  simp only [isDig, decide_eq_true_eq] at h
  obtain ⟨v, hv, hv'⟩ : ∃ v, digVal c = v ∧ ((c.toNat ≤ 57 ∧ v = c.toNat - 48) ∨ (57 < c.toNat ∧ v = c.toNat - 87)) := ⟨_, rfl, by unfold digVal; split <;> omega⟩
  rw [hv]
  generalize c.toNat = n at h hn hv'
  clear hv
  rcases h with h | h
  · have h1 : (48 : Int) ≤ (n : Int) := by omega
    have h2 : (n : Int) ≤ 57 := by omega
    have HV : Hid ((n : Int) - 48 = (v : Int)) := by show (n : Int) - 48 = (v : Int); omega
    clear hv' h
    go_enter Tryd.func79, Tryd.ntmps79
    go_wp2
    go_ret2
    have := HV.out
    exact ⟨by simp; omega, rfl⟩
  · have h1 : (48 : Int) ≤ (n : Int) := by omega
    have h2 : ¬ (n : Int) ≤ 57 := by omega
    have h3 : (97 : Int) ≤ (n : Int) := by omega
    have h4 : (n : Int) ≤ 102 := by omega
    have HV : Hid ((n : Int) - 97 + 10 = (v : Int)) := by show (n : Int) - 97 + 10 = (v : Int); omega
    clear hv' h
    go_enter Tryd.func79, Tryd.ntmps79
    go_wp2
    go_ret2
    have := HV.out
    exact ⟨by simp; omega, rfl⟩

theorem digitOf_no (c : UInt8) (w : World) (h : isDig c = false) :
    Calls Tryd.prog 79 #[.int .u8 (c.toNat : Int)] w fun e w' => e = .returned (.tuple #[.int .u8 0, .bool false]) ∧ w = w' := by
  have hn := c.toNat_lt
  simp only [isDig, decide_eq_false_iff_not] at h
  generalize c.toNat = n at h hn
  by_cases h1 : (48 : Int) ≤ (n : Int)
  · have h2 : ¬ (n : Int) ≤ 57 := by omega
    by_cases h3 : (97 : Int) ≤ (n : Int)
    · have h4 : ¬ (n : Int) ≤ 102 := by omega
      go_enter Tryd.func79, Tryd.ntmps79
      go_wp2
      go_ret2
      exact ⟨rfl, rfl⟩
    · go_enter Tryd.func79, Tryd.ntmps79
      go_wp2
      go_ret2
      exact ⟨rfl, rfl⟩
  · have h3 : ¬ (97 : Int) ≤ (n : Int) := by omega
    go_enter Tryd.func79, Tryd.ntmps79
    go_wp2
    go_ret2
    exact ⟨rfl, rfl⟩

theorem one_cell (w : World) (x : Value) : ∀ j u, [x][j]? = some u → (w.alloc (.cells #[x] 5)).cell? ((⟨w.heap.size, 0, none⟩ : Addr).add j) = some u := by
  intro j u h
  exact cells_new w #[x] 5 j u (by simpa using h)

theorem unOK_no {l : List UInt8} {k : Nat} {c : UInt8} (h : l[k]? = some c) (hc : isDig c = false) : unOK l = false := by
  have : l.all isDig = false := List.all_eq_false.2 ⟨c, List.mem_of_getElem? h, by simp [hc]⟩
  simp [unOK, this]

theorem un_rel {w wr w' : World} {v v' : Value} {l : List UInt8} {k : Nat} {a b : UInt8} (ha : l[2 * k]? = some a) (hb : l[2 * k + 1]? = some b) (da : isDig a = true) (db : isDig b = true) (hbel : Below w.heap.size w wr)
    (hall : (l.take (2 * k)).all isDig = true) (ho : wr.ownsRow w.heap.size 5 1 v (unL (l.take (2 * k))).length (byteCells (unL (l.take (2 * k)))))
    (ho' : w'.ownsRow w.heap.size 5 1 v' ((unL (l.take (2 * k))).length + 1) (byteCells (unL (l.take (2 * k))) ++ [.int .u8 ((16 * digVal a + digVal b : Nat) : Int)]))
    (cs : Array Value) (hg : (wr.alloc (.cells cs 5)).grownBy w' v.ownBlock) :
    (l.take (2 * (k + 1))).all isDig = true ∧ w'.ownsRow w.heap.size 5 1 v' (unL (l.take (2 * (k + 1)))).length (byteCells (unL (l.take (2 * (k + 1))))) ∧ Below w.heap.size w w' := by
  have h1 := val_lt a da
  have h2 := val_lt b db
  rw [unL_take l k a b ha hb, byteCells_append]
  refine ⟨?_, ?_, ?_⟩
  · rw [show 2 * (k + 1) = 2 * k + 1 + 1 by omega, take_succ_of l _ b hb, take_succ_of l _ a ha]
    simp [hall, da, db]
  · have e : (UInt8.ofNat (16 * digVal a + digVal b)).toNat = 16 * digVal a + digVal b := by simp [UInt8.toNat_ofNat']; omega
    have e2 : byteCells [UInt8.ofNat (16 * digVal a + digVal b)] = [.int .u8 ((16 * digVal a + digVal b : Nat) : Int)] := by
      show [Value.int .u8 (((UInt8.ofNat (16 * digVal a + digVal b)).toNat : Nat) : Int)] = _
      rw [e]
    rw [e2, List.length_append]
    exact ho'
  · have h1 : Below w.heap.size w (wr.alloc (.cells cs 5)) := hbel.alloc hbel.size _
    exact h1.trans (grown_below hg h1.size (ho.alloc _))

theorem or_digits (x y : Nat) (hx : x < 16) (hy : y < 16) : bits .or .u8 ((x : Int) * 16) (y : Int) = ((16 * x + y : Nat) : Int) := by
  have h := u8_or_nat (16 * x) y (by omega) (by omega)
  rw [nat_join 4 (16 * x) y (by omega) (by omega)] at h
  rw [show (x : Int) * 16 = ((16 * x : Nat) : Int) by omega]
  exact h

set_option maxRecDepth 20000 in
set_option maxHeartbeats 1000000 in
theorem unhex_even (s : ByteArray) (w : World) (hs : s.size ≤ 16777216) (h2 : s.size % 2 = 0) :
    Calls Tryd.prog 60 #[.string s] w fun e w' => e = .returned (.tuple #[.string (unS s), .int .i64 (unE s)]) ∧ Below w.heap.size w w' := by
  obtain ⟨i0, hi, hz0, hz1, hz2⟩ := info_parts info5
  have hrem : ((s.size : Int).tmod 2) = 0 := by rw [Int.tmod_eq_emod_of_nonneg (by omega)]; omega
  have hquo : ((s.size : Int).tdiv 2) = ((s.size / 2 : Nat) : Int) := by rw [Int.tdiv_eq_ediv_of_nonneg (by omega)]; omega
  go_enter Tryd.func60, Tryd.ntmps60
  go_wp2_with (at_make; refine wpList_make_own _ rfl _ _ 40 rfl w.heap.size 5 i0 (.int .u8 0) 1 Tryd.underlying40 hi hz0 hz1 .i64 .i64 _ (s.size / 2) rfl rfl (by omega) (by rw [hz2]; omega) (by unfold maxLen; omega) (Nat.le_refl _) ?_; intro w1 hown1 hg1)
  have hb1 : Below w.heap.size w w1 := Below.grown (Below.refl _ _) hg1 (Nat.le_refl _) (by simp)
  go_loopg [4, 5] (s.size / 2) (fun gk v i wr => ∃ k : Nat, k + gk = s.size / 2 ∧ i = .int .i64 (2 * (k : Int)) ∧ (s.data.toList.take (2 * k)).all isDig = true ∧ wr.ownsRow w.heap.size 5 1 v (unL (s.data.toList.take (2 * k))).length (byteCells (unL (s.data.toList.take (2 * k)))) ∧ Below w.heap.size w wr)
  case atStart => exact ⟨0, by omega, rfl, by simp, by simpa [unL, byteCells] using hown1, hb1⟩
  case round =>
    clear hown1 hg1 hb1 hrem hquo
    obtain ⟨k, hk, rfl, hall, hown, hbel⟩ := hrel
    have HK : Hid (k + gk = s.size / 2) := hk
    have HL : Hid ((s.data.toList.take (2 * k)).all isDig = true) := hall
    have hk' : k ≤ s.size / 2 := by omega
    have H2 : Hid (s.size % 2 = 0) := h2
    clear hk hall
    by_cases hlt : k < s.size / 2
    · have hlt' : 2 * (k : Int) < (s.size : Int) := by omega
      obtain ⟨a, ha⟩ : ∃ c, s.data.toList[2 * k]? = some c := ⟨_, List.getElem?_eq_getElem (by simp; omega)⟩
      obtain ⟨b, hb⟩ : ∃ c, s.data.toList[2 * k + 1]? = some c := ⟨_, List.getElem?_eq_getElem (by simp; omega)⟩
      have hia := fun w => index_at' (P := Tryd.prog) w 9 s .i64 (2 * (k : Int)) (2 * k) a Tryd.underlying9 (by omega) ha
      have hib := fun w => index_at' (P := Tryd.prog) w 9 s .i64 (2 * (k : Int) + 1) (2 * k + 1) b Tryd.underlying9 (by omega) hb
      clear h2
      by_cases da : isDig a = true
      · by_cases db : isDig b = true
        · have hor := or_digits (digVal a) (digVal b) (val_lt a da) (val_lt b db)
          have hx := val_lt a da
          have hy := val_lt b db
          have hone : ∀ u ∈ [Value.int .u8 ((16 * digVal a + digVal b : Nat) : Int)], u.oneCell' = true := by
            intro u hu
            simp only [List.mem_cons, List.not_mem_nil, or_false] at hu
            subst hu
            rfl
          have hlen : (unL (s.data.toList.take (2 * k))).length ≤ 8388608 := by rw [unL_length]; simp; omega
          have hml : (unL (s.data.toList.take (2 * k))).length + 1 ≤ maxLen := by unfold maxLen; omega
          go_wp2_with (first | (go_at_call_of 79 a; refine (digitOf_yes a _ da).mono ?_; rintro e w'' ⟨rfl, rfl⟩) | (go_at_call_of 79 b; refine (digitOf_yes b _ db).mono ?_; rintro e w'' ⟨rfl, rfl⟩) | (at_builtin; refine wpList_append_own _ rfl _ _ 40 rfl w.heap.size 5 i0 (.int .u8 0) 1 1 Tryd.underlying40 hi hz0 hz1 hz2 rfl (by decide) _ _ _ rfl (hown.alloc _) ⟨wr.heap.size, 0, none⟩ 1 1 [.int .u8 (16 * (digVal a : Int) + (digVal b : Int))] rfl rfl (one_cell wr _) hone hml (by omega) (by have := hbel.size; simp; omega) ?_; intro v' w' hown' hgrow' _))
          have R := un_rel ha hb da db hbel HL.out hown hown' _ hgrow'
          clear hown' hgrow' hown
          go_wp2
          go_roundg (gk - 1)
          case measure => have := HK.out; omega
          case rel => exact ⟨k + 1, by have := HK.out; omega, by go_num, R.1, R.2.1, R.2.2⟩
        · have db' : isDig b = false := by simpa using db
          go_wp2_with (first | (go_at_call_of 79 a; refine (digitOf_yes a _ da).mono ?_; rintro e w'' ⟨rfl, rfl⟩) | (go_at_call_of 79 b; refine (digitOf_no b _ db').mono ?_; rintro e w'' ⟨rfl, rfl⟩))
          go_ret2
          simp only [unS, unE, unOK_no hb db']
          exact ⟨rfl, hbel⟩
      · have da' : isDig a = false := by simpa using da
        by_cases db : isDig b = true
        · go_wp2_with (first | (go_at_call_of 79 a; refine (digitOf_no a _ da').mono ?_; rintro e w'' ⟨rfl, rfl⟩) | (go_at_call_of 79 b; refine (digitOf_yes b _ db).mono ?_; rintro e w'' ⟨rfl, rfl⟩))
          go_ret2
          simp only [unS, unE, unOK_no ha da']
          exact ⟨rfl, hbel⟩
        · have db' : isDig b = false := by simpa using db
          go_wp2_with (first | (go_at_call_of 79 a; refine (digitOf_no a _ da').mono ?_; rintro e w'' ⟨rfl, rfl⟩) | (go_at_call_of 79 b; refine (digitOf_no b _ db').mono ?_; rintro e w'' ⟨rfl, rfl⟩))
          go_ret2
          simp only [unS, unE, unOK_no ha da']
          exact ⟨rfl, hbel⟩
    · obtain rfl : k = s.size / 2 := by omega
      have htk : s.data.toList.take (2 * (s.size / 2)) = s.data.toList := List.take_of_length_le (by simp; omega)
      have hall := HL.out
      rw [htk] at hown hall
      have hok : unOK s.data.toList = true := by simp [unOK, hall, h2]
      have hcv := convert_own (P := Tryd.prog) wr 40 9 5 w.heap.size _ (unL s.data.toList) Tryd.underlying40 Tryd.underlying5 Tryd.underlying9 hown
      have hnl : ¬ 2 * ((s.size / 2 : Nat) : Int) < (s.size : Int) := by omega
      clear h2 htk hall HL
      go_wp2
      go_ret2
      simp only [unS, unE, hok]
      exact ⟨rfl, hbel⟩

theorem unhex_any (s : ByteArray) (w : World) (hs : s.size ≤ 16777216) :
    Calls Tryd.prog 60 #[.string s] w fun e w' => e = .returned (.tuple #[.string (unS s), .int .i64 (unE s)]) ∧ Below w.heap.size w w' := by
  by_cases h2 : s.size % 2 = 0
  · exact unhex_even s w hs h2
  · have hrem : ((s.size : Int).tmod 2) = 1 := by rw [Int.tmod_eq_emod_of_nonneg (by omega)]; omega
    have hok : unOK s.data.toList = false := by simp [unOK]; intro h; exact absurd h h2
    clear h2
    go_enter Tryd.func60, Tryd.ntmps60
    go_wp2
    go_ret2
    simp only [unS, unE, hok]
    exact ⟨rfl, Below.refl _ _⟩

end Go.Proofs.YtbjiamaaocjbfaaDoor
