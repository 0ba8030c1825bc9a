import Derived.Test.YtbjiamaaocjbfaaDoorKrP
import Derived.Test.YtbjiamaaocjbfaaDoorBaseM
import Derived.Test.YtbjiamaaocjbfaaDoorShM2
import Derived.Test.YtbjiamaaocjbfaaDoorRf6S
import Derived.Test.YtbjiamaaocjbfaaDoorKoM
import Derived.Test.YtbjiamaaocjbfaaDoorHxM
namespace Go.Proofs.YtbjiamaaocjbfaaDoor.Kr
open Go.RowKit Go.Lib Go.Deep

theorem slice_part {P : Program} (W : World) (t : TypeId) (ht : P.underlying t = some .string) (s : ByteArray) (a b : Nat) (r : List UInt8) (hab : a ≤ b) (hb : b ≤ s.size) (hr : (s.data.toList.take b).drop a = r) :
    (Instr.slice t (.string s) (some (.int .i64 (a : Int))) (some (.int .i64 (b : Int))) none).run P W = .ok (.string (str r)) W := by
  rw [run_slice_string (P := P) W t s .i64 .i64 (a : Int) (b : Int) ht (by omega) (by omega) (by omega)]
  congr 2
  rw [← str_of (s.extract _ _), extract_data, Int.toNat_natCast, Int.toNat_natCast, ← hr, List.drop_take]
theorem strs_snoc (ps : List (List UInt8)) (r : List UInt8) : strCells ((ps ++ [r]).map str) = strCells (ps.map str) ++ [.string (str r)] := by simp [strCells]
theorem info_9 : ∃ i0, Tryd.prog.info? 9 = some i0 ∧ i0.zero = some (.string { data := #[] }) ∧ i0.size = 1 ∧ i0.bytes = 16 := by
  have h := info9
  cases hq : Tryd.prog.info? 9 with
  | none => rw [hq] at h; cases h
  | some i =>
    rw [hq] at h
    simp at h
    exact ⟨i, rfl, h.1, h.2.1, h.2.2⟩
/-- a list of texts in a row of the call's own -/
def Own (w : World) (B : Nat) (v : Value) (L : List (List UInt8)) : Prop := w.ownsRow B 9 1 v L.length (strCells (L.map str))

set_option maxRecDepth 20000 in
set_option maxHeartbeats 1000000 in
theorem rlines_any (s : ByteArray) (hs : s.size ≤ 4194304) (w : World) :
    Calls Tryd.prog 62 #[.string s] w fun e w' => (∃ v, e = .returned v ∧ Own w' w.heap.size v (linesL s.data.toList)) ∧ Below w.heap.size w w' := by
  obtain ⟨i0, hi, hz0, hz1, hz2⟩ := info_9
  have hl : s.data.toList.length = s.size := (size_eq s).symm
  obtain ⟨n, hn⟩ : ∃ n, s.size = n := ⟨_, rfl⟩
  rw [hn] at hl hs
  go_enter Tryd.func62, Tryd.ntmps62
  go_wp2
  go_loopg [3, 4, 5] n (fun gk v f i wr => ∃ (k : Nat) (ps : List (List UInt8)) (r : List UInt8), k + gk = n ∧ i = .int .i64 (k : Int) ∧ Hid (cutS 10 (s.data.toList.take k) = (ps, r)) ∧ r.length ≤ k ∧ ps.length + r.length ≤ k ∧ f = .int .i64 ((k - r.length : Nat) : Int) ∧ wr.ownsRow w.heap.size 9 1 v ps.length (strCells (ps.map str)) ∧ Below w.heap.size w wr)
  case atStart => exact ⟨0, [], [], by omega, rfl, rfl, Nat.le_refl _, Nat.le_refl _, rfl, World.ownsRow_nil _ _ _ _, Below.refl _ _⟩
  case round =>
    obtain ⟨k, ps, r, hk, rfl, HC, hr, hpr, rfl, hown, hbel⟩ := hrel
    have HK : Hid (k + gk = n) := hk
    have hk' : k ≤ n := by omega
    clear hk
    obtain ⟨a, ha⟩ : ∃ a, k - r.length = a := ⟨_, rfl⟩
    rw [ha]
    have hak : a ≤ k := by omega
    have HR : Hid ((s.data.toList.take k).drop a = r) := by
      show _ = _
      have h := cut_drop 10 (s.data.toList.take k)
      rw [HC.out, List.length_take, hl, show min k n = k by omega, ha] at h
      exact h
    by_cases hlt : k < n
    · have hltI : (k : Int) < (n : Int) := by omega
      obtain ⟨x, hx⟩ : ∃ x, s.data.toList[k]? = some x := ⟨_, List.getElem?_eq_getElem (by omega)⟩
      have hix := fun W => kindex_at (P := Tryd.prog) W 9 s .i64 (k : Int) k x Tryd.underlying9 rfl hx
      have hst := cut_take 10 s.data.toList k x hx
      rw [HC.out] at hst
      clear hx
      by_cases hxc : x = 10
      · have HC2 : Hid (cutS 10 (s.data.toList.take (k + 1)) = (ps ++ [r], [])) := by
          show _ = _
          rw [hst, step, if_pos hxc]
        have hxI : (x.toNat : Int) = 10 := by rw [hxc]; rfl
        have hsl := fun W => slice_part (P := Tryd.prog) W 9 Tryd.underlying9 s a k r hak (by omega) HR.out
        have hml : ps.length + 1 ≤ maxLen := by unfold maxLen; omega
        have HS : Hid (strCells ((ps ++ [r]).map str) = strCells (ps.map str) ++ [.string (str r)]) := strs_snoc ps r
        generalize str r = yr at hsl HS
        have hone : ∀ u ∈ [Value.string yr], u.oneCell' = true := by simp [Value.oneCell']
        clear hst hxc HR
        generalize x.toNat = xn at hix hxI
        go_wp2_with (at_builtin; refine wpList_append_own _ rfl _ _ 60 rfl w.heap.size 9 i0 (.string { data := #[] }) 1 16 Tryd.underlying60 hi hz0 hz1 hz2 rfl (by decide) _ _ _ rfl (hown.alloc _) ⟨wr.heap.size, 0, none⟩ 1 1 [.string yr] rfl rfl (by intro i u h; exact cells_new wr #[.string yr] 9 i u (by simpa using h)) hone hml (by omega) (by have := hbel.size; simp; omega) ?_; intro v' w' hown' hgrow' _)
        have R : w'.ownsRow w.heap.size 9 1 v' (ps ++ [r]).length (strCells ((ps ++ [r]).map str)) := by rw [HS.out, List.length_append]; exact hown'
        have hb' : Below w.heap.size w w' := by
          have h1 := hbel.alloc hbel.size (.cells #[.string yr] 9)
          exact h1.trans (grown_below hgrow' h1.size (hown.alloc _))
        clear hown' hgrow' hown
        go_wp2
        go_roundg (gk - 1)
        case measure => have := HK.out; omega
        case rel => exact ⟨k + 1, ps ++ [r], [], by have := HK.out; omega, by go_num, HC2, by simp, by simp; omega, by simp, R, hb'⟩
      · have HC2 : Hid (cutS 10 (s.data.toList.take (k + 1)) = (ps, r ++ [x])) := by
          show _ = _
          rw [hst, step, if_neg hxc]
        have hxI : ¬ (x.toNat : Int) = 10 := fun e => hxc (UInt8.toNat_inj.1 (by have : (((10 : UInt8).toNat : Nat) : Int) = 10 := rfl; omega))
        have HA : Hid (a = k + 1 - (r ++ [x]).length) := by show _ = _; simp; omega
        have HQ : Hid ((r ++ [x]).length ≤ k + 1 ∧ ps.length + (r ++ [x]).length ≤ k + 1) := by
          constructor
          · simp; omega
          · simp; omega
        clear hst hxc HR
        generalize r ++ [x] = r2 at HC2 HA HQ
        generalize x.toNat = xn at hix hxI
        go_wp2
        go_roundg (gk - 1)
        case measure => have := HK.out; omega
        case rel => exact ⟨k + 1, ps, r2, by have := HK.out; omega, by go_num, HC2, HQ.out.1, HQ.out.2, by rw [← HA.out], hown, hbel⟩
    · obtain rfl : k = n := by omega
      have HE : Hid (cutS 10 s.data.toList = (ps, r)) := by
        have h := HC.out
        rw [List.take_of_length_le (by omega)] at h
        exact h
      by_cases hr0 : r = []
      · have hsn : ¬ (a : Int) < (k : Int) := by rw [hr0] at ha; simp at ha; omega
        have HL : Hid (linesL s.data.toList = ps) := by
          show _ = _
          unfold linesL
          rw [HE.out, if_pos hr0]
        clear HR HC
        go_wp2
        go_ret
        refine ⟨⟨_, rfl, ?_⟩, hbel⟩
        unfold Own
        rw [HL.out]
        exact hown
      · have hsn : (a : Int) < (k : Int) := by have := List.length_pos_iff.2 hr0; omega
        have HL : Hid (linesL s.data.toList = []) := by
          show _ = _
          unfold linesL
          rw [HE.out, if_neg hr0]
        clear HR HC
        go_wp2
        go_ret
        refine ⟨⟨_, rfl, ?_⟩, hbel⟩
        unfold Own
        rw [HL.out]
        exact World.ownsRow_nil _ _ _ _

set_option maxRecDepth 20000 in
set_option maxHeartbeats 1000000 in
theorem rwords_any (s : ByteArray) (hs : s.size ≤ 4194304) (w : World) :
    Calls Tryd.prog 64 #[.string s] w fun e w' => (∃ v, e = .returned v ∧ Own w' w.heap.size v (wordsL s.data.toList)) ∧ Below w.heap.size w w' := by
  obtain ⟨i0, hi, hz0, hz1, hz2⟩ := info_9
  have hl : s.data.toList.length = s.size := (size_eq s).symm
  obtain ⟨n, hn⟩ : ∃ n, s.size = n := ⟨_, rfl⟩
  rw [hn] at hl hs
  go_enter Tryd.func64, Tryd.ntmps64
  go_wp2
  go_loopg [3, 4, 5] n (fun gk v f i wr => ∃ (k : Nat) (ps : List (List UInt8)) (r : List UInt8), k + gk = n ∧ i = .int .i64 (k : Int) ∧ Hid (cutS 32 (s.data.toList.take k) = (ps, r)) ∧ r.length ≤ k ∧ ps.length + r.length ≤ k ∧ f = .int .i64 ((k - r.length : Nat) : Int) ∧ wr.ownsRow w.heap.size 9 1 v ps.length (strCells (ps.map str)) ∧ Below w.heap.size w wr)
  case atStart => exact ⟨0, [], [], by omega, rfl, rfl, Nat.le_refl _, Nat.le_refl _, rfl, World.ownsRow_nil _ _ _ _, Below.refl _ _⟩
  case round =>
    obtain ⟨k, ps, r, hk, rfl, HC, hr, hpr, rfl, hown, hbel⟩ := hrel
    have HK : Hid (k + gk = n) := hk
    have hk' : k ≤ n := by omega
    clear hk
    obtain ⟨a, ha⟩ : ∃ a, k - r.length = a := ⟨_, rfl⟩
    rw [ha]
    have hak : a ≤ k := by omega
    have HR : Hid ((s.data.toList.take k).drop a = r) := by
      show _ = _
      have h := cut_drop 32 (s.data.toList.take k)
      rw [HC.out, List.length_take, hl, show min k n = k by omega, ha] at h
      exact h
    by_cases hlt : k < n
    · have hltI : (k : Int) < (n : Int) := by omega
      obtain ⟨x, hx⟩ : ∃ x, s.data.toList[k]? = some x := ⟨_, List.getElem?_eq_getElem (by omega)⟩
      have hix := fun W => kindex_at (P := Tryd.prog) W 9 s .i64 (k : Int) k x Tryd.underlying9 rfl hx
      have hst := cut_take 32 s.data.toList k x hx
      rw [HC.out] at hst
      clear hx
      by_cases hxc : x = 32
      · have HC2 : Hid (cutS 32 (s.data.toList.take (k + 1)) = (ps ++ [r], [])) := by
          show _ = _
          rw [hst, step, if_pos hxc]
        have hxI : (x.toNat : Int) = 32 := by rw [hxc]; rfl
        have hsl := fun W => slice_part (P := Tryd.prog) W 9 Tryd.underlying9 s a k r hak (by omega) HR.out
        have hml : ps.length + 1 ≤ maxLen := by unfold maxLen; omega
        have HS : Hid (strCells ((ps ++ [r]).map str) = strCells (ps.map str) ++ [.string (str r)]) := strs_snoc ps r
        generalize str r = yr at hsl HS
        have hone : ∀ u ∈ [Value.string yr], u.oneCell' = true := by simp [Value.oneCell']
        clear hst hxc HR
        generalize x.toNat = xn at hix hxI
        go_wp2_with (at_builtin; refine wpList_append_own _ rfl _ _ 60 rfl w.heap.size 9 i0 (.string { data := #[] }) 1 16 Tryd.underlying60 hi hz0 hz1 hz2 rfl (by decide) _ _ _ rfl (hown.alloc _) ⟨wr.heap.size, 0, none⟩ 1 1 [.string yr] rfl rfl (by intro i u h; exact cells_new wr #[.string yr] 9 i u (by simpa using h)) hone hml (by omega) (by have := hbel.size; simp; omega) ?_; intro v' w' hown' hgrow' _)
        have R : w'.ownsRow w.heap.size 9 1 v' (ps ++ [r]).length (strCells ((ps ++ [r]).map str)) := by rw [HS.out, List.length_append]; exact hown'
        have hb' : Below w.heap.size w w' := by
          have h1 := hbel.alloc hbel.size (.cells #[.string yr] 9)
          exact h1.trans (grown_below hgrow' h1.size (hown.alloc _))
        clear hown' hgrow' hown
        go_wp2
        go_roundg (gk - 1)
        case measure => have := HK.out; omega
        case rel => exact ⟨k + 1, ps ++ [r], [], by have := HK.out; omega, by go_num, HC2, by simp, by simp; omega, by simp, R, hb'⟩
      · have HC2 : Hid (cutS 32 (s.data.toList.take (k + 1)) = (ps, r ++ [x])) := by
          show _ = _
          rw [hst, step, if_neg hxc]
        have hxI : ¬ (x.toNat : Int) = 32 := fun e => hxc (UInt8.toNat_inj.1 (by have : (((32 : UInt8).toNat : Nat) : Int) = 32 := rfl; omega))
        have HA : Hid (a = k + 1 - (r ++ [x]).length) := by show _ = _; simp; omega
        have HQ : Hid ((r ++ [x]).length ≤ k + 1 ∧ ps.length + (r ++ [x]).length ≤ k + 1) := by
          constructor
          · simp; omega
          · simp; omega
        clear hst hxc HR
        generalize r ++ [x] = r2 at HC2 HA HQ
        generalize x.toNat = xn at hix hxI
        go_wp2
        go_roundg (gk - 1)
        case measure => have := HK.out; omega
        case rel => exact ⟨k + 1, ps, r2, by have := HK.out; omega, by go_num, HC2, HQ.out.1, HQ.out.2, by rw [← HA.out], hown, hbel⟩
    · obtain rfl : k = n := by omega
      have HE : Hid (cutS 32 s.data.toList = (ps, r)) := by
        have h := HC.out
        rw [List.take_of_length_le (by omega)] at h
        exact h
      have HL : Hid (wordsL s.data.toList = ps ++ [r]) := by
        show _ = _
        unfold wordsL
        rw [HE.out]
      have hsl := fun W => Ae.slice_drop (P := Tryd.prog) W 9 Tryd.underlying9 s.data.toList a (by omega)
      rw [show s.data.toList.drop a = r by have h := HR.out; rw [List.take_of_length_le (by omega)] at h; exact h, str_of] at hsl
      have hml : ps.length + 1 ≤ maxLen := by unfold maxLen; omega
      have HS : Hid (strCells ((ps ++ [r]).map str) = strCells (ps.map str) ++ [.string (str r)]) := strs_snoc ps r
      generalize str r = yr at hsl HS
      have hone : ∀ u ∈ [Value.string yr], u.oneCell' = true := by simp [Value.oneCell']
      clear HR HC HE
      go_wp2_with (at_builtin; refine wpList_append_own _ rfl _ _ 60 rfl w.heap.size 9 i0 (.string { data := #[] }) 1 16 Tryd.underlying60 hi hz0 hz1 hz2 rfl (by decide) _ _ _ rfl (hown.alloc _) ⟨wr.heap.size, 0, none⟩ 1 1 [.string yr] rfl rfl (by intro i u h; exact cells_new wr #[.string yr] 9 i u (by simpa using h)) hone hml (by omega) (by have := hbel.size; simp; omega) ?_; intro v' w' hown' hgrow' _)
      have R : w'.ownsRow w.heap.size 9 1 v' (ps ++ [r]).length (strCells ((ps ++ [r]).map str)) := by rw [HS.out, List.length_append]; exact hown'
      have hb' : Below w.heap.size w w' := by
        have h1 := hbel.alloc hbel.size (.cells #[.string yr] 9)
        exact h1.trans (grown_below hgrow' h1.size (hown.alloc _))
      clear hown' hgrow' hown
      go_wp2
      go_ret
      refine ⟨⟨_, rfl, ?_⟩, hb'⟩
      unfold Own
      rw [HL.out]
      exact R

end Go.Proofs.YtbjiamaaocjbfaaDoor.Kr

namespace Go.Proofs.YtbjiamaaocjbfaaDoor
open Go.RowKit Go.Lib Go.Deep

set_option maxRecDepth 20000 in
set_option maxHeartbeats 1000000 in
theorem refHex_any (s : ByteArray) (w : World) (hs : s.size ≤ 4194304) :
    Calls Tryd.prog 20 #[.string s] w fun e w' => e = .returned (.string (hexS s)) ∧ Below w.heap.size w w' := by
  obtain ⟨i0, hi, hz0, hz1, hz2⟩ := info_parts info5
  go_enter Tryd.func20, Tryd.ntmps20
  go_wp2
  go_loopg [3, 4] s.size (fun gk v i wr => ∃ k : Nat, k + gk = s.size ∧ i = .int .i64 k ∧ wr.ownsRow w.heap.size 5 1 v (hexL (s.data.toList.take k)).length (byteCells (hexL (s.data.toList.take k))) ∧ Below w.heap.size w wr)
  case atStart => exact ⟨0, by omega, rfl, by simpa [hexL, byteCells] using World.ownsRow_nil w w.heap.size 5 1, Below.refl _ _⟩
  case round =>
    obtain ⟨k, hk, rfl, hown, hbel⟩ := hrel
    have HK : Hid (k + gk = s.size) := hk
    have hk' : k ≤ s.size := by omega
    clear hk
    by_cases hlt : k < s.size
    · obtain ⟨c, hc⟩ : ∃ c, s.data.toList[k]? = some c := ⟨_, List.getElem?_eq_getElem (by simpa using hlt)⟩
      have hix := fun w => index_at (P := Tryd.prog) w 9 s .i64 k c Tryd.underlying9 hc
      have hn := c.toNat_lt
      have hx1 := fun w => index_at (P := Tryd.prog) w 9 digs .u8 (c.toNat / 16) (dig (c.toNat / 16)) Tryd.underlying9 (by have := digs_at (c.toNat / 16) (by omega); simpa using this)
      have hx2 := fun w => index_at (P := Tryd.prog) w 9 digs .u8 (c.toNat % 16) (dig (c.toNat % 16)) Tryd.underlying9 (by have := digs_at (c.toNat % 16) (by omega); simpa using this)
      unfold digs at hx1 hx2
      rw [show ((c.toNat / 16 : Nat) : Int) = (c.toNat : Int) / 16 by omega] at hx1
      rw [show ((c.toNat % 16 : Nat) : Int) = (c.toNat : Int) % 16 by omega] at hx2
      have hq : (c.toNat : Int).tdiv 16 = (c.toNat : Int) / 16 := Int.tdiv_eq_ediv_of_nonneg (by omega)
      have hr : (c.toNat : Int).tmod 16 = (c.toNat : Int) % 16 := Int.tmod_eq_emod_of_nonneg (by omega)
      have hw1 : IntKind.u8.wrap ((c.toNat : Int) / 16) = (c.toNat : Int) / 16 := by rw [IntKind.wrap_u8']; omega
      have hw2 : IntKind.u8.wrap ((c.toNat : Int) % 16) = (c.toNat : Int) % 16 := by rw [IntKind.wrap_u8']; omega
      go_wp2_with fail
      have hone : ∀ u ∈ [Value.int .u8 ((dig (c.toNat / 16)).toNat : Int), Value.int .u8 ((dig (c.toNat % 16)).toNat : Int)], u.oneCell' = true := by
        intro u hu
        simp only [List.mem_cons, List.not_mem_nil, or_false] at hu
        rcases hu with rfl | rfl <;> rfl
      have hlen : (hexL (s.data.toList.take k)).length ≤ 8388608 := by rw [hexL_length]; simp; omega
      have hml : (hexL (s.data.toList.take k)).length + 2 ≤ maxLen := by unfold maxLen; omega
      go_region_law (refine step_append_own rfl (.tmp 11) (.tmp 22) 40 rfl w.heap.size 5 i0 (.int .u8 0) 1 1 Tryd.underlying40 hi hz0 hz1 hz2 rfl (by decide) _ _ _ (by simp [Act.eval]) (hown.alloc _) ⟨wr.heap.size, 0, none⟩ 2 2 [.int .u8 ((dig (c.toNat / 16)).toNat : Int), .int .u8 ((dig (c.toNat % 16)).toNat : Int)] (by simp [Act.eval]) rfl (two_cells wr _ _) hone hml (by omega) (by have := hbel.size; simp; omega) ?_; intro v' w' hown' hgrow')
      all_goals
        have R := hex_rel hc hbel hown hown' _ hgrow'
        clear hown' hgrow' hown hix hx1 hx2
        go_wp2
        go_roundg (gk - 1)
        case measure => have := HK.out; omega
        case rel => exact ⟨k + 1, by have := HK.out; omega, by go_num, R.1, R.2⟩
    · obtain rfl : k = s.size := by omega
      have htk : s.data.toList.take s.size = s.data.toList := List.take_of_length_le (by simp)
      rw [htk] at hown
      have hcv := convert_own (P := Tryd.prog) wr 40 9 5 w.heap.size _ (hexL s.data.toList) Tryd.underlying40 Tryd.underlying5 Tryd.underlying9 hown
      go_wp2
      go_ret
      exact ⟨rfl, hbel⟩

def digI (c : UInt8) : Int := if isDig c then (digVal c : Int) else -1

theorem digI_find (c : UInt8) (j : Nat) (hj : j < 16) (h : dig j = c) : digI c = (j : Int) := by
  subst h
  simp [digI, dig_is j hj, dig_val j hj]

theorem digI_none (c : UInt8) (h : ∀ j, j < 16 → dig j ≠ c) : digI c = -1 := by
  unfold digI
  by_cases hc : isDig c = true
  · exact absurd (dig_digVal c hc) (h _ (val_lt c hc))
  · simp [hc]

set_option maxRecDepth 20000 in
set_option maxHeartbeats 1000000 in
theorem digit_any (c : UInt8) (w : World) :
    Calls Tryd.prog 98 #[.int .u8 (c.toNat : Int)] w fun e w' => e = .returned (.int .i64 (digI c)) ∧ w = w' := by
  go_enter Tryd.func98, Tryd.ntmps98
  go_wp2
  go_loopg [3] 16 (fun gk i wr => ∃ k : Nat, k + gk = 16 ∧ i = .int .i64 k ∧ w = wr ∧ ∀ j, j < k → dig j ≠ c)
  case atStart => exact ⟨0, by omega, rfl, rfl, fun j hj => absurd hj (by omega)⟩
  case round =>
    obtain ⟨k, hk, rfl, rfl, hno⟩ := hrel
    have HK : Hid (k + gk = 16) := hk
    have HN : Hid (∀ j, j < k → dig j ≠ c) := hno
    have hk' : k ≤ 16 := by omega
    clear hk hno
    by_cases hlt : k < 16
    · have hx := fun w => index_at (P := Tryd.prog) w 9 digs .i64 k (dig k) Tryd.underlying9 (by have := digs_at k hlt; simpa using this)
      unfold digs at hx
      by_cases he : dig k = c
      · have HV : Hid (digI c = (k : Int)) := digI_find c k hlt he
        have he1 : ((dig k).toNat : Int) = (c.toNat : Int) := by rw [he]
        have he2 : (((dig k).toNat : Int) == (c.toNat : Int)) = true := by rw [he]; simp
        clear he he1
        go_wp2
        go_ret
        rw [HV.out]
        exact ⟨rfl, rfl⟩
      · have he2 : (((dig k).toNat : Int) == (c.toNat : Int)) = false := by
          simp only [beq_eq_false_iff_ne, ne_eq, Int.natCast_inj]
          exact fun h => he (UInt8.toNat_inj.1 h)
        go_wp2
        go_roundg (gk - 1)
        case measure => have := HK.out; omega
        case rel =>
          refine ⟨k + 1, by have := HK.out; omega, by go_num, rfl, fun j hj => ?_⟩
          by_cases hjk : j = k
          · subst hjk; exact he
          · exact HN.out j (by omega)
    · have HV : Hid (digI c = -1) := digI_none c fun j hj => HN.out j (by omega)
      go_wp2
      go_ret
      rw [HV.out]
      exact ⟨rfl, rfl⟩

end Go.Proofs.YtbjiamaaocjbfaaDoor

namespace Go.Proofs.YtbjiamaaocjbfaaDoor
open Go.RowKit Go.Lib Go.Deep

theorem digit_yes (c : UInt8) (w : World) (h : isDig c = true) :
    Calls Tryd.prog 98 #[.int .u8 (c.toNat : Int)] w fun e w' => e = .returned (.int .i64 (digVal c : Int)) ∧ w = w' := by
  refine (digit_any c w).mono ?_
  rintro e w' ⟨rfl, rfl⟩
  simp [digI, h]
theorem digit_no (c : UInt8) (w : World) (h : isDig c = false) :
    Calls Tryd.prog 98 #[.int .u8 (c.toNat : Int)] w fun e w' => e = .returned (.int .i64 (-1)) ∧ w = w' := by
  refine (digit_any c w).mono ?_
  rintro e w' ⟨rfl, rfl⟩
  simp [digI, h]

set_option maxRecDepth 20000 in
set_option maxHeartbeats 1000000 in
theorem refUnhex_even (s : ByteArray) (w : World) (hs : s.size ≤ 16777216) (h2 : s.size % 2 = 0) :
    Calls Tryd.prog 81 #[.string s] w fun e w' => e = .returned (.tuple #[.string (unS s), .int .i64 (unE s)]) ∧ Below w.heap.size w w' := by
  obtain ⟨i0, hi, hz0, hz1, hz2⟩ := info_parts info5
  have hrem : ((s.size : Int).tmod 2) = 0 := by rw [Int.tmod_eq_emod_of_nonneg (by omega)]; omega
  go_enter Tryd.func81, Tryd.ntmps81
  go_wp2
  go_loopg [4, 5] (s.size / 2) (fun gk v i wr => ∃ k : Nat, k + gk = s.size / 2 ∧ i = .int .i64 (2 * (k : Int)) ∧ (s.data.toList.take (2 * k)).all isDig = true ∧ wr.ownsRow w.heap.size 5 1 v (unL (s.data.toList.take (2 * k))).length (byteCells (unL (s.data.toList.take (2 * k)))) ∧ Below w.heap.size w wr)
  case atStart => exact ⟨0, by omega, rfl, by simp, by simpa [unL, byteCells] using World.ownsRow_nil w w.heap.size 5 1, Below.refl _ _⟩
  case round =>
    clear hrem
    obtain ⟨k, hk, rfl, hall, hown, hbel⟩ := hrel
    have HK : Hid (k + gk = s.size / 2) := hk
    have HL : Hid ((s.data.toList.take (2 * k)).all isDig = true) := hall
    have hk' : k ≤ s.size / 2 := by omega
    clear hk hall
    by_cases hlt : k < s.size / 2
    · have hlt' : 2 * (k : Int) < (s.size : Int) := by omega
      obtain ⟨a, ha⟩ : ∃ c, s.data.toList[2 * k]? = some c := ⟨_, List.getElem?_eq_getElem (by simp; omega)⟩
      obtain ⟨b, hb⟩ : ∃ c, s.data.toList[2 * k + 1]? = some c := ⟨_, List.getElem?_eq_getElem (by simp; omega)⟩
      have hia := fun w => index_at' (P := Tryd.prog) w 9 s .i64 (2 * (k : Int)) (2 * k) a Tryd.underlying9 (by omega) ha
      have hib := fun w => index_at' (P := Tryd.prog) w 9 s .i64 (2 * (k : Int) + 1) (2 * k + 1) b Tryd.underlying9 (by omega) hb
      clear h2
      by_cases da : isDig a = true
      · by_cases db : isDig b = true
        · have hx := val_lt a da
          have hy := val_lt b db
          have hone : ∀ u ∈ [Value.int .u8 ((16 * digVal a + digVal b : Nat) : Int)], u.oneCell' = true := by
            intro u hu
            simp only [List.mem_cons, List.not_mem_nil, or_false] at hu
            subst hu
            rfl
          have hlen : (unL (s.data.toList.take (2 * k))).length ≤ 8388608 := by rw [unL_length]; simp; omega
          have hml : (unL (s.data.toList.take (2 * k))).length + 1 ≤ maxLen := by unfold maxLen; omega
          have hmod : (16 * (digVal a : Int) + (digVal b : Int)) % 256 = 16 * (digVal a : Int) + (digVal b : Int) := by omega
          go_wp2_with (first | (go_at_call_of 98 a; refine (digit_yes a _ da).mono ?_; rintro e w'' ⟨rfl, rfl⟩) | (go_at_call_of 98 b; refine (digit_yes b _ db).mono ?_; rintro e w'' ⟨rfl, rfl⟩) | (at_builtin; refine wpList_append_own _ rfl _ _ 40 rfl w.heap.size 5 i0 (.int .u8 0) 1 1 Tryd.underlying40 hi hz0 hz1 hz2 rfl (by decide) _ _ _ rfl (hown.alloc _) ⟨wr.heap.size, 0, none⟩ 1 1 [.int .u8 (16 * (digVal a : Int) + (digVal b : Int))] rfl rfl (one_cell wr _) hone hml (by omega) (by have := hbel.size; simp; omega) ?_; intro v' w' hown' hgrow' _))
          have R := un_rel ha hb da db hbel HL.out hown hown' _ hgrow'
          clear hown' hgrow' hown
          go_wp2
          go_roundg (gk - 1)
          case measure => have := HK.out; omega
          case rel => exact ⟨k + 1, by have := HK.out; omega, by go_num, R.1, R.2.1, R.2.2⟩
        · have db' : isDig b = false := by simpa using db
          go_wp2_with (first | (go_at_call_of 98 a; refine (digit_yes a _ da).mono ?_; rintro e w'' ⟨rfl, rfl⟩) | (go_at_call_of 98 b; refine (digit_no b _ db').mono ?_; rintro e w'' ⟨rfl, rfl⟩))
          go_ret2
          simp only [unS, unE, unOK_no hb db']
          exact ⟨rfl, hbel⟩
      · have da' : isDig a = false := by simpa using da
        by_cases db : isDig b = true
        · go_wp2_with (first | (go_at_call_of 98 a; refine (digit_no a _ da').mono ?_; rintro e w'' ⟨rfl, rfl⟩) | (go_at_call_of 98 b; refine (digit_yes b _ db).mono ?_; rintro e w'' ⟨rfl, rfl⟩))
          go_ret2
          simp only [unS, unE, unOK_no ha da']
          exact ⟨rfl, hbel⟩
        · have db' : isDig b = false := by simpa using db
          go_wp2_with (first | (go_at_call_of 98 a; refine (digit_no a _ da').mono ?_; rintro e w'' ⟨rfl, rfl⟩) | (go_at_call_of 98 b; refine (digit_no b _ db').mono ?_; rintro e w'' ⟨rfl, rfl⟩))
          go_ret2
          simp only [unS, unE, unOK_no ha da']
          exact ⟨rfl, hbel⟩
    · obtain rfl : k = s.size / 2 := by omega
      have htk : s.data.toList.take (2 * (s.size / 2)) = s.data.toList := List.take_of_length_le (by simp; omega)
      have hall := HL.out
      rw [htk] at hown hall
      have hok : unOK s.data.toList = true := by simp [unOK, hall, h2]
      have hcv := convert_own (P := Tryd.prog) wr 40 9 5 w.heap.size _ (unL s.data.toList) Tryd.underlying40 Tryd.underlying5 Tryd.underlying9 hown
      have hnl : ¬ 2 * ((s.size / 2 : Nat) : Int) < (s.size : Int) := by omega
      clear h2 htk hall HL
      go_wp2
      go_ret2
      simp only [unS, unE, hok]
      exact ⟨rfl, hbel⟩

theorem refUnhex_any (s : ByteArray) (w : World) (hs : s.size ≤ 16777216) :
    Calls Tryd.prog 81 #[.string s] w fun e w' => e = .returned (.tuple #[.string (unS s), .int .i64 (unE s)]) ∧ Below w.heap.size w w' := by
  by_cases h2 : s.size % 2 = 0
  · exact refUnhex_even s w hs h2
  · have hrem : ((s.size : Int).tmod 2) = 1 := by rw [Int.tmod_eq_emod_of_nonneg (by omega)]; omega
    have hok : unOK s.data.toList = false := by simp [unOK]; intro h; exact absurd h h2
    clear h2
    go_enter Tryd.func81, Tryd.ntmps81
    go_wp2
    go_ret2
    simp only [unS, unE, hok]
    exact ⟨rfl, Below.refl _ _⟩

end Go.Proofs.YtbjiamaaocjbfaaDoor

namespace Go.Proofs.YtbjiamaaocjbfaaDoor.Kr
open Go.RowKit Go.Lib Go.Deep

theorem numOK_take {l : List UInt8} {k : Nat} {x : UInt8} (h : l[k]? = some x) (hx : num1 x = false) : numOK l = false := by
  unfold numOK
  rw [Bool.and_eq_false_iff]
  right
  apply Bool.eq_false_iff.2
  intro e
  have := List.all_eq_true.1 e x (List.mem_of_getElem? h)
  rw [hx] at this
  cases this
theorem valL_take {l : List UInt8} {k : Nat} {x : UInt8} (h : l[k]? = some x) : valL (l.take (k + 1)) = 10 * valL (l.take k) + (x.toNat - 48) := by
  rw [List.take_add_one, h]
  exact valL_snoc _ _

set_option maxRecDepth 20000 in
set_option maxHeartbeats 1000000 in
theorem rnumber_any (s : ByteArray) (hs : s.size ≤ 4194304) (w : World) :
    Calls Tryd.prog 65 #[.string s] w fun e w' => e = .returned (.int .i64 (if numOK s.data.toList = true then (valL s.data.toList : Int) else -1)) ∧ w = w' := by
  have hl : s.data.toList.length = s.size := (size_eq s).symm
  obtain ⟨R, hR⟩ : ∃ R : Int, (if numOK s.data.toList = true then (valL s.data.toList : Int) else -1) = R := ⟨_, rfl⟩
  have HR : Hid ((if numOK s.data.toList = true then (valL s.data.toList : Int) else -1) = R) := hR
  rw [hR]
  clear hR
  by_cases h1 : s.size < 1
  · have i1 : (s.size : Int) < 1 := by omega
    have e : numOK s.data.toList = false := by unfold numOK; rw [decide_eq_false (by omega)]; rfl
    have hR1 : R = -1 := by rw [← HR.out, e]; rfl
    subst hR1
    go_enter Tryd.func65, Tryd.ntmps65
    go_wp2
    go_ret
    exact ⟨rfl, rfl⟩
  have i1 : ¬ (s.size : Int) < 1 := by omega
  by_cases h4 : 4 < s.size
  · have i2 : (4 : Int) < (s.size : Int) := by omega
    have e : numOK s.data.toList = false := by unfold numOK; rw [decide_eq_false (by omega)]; rfl
    have hR1 : R = -1 := by rw [← HR.out, e]; rfl
    subst hR1
    go_enter Tryd.func65, Tryd.ntmps65
    go_wp2
    go_ret
    exact ⟨rfl, rfl⟩
  have i2 : ¬ (4 : Int) < (s.size : Int) := by omega
  obtain ⟨y, hy⟩ : ∃ y, s.data.toList[0]? = some y := ⟨_, List.getElem?_eq_getElem (by omega)⟩
  have hiy := fun W => kindex_at (P := Tryd.prog) W 9 s .i64 0 0 y Tryd.underlying9 rfl hy
  by_cases hz : 1 < s.size ∧ y = 48
  · have i3 : (1 : Int) < (s.size : Int) := by omega
    have i4 : (y.toNat : Int) = 48 := by rw [hz.2]; rfl
    have e : numOK s.data.toList = false := by unfold numOK; rw [decide_eq_false (by rw [hy, hz.2]; simp; omega)]; rfl
    have hR1 : R = -1 := by rw [← HR.out, e]; rfl
    subst hR1
    generalize y.toNat = yn at hiy i4
    clear hy hz
    go_enter Tryd.func65, Tryd.ntmps65
    go_wp2
    go_ret
    exact ⟨rfl, rfl⟩
  have HD : Hid (numOK s.data.toList = s.data.toList.all num1) := by
    show _ = _
    unfold numOK
    rw [decide_eq_true ⟨by omega, by omega, fun hh => hz ⟨by omega, Option.some.inj (hy.symm.trans hh.2)⟩⟩]
    rfl
  have i5 : ¬ ((1 : Int) < (s.size : Int) ∧ (y.toNat : Int) = 48) := fun e => hz ⟨by omega, UInt8.toNat_inj.1 (by show y.toNat = 48; omega)⟩
  generalize hyn : y.toNat = yn at hiy i5
  clear hyn hy hz
  obtain ⟨n, hn⟩ : ∃ n, s.size = n := ⟨_, rfl⟩
  rw [hn] at hl hs h1 h4 i1 i2 i5
  by_cases h11 : (1 : Int) < (n : Int)
  · have i6 : ¬ (yn : Int) = 48 := fun e => i5 ⟨h11, e⟩
    have i7 : ((yn : Int) == 48) = false := by simp; omega
    go_enter Tryd.func65, Tryd.ntmps65
    go_wp2
    go_loopg [3, 4] n (fun gk v i wr => ∃ (k a : Nat), k + gk = n ∧ i = .int .i64 (k : Int) ∧ a + 1 ≤ 10 ^ k ∧ Hid (a = valL (s.data.toList.take k) ∧ (s.data.toList.take k).all num1 = true) ∧ v = .int .i64 (a : Int) ∧ wr = w)
    case atStart => exact ⟨0, 0, by omega, rfl, by simp, ⟨by simp [valL], by simp⟩, rfl, rfl⟩
    case round =>
      obtain ⟨k, a, hk, rfl, ha, HV, rfl, rfl⟩ := hrel
      have HK : Hid (k + gk = n) := hk
      have hk' : k ≤ n := by omega
      clear hk
      have hk4 : 10 ^ k ≤ 10 ^ 4 := Nat.pow_le_pow_right (by omega) (by omega)
      have HA : Hid (a + 1 ≤ 10 ^ k) := ha
      have ha4 : a ≤ 10000 := Nat.le_trans (Nat.le_succ a) (Nat.le_trans ha hk4)
      clear hk4 ha
      by_cases hlt : k < n
      · have hltI : (k : Int) < (n : Int) := by omega
        obtain ⟨x, hx⟩ : ∃ x, s.data.toList[k]? = some x := ⟨_, List.getElem?_eq_getElem (by omega)⟩
        have hix := fun W => kindex_at (P := Tryd.prog) W 9 s .i64 (k : Int) k x Tryd.underlying9 rfl hx
        by_cases hd : num1 x = true
        · have h1 := of_decide_eq_true hd
          have j1 : ¬ (x.toNat : Int) < 48 := by omega
          have j2 : ¬ (57 : Int) < (x.toNat : Int) := by omega
          have HV2 : Hid (10 * a + (x.toNat - 48) = valL (s.data.toList.take (k + 1)) ∧ (s.data.toList.take (k + 1)).all num1 = true) := by
            refine ⟨by rw [valL_take hx, ← HV.out.1], ?_⟩
            rw [List.take_add_one, hx, List.all_append, HV.out.2]
            simp [hd]
          clear hx hd
          have HX : Hid (x.toNat - 48 ≤ 9) := by show _ ≤ _; omega
          generalize x.toNat = xn at hix j1 j2 HV2 h1 HX
          have w1 : IntKind.i64.wrap (10 * (a : Int)) = 10 * (a : Int) := by rw [IntKind.wrap_i64]; omega
          have w2 : IntKind.i64.wrap (10 * (a : Int) + (xn : Int)) = 10 * (a : Int) + (xn : Int) := by rw [IntKind.wrap_i64]; omega
          go_wp2
          go_roundg (gk - 1)
          case measure => have := HK.out; omega
          case rel => exact ⟨k + 1, 10 * a + (xn - 48), by have := HK.out; omega, by go_num, by have := HA.out; have := HX.out; rw [Nat.pow_succ]; omega, HV2, by rw [show ((10 * a + (xn - 48) : Nat) : Int) = 10 * (a : Int) + (xn : Int) - 48 by omega], rfl⟩
        · have hd' : num1 x = false := by simpa using hd
          have e : numOK s.data.toList = false := numOK_take hx hd'
          have hR1 : R = -1 := by rw [← HR.out, e]; rfl
          subst hR1
          clear HR e
          have h1 : ¬ (48 ≤ x.toNat ∧ x.toNat ≤ 57) := fun h => hd (decide_eq_true h)
          clear hx hd hd'
          by_cases j1 : (x.toNat : Int) < 48
          · generalize x.toNat = xn at hix j1 h1
            go_wp2
            go_ret
            exact ⟨rfl, rfl⟩
          · have j2 : (57 : Int) < (x.toNat : Int) := by omega
            generalize x.toNat = xn at hix j1 j2 h1
            go_wp2
            go_ret
            exact ⟨rfl, rfl⟩
      · obtain rfl : k = n := by omega
        have e1 : numOK s.data.toList = true := by
          have h := HV.out.2
          rw [List.take_of_length_le (by omega)] at h
          rw [HD.out, h]
        have e2 : a = valL s.data.toList := by
          have h := HV.out.1
          rw [List.take_of_length_le (by omega)] at h
          exact h
        have hR1 : R = (a : Int) := by rw [← HR.out, e1, if_pos rfl, e2]
        subst hR1
        clear e1 e2 HV HD HR
        go_wp2
        go_ret
        exact ⟨rfl, rfl⟩
  · go_enter Tryd.func65, Tryd.ntmps65
    go_wp2
    go_loopg [3, 4] n (fun gk v i wr => ∃ (k a : Nat), k + gk = n ∧ i = .int .i64 (k : Int) ∧ a + 1 ≤ 10 ^ k ∧ Hid (a = valL (s.data.toList.take k) ∧ (s.data.toList.take k).all num1 = true) ∧ v = .int .i64 (a : Int) ∧ wr = w)
    case atStart => exact ⟨0, 0, by omega, rfl, by simp, ⟨by simp [valL], by simp⟩, rfl, rfl⟩
    case round =>
      obtain ⟨k, a, hk, rfl, ha, HV, rfl, rfl⟩ := hrel
      have HK : Hid (k + gk = n) := hk
      have hk' : k ≤ n := by omega
      clear hk
      have hk4 : 10 ^ k ≤ 10 ^ 4 := Nat.pow_le_pow_right (by omega) (by omega)
      have HA : Hid (a + 1 ≤ 10 ^ k) := ha
      have ha4 : a ≤ 10000 := Nat.le_trans (Nat.le_succ a) (Nat.le_trans ha hk4)
      clear hk4 ha
      by_cases hlt : k < n
      · have hltI : (k : Int) < (n : Int) := by omega
        obtain ⟨x, hx⟩ : ∃ x, s.data.toList[k]? = some x := ⟨_, List.getElem?_eq_getElem (by omega)⟩
        have hix := fun W => kindex_at (P := Tryd.prog) W 9 s .i64 (k : Int) k x Tryd.underlying9 rfl hx
        by_cases hd : num1 x = true
        · have h1 := of_decide_eq_true hd
          have j1 : ¬ (x.toNat : Int) < 48 := by omega
          have j2 : ¬ (57 : Int) < (x.toNat : Int) := by omega
          have HV2 : Hid (10 * a + (x.toNat - 48) = valL (s.data.toList.take (k + 1)) ∧ (s.data.toList.take (k + 1)).all num1 = true) := by
            refine ⟨by rw [valL_take hx, ← HV.out.1], ?_⟩
            rw [List.take_add_one, hx, List.all_append, HV.out.2]
            simp [hd]
          clear hx hd
          have HX : Hid (x.toNat - 48 ≤ 9) := by show _ ≤ _; omega
          generalize x.toNat = xn at hix j1 j2 HV2 h1 HX
          have w1 : IntKind.i64.wrap (10 * (a : Int)) = 10 * (a : Int) := by rw [IntKind.wrap_i64]; omega
          have w2 : IntKind.i64.wrap (10 * (a : Int) + (xn : Int)) = 10 * (a : Int) + (xn : Int) := by rw [IntKind.wrap_i64]; omega
          go_wp2
          go_roundg (gk - 1)
          case measure => have := HK.out; omega
          case rel => exact ⟨k + 1, 10 * a + (xn - 48), by have := HK.out; omega, by go_num, by have := HA.out; have := HX.out; rw [Nat.pow_succ]; omega, HV2, by rw [show ((10 * a + (xn - 48) : Nat) : Int) = 10 * (a : Int) + (xn : Int) - 48 by omega], rfl⟩
        · have hd' : num1 x = false := by simpa using hd
          have e : numOK s.data.toList = false := numOK_take hx hd'
          have hR1 : R = -1 := by rw [← HR.out, e]; rfl
          subst hR1
          clear HR e
          have h1 : ¬ (48 ≤ x.toNat ∧ x.toNat ≤ 57) := fun h => hd (decide_eq_true h)
          clear hx hd hd'
          by_cases j1 : (x.toNat : Int) < 48
          · generalize x.toNat = xn at hix j1 h1
            go_wp2
            go_ret
            exact ⟨rfl, rfl⟩
          · have j2 : (57 : Int) < (x.toNat : Int) := by omega
            generalize x.toNat = xn at hix j1 j2 h1
            go_wp2
            go_ret
            exact ⟨rfl, rfl⟩
      · obtain rfl : k = n := by omega
        have e1 : numOK s.data.toList = true := by
          have h := HV.out.2
          rw [List.take_of_length_le (by omega)] at h
          rw [HD.out, h]
        have e2 : a = valL s.data.toList := by
          have h := HV.out.1
          rw [List.take_of_length_le (by omega)] at h
          exact h
        have hR1 : R = (a : Int) := by rw [← HR.out, e1, if_pos rfl, e2]
        subst hR1
        clear e1 e2 HV HD HR
        go_wp2
        go_ret
        exact ⟨rfl, rfl⟩

end Go.Proofs.YtbjiamaaocjbfaaDoor.Kr

namespace Go.Proofs.YtbjiamaaocjbfaaDoor.Kr
open Go.RowKit Go.Lib Go.Deep

theorem Own.len {w : World} {B : Nat} {v : Value} {L : List (List UInt8)} (h : Own w B v L) : ∃ a cap, v = .slice a L.length cap := by
  rcases h.2 with ⟨h1, h2⟩ | ⟨g, cap, cur, h1, _⟩
  · exact ⟨none, 0, by rw [h2]; exact h1⟩
  · exact ⟨_, cap, h1⟩
theorem Own.at {w : World} {B : Nat} {v : Value} {L : List (List UInt8)} (h : Own w B v L) (hne : L.length ≠ 0) :
    ∃ g cap, v = .slice (some ⟨g, 0, none⟩) L.length cap ∧ B ≤ g ∧ g < w.heap.size ∧ ∀ i x, L[i]? = some x → w.cell? ⟨g, i, none⟩ = some (.string (str x)) := by
  rcases h.2 with ⟨_, h2⟩ | ⟨g, cap, cur, h1, h2, h3, h4, h5, h6, h7⟩
  · exact absurd h2 hne
  · refine ⟨g, cap, h1, h2, heap_lt h3, fun i x hx => ?_⟩
    have hi : i < L.length := (List.getElem?_eq_some_iff.1 hx).1
    have e : (cur.toList.take (L.length * 1))[i]? = some (.string (str x)) := by rw [h7]; simp [strCells, hx]
    rw [List.getElem?_take, if_pos (by omega), Array.getElem?_toList] at e
    rw [cell_of_heap h3]
    exact e
theorem str_ne {a b : List UInt8} (h : a ≠ b) : ((str a).toList == (str b).toList) = false := by
  rw [str_toList, str_toList]
  exact beq_eq_false_iff_ne.2 h
theorem oneL_ne {line word : List UInt8} (h : (wordsL line).length ≠ 2) : oneL line word = none := by
  unfold oneL
  split
  · next e => rw [e] at h; exact absurd rfl h
  · rfl
theorem oneL_two {line word a b : List UInt8} (h : wordsL line = [a, b]) : oneL line word = if a = word ∧ unOK b = true then some (unL b) else none := by
  unfold oneL
  rw [h]
theorem words_short (l p : List UInt8) (h : p ∈ wordsL l) : p.length ≤ l.length := by
  have hc := (cut_glue 32 l).1
  have hl := congrArg List.length hc
  rw [List.length_append] at hl
  unfold wordsL at h
  rcases List.mem_append.1 h with h | h
  · obtain ⟨x, y, e⟩ := List.append_of_mem h
    rw [e, glue_append, glue_cons] at hl
    simp at hl
    omega
  · simp at h
    subst h
    omega
theorem lines_short (l p : List UInt8) (h : p ∈ linesL l) : p.length ≤ l.length := by
  have hc := (cut_glue 10 l).1
  have hl := congrArg List.length hc
  rw [List.length_append] at hl
  unfold linesL at h
  split at h
  · obtain ⟨x, y, e⟩ := List.append_of_mem h
    rw [e, glue_append, glue_cons] at hl
    simp at hl
    omega
  · cases h

set_option maxRecDepth 20000 in
set_option maxHeartbeats 1000000 in
theorem rone_any (line : ByteArray) (word : List UInt8) (hs : line.size ≤ 4194304) (w : World) :
    Calls Tryd.prog 63 #[.string line, .string (str word)] w fun e w' => (∃ y : ByteArray, e = .returned (.tuple #[.string y, .bool (oneL line.data.toList word).isSome]) ∧ (∀ x, oneL line.data.toList word = some x → y = str x)) ∧ Below w.heap.size w w' := by
  have hw := rwords_any line hs w
  by_cases h2 : (wordsL line.data.toList).length = 2
  · obtain ⟨a, b, hab⟩ : ∃ a b, wordsL line.data.toList = [a, b] := by
      match h : wordsL line.data.toList, h2 with
      | [a, b], _ => exact ⟨a, b, rfl⟩
    have hbl : b.length ≤ 4194304 := by
      have := words_short line.data.toList b (by rw [hab]; simp)
      rw [← size_eq] at this
      omega
    have hun := fun W => refUnhex_any (str b) W (by rw [str_size]; omega)
    have HO := oneL_two (word := word) hab
    rw [hab] at hw
    clear hab h2
    by_cases haw : a = word
    · subst haw
      obtain ⟨Y, hY⟩ : ∃ Y, unS (str b) = Y := ⟨_, rfl⟩
      obtain ⟨E, hE⟩ : ∃ E, unE (str b) = E := ⟨_, rfl⟩
      have HP : Hid ((oneL line.data.toList a).isSome = decide (E = 0) ∧ ∀ x, oneL line.data.toList a = some x → Y = str x) := by
        rw [HO, ← hY, ← hE]
        unfold unS unE
        rw [str_data]
        by_cases hu : unOK b = true
        · rw [if_pos ⟨rfl, hu⟩, if_pos hu, if_pos hu]
          exact ⟨rfl, fun x hx => by rw [Option.some.inj hx]⟩
        · rw [if_neg (fun h => hu h.2), if_neg hu, if_neg hu]
          exact ⟨rfl, fun x hx => by cases hx⟩
      rw [hY, hE] at hun
      clear HO hY hE
      revert HP
      generalize (oneL line.data.toList a).isSome = B
      intro HP
      go_enter Tryd.func63, Tryd.ntmps63
      go_wp2_with fail
      refine hw.mono ?_
      rintro e w1 ⟨⟨v, rfl, hown⟩, hb1⟩
      obtain ⟨g, cap, rfl, hg, hgl, hcell⟩ := hown.at (by simp)
      have c0 : w1.cell? ⟨g, 0, none⟩ = some (.string (str a)) := hcell 0 a rfl
      have c1 : w1.cell? ⟨g, 1, none⟩ = some (.string (str b)) := hcell 1 b rfl
      clear hown hcell hw
      go_wp2_with fail
      refine (hun w1).mono ?_
      rintro e w2 ⟨rfl, hb2⟩
      have hb := hb1.trans (hb2.mono hb1.size)
      clear hun hb1 hb2 c0 c1
      go_wp2
      go_ret2
      exact ⟨⟨Y, by rw [HP.out.1]; rfl, HP.out.2⟩, hb⟩
    · have HP : Hid (oneL line.data.toList word = none) := by
        show _ = _
        rw [HO, if_neg (fun h => haw h.1)]
      have hne := str_ne haw
      rw [HP.out]
      clear HO haw
      go_enter Tryd.func63, Tryd.ntmps63
      go_wp2_with fail
      refine hw.mono ?_
      rintro e w1 ⟨⟨v, rfl, hown⟩, hb1⟩
      obtain ⟨g, cap, rfl, hg, hgl, hcell⟩ := hown.at (by simp)
      have c0 : w1.cell? ⟨g, 0, none⟩ = some (.string (str a)) := hcell 0 a rfl
      clear hown hcell hw
      go_wp2
      go_ret2
      exact ⟨⟨_, rfl, fun x hx => by cases hx⟩, hb1⟩
  · rw [oneL_ne h2]
    go_enter Tryd.func63, Tryd.ntmps63
    go_wp2_with fail
    refine hw.mono ?_
    rintro e w1 ⟨⟨v, rfl, hown⟩, hb1⟩
    obtain ⟨a, cap, rfl⟩ := hown.len
    clear hown hw
    generalize (wordsL line.data.toList).length = n at h2 ⊢
    have i2 : ¬ (n : Int) = 2 := by omega
    go_wp2
    go_ret2
    exact ⟨⟨_, rfl, fun x hx => by cases hx⟩, hb1⟩

theorem slotL_ne {line : List UInt8} (h : (wordsL line).length ≠ 4) : slotL line = none := by
  unfold slotL
  split
  · next e => rw [e] at h; exact absurd rfl h
  · rfl
theorem slotL_four {line a b c d : List UInt8} (h : wordsL line = [a, b, c, d]) : slotL line = if a = kSlot ∧ numOK b = true ∧ unOK c = true ∧ unOK d = true then some ⟨unL c, (valL b : Int), unL d⟩ else none := by
  unfold slotL
  rw [h]

set_option maxRecDepth 20000 in
set_option maxHeartbeats 1000000 in
theorem rslot_any (line : ByteArray) (hs : line.size ≤ 4194304) (w : World) :
    Calls Tryd.prog 66 #[.string line] w fun e w' => (∃ y : Value, e = .returned (.tuple #[y, .bool (slotL line.data.toList).isSome]) ∧ (∀ x, slotL line.data.toList = some x → y = slotV x) ∧ ∃ a b c, y = .agg #[.string a, .int .i64 b, .string c]) ∧ Below w.heap.size w w' := by
  have hw := rwords_any line hs (w.alloc (.cells #[.string { data := #[] }, .int .i64 0, .string { data := #[] }] 26))
  have hb0 : Below w.heap.size w (w.alloc (.cells #[.string { data := #[] }, .int .i64 0, .string { data := #[] }] 26)) := (Below.refl _ _).alloc (Nat.le_refl _) _
  by_cases h2 : (wordsL line.data.toList).length = 4
  · obtain ⟨a, b, c, d, hab⟩ : ∃ a b c d, wordsL line.data.toList = [a, b, c, d] := by
      match h : wordsL line.data.toList, h2 with
      | [a, b, c, d], _ => exact ⟨a, b, c, d, rfl⟩
    have hws := fun p hp => words_short line.data.toList p hp
    rw [← size_eq] at hws
    have hbl := hws b (by rw [hab]; simp)
    have hcl := hws c (by rw [hab]; simp)
    have hdl := hws d (by rw [hab]; simp)
    have hun1 := fun W => refUnhex_any (str c) W (by rw [str_size]; omega)
    have hun2 := fun W => refUnhex_any (str d) W (by rw [str_size]; omega)
    have hnum := fun W => rnumber_any (str b) (by rw [str_size]; omega) W
    rw [str_data] at hnum
    have HO := slotL_four hab
    rw [hab] at hw
    clear hab h2 hws
    by_cases hak : a = kSlot
    · have heq : (str a).toList = [115, 108, 111, 116] := by rw [str_toList, hak]; rfl
      have HAK : Hid (a = kSlot) := hak
      clear hak
      by_cases hnb : numOK b = true
      · rw [if_pos hnb] at hnum
        go_enter Tryd.func66, Tryd.ntmps66
        go_wp2_with fail
        refine hw.mono ?_
        rintro e w1 ⟨⟨v, rfl, hown⟩, hb1'⟩
        have hA : w1.heap[w.heap.size]? = some (.cells #[.string { data := #[] }, .int .i64 0, .string { data := #[] }] 26 (0, 0)) := (hb1'.block _ (by simp)).trans (heap_new _ _)
        have hb1 := hb0.trans (hb1'.mono (by simp))
        obtain ⟨g, cap, rfl, hg, hgl, hcell⟩ := hown.at (by simp)
        have c0 : w1.cell? ⟨g, 0, none⟩ = some (.string (str a)) := hcell 0 a rfl
        have c1 : w1.cell? ⟨g, 1, none⟩ = some (.string (str b)) := hcell 1 b rfl
        have c2 : w1.cell? ⟨g, 2, none⟩ = some (.string (str c)) := hcell 2 c rfl
        have c3 : w1.cell? ⟨g, 3, none⟩ = some (.string (str d)) := hcell 3 d rfl
        clear hown hcell hw
        have HG : Hid (∀ W, Below w1.heap.size w1 W → W.cell? ⟨g, 1, none⟩ = some (.string (str b)) ∧ W.cell? ⟨g, 3, none⟩ = some (.string (str d)) ∧ W.heap[w.heap.size]? = some (.cells #[.string { data := #[] }, .int .i64 0, .string { data := #[] }] 26 (0, 0))) := fun W h =>
          ⟨(h.cell (p := ⟨g, 1, none⟩) hgl).trans c1, (h.cell (p := ⟨g, 3, none⟩) hgl).trans c3, (h.block _ (heap_lt hA)).trans hA⟩
        obtain ⟨Y1, hY1⟩ : ∃ Y, unS (str c) = Y := ⟨_, rfl⟩
        obtain ⟨E1, hE1⟩ : ∃ E, unE (str c) = E := ⟨_, rfl⟩
        obtain ⟨Y2, hY2⟩ : ∃ Y, unS (str d) = Y := ⟨_, rfl⟩
        obtain ⟨E2, hE2⟩ : ∃ E, unE (str d) = E := ⟨_, rfl⟩
        have HP : Hid ((slotL line.data.toList).isSome = (decide (E1 = 0) && decide (E2 = 0)) ∧ ∀ x, slotL line.data.toList = some x → .agg #[.string Y1, .int .i64 (valL b : Int), .string Y2] = slotV x) := by
          rw [HO, ← hY1, ← hE1, ← hY2, ← hE2]
          unfold unS unE
          rw [str_data, str_data]
          by_cases hc : unOK c = true
          · by_cases hd : unOK d = true
            · rw [if_pos ⟨HAK.out, hnb, hc, hd⟩, if_pos hc, if_pos hc, if_pos hd, if_pos hd]
              exact ⟨rfl, fun x hx => by rw [← Option.some.inj hx]; rfl⟩
            · rw [if_neg (fun h => hd h.2.2.2), if_pos hc, if_pos hc, if_neg hd, if_neg hd]
              exact ⟨rfl, fun x hx => by cases hx⟩
          · rw [if_neg (fun h => hc h.2.2.1), if_neg hc, if_neg hc]
            exact ⟨by simp, fun x hx => by cases hx⟩
        rw [hY1, hE1] at hun1
        rw [hY2, hE2] at hun2
        clear HO hY1 hE1 hY2 hE2 HAK hnb
        generalize valL b = n at hnum HP
        go_wp2_with fail
        refine (hnum _).mono ?_
        rintro e w1' ⟨rfl, rfl⟩
        go_wp2_with fail
        refine (hun1 _).mono ?_
        rintro e w2 ⟨rfl, hb2⟩
        obtain ⟨e1, e3, eA⟩ := HG.out w2 hb2
        clear c0 c1 c2 c3
        go_wp2_with fail
        refine (hun2 _).mono ?_
        rintro e w3 ⟨rfl, hb3'⟩
        have hb3 := hb2.trans (hb3'.mono hb2.size)
        clear e1 e3 eA hb3' hb2 hun1 hun2
        obtain ⟨e1, e3, eA⟩ := HG.out w3 hb3
        have hbw := hb1.trans (hb3.mono hb1.size)
        have d0 : w3.cell? ⟨w.heap.size, 0, none⟩ = some (.string { data := #[] }) := (cell_of_heap eA).trans rfl
        have d1 : w3.cell? ⟨w.heap.size, 1, none⟩ = some (.int .i64 0) := (cell_of_heap eA).trans rfl
        have d2 : w3.cell? ⟨w.heap.size, 2, none⟩ = some (.string { data := #[] }) := (cell_of_heap eA).trans rfl
        have f0 : w3.frozen? ⟨w.heap.size, 0, none⟩ = false := frozen_of_heap eA
        have f1 : w3.frozen? ⟨w.heap.size, 1, none⟩ = false := frozen_of_heap eA
        have f2 : w3.frozen? ⟨w.heap.size, 2, none⟩ = false := frozen_of_heap eA
        by_cases hz : E1 = 0
        · subst hz
          go_wp2_with (go_at_call 65; refine (hnum _).mono ?_; rintro e w3' ⟨rfl, rfl⟩)
          refine bodyPost_ret (results_cell_tmp rfl _ _ w.heap.size 26 _ (0, 0) _ rfl (put3 eA) Tryd.underlying26 rfl sizeSlot) rfl ?_
          exact ⟨⟨_, by rw [HP.out.1]; rfl, HP.out.2, _, _, _, rfl⟩, ((hbw.setCell (Nat.le_refl _) _).setCell (Nat.le_refl _) _).setCell (Nat.le_refl _) _⟩
        · have hz2 : (E1 == 0) = false := by simpa using hz
          go_wp2_with (go_at_call 65; refine (hnum _).mono ?_; rintro e w3' ⟨rfl, rfl⟩)
          refine bodyPost_ret (results_cell_tmp rfl _ _ w.heap.size 26 _ (0, 0) _ rfl (put3 eA) Tryd.underlying26 rfl sizeSlot) rfl ?_
          exact ⟨⟨_, by rw [HP.out.1, decide_eq_false hz]; rfl, HP.out.2, _, _, _, rfl⟩, ((hbw.setCell (Nat.le_refl _) _).setCell (Nat.le_refl _) _).setCell (Nat.le_refl _) _⟩
      · rw [if_neg hnb] at hnum
        rw [HO, if_neg (fun h => hnb h.2.1)]
        clear HO hnb
        go_enter Tryd.func66, Tryd.ntmps66
        go_wp2_with fail
        refine hw.mono ?_
        rintro e w1 ⟨⟨v, rfl, hown⟩, hb1'⟩
        have hA : w1.heap[w.heap.size]? = some (.cells #[.string { data := #[] }, .int .i64 0, .string { data := #[] }] 26 (0, 0)) := (hb1'.block _ (by simp)).trans (heap_new _ _)
        have hb1 := hb0.trans (hb1'.mono (by simp))
        have d0 : w1.cell? ⟨w.heap.size, 0, none⟩ = some (.string { data := #[] }) := (cell_of_heap hA).trans rfl
        have d1 : w1.cell? ⟨w.heap.size, 1, none⟩ = some (.int .i64 0) := (cell_of_heap hA).trans rfl
        have d2 : w1.cell? ⟨w.heap.size, 2, none⟩ = some (.string { data := #[] }) := (cell_of_heap hA).trans rfl
        have f0 : w1.frozen? ⟨w.heap.size, 0, none⟩ = false := frozen_of_heap hA
        have f1 : w1.frozen? ⟨w.heap.size, 1, none⟩ = false := frozen_of_heap hA
        have f2 : w1.frozen? ⟨w.heap.size, 2, none⟩ = false := frozen_of_heap hA
        obtain ⟨g, cap, rfl, hg, hgl, hcell⟩ := hown.at (by simp)
        have c0 : w1.cell? ⟨g, 0, none⟩ = some (.string (str a)) := hcell 0 a rfl
        have c1 : w1.cell? ⟨g, 1, none⟩ = some (.string (str b)) := hcell 1 b rfl
        have c2 : w1.cell? ⟨g, 2, none⟩ = some (.string (str c)) := hcell 2 c rfl
        have c3 : w1.cell? ⟨g, 3, none⟩ = some (.string (str d)) := hcell 3 d rfl
        clear hown hcell hw
        go_wp2_with fail
        refine (hnum _).mono ?_
        rintro e w1' ⟨rfl, rfl⟩
        go_wp2
        refine bodyPost_ret (results_cell_tmp rfl _ _ w.heap.size 26 _ (0, 0) _ rfl (put3 hA) Tryd.underlying26 rfl sizeSlot) rfl ?_
        exact ⟨⟨_, rfl, fun x hx => (by cases hx), _, _, _, rfl⟩, ((hb1.setCell (Nat.le_refl _) _).setCell (Nat.le_refl _) _).setCell (Nat.le_refl _) _⟩
    · have hne : ((str a).toList == [115, 108, 111, 116]) = false := by rw [str_toList]; exact beq_eq_false_iff_ne.2 hak
      have hne2 : ¬ (str a).toList = [115, 108, 111, 116] := by rw [str_toList]; exact hak
      rw [HO, if_neg (fun h => hak h.1)]
      clear HO hak
      go_enter Tryd.func66, Tryd.ntmps66
      go_wp2_with fail
      refine hw.mono ?_
      rintro e w1 ⟨⟨v, rfl, hown⟩, hb1'⟩
      have hA : w1.heap[w.heap.size]? = some (.cells #[.string { data := #[] }, .int .i64 0, .string { data := #[] }] 26 (0, 0)) := (hb1'.block _ (by simp)).trans (heap_new _ _)
      have hb1 := hb0.trans (hb1'.mono (by simp))
      have d0 : w1.cell? ⟨w.heap.size, 0, none⟩ = some (.string { data := #[] }) := (cell_of_heap hA).trans rfl
      have d1 : w1.cell? ⟨w.heap.size, 1, none⟩ = some (.int .i64 0) := (cell_of_heap hA).trans rfl
      have d2 : w1.cell? ⟨w.heap.size, 2, none⟩ = some (.string { data := #[] }) := (cell_of_heap hA).trans rfl
      have f0 : w1.frozen? ⟨w.heap.size, 0, none⟩ = false := frozen_of_heap hA
      have f1 : w1.frozen? ⟨w.heap.size, 1, none⟩ = false := frozen_of_heap hA
      have f2 : w1.frozen? ⟨w.heap.size, 2, none⟩ = false := frozen_of_heap hA
      obtain ⟨g, cap, rfl, hg, hgl, hcell⟩ := hown.at (by simp)
      have c0 : w1.cell? ⟨g, 0, none⟩ = some (.string (str a)) := hcell 0 a rfl
      have c1 : w1.cell? ⟨g, 1, none⟩ = some (.string (str b)) := hcell 1 b rfl
      have c2 : w1.cell? ⟨g, 2, none⟩ = some (.string (str c)) := hcell 2 c rfl
      have c3 : w1.cell? ⟨g, 3, none⟩ = some (.string (str d)) := hcell 3 d rfl
      clear hown hcell hw
      go_wp2
      refine bodyPost_ret (results_cell_tmp rfl _ _ w.heap.size 26 _ (0, 0) _ rfl (put3 hA) Tryd.underlying26 rfl sizeSlot) rfl ?_
      exact ⟨⟨_, rfl, fun x hx => (by cases hx), _, _, _, rfl⟩, ((hb1.setCell (Nat.le_refl _) _).setCell (Nat.le_refl _) _).setCell (Nat.le_refl _) _⟩
  · rw [slotL_ne h2]
    go_enter Tryd.func66, Tryd.ntmps66
    go_wp2_with fail
    refine hw.mono ?_
    rintro e w1 ⟨⟨v, rfl, hown⟩, hb1'⟩
    have hA : w1.heap[w.heap.size]? = some (.cells #[.string { data := #[] }, .int .i64 0, .string { data := #[] }] 26 (0, 0)) := (hb1'.block _ (by simp)).trans (heap_new _ _)
    have hb1 := hb0.trans (hb1'.mono (by simp))
    have d0 : w1.cell? ⟨w.heap.size, 0, none⟩ = some (.string { data := #[] }) := (cell_of_heap hA).trans rfl
    have d1 : w1.cell? ⟨w.heap.size, 1, none⟩ = some (.int .i64 0) := (cell_of_heap hA).trans rfl
    have d2 : w1.cell? ⟨w.heap.size, 2, none⟩ = some (.string { data := #[] }) := (cell_of_heap hA).trans rfl
    have f0 : w1.frozen? ⟨w.heap.size, 0, none⟩ = false := frozen_of_heap hA
    have f1 : w1.frozen? ⟨w.heap.size, 1, none⟩ = false := frozen_of_heap hA
    have f2 : w1.frozen? ⟨w.heap.size, 2, none⟩ = false := frozen_of_heap hA
    obtain ⟨a, cap, rfl⟩ := hown.len
    clear hown hw
    generalize (wordsL line.data.toList).length = n at h2 ⊢
    have i2 : ¬ (n : Int) = 4 := by omega
    go_wp2
    refine bodyPost_ret (results_cell_tmp rfl _ _ w.heap.size 26 _ (0, 0) _ rfl (put3 hA) Tryd.underlying26 rfl sizeSlot) rfl ?_
    exact ⟨⟨_, rfl, fun x hx => (by cases hx), _, _, _, rfl⟩, ((hb1.setCell (Nat.le_refl _) _).setCell (Nat.le_refl _) _).setCell (Nat.le_refl _) _⟩

end Go.Proofs.YtbjiamaaocjbfaaDoor.Kr
