import Derived.Test.YtebhmebldemndaaDoorSz6A
import Derived.Test.YtebhmebldemndaaDoorRf6A
import Derived.Test.YtebhmebldemndaaDoorLn6A
namespace Go.Proofs.YtebhmebldemndaaDoor.Ae
open Go.RowKit Go.Lib Go.Deep

theorem nonced_any (s : ByteArray) (long : Bool) (hs : s.size ≤ 140737488351232) (w : World) :
    Calls Tryd.prog 16 #[.string s, .bool long] w fun e w' => e = .returned (.string (str (szZ s.data.toList (if long then 24 else 12)))) ∧ Below w.heap.size w w' := by
  cases long with
  | true =>
    have h := sized6_any s 24 (by omega) hs w
    go_enter Tryd.func16, Tryd.ntmps16
    go_wp2_with (go_at_call 9; refine h.mono ?_; rintro e w1 ⟨rfl, hb1⟩)
    go_ret
    exact ⟨rfl, hb1⟩
  | false =>
    have h := sized6_any s 12 (by omega) hs w
    go_enter Tryd.func16, Tryd.ntmps16
    go_wp2_with (go_at_call 9; refine h.mono ?_; rintro e w1 ⟨rfl, hb1⟩)
    go_ret
    exact ⟨rfl, hb1⟩

theorem szZ_fill (l : List UInt8) : szZ l ((l.length + 15) / 16 * 16) = l ++ fillZ l.length := by
  have h : (l.length + 15) / 16 * 16 - l.length = fillN l.length := by unfold fillN; omega
  unfold szZ fillZ
  rw [h]
  refine List.take_of_length_le ?_
  rw [List.length_append, List.length_replicate]
  unfold fillN
  omega
theorem filled_any (s : ByteArray) (hs : s.size ≤ 1048576) (w : World) :
    Calls Tryd.prog 20 #[.string s] w fun e w' => e = .returned (.string (str (s.data.toList ++ fillZ s.data.toList.length))) ∧ Below w.heap.size w w' := by
  have hl : s.data.toList.length = s.size := (size_eq s).symm
  have h := sized6_any s ((s.size + 15) / 16 * 16) (by omega) (by omega) w
  have e : szZ s.data.toList ((s.size + 15) / 16 * 16) = s.data.toList ++ fillZ s.data.toList.length := by rw [← hl]; exact szZ_fill _
  rw [e] at h
  generalize str (s.data.toList ++ fillZ s.data.toList.length) = y at h ⊢
  obtain ⟨q, hq⟩ : ∃ q : Nat, (s.size + 15) / 16 = q := ⟨_, rfl⟩
  have h1 : ((s.size : Int) + 15).tdiv 16 = (q : Int) := by rw [Int.tdiv_eq_ediv_of_nonneg (by omega)]; omega
  have h2 : IntKind.i64.wrap (q : Int) = (q : Int) := by rw [IntKind.wrap_i64]; omega
  have h3 : IntKind.i64.wrap ((q : Int) * 16) = (q : Int) * 16 := by rw [IntKind.wrap_i64]; omega
  rw [hq, show ((q * 16 : Nat) : Int) = (q : Int) * 16 by omega] at h
  clear e
  go_enter Tryd.func20, Tryd.ntmps20
  go_wp2_with (go_at_call 9; refine h.mono ?_; rintro e w1 ⟨rfl, hb1⟩)
  go_ret
  exact ⟨rfl, hb1⟩

/-- n bytes from c on -/
def riseL (c n : Nat) : List UInt8 := (List.range n).map fun i => UInt8.ofNat (c + i)
theorem riseL_length (c n : Nat) : (riseL c n).length = n := by simp [riseL]
theorem riseL_succ (c n : Nat) : riseL c (n + 1) = riseL c n ++ [UInt8.ofNat (c + n)] := by simp [riseL, List.range_succ]

set_option maxRecDepth 20000 in
set_option maxHeartbeats 1000000 in
theorem lrising_any (c n : Nat) (hn : n ≤ 255) (w : World) :
    Calls Tryd.prog 14 #[.int .u8 (c : Int), .int .i64 (n : Int)] w fun e w' => e = .returned (.string (str (riseL c n))) ∧ Below w.heap.size w w' := by
  obtain ⟨i0, hi, hz0, hz1, hz2⟩ := info_parts info5
  have HS : Hid (∀ k : Nat, k ≤ 255 → Lib.byteCells (riseL c (k + 1)) = Lib.byteCells (riseL c k) ++ [.int .u8 (((c : Int) + (k : Int)) % 256)]) := fun k hk => by
    rw [riseL_succ, byteCells_append]
    congr 1
  have HC : Hid (∀ k v W, World.ownsRow W w.heap.size 5 1 v k (Lib.byteCells (riseL c k)) → (convert 40 9 v).run Tryd.prog W = .ok (.string (str (riseL c k))) W) := fun k v W h =>
    convert_own (P := Tryd.prog) W 40 9 5 w.heap.size _ _ Tryd.underlying40 Tryd.underlying5 Tryd.underlying9 (by rw [riseL_length]; exact h)
  have H0 : Hid (Lib.byteCells (riseL c 0) = []) := rfl
  go_enter Tryd.func14, Tryd.ntmps14
  go_wp2
  go_loopg [5, 6] n (fun gk v i wr => ∃ k : Nat, k + gk = n ∧ i = .int .i64 k ∧ wr.ownsRow w.heap.size 5 1 v k (Lib.byteCells (riseL c k)) ∧ Below w.heap.size w wr)
  case atStart => exact ⟨0, by omega, rfl, World.ownsRow_nil _ _ _ _, Below.refl _ _⟩
  case round =>
    obtain ⟨k, hk, rfl, hown, hbel⟩ := hrel
    have HK : Hid (k + gk = n) := hk
    have hk' : k ≤ n := by omega
    clear hk
    by_cases hlt : k < n
    · have hml : k + 1 ≤ maxLen := by unfold maxLen; omega
      have hone : ∀ u ∈ [Value.int .u8 (((c : Int) + (k : Int)) % 256)], u.oneCell' = true := by simp [Value.oneCell']
      go_wp2_with (at_builtin; refine wpList_append_own _ rfl _ _ 40 rfl w.heap.size 5 i0 (.int .u8 0) 1 1 Tryd.underlying40 hi hz0 hz1 hz2 rfl (by decide) _ _ _ rfl (hown.alloc _) ⟨wr.heap.size, 0, none⟩ 1 1 [.int .u8 (((c : Int) + (k : Int)) % 256)] rfl rfl (by intro i u h; exact cells_new wr #[.int .u8 (((c : Int) + (k : Int)) % 256)] 5 i u (by simpa using h)) hone hml (by omega) (by have := hbel.size; simp; omega) ?_; intro v' w' hown' hgrow' _)
      have R : w'.ownsRow w.heap.size 5 1 v' (k + 1) (Lib.byteCells (riseL c (k + 1))) := by rw [HS.out k (by omega)]; exact hown'
      have hb' : Below w.heap.size w w' := by
        have h1 := hbel.alloc hbel.size (.cells #[.int .u8 (((c : Int) + (k : Int)) % 256)] 5)
        exact h1.trans (grown_below hgrow' h1.size (hown.alloc _))
      clear hown' hgrow' hown
      go_wp2
      go_roundg (gk - 1)
      case measure => have := HK.out; omega
      case rel => exact ⟨k + 1, by have := HK.out; omega, by go_num, R, hb'⟩
    · obtain rfl : k = n := by omega
      have hcv := HC.out k _ wr hown
      clear hown
      go_wp2
      go_ret
      exact ⟨rfl, hbel⟩

set_option maxRecDepth 20000 in
set_option maxHeartbeats 1000000 in
theorem leight_any (n : Nat) (hn : n ≤ 4611686018427387904) (w : World) :
    Calls Tryd.prog 21 #[.int .i64 (n : Int)] w fun e w' => e = .returned (.string (str (le8 n))) ∧ Below w.heap.size w w' := by
  obtain ⟨i0, hi, hz0, hz1, hz2⟩ := info_parts info5
  have HS : Hid (∀ k, Lib.byteCells (leN n (k + 1)) = Lib.byteCells (leN n k) ++ [.int .u8 ((n / 256 ^ k % 256 : Nat) : Int)]) := cells_le n
  have HC : Hid (∀ v W, World.ownsRow W w.heap.size 5 1 v 8 (Lib.byteCells (leN n 8)) → (convert 40 9 v).run Tryd.prog W = .ok (.string (str (le8 n))) W) := fun v W h =>
    convert_own (P := Tryd.prog) W 40 9 5 w.heap.size _ _ Tryd.underlying40 Tryd.underlying5 Tryd.underlying9 (by rw [show (le8 n).length = 8 from leN_length n 8]; exact h)
  have HD : Hid (∀ k, n / 256 ^ k / 256 = n / 256 ^ (k + 1)) := fun k => by rw [Nat.div_div_eq_div_mul, Nat.pow_succ]
  go_enter Tryd.func21, Tryd.ntmps21
  go_wp2
  go_loopg [0, 3, 4] 8 (fun gk x v i wr => ∃ k : Nat, k + gk = 8 ∧ i = .int .i64 (k : Int) ∧ x = .int .i64 ((n / 256 ^ k : Nat) : Int) ∧ wr.ownsRow w.heap.size 5 1 v k (Lib.byteCells (leN n k)) ∧ Below w.heap.size w wr)
  case atStart => exact ⟨0, by omega, rfl, by simp, World.ownsRow_nil _ _ _ _, Below.refl _ _⟩
  case round =>
    obtain ⟨k, hk, rfl, rfl, hown, hbel⟩ := hrel
    have HK : Hid (k + gk = 8) := hk
    have hk' : k ≤ 8 := by omega
    clear hk
    have hxl : n / 256 ^ k ≤ 4611686018427387904 := Nat.le_trans (Nat.div_le_self _ _) hn
    have HSk : Hid (Lib.byteCells (leN n (k + 1)) = Lib.byteCells (leN n k) ++ [.int .u8 ((n / 256 ^ k % 256 : Nat) : Int)]) := HS.out k
    have HDk : Hid (n / 256 ^ k / 256 = n / 256 ^ (k + 1)) := HD.out k
    generalize n / 256 ^ k = x at hxl HSk HDk
    obtain ⟨m, hm⟩ : ∃ m : Nat, x % 256 = m := ⟨_, rfl⟩
    obtain ⟨y, hy⟩ : ∃ y : Nat, x / 256 = y := ⟨_, rfl⟩
    have htm : (x : Int).tmod 256 = (m : Int) := by rw [Int.tmod_eq_emod_of_nonneg (by omega)]; omega
    have hwm : IntKind.i64.wrap (m : Int) = (m : Int) := by rw [IntKind.wrap_i64]; omega
    have hum : IntKind.u8.wrap (m : Int) = (m : Int) := by rw [IntKind.wrap_u8]; omega
    have hty : (x : Int).tdiv 256 = (y : Int) := by rw [Int.tdiv_eq_ediv_of_nonneg (by omega)]; omega
    have hwy : IntKind.i64.wrap (y : Int) = (y : Int) := by rw [IntKind.wrap_i64]; omega
    rw [hm] at HSk
    rw [hy] at HDk
    by_cases hlt : k < 8
    · have hltI : (k : Int) < 8 := by omega
      have hml : k + 1 ≤ maxLen := by unfold maxLen; omega
      have hone : ∀ u ∈ [Value.int .u8 (m : Int)], u.oneCell' = true := by simp [Value.oneCell']
      clear hm hy
      go_wp2_with (at_builtin; refine wpList_append_own _ rfl _ _ 40 rfl w.heap.size 5 i0 (.int .u8 0) 1 1 Tryd.underlying40 hi hz0 hz1 hz2 rfl (by decide) _ _ _ rfl (hown.alloc _) ⟨wr.heap.size, 0, none⟩ 1 1 [.int .u8 (m : Int)] rfl rfl (by intro i u h; exact cells_new wr #[.int .u8 (m : Int)] 5 i u (by simpa using h)) hone hml (by omega) (by have := hbel.size; simp; omega) ?_; intro v' w' hown' hgrow' _)
      have R : w'.ownsRow w.heap.size 5 1 v' (k + 1) (Lib.byteCells (leN n (k + 1))) := by rw [HSk.out]; exact hown'
      have hb' : Below w.heap.size w w' := by
        have h1 := hbel.alloc hbel.size (.cells #[.int .u8 (m : Int)] 5)
        exact h1.trans (grown_below hgrow' h1.size (hown.alloc _))
      clear hown' hgrow' hown
      go_wp2
      go_roundg (gk - 1)
      case measure => have := HK.out; omega
      case rel => exact ⟨k + 1, by have := HK.out; omega, by go_num, by rw [← HDk.out], R, hb'⟩
    · obtain rfl : k = 8 := by omega
      have hcv := HC.out _ wr hown
      clear hown
      go_wp2
      go_ret
      exact ⟨rfl, hbel⟩

end Go.Proofs.YtebhmebldemndaaDoor.Ae
