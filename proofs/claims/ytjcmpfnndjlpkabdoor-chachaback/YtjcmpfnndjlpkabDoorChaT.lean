import Derived.Test.YtjcmpfnndjlpkabDoorChaN
import Derived.Test.YtjcmpfnndjlpkabDoorChaS
namespace Go.Proofs.YtjcmpfnndjlpkabDoor
open Go.RowKit Go.Lib Go.Deep

/-- a text cut, or filled up with the byte 7 -/
def szB (l : List UInt8) (i : Nat) : UInt8 := if i < l.length then l.getD i 0 else 7
def szL (l : List UInt8) (n : Nat) : List UInt8 := (List.range n).map (szB l)
theorem szL_length (l : List UInt8) (n : Nat) : (szL l n).length = n := by simp [szL]

set_option maxRecDepth 20000 in
set_option maxHeartbeats 1000000 in
theorem sized_any (s : ByteArray) (n : Nat) (hn : n ≤ 255) (w : World) :
    Calls Tryd.prog 8 #[.string s, .int .i64 (n : Int)] w fun e w' => e = .returned (.string (str (szL s.data.toList n))) ∧ Below w.heap.size w w' := by
  obtain ⟨i0, hi, hz0, hz1, hz2⟩ := info_parts info5
  have hsz : s.data.toList.length = s.size := (size_eq s).symm
  go_enter Tryd.func8, Tryd.ntmps8
  go_wp2_with (at_make; refine wpList_make_full _ rfl _ _ 40 rfl w.heap.size 5 i0 (.int .u8 0) 1 Tryd.underlying40 hi hz0 hz1 .i64 .i64 _ _ n rfl rfl rfl rfl (by rw [hz2]; omega) (by unfold maxLen; omega) (Nat.le_refl _) ?_; intro w1 hown1 hg1)
  have hb1 : Below w.heap.size w w1 := Below.grown (Below.refl _ _) hg1 (Nat.le_refl _) (by simp)
  have HR1 := Rw.made hown1
  clear hown1 hg1
  go_loopg [6] n (fun gk i wr => ∃ k : Nat, k + gk = n ∧ i = .int .i64 k ∧ Rw wr w.heap.size (fillL (szB s.data.toList) n k) ∧ Below w.heap.size w wr)
  case atStart => exact ⟨0, by omega, rfl, by rw [fillL_zero]; exact HR1, hb1⟩
  case round =>
    clear HR1 hb1
    obtain ⟨k, hkk, rfl, HR, hbel⟩ := hrel
    have HK : Hid (k + gk = n) := hkk
    have hk' : k ≤ n := by omega
    clear hkk
    by_cases hlt : k < n
    · have hltI : (k : Int) < (n : Int) := by omega
      have c0 := HR.cell k 0 (fillL_at _ n k hlt)
      have f0 := HR.frozen k
      have H7 := HR.put k 7
      have hb7 := hbel.setCell (p := ⟨w.heap.size, k, none⟩) (Nat.le_refl _) (.int .u8 7)
      have HF := fillL_set (szB s.data.toList) n k hlt
      by_cases hks : k < s.size
      · have hksI : (k : Int) < (s.size : Int) := by omega
        obtain ⟨x, hx⟩ : ∃ x, s.data.toList[k]? = some x := ⟨_, List.getElem?_eq_getElem (by omega)⟩
        have hix := fun W => rindex_at (P := Tryd.prog) W 9 s .i64 (k : Int) k x Tryd.underlying9 rfl hx
        have hxe : szB s.data.toList k = x := by rw [szB, if_pos (by omega), List.getD_eq_getElem?_getD, hx]; rfl
        have HP := H7.put k x
        rw [List.set_set] at HP
        rw [hxe] at HF
        rw [HF] at HP
        have hb8 := hb7.setCell (p := ⟨w.heap.size, k, none⟩) (Nat.le_refl _) (.int .u8 (x.toNat : Int))
        have HP' : Rw ((wr.setCell ⟨w.heap.size, k, none⟩ (.int .u8 7)).setCell ⟨w.heap.size, k, none⟩ (.int .u8 (x.toNat : Int))) w.heap.size (fillL (szB s.data.toList) n (k + 1)) := HP
        clear HR H7 hbel hb7 HF hx hxe HP
        revert hix HP' hb8
        generalize (x.toNat : Int) = xi
        intro hix hb8 HP'
        go_wp2
        go_roundg (gk - 1)
        case measure => have := HK.out; omega
        case rel => exact ⟨k + 1, by have := HK.out; omega, by go_num, HP', hb8⟩
      · have hksI : ¬ (k : Int) < (s.size : Int) := by omega
        have hxe : szB s.data.toList k = 7 := by rw [szB, if_neg (by omega)]
        rw [hxe] at HF
        rw [HF] at H7
        have H7' : Rw (wr.setCell ⟨w.heap.size, k, none⟩ (.int .u8 7)) w.heap.size (fillL (szB s.data.toList) n (k + 1)) := H7
        clear HR H7 hbel HF hxe
        go_wp2
        go_roundg (gk - 1)
        case measure => have := HK.out; omega
        case rel => exact ⟨k + 1, by have := HK.out; omega, by go_num, H7', hb7⟩
    · obtain rfl : k = n := by omega
      have hltI : ¬ (k : Int) < (k : Int) := by omega
      rw [fillL_all] at HR
      have hcv := HR.text (P := Tryd.prog) 40 9 k Tryd.underlying40 Tryd.underlying5 Tryd.underlying9
      rw [show ((List.range k).map (szB s.data.toList)).length = k by simp] at hcv
      clear HR
      go_wp2
      go_ret
      exact ⟨rfl, hbel⟩

/-- a counter that leaves room -/
def ctr (n : Int) (R : Int) : Int :=
  if (if n.tmod (R + 1) < 0 then n.tmod (R + 1) + R + 1 else n.tmod (R + 1)) > 4294967295 then 4294967295 else (if n.tmod (R + 1) < 0 then n.tmod (R + 1) + R + 1 else n.tmod (R + 1))
theorem tmod_bounds (n R : Int) (hR : 0 ≤ R) : -(R + 1) < n.tmod (R + 1) ∧ n.tmod (R + 1) < R + 1 := by
  have h1 := Int.tmod_lt_of_pos n (by omega : 0 < R + 1)
  have h2 := Int.lt_tmod_of_pos n (by omega : 0 < R + 1)
  exact ⟨h2, h1⟩
theorem ctr_ok (n : Int) (R : Int) (h0 : 0 ≤ R) (h1 : R ≤ 4294967296) : 0 ≤ ctr n R ∧ ctr n R ≤ 4294967295 ∧ ctr n R ≤ R := by
  obtain ⟨h2, h3⟩ := tmod_bounds n R h0
  unfold ctr
  split <;> split <;> rename_i h4 h5 <;> (try rw [if_pos h5] at h4) <;> (try rw [if_neg h5] at h4) <;> omega

set_option maxHeartbeats 1000000 in
theorem counter_any (n : Int) (b : Nat) (hb : b ≤ 1000000) (w : World) :
    Calls Tryd.prog 9 #[.int .i64 n, .int .i64 (b : Int)] w fun e w' => e = .returned (.int .i64 (ctr n (4294967296 - ((b + 63) / 64 : Nat)))) ∧ w = w' := by
  obtain ⟨R, hR⟩ : ∃ R : Int, 4294967296 - (((b + 63) / 64 : Nat) : Int) = R := ⟨_, rfl⟩
  have hRb : 0 ≤ R ∧ R ≤ 4294967296 := by omega
  have hq : ((b : Int) + 63).tdiv 64 = ((b : Int) + 63) / 64 := Int.tdiv_eq_ediv_of_nonneg (by omega)
  have hr : 4294967296 - ((b : Int) + 63) / 64 = R := by omega
  have hw1 : IntKind.i64.wrap ((b : Int) + 63) = (b : Int) + 63 := by rw [IntKind.wrap_i64]; omega
  have hw2 : IntKind.i64.wrap R = R := by rw [IntKind.wrap_i64]; omega
  have hw3 : IntKind.i64.wrap (R + 1) = R + 1 := by rw [IntKind.wrap_i64]; omega
  have hw3' : wrap64 (R + 1) = R + 1 := by unfold wrap64; omega
  have hne : ((R + 1) == (0 : Int)) = false := by simp; omega
  have hne2 : ¬ (R + 1 = 0) := by omega
  have hneg : ¬ (R + 1 = -1) := by omega
  obtain ⟨t1, t2⟩ := tmod_bounds n R hRb.1
  have HC : Hid (ctr n R = if (if n.tmod (R + 1) < 0 then n.tmod (R + 1) + R + 1 else n.tmod (R + 1)) > 4294967295 then 4294967295 else (if n.tmod (R + 1) < 0 then n.tmod (R + 1) + R + 1 else n.tmod (R + 1))) := rfl
  rw [hR, HC.out]
  clear hR HC
  obtain ⟨t, ht⟩ : ∃ t, n.tmod (R + 1) = t := ⟨_, rfl⟩
  rw [ht] at t1 t2 ⊢
  have hwt : IntKind.i64.wrap t = t := by rw [IntKind.wrap_i64]; omega
  have hwt' : wrap64 t = t := by unfold wrap64; omega
  have hb63 : (0 : Int) ≤ (b : Int) + 63 := by omega
  by_cases hneg : t < 0
  · have hwa : IntKind.i64.wrap (t + R) = t + R := by rw [IntKind.wrap_i64]; omega
    have hwb : IntKind.i64.wrap (t + R + 1) = t + R + 1 := by rw [IntKind.wrap_i64]; omega
    rw [if_pos hneg]
    by_cases hbig : t + R + 1 > 4294967295
    · have hbigI : (4294967295 : Int) < t + R + 1 := hbig
      rw [if_pos hbig]
      go_enter Tryd.func9, Tryd.ntmps9
      go_wp2
      go_ret
      exact ⟨rfl, rfl⟩
    · have hbigI : ¬ (4294967295 : Int) < t + R + 1 := hbig
      rw [if_neg hbig]
      go_enter Tryd.func9, Tryd.ntmps9
      go_wp2
      go_ret
      exact ⟨rfl, rfl⟩
  · rw [if_neg hneg]
    by_cases hbig : t > 4294967295
    · have hbigI : (4294967295 : Int) < t := hbig
      rw [if_pos hbig]
      go_enter Tryd.func9, Tryd.ntmps9
      go_wp2
      go_ret
      exact ⟨rfl, rfl⟩
    · have hbigI : ¬ (4294967295 : Int) < t := hbig
      rw [if_neg hbig]
      go_enter Tryd.func9, Tryd.ntmps9
      go_wp2
      go_ret
      exact ⟨rfl, rfl⟩

end Go.Proofs.YtjcmpfnndjlpkabDoor
