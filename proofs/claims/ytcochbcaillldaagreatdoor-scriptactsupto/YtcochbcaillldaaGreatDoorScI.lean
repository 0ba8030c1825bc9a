import Derived.Test.YtcochbcaillldaaGreatDoorScY
import Derived.Test.YtcochbcaillldaaGreatDoorScR
import Derived.Deep.RegionLaw
namespace Go.Proofs.YtcochbcaillldaaGreatDoor.Sc
open Go.RowKit Go.Lib Go.Deep

set_option maxRecDepth 20000 in
theorem rNumber_any (n : Int) (hn : I64 n) (w : World) (h : ITab w) :
    Calls Tryz.prog 42 #[.int .i64 n] w fun e w' => e = .returned (.string (str (itoa n))) ∧ Below w.heap.size w w' := by
  have h0 := itoa_any n hn w h
  go_enter Tryz.func42, Tryz.ntmps42
  go_wp2_with (go_at_call 87; refine h0.mono ?_; rintro e w1 ⟨rfl, hb1⟩)
  go_ret
  exact ⟨rfl, hb1⟩

set_option maxRecDepth 20000 in
theorem plain_any (c : UInt8) (w : World) : Calls Tryz.prog 105 #[.int .u8 (c.toNat : Int)] w fun e w' => e = .returned (.bool (plN c.toNat)) ∧ w' = w := by
  obtain ⟨R, hR⟩ : ∃ R, plN c.toNat = R := ⟨_, rfl⟩
  rw [hR]
  have HR : Hid (plN c.toNat = R) := hR
  clear hR
  generalize c.toNat = n at HR
  go_enter Tryz.func105, Tryz.ntmps105
  go_wp2
  all_goals
    go_ret
    refine ⟨?_, rfl⟩
    rw [← HR.out]
    refine congrArg (fun b => Ending.returned (.bool b)) (Bool.eq_iff_iff.2 ?_)
    simp [plN]
    omega

theorem three_cells (w : World) (x y z : Value) : ∀ j u, [x, y, z][j]? = some u → (w.alloc (.cells #[x, y, z] 5)).cell? ((⟨w.heap.size, 0, none⟩ : Addr).add j) = some u := by
  intro j u h
  exact cells_new w #[x, y, z] 5 j u (by simpa using h)

set_option maxRecDepth 20000 in
set_option maxHeartbeats 2000000 in
theorem written_any (s : ByteArray) (hs : s.size ≤ 8388608) (w : World) :
    Calls Tryz.prog 64 #[.string s] w fun e w' => e = .returned (.string (str (byL s))) ∧ Below w.heap.size w w' := by
  have hl : s.data.toList.length = s.size := (size_eq s).symm
  obtain ⟨n, hn⟩ : ∃ n, s.size = n := ⟨_, rfl⟩
  rw [hn] at hl hs
  have HS : Hid (s.size = n) := hn
  have hcv : ∀ W : World, (convert 51 51 (.slice (some ⟨W.heap.size, 0, none⟩) 1 1)).run Tryz.prog (W.alloc (.cells #[.int .u8 61] 5)) = .ok (.slice (some ⟨W.heap.size, 0, none⟩) 1 1) (W.alloc (.cells #[.int .u8 61] 5 (1, 2))) :=
    fun W => run_convert_bytes_const W 51 5 #[.int .u8 61] 1 1 Tryz.underlying51 Tryz.underlying5
  have hR0 : RowF (w.alloc (.cells #[.int .u8 61] 5 (1, 2))) w.heap.size 5 (.slice (some ⟨w.heap.size, 0, none⟩) 1 1) (byteCells (61 :: wrL (s.data.toList.take 0))) :=
    ⟨w.heap.size, 1, _, (1, 2), rfl, Nat.le_refl _, heap_alloc_new _ _, fun j hj => frozen_before (heap_alloc_new _ _) hj, rfl, Nat.le_refl _, by unfold maxLen; omega, rfl⟩
  obtain ⟨i0, hi, hz0, hz1, hz2⟩ := info_parts info5
  go_enter Tryz.func64, Tryz.ntmps64
  go_wp2
  go_loopg [3, 4] n (fun gk v i wr => ∃ k : Nat, k + gk = n ∧ i = .int .i64 (k : Int) ∧ RowF wr w.heap.size 5 v (byteCells (61 :: wrL (s.data.toList.take k))) ∧ Hid (Below w.heap.size w wr))
  case atStart => exact ⟨0, by omega, rfl, hR0, (Below.refl _ _).alloc (Nat.le_refl _) _⟩
  case round =>
    obtain ⟨k, hk, rfl, hown, HB⟩ := hrel
    have HK : Hid (k + gk = n) := hk
    have hk' : k ≤ n := by omega
    clear hk hR0
    by_cases hlt : k < n
    · have hltI : (k : Int) < (n : Int) := by omega
      obtain ⟨c, hc⟩ : ∃ c, s.data.toList[k]? = some c := ⟨_, List.getElem?_eq_getElem (by omega)⟩
      have hix := fun W => index_at (P := Tryz.prog) W 9 s .i64 k c Tryz.underlying9 hc
      have hst := wrL_take s.data.toList k c hc
      have hpl := plain_any c wr
      have hbs := HB.out.size
      have hll : (61 :: wrL (s.data.toList.take k)).length ≤ 1 + 3 * n := by
        have := wrL_len (s.data.toList.take k)
        rw [List.length_take] at this
        simp only [List.length_cons]
        omega
      have hlb : (byteCells (61 :: wrL (s.data.toList.take k))).length = (61 :: wrL (s.data.toList.take k)).length := byteCells_len _
      have hml : (byteCells (61 :: wrL (s.data.toList.take k))).length + 3 ≤ maxLen := by unfold maxLen; omega
      clear hc
      by_cases hp : plN c.toNat = true
      · rw [hp] at hpl
        rw [one, if_pos hp] at hst
        have hone : ∀ u ∈ [Value.int .u8 (c.toNat : Int)], u.oneCell' = true := by simp [Value.oneCell']
        go_wp2_with (go_at_call 105; refine hpl.mono ?_)
        rintro e w3 ⟨rfl, rfl⟩
        go_wp2_with (at_builtin; refine wpList_append_rowF rfl _ _ 51 rfl w.heap.size 5 i0 (.int .u8 0) 1 Tryz.underlying51 hi hz0 hz1 hz2 rfl _ _ rfl (hown.alloc _) ⟨w3.heap.size, 0, none⟩ 1 1 [.int .u8 (c.toNat : Int)] rfl rfl (one_cell w3 _) hone (by omega) (by omega) (by simp; omega) ?_)
        intro v' w4 hown' hb4
        have HB4 : Hid (Below w.heap.size w w4) := (HB.out.alloc hbs _).trans hb4
        have HR : Hid (RowF w4 w.heap.size 5 v' (byteCells (61 :: wrL (s.data.toList.take (k + 1))))) := by
          show RowF _ _ _ _ _
          rw [hst, ← List.cons_append, byteCells_append]
          exact hown'
        clear hown' hown hix hb4
        go_wp2
        go_roundg (gk - 1)
        case measure => have := HK.out; omega
        case rel => exact ⟨k + 1, by have := HK.out; omega, by go_num, HR.out, HB4⟩
      · have hp : plN c.toNat = false := by simpa using hp
        rw [hp] at hpl
        rw [one, if_neg (by rw [hp]; decide)] at hst
        have hn := c.toNat_lt
        have hx1 := fun w => index_at (P := Tryz.prog) w 9 digs .u8 (c.toNat / 16) (dig (c.toNat / 16)) Tryz.underlying9 (by have := digs_at (c.toNat / 16) (by omega); simpa using this)
        have hx2 := fun w => index_at (P := Tryz.prog) w 9 digs .u8 (c.toNat % 16) (dig (c.toNat % 16)) Tryz.underlying9 (by have := digs_at (c.toNat % 16) (by omega); simpa using this)
        unfold digs at hx1 hx2
        rw [show ((c.toNat / 16 : Nat) : Int) = (c.toNat : Int) / 16 by omega] at hx1
        rw [show ((c.toNat % 16 : Nat) : Int) = (c.toNat : Int) % 16 by omega] at hx2
        have hq : (c.toNat : Int).tdiv 16 = (c.toNat : Int) / 16 := Int.tdiv_eq_ediv_of_nonneg (by omega)
        have hr : (c.toNat : Int).tmod 16 = (c.toNat : Int) % 16 := Int.tmod_eq_emod_of_nonneg (by omega)
        have hw1 : IntKind.u8.wrap ((c.toNat : Int) / 16) = (c.toNat : Int) / 16 := by rw [IntKind.wrap_u8']; omega
        have hw2 : IntKind.u8.wrap ((c.toNat : Int) % 16) = (c.toNat : Int) % 16 := by rw [IntKind.wrap_u8']; omega
        have hone : ∀ u ∈ [Value.int .u8 37, Value.int .u8 ((dig (c.toNat / 16)).toNat : Int), Value.int .u8 ((dig (c.toNat % 16)).toNat : Int)], u.oneCell' = true := by
          intro u hu
          simp only [List.mem_cons, List.not_mem_nil, or_false] at hu
          rcases hu with rfl | rfl | rfl <;> rfl
        go_wp2_with (go_at_call 105; refine hpl.mono ?_)
        rintro e w3 ⟨rfl, rfl⟩
        go_wp2_with fail
        go_region_law (refine step_append_rowF rfl (.tmp 23) (.tmp 34) 51 rfl w.heap.size 5 i0 (.int .u8 0) 1 Tryz.underlying51 hi hz0 hz1 hz2 rfl _ _ (by simp [Act.eval]) (hown.alloc _) ⟨w3.heap.size, 0, none⟩ 3 3 [.int .u8 37, .int .u8 ((dig (c.toNat / 16)).toNat : Int), .int .u8 ((dig (c.toNat % 16)).toNat : Int)] (by simp [Act.eval]) rfl (three_cells w3 _ _ _) hone (by omega) (by omega) (by simp; omega) ?_; intro v' w4 hown' hb4)
        all_goals
          have HB4 : Hid (Below w.heap.size w w4) := (Below.drew (HB.out.alloc hbs _)).trans hb4
          have HR : Hid (RowF w4 w.heap.size 5 v' (byteCells (61 :: wrL (s.data.toList.take (k + 1))))) := by
            show RowF _ _ _ _ _
            rw [hst, ← List.cons_append, byteCells_append]
            exact hown'
          clear hown' hown hix hx1 hx2 hb4
          go_wp2
          go_roundg (gk - 1)
          case measure => have := HK.out; omega
          case rel => exact ⟨k + 1, by have := HK.out; omega, by go_num, HR.out, HB4⟩
    · obtain rfl : k = n := by omega
      have hltI : ¬ (k : Int) < (k : Int) := by omega
      rw [List.take_of_length_le (by omega)] at hown
      have hcv2 := convert_rowF (P := Tryz.prog) wr 51 9 5 w.heap.size _ (61 :: wrL s.data.toList) Tryz.underlying51 Tryz.underlying5 Tryz.underlying9 hown
      clear hcv
      go_wp2
      go_ret
      exact ⟨rfl, HB.out⟩
end Go.Proofs.YtcochbcaillldaaGreatDoor.Sc
