import Derived.Test.YtpaliogchhkheaaHexC
namespace Go.Proofs.Ytpaliogchhkheaa
open Go.RowKit Go.Lib Go.Deep

set_option maxHeartbeats 1000000 in
theorem refHex_any (s : ByteArray) (w : World) (hs : s.size ≤ 4194304) :
    Calls Try.prog 7 #[.string s] w fun e w' => e = .returned (.string (hexS s)) ∧ Below w.heap.size w w' := by
  obtain ⟨i0, hi, hz0, hz1, hz2⟩ := info_parts info5
  go_enter Try.func7, Try.ntmps7
  go_wp2
  go_loopg [3, 4] s.size (fun gk v i wr => ∃ k : Nat, k + gk = s.size ∧ i = .int .i64 k ∧ wr.ownsRow w.heap.size 5 1 v (hexL (s.data.toList.take k)).length (byteCells (hexL (s.data.toList.take k))) ∧ Below w.heap.size w wr)
  case atStart => exact ⟨0, by omega, rfl, by simpa [hexL, byteCells] using World.ownsRow_nil w w.heap.size 5 1, Below.refl _ _⟩
  case round =>
    obtain ⟨k, hk, rfl, hown, hbel⟩ := hrel
    have HK : Hid (k + gk = s.size) := hk
    have hk' : k ≤ s.size := by omega
    clear hk
    by_cases hlt : k < s.size
    · obtain ⟨c, hc⟩ : ∃ c, s.data.toList[k]? = some c := ⟨_, List.getElem?_eq_getElem (by simpa using hlt)⟩
      have hix := fun w => index_at (P := Try.prog) w 9 s .i64 k c Try.underlying9 hc
      have hn := c.toNat_lt
      have hx1 := fun w => index_at (P := Try.prog) w 9 digs .u8 (c.toNat / 16) (dig (c.toNat / 16)) Try.underlying9 (by have := digs_at (c.toNat / 16) (by omega); simpa using this)
      have hx2 := fun w => index_at (P := Try.prog) w 9 digs .u8 (c.toNat % 16) (dig (c.toNat % 16)) Try.underlying9 (by have := digs_at (c.toNat % 16) (by omega); simpa using this)
      unfold digs at hx1 hx2
      rw [show ((c.toNat / 16 : Nat) : Int) = (c.toNat : Int) / 16 by omega] at hx1
      rw [show ((c.toNat % 16 : Nat) : Int) = (c.toNat : Int) % 16 by omega] at hx2
      have hq : (c.toNat : Int).tdiv 16 = (c.toNat : Int) / 16 := Int.tdiv_eq_ediv_of_nonneg (by omega)
      have hr : (c.toNat : Int).tmod 16 = (c.toNat : Int) % 16 := Int.tmod_eq_emod_of_nonneg (by omega)
      have hw1 : IntKind.u8.wrap ((c.toNat : Int) / 16) = (c.toNat : Int) / 16 := by rw [IntKind.wrap_u8']; omega
      have hw2 : IntKind.u8.wrap ((c.toNat : Int) % 16) = (c.toNat : Int) % 16 := by rw [IntKind.wrap_u8']; omega
      go_wp2_with fail
      have hone : ∀ u ∈ [Value.int .u8 ((dig (c.toNat / 16)).toNat : Int), Value.int .u8 ((dig (c.toNat % 16)).toNat : Int)], u.oneCell' = true := by
        intro u hu
        simp only [List.mem_cons, List.not_mem_nil, or_false] at hu
        rcases hu with rfl | rfl <;> rfl
      have hlen : (hexL (s.data.toList.take k)).length ≤ 8388608 := by rw [hexL_length]; simp; omega
      have hml : (hexL (s.data.toList.take k)).length + 2 ≤ maxLen := by unfold maxLen; omega
      go_region_law (refine step_append_own rfl (.tmp 11) (.tmp 22) 30 rfl w.heap.size 5 i0 (.int .u8 0) 1 1 Try.underlying30 hi hz0 hz1 hz2 rfl (by decide) _ _ _ (by simp [Act.eval]) (hown.alloc _) ⟨wr.heap.size, 0, none⟩ 2 2 [.int .u8 ((dig (c.toNat / 16)).toNat : Int), .int .u8 ((dig (c.toNat % 16)).toNat : Int)] (by simp [Act.eval]) rfl (two_cells wr _ _) hone hml (by omega) (by have := hbel.size; simp; omega) ?_; intro v' w' hown' hgrow')
      all_goals
        have R := hex_rel hc hbel hown hown' _ hgrow'
        clear hown' hgrow' hown hix hx1 hx2
        go_wp2
        go_roundg (gk - 1)
        case measure => have := HK.out; omega
        case rel => exact ⟨k + 1, by have := HK.out; omega, by go_num, R.1, R.2⟩
    · obtain rfl : k = s.size := by omega
      have htk : s.data.toList.take s.size = s.data.toList := List.take_of_length_le (by simp)
      rw [htk] at hown
      have hcv := convert_own (P := Try.prog) wr 30 9 5 w.heap.size _ (hexL s.data.toList) Try.underlying30 Try.underlying5 Try.underlying9 hown
      go_wp2
      go_ret
      exact ⟨rfl, hbel⟩

def digI (c : UInt8) : Int := if isDig c then (digVal c : Int) else -1

theorem digI_find (c : UInt8) (j : Nat) (hj : j < 16) (h : dig j = c) : digI c = (j : Int) := by
  subst h
  simp [digI, dig_is j hj, dig_val j hj]

theorem digI_none (c : UInt8) (h : ∀ j, j < 16 → dig j ≠ c) : digI c = -1 := by
  unfold digI
  by_cases hc : isDig c = true
  · exact absurd (dig_digVal c hc) (h _ (val_lt c hc))
  · simp [hc]

set_option maxHeartbeats 1000000 in
theorem digit_any (c : UInt8) (w : World) :
    Calls Try.prog 10 #[.int .u8 (c.toNat : Int)] w fun e w' => e = .returned (.int .i64 (digI c)) ∧ w = w' := by
  go_enter Try.func10, Try.ntmps10
  go_wp2
  go_loopg [3] 16 (fun gk i wr => ∃ k : Nat, k + gk = 16 ∧ i = .int .i64 k ∧ w = wr ∧ ∀ j, j < k → dig j ≠ c)
  case atStart => exact ⟨0, by omega, rfl, rfl, fun j hj => absurd hj (by omega)⟩
  case round =>
    obtain ⟨k, hk, rfl, rfl, hno⟩ := hrel
    have HK : Hid (k + gk = 16) := hk
    have HN : Hid (∀ j, j < k → dig j ≠ c) := hno
    have hk' : k ≤ 16 := by omega
    clear hk hno
    by_cases hlt : k < 16
    · have hx := fun w => index_at (P := Try.prog) w 9 digs .i64 k (dig k) Try.underlying9 (by have := digs_at k hlt; simpa using this)
      unfold digs at hx
      by_cases he : dig k = c
      · have HV : Hid (digI c = (k : Int)) := digI_find c k hlt he
        have he1 : ((dig k).toNat : Int) = (c.toNat : Int) := by rw [he]
        have he2 : (((dig k).toNat : Int) == (c.toNat : Int)) = true := by rw [he]; simp
        clear he he1
        go_wp2
        go_ret
        rw [HV.out]
        exact ⟨rfl, rfl⟩
      · have he2 : (((dig k).toNat : Int) == (c.toNat : Int)) = false := by
          simp only [beq_eq_false_iff_ne, ne_eq, Int.natCast_inj]
          exact fun h => he (UInt8.toNat_inj.1 h)
        go_wp2
        go_roundg (gk - 1)
        case measure => have := HK.out; omega
        case rel =>
          refine ⟨k + 1, by have := HK.out; omega, by go_num, rfl, fun j hj => ?_⟩
          by_cases hjk : j = k
          · subst hjk; exact he
          · exact HN.out j (by omega)
    · have HV : Hid (digI c = -1) := digI_none c fun j hj => HN.out j (by omega)
      go_wp2
      go_ret
      rw [HV.out]
      exact ⟨rfl, rfl⟩

end Go.Proofs.Ytpaliogchhkheaa
