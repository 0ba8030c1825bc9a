import Derived.Test.YtebhmebldemndaaDoorBaseM
import Derived.Test.YtebhmebldemndaaDoorRows
namespace Go.Proofs.YtebhmebldemndaaDoor
open Go.RowKit Go.Lib Go.Deep


theorem two_cells (w : World) (x y : Value) : ∀ j u, [x, y][j]? = some u → (w.alloc (.cells #[x, y] 5)).cell? ((⟨w.heap.size, 0, none⟩ : Addr).add j) = some u := by
  intro j u h
  exact cells_new w #[x, y] 5 j u (by simpa using h)

theorem hex_rel {w wr w' : World} {v v' : Value} {s : ByteArray} {k : Nat} {c : UInt8} (hc : s.data.toList[k]? = some c) (hb : Below w.heap.size w wr) (ho : wr.ownsRow w.heap.size 5 1 v (hexL (s.data.toList.take k)).length (byteCells (hexL (s.data.toList.take k))))
    (ho' : w'.ownsRow w.heap.size 5 1 v' ((hexL (s.data.toList.take k)).length + 2) (byteCells (hexL (s.data.toList.take k)) ++ [.int .u8 ((dig (c.toNat / 16)).toNat : Int), .int .u8 ((dig (c.toNat % 16)).toNat : Int)]))
    (cs : Array Value) (hg : ((wr.alloc (.cells cs 5)).drew).grownBy w' v.ownBlock) :
    w'.ownsRow w.heap.size 5 1 v' (hexL (s.data.toList.take (k + 1))).length (byteCells (hexL (s.data.toList.take (k + 1)))) ∧ Below w.heap.size w w' := by
  rw [hexL_take _ _ _ hc, byteCells_append]
  refine ⟨by simpa [byteCells] using ho', ?_⟩
  have h1 : Below w.heap.size w (wr.alloc (.cells cs 5)).drew := (hb.alloc hb.size _).drew
  exact h1.trans (grown_below hg h1.size (by exact (ho.alloc _).drew))

set_option maxHeartbeats 1000000 in
theorem hex_any (s : ByteArray) (w : World) (hs : s.size ≤ 4194304) :
    Calls Tryd.prog 15 #[.string s] w fun e w' => e = .returned (.string (hexS s)) ∧ Below w.heap.size w w' := by
  obtain ⟨i0, hi, hz0, hz1, hz2⟩ := info_parts info5
  go_enter Tryd.func15, Tryd.ntmps15
  go_wp2_with (at_make; refine wpList_make_own _ rfl _ _ 40 rfl w.heap.size 5 i0 (.int .u8 0) 1 Tryd.underlying40 hi hz0 hz1 .i64 .i64 (2 * (s.size : Int)) (2 * s.size) rfl rfl (by omega) (by rw [hz2]; omega) (by unfold maxLen; omega) (Nat.le_refl _) ?_; intro w1 hown1 hg1)
  have hb1 : Below w.heap.size w w1 := Below.grown (Below.refl _ _) hg1 (Nat.le_refl _) (by simp)
  go_loopg [3, 11] s.size (fun gk v i wr => ∃ k : Nat, k + gk = s.size ∧ i = .int .i64 k ∧ wr.ownsRow w.heap.size 5 1 v (hexL (s.data.toList.take k)).length (byteCells (hexL (s.data.toList.take k))) ∧ Below w.heap.size w wr)
  case atStart => exact ⟨0, by omega, rfl, by simpa [hexL, byteCells] using hown1, hb1⟩
  case round =>
    clear hown1 hg1 hb1
    obtain ⟨k, hk, rfl, hown, hbel⟩ := hrel
    have HK : Hid (k + gk = s.size) := hk
    have hk' : k ≤ s.size := by omega
    clear hk
    by_cases hlt : k < s.size
    · obtain ⟨c, hc⟩ : ∃ c, s.data.toList[k]? = some c := ⟨_, List.getElem?_eq_getElem (by simpa using hlt)⟩
      have hix := fun w => index_at (P := Tryd.prog) w 9 s .i64 k c Tryd.underlying9 hc
      have hn := c.toNat_lt
      have hx1 := fun w => index_at (P := Tryd.prog) w 9 digs .u8 (c.toNat / 16) (dig (c.toNat / 16)) Tryd.underlying9 (by have := digs_at (c.toNat / 16) (by omega); simpa using this)
      have hx2 := fun w => index_at (P := Tryd.prog) w 9 digs .u8 (c.toNat % 16) (dig (c.toNat % 16)) Tryd.underlying9 (by have := digs_at (c.toNat % 16) (by omega); simpa using this)
      unfold digs at hx1 hx2
      rw [show ((c.toNat / 16 : Nat) : Int) = (c.toNat : Int) / 16 by omega] at hx1
      have hand : bits .and .u8 (c.toNat : Int) 15 = (c.toNat : Int) % 16 := by
        have := u8_and_nat c.toNat 15 hn (by omega)
        rw [nat_mask4] at this
        exact this.trans (by omega)
      rw [show ((c.toNat % 16 : Nat) : Int) = (c.toNat : Int) % 16 by omega] at hx2
      go_wp2_with fail
      have hone : ∀ u ∈ [Value.int .u8 ((dig (c.toNat / 16)).toNat : Int), Value.int .u8 ((dig (c.toNat % 16)).toNat : Int)], u.oneCell' = true := by
        intro u hu
        simp only [List.mem_cons, List.not_mem_nil, or_false] at hu
        rcases hu with rfl | rfl <;> rfl
      have hlen : (hexL (s.data.toList.take k)).length ≤ 8388608 := by rw [hexL_length]; simp; omega
      have hml : (hexL (s.data.toList.take k)).length + 2 ≤ maxLen := by unfold maxLen; omega
      go_region_law (refine step_append_own rfl (.tmp 14) (.tmp 25) 40 rfl w.heap.size 5 i0 (.int .u8 0) 1 1 Tryd.underlying40 hi hz0 hz1 hz2 rfl (by decide) _ _ _ (by simp [Act.eval]) (hown.alloc _) ⟨wr.heap.size, 0, none⟩ 2 2 [.int .u8 ((dig (c.toNat / 16)).toNat : Int), .int .u8 ((dig (c.toNat % 16)).toNat : Int)] (by simp [Act.eval]) rfl (two_cells wr _ _) hone hml (by omega) (by have := hbel.size; simp; omega) ?_; intro v' w' hown' hgrow')
      all_goals
        have R := hex_rel hc hbel hown hown' _ hgrow'
        clear hown' hgrow' hown hix hx1 hx2
        go_wp2
        go_roundg (gk - 1)
        case measure => have := HK.out; omega
        case rel => exact ⟨k + 1, by have := HK.out; omega, by go_num, R.1, R.2⟩
    · obtain rfl : k = s.size := by omega
      have htk : s.data.toList.take s.size = s.data.toList := List.take_of_length_le (by simp)
      rw [htk] at hown
      have hcv := convert_own (P := Tryd.prog) wr 40 9 5 w.heap.size _ (hexL s.data.toList) Tryd.underlying40 Tryd.underlying5 Tryd.underlying9 hown
      go_wp2
      go_ret
      exact ⟨rfl, hbel⟩

end Go.Proofs.YtebhmebldemndaaDoor
