import Derived.Test.YtggfeppphhigdabDoorR5D
import Derived.Test.YtggfeppphhigdabDoorNumD
import Derived.Test.YtggfeppphhigdabDoorInfoA
namespace Go.Proofs.YtggfeppphhigdabDoor
open Go.RowKit Go.Lib Go.Deep

theorem rindex_at {P : Program} (w : World) (t : TypeId) (s : ByteArray) (k : IntKind) (z : Int) (i : Nat) (c : UInt8) (h : P.underlying t = some .string) (hz : z = (i : Int)) (hc : s.data.toList[i]? = some c) :
    (Instr.index t (.string s) (.int k z)).run P w = .ok (.int .u8 (c.toNat : Int)) w := by
  subst hz
  exact index_at w t s k i c h hc

/-- what number holds -/
structure Rn (w wr : World) (n : List Nat) : Prop where
  res : Nb .i64 43 wr w.heap.size (List.replicate 24 0)
  own : Nb .i64 43 wr (w.heap.size + 1) n
  bel : Below w.heap.size w wr
theorem Rn.put {w wr : World} {n : List Nat} (h : Rn w wr n) (i x : Nat) : Rn w (wr.setCell ⟨w.heap.size + 1, i, none⟩ (.int .i64 (x : Int))) (n.set i x) := ⟨h.res.beside (by simp) _, h.own.put i x, h.bel.setCell (by simp) _⟩
theorem Rn.drew {w wr : World} {n : List Nat} (h : Rn w wr n) : Rn w wr.drew n := ⟨h.res, h.own, h.bel.drew⟩
/-- one byte more -/
theorem Rn.step {w wr : World} {U k y : Nat} (h : Rn w wr (d24 U)) (hU : U < 256 ^ k) (hk : k < 48) (hy : y < 256) :
    ∃ x : Nat, x < 256 ∧ wr.cell? ⟨w.heap.size + 1, k / 2, none⟩ = some (.int .i64 (x : Int)) ∧ wr.frozen? ⟨w.heap.size + 1, k / 2, none⟩ = false ∧ Rn w (wr.setCell ⟨w.heap.size + 1, k / 2, none⟩ (.int .i64 ((x + (if k % 2 = 0 then y else 256 * y) : Nat) : Int))) (d24 (U + 256 ^ k * y)) := by
  obtain ⟨h1, h2⟩ := num_digit U k y hU hk hy
  refine ⟨U / 65536 ^ (k / 2) % 65536, h2, ?_, h.own.frozen _, ?_⟩
  · rw [h.own.cell (k / 2) (by rw [d24_length]; omega), show (d24 U).getD (k / 2) 0 = U / 65536 ^ (k / 2) % 65536 from dg_getD _ _ _ _ (by omega)]
  · rw [← h1]
    exact h.put _ _

set_option maxRecDepth 20000 in
set_option maxHeartbeats 1000000 in
theorem rnumber_any (s : ByteArray) (beh : Nat) (hs : s.size ≤ 32) (hbe : beh < 256) (w : World) :
    Calls Tryd.prog 14 #[.string s, .int .i64 (beh : Int)] w fun e w' => e = .returned (.agg (ns .i64 (d24 (numL s.data.toList + 256 ^ s.size * beh)))) ∧ Below w.heap.size w w' := by
  have hsl : s.data.toList.length = s.size := (size_eq s).symm
  have HS0 : Hid (Rn w ((w.alloc (.cells (ns .i64 (List.replicate 24 0)) 43)).alloc (.cells (ns .i64 (List.replicate 24 0)) 43)) (d24 (numL (s.data.toList.take 0)))) := by
    rw [show numL (s.data.toList.take 0) = 0 from rfl, d24_zero]
    exact ⟨(Nb.new _ _ _ _).alloc _, Nb.newN _ _ _ _ _ (by simp), ((Below.refl _ _).alloc (Nat.le_refl _) _).alloc (by simp) _⟩
  rw [zeros24] at HS0
  go_enter Tryd.func14, Tryd.ntmps14
  go_wp2
  go_loopg [6] s.size (fun gk i wr => ∃ k : Nat, k + gk = s.size ∧ i = .int .i64 k ∧ Rn w wr (d24 (numL (s.data.toList.take k))))
  case atStart => exact ⟨0, by omega, rfl, HS0.out⟩
  case round =>
    clear HS0
    obtain ⟨k, hkk, rfl, HS⟩ := hrel
    have HK : Hid (k + gk = s.size) := hkk
    have hk' : k ≤ s.size := by omega
    clear hkk
    have hU := numL_lt (s.data.toList.take k)
    rw [List.length_take, hsl, Nat.min_eq_left hk'] at hU
    by_cases hlt : k < s.size
    · have hltI : (k : Int) < (s.size : Int) := by omega
      have hk48 : (k : Int) / 2 < 24 := by omega
      obtain ⟨c, hc⟩ : ∃ c, s.data.toList[k]? = some c := ⟨_, List.getElem?_eq_getElem (by omega)⟩
      have hc8 := c.toNat_lt
      have hN : numL (s.data.toList.take (k + 1)) = numL (s.data.toList.take k) + 256 ^ k * c.toNat := by
        have h := numL_take_succ s.data.toList 0 k (by omega)
        rw [List.drop_zero, Nat.zero_add, List.getD_eq_getElem?_getD, hc] at h
        exact h
      obtain ⟨x, hx, c0, f0, HR0⟩ := HS.step (y := c.toNat) hU (by omega) hc8
      rw [← hN] at HR0
      have hix := fun W => rindex_at (P := Tryd.prog) W 9 s .i64 (k : Int) k c Tryd.underlying9 rfl hc
      clear HS hU hN hc
      revert hix hc8 HR0
      generalize c.toNat = y
      intro hc8 HR0 hix
      by_cases hev : k % 2 = 0
      · have hevI : (k : Int) % 2 = 0 := by omega
        rw [if_pos hev, Int.natCast_add] at HR0
        have HR : Hid _ := HR0.drew
        clear HR0
        go_wp2
        go_region
        refine with_world (R := fun W => Exit.inBlock _ _ _ _ W) (Q := fun W => Rn w W (d24 (numL (s.data.toList.take (k + 1))))) _ HR.out ?_
        clear HR c0 f0 hix
        intro w9 HP
        go_wp2
        go_roundg (gk - 1)
        case measure => have := HK.out; omega
        case rel => exact ⟨k + 1, by have := HK.out; omega, by go_num, HP⟩
      · have hevI : ¬ (k : Int) % 2 = 0 := by omega
        rw [if_neg hev, Int.natCast_add, Int.natCast_mul] at HR0
        have HR : Hid _ := HR0.drew
        clear HR0
        go_wp2
        go_region
        refine with_world (R := fun W => Exit.inBlock _ _ _ _ W) (Q := fun W => Rn w W (d24 (numL (s.data.toList.take (k + 1))))) _ HR.out ?_
        clear HR c0 f0 hix
        intro w9 HP
        go_wp2
        go_roundg (gk - 1)
        case measure => have := HK.out; omega
        case rel => exact ⟨k + 1, by have := HK.out; omega, by go_num, HP⟩
    · obtain rfl : k = s.size := by omega
      rw [List.take_of_length_le (by omega)] at HS hU
      obtain ⟨x, hx, c0, f0, HR0⟩ := HS.step (y := beh) hU (by omega) hbe
      have hk48 : (s.size : Int) / 2 < 24 := by omega
      have hln := d24_length (numL s.data.toList + 256 ^ s.size * beh)
      generalize hNN : d24 (numL s.data.toList + 256 ^ s.size * beh) = NN at *
      have HNN : Hid (d24 (numL s.data.toList + 256 ^ s.size * beh) = NN) := hNN
      clear hNN HS hU
      have hsz := ns24 NN hln
      have hone := ns_one .i64 NN
      have HFIN : Hid (∀ W, Rn w W NN → W.heap[w.heap.size + 1]? = some (.cells (ns .i64 NN) 43 (0, 0)) ∧ W.there w.heap.size 0 (ns .i64 NN).size ∧ (W.setCells w.heap.size 0 (ns .i64 NN).toList).heap[w.heap.size]? = some (.cells (ns .i64 NN) 43 (0, 0)) ∧ Below w.heap.size w (W.setCells w.heap.size 0 (ns .i64 NN).toList)) := fun W h =>
        ⟨h.own, h.res.there _ (by rw [ns_size, hln]; rfl), h.res.store NN (by rw [hln]; rfl), Below.setCells h.bel (Nat.le_refl _) _ _⟩
      by_cases hev : s.size % 2 = 0
      · have hevI : (s.size : Int) % 2 = 0 := by omega
        rw [if_pos hev, Int.natCast_add] at HR0
        go_upto_region 12 with fail
        refine with_world (R := fun W => Code.wp _ _ _ _ W) (Q := fun W => Rn w W NN) _ HR0 ?_
        clear HR0 c0 f0
        intro w2 H2
        obtain ⟨k1, k2, k3, k4⟩ := HFIN.out w2 H2
        clear H2
        go_wp2_with (first | (refine wpList_load_row rfl 43 (.tmp 5) rfl (w.heap.size + 1) rfl 43 _ (0, 0) _ k1 Tryd.underlying43 rfl hsz ?_) | (refine wpList_store_mid rfl 43 (.tmp 4) (.tmp 66) rfl w.heap.size 0 _ rfl rfl k2 hsz hone ?_))
        refine bodyPost_ret (results_cell_row rfl _ _ w.heap.size 43 _ (0, 0) _ rfl k3 Tryd.underlying43 rfl hsz) rfl ?_
        rw [HNN.out]
        exact ⟨rfl, k4⟩
      · have hevI : ¬ (s.size : Int) % 2 = 0 := by omega
        rw [if_neg hev, Int.natCast_add, Int.natCast_mul] at HR0
        go_upto_region 12 with fail
        refine with_world (R := fun W => Code.wp _ _ _ _ W) (Q := fun W => Rn w W NN) _ HR0 ?_
        clear HR0 c0 f0
        intro w2 H2
        obtain ⟨k1, k2, k3, k4⟩ := HFIN.out w2 H2
        clear H2
        go_wp2_with (first | (refine wpList_load_row rfl 43 (.tmp 5) rfl (w.heap.size + 1) rfl 43 _ (0, 0) _ k1 Tryd.underlying43 rfl hsz ?_) | (refine wpList_store_mid rfl 43 (.tmp 4) (.tmp 66) rfl w.heap.size 0 _ rfl rfl k2 hsz hone ?_))
        refine bodyPost_ret (results_cell_row rfl _ _ w.heap.size 43 _ (0, 0) _ rfl k3 Tryd.underlying43 rfl hsz) rfl ?_
        rw [HNN.out]
        exact ⟨rfl, k4⟩

end Go.Proofs.YtggfeppphhigdabDoor
