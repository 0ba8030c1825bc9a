import Derived.Test.YtbdgbefjmfcgcaaDoorIxG
import Derived.Test.YtbdgbefjmfcgcaaDoorPaM
import Derived.Test.YtbdgbefjmfcgcaaDoorShP
import Derived.Laws.BitsAllLaws
import Derived.Deep.LoopGhost
namespace Go.Proofs.YtbdgbefjmfcgcaaDoor.Ix
open Go.RowKit Go.Lib Go.Deep

theorem i64_or_nat (a b : Nat) (ha : a < 4611686018427387904) (hb : b < 4611686018427387904) : bits .or .i64 (a : Int) (b : Int) = ((a ||| b : Nat) : Int) := by
  have hx : a ||| b < 2 ^ 62 := Nat.or_lt_two_pow (by omega) (by omega)
  show IntKind.i64.wrap ((BitVec.ofInt 64 (a : Int) ||| BitVec.ofInt 64 (b : Int)).toNat : Int) = _
  rw [BitVec.toNat_or, ofInt_u64 a (by omega), ofInt_u64 b (by omega), IntKind.wrap_i64]
  omega
theorem rindex_at {P : Program} (w : World) (t : TypeId) (s : ByteArray) (k : IntKind) (z : Int) (i : Nat) (c : UInt8) (h : P.underlying t = some .string) (hz : z = (i : Int)) (hc : s.data.toList[i]? = some c) :
    (Instr.index t (.string s) (.int k z)).run P w = .ok (.int .u8 (c.toNat : Int)) w := by
  subst hz
  exact index_at w t s k i c h hc

set_option maxRecDepth 20000 in
set_option maxHeartbeats 1000000 in
theorem readNumber_any (s : ByteArray) (hs : s.size ≤ 6) (w : World) : Calls Tryd.prog 59 #[.string s] w fun e w' => e = .returned (.int .i64 (nuL s.data.toList : Int)) ∧ w' = w := by
  have hl : s.data.toList.length = s.size := (size_eq s).symm
  obtain ⟨n, hn⟩ : ∃ n, s.size = n := ⟨_, rfl⟩
  rw [hn] at hl hs
  obtain ⟨D, hD⟩ : ∃ D, s.data.toList = D := ⟨_, rfl⟩
  rw [hD] at hl ⊢
  have HIX : Hid (∀ (i : Nat) c, D[i]? = some c → ∀ W, (Instr.index 9 (.string s) (.int .i64 (i : Int))).run Tryd.prog W = .ok (.int .u8 (c.toNat : Int)) W) := fun i c hc W => rindex_at W 9 s .i64 (i : Int) i c Tryd.underlying9 rfl (by rw [hD]; exact hc)
  clear hD
  go_enter Tryd.func59, Tryd.ntmps59
  go_wp2
  go_loopg [3, 7] n (fun gk sv iv wr => ∃ k : Nat, k + gk = n ∧ sv = .int .i64 (nuL (D.take k) : Int) ∧ iv = .int .i64 (k : Int) ∧ wr = w)
  case atStart => exact ⟨0, by omega, rfl, rfl, rfl⟩
  case round =>
    obtain ⟨k, hk, rfl, rfl, rfl⟩ := hrel
    by_cases hlt : k < n
    · have hltI : (k : Int) < (n : Int) := by omega
      obtain ⟨x, hx⟩ : ∃ x, D[k]? = some x := ⟨_, List.getElem?_eq_getElem (by omega)⟩
      have hix := HIX.out k x hx
      have hb : nuL (D.take k) < 256 ^ 5 := Nat.lt_of_lt_of_le (nuL_lt _) (Nat.pow_le_pow_right (by decide) (by rw [List.length_take]; omega))
      have hx1 := x.toNat_lt
      have hor : bits .or .i64 ((nuL (D.take k) : Int) * 256) (x.toNat : Int) = (nuL (D.take (k + 1)) : Int) := by
        rw [take_succ_of _ k x hx, nuL_one, show (nuL (D.take k) : Int) * 256 = ((nuL (D.take k) * 256 : Nat) : Int) by omega, i64_or_nat _ _ (by omega) (by omega), nat_join 8 _ _ (by omega) (by omega)]
      have hb2 : nuL (D.take k) ≤ 1099511627776 := by omega
      obtain ⟨N2, hN2⟩ : ∃ N2, nuL (D.take (k + 1)) = N2 := ⟨_, rfl⟩
      have HN : Hid (nuL (D.take (k + 1)) = N2) := hN2
      rw [hN2] at hor
      generalize hN : nuL (D.take k) = N1 at *
      clear hx hb hN2
      go_wp2
      go_roundg (gk - 1)
      case measure => omega
      case rel => exact ⟨k + 1, by omega, by rw [HN.out], rfl, rfl⟩
    · obtain rfl : k = n := by omega
      have hltI : ¬ (k : Int) < (k : Int) := by omega
      have he : nuL (D.take k) = nuL D := by rw [List.take_of_length_le (by omega)]
      go_wp2
      go_ret
      exact ⟨by rw [← he]; rfl, rfl⟩
set_option maxRecDepth 20000 in
theorem clone_any (s : ByteArray) (hs : s.size ≤ 281474976710656) (w : World) : Calls Tryd.prog 74 #[.string s] w fun e w' => e = .returned (.string s) ∧ Below w.heap.size w w' := by
  have h := Any.stringslite_Clone Pa.cloneLays s w hs
  have h' : Calls Tryd.prog 75 #[.string s] w fun e w' => e = .returned (.string s) ∧ Below w.heap.size w w' := h
  clear h
  go_enter Tryd.func74, Tryd.ntmps74
  go_wp2_with (go_at_call 75; refine h'.mono ?_; rintro e w1 ⟨rfl, hb1⟩)
  go_ret
  exact ⟨rfl, hb1⟩
theorem isNamed_any (n t : ByteArray) (w : World) : Calls Tryd.prog 35 #[.string n, .string t] w fun e w' => e = .returned (.bool (decide (n.size = 16 ∧ t.size = 16))) ∧ w' = w := by
  by_cases h1 : n.size = 16
  · by_cases h2 : t.size = 16
    · rw [decide_eq_true (show n.size = 16 ∧ t.size = 16 from ⟨h1, h2⟩)]
      have e1 : ((n.size : Int) == 16) = true := by rw [h1]; rfl
      have e2 : ((t.size : Int) == 16) = true := by rw [h2]; rfl
      clear h1 h2
      go_enter Tryd.func35, Tryd.ntmps35
      go_wp2
      go_ret
      exact ⟨by simp, rfl⟩
    · rw [decide_eq_false (show ¬ (n.size = 16 ∧ t.size = 16) from fun h => h2 h.2)]
      have e1 : ((n.size : Int) == 16) = true := by rw [h1]; rfl
      have e2 : ((t.size : Int) == 16) = false := beq_false_of_ne (by omega)
      clear h1 h2
      go_enter Tryd.func35, Tryd.ntmps35
      go_wp2
      go_ret
      exact ⟨by simp, rfl⟩
  · rw [decide_eq_false (show ¬ (n.size = 16 ∧ t.size = 16) from fun h => h1 h.1)]
    have e1 : ((n.size : Int) == 16) = false := beq_false_of_ne (by omega)
    clear h1
    go_enter Tryd.func35, Tryd.ntmps35
    go_wp2
    go_ret
    exact ⟨rfl, rfl⟩
theorem size48 : (Tryd.prog.info? 113).map (·.size) = some 2 := by kernel_rfl
/-- a text cut -/
theorem ext_seg (s : ByteArray) (a b : Nat) (_h : b ≤ s.size) (_hab : a ≤ b) : s.extract a b = str (seg s.data.toList a (b - a)) := by
  apply ByteArray.ext
  apply Array.ext'
  rw [str_data]
  unfold seg
  simp [ByteArray.data_extract]
set_option maxRecDepth 20000 in
set_option maxHeartbeats 1000000 in
theorem readRef_any (s : ByteArray) (hs : s.size = 32) (w : World) : Calls Tryd.prog 70 #[.string s] w fun e w' => e = .returned (rfV (rdR s.data.toList)) ∧ Below w.heap.size w w' := by
  obtain ⟨V, hV, hbV, hV1⟩ := one_new w #[.string { data := #[] }, .string { data := #[] }] 113
  have l1 := heap_lt hV1
  have KC : Hid (∀ t : ByteArray, t.size ≤ 32 → ∀ X, Below V.heap.size V X → Calls Tryd.prog 74 #[.string t] X fun e w' => e = .returned (.string t) ∧ Below V.heap.size V w') := fun t ht X hX => by
    refine (clone_any t (by omega) X).mono ?_
    rintro e w' ⟨rfl, hb⟩
    exact ⟨rfl, hX.trans (hb.mono hX.size)⟩
  have HZ : Hid (∀ X, Below V.heap.size V X → X.cell? ⟨w.heap.size, 0, none⟩ = some (.string { data := #[] }) ∧ X.cell? ⟨w.heap.size, 1, none⟩ = some (.string { data := #[] }) ∧ X.frozen? ⟨w.heap.size, 0, none⟩ = false ∧ X.frozen? ⟨w.heap.size, 1, none⟩ = false) := fun X hX => by
    have g2 := (hX.block _ l1).trans hV1
    exact ⟨(cell_of_heap g2).trans rfl, (cell_of_heap g2).trans rfl, frozen_of_heap g2, frozen_of_heap g2⟩
  have hq : rfV (rdR s.data.toList) = .agg #[.string (s.extract 0 16), .string (s.extract 16 32)] := by
    unfold rfV rdR
    rw [ext_seg s 0 16 (by omega) (by omega), ext_seg s 16 32 (by omega) (by omega)]
  rw [hq]
  obtain ⟨x, hx⟩ : ∃ x, s.extract 0 16 = x := ⟨_, rfl⟩
  obtain ⟨y, hy⟩ : ∃ y, s.extract 16 32 = y := ⟨_, rfl⟩
  have hx1 : x.size ≤ 32 := by rw [← hx, ByteArray.size_extract]; omega
  have hy1 : y.size ≤ 32 := by rw [← hy, ByteArray.size_extract]; omega
  rw [hx, hy]
  have HE : Hid (∀ X, Below V.heap.size V X → ((X.setCell ⟨w.heap.size, 0, none⟩ (.string x)).setCell ⟨w.heap.size, 1, none⟩ (.string y)).heap[w.heap.size]? = some (.cells #[.string x, .string y] 113 (0, 0)) ∧ Below w.heap.size w ((X.setCell ⟨w.heap.size, 0, none⟩ (.string x)).setCell ⟨w.heap.size, 1, none⟩ (.string y))) := fun X hX => by
    refine ⟨Tr.put2A ((hX.block _ l1).trans hV1), ?_⟩
    have h0 := hbV.trans (hX.mono hbV.size)
    exact (h0.setCell (by simp) _).setCell (by simp) _
  have k1 := KC.out x hx1
  have k2 := KC.out y hy1
  have XD : Below V.heap.size V V.drew := (Below.refl _ _).drew
  have K1 : Hid _ := k1
  have K2 : Hid _ := k2
  clear hbV hV1 KC hq k1 k2 hx1 hy1
  go_enter Tryd.func70, Tryd.ntmps70
  go_wp2_with fail
  go_region_held_law (fun _ => True) (first | exact trivial | go_keep) (first | (go_at_call 74; refine (K1.out _ (by assumption)).mono ?_; rintro e w5 ⟨rfl, hb5⟩; obtain ⟨z0, z1, y0, y1⟩ := HZ.out w5 hb5) | (go_at_call 74; refine (K2.out _ (by assumption)).mono ?_; rintro e w5 ⟨rfl, hb5⟩; obtain ⟨z0, z1, y0, y1⟩ := HZ.out w5 hb5))
  all_goals
    obtain ⟨E1, E2⟩ := HE.out w5 hb5
    clear HE HZ K1 K2
    go_wp2
    exact bodyPost_ret (Tr.results_cell1 rfl _ _ w.heap.size 113 _ (0, 0) _ rfl E1 Tryd.underlying113 rfl size48) rfl ⟨rfl, E2⟩
end Go.Proofs.YtbdgbefjmfcgcaaDoor.Ix
