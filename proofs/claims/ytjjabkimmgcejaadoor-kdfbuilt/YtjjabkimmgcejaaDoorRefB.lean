import Derived.Test.YtjjabkimmgcejaaDoorRefA
import Derived.Test.YtjjabkimmgcejaaDoorHexA
import Derived.BigRegion
namespace Go.Proofs.YtjjabkimmgcejaaDoor
open Go.RowKit Go.Lib Go.Deep

theorem rindex_at {P : Program} (w : World) (t : TypeId) (s : ByteArray) (k : IntKind) (z : Int) (i : Nat) (c : UInt8) (h : P.underlying t = some .string) (hz : z = (i : Int)) (hc : s.data.toList[i]? = some c) :
    (Instr.index t (.string s) (.int k z)).run P w = .ok (.int .u8 (c.toNat : Int)) w := by
  subst hz
  exact index_at w t s k i c h hc

def fourN (l : List UInt8) (i : Nat) : Nat := 16777216 * (l.getD i 0).toNat + 65536 * (l.getD (i + 1) 0).toNat + 256 * (l.getD (i + 2) 0).toNat + (l.getD (i + 3) 0).toNat
theorem getD_block (l : List UInt8) (at_ j : Nat) (hj : j < 64) : ((l.drop at_).take 64).getD j 0 = l.getD (at_ + j) 0 := by
  rw [List.getD_eq_getElem?_getD, List.getD_eq_getElem?_getD, List.getElem?_take, if_pos hj, List.getElem?_drop]
theorem fourN_word (l : List UInt8) (at_ i : Nat) (hi : i < 16) : fourN l (at_ + 4 * i) = word ((l.drop at_).take 64) i := by
  unfold fourN word
  rw [getD_block l at_ (4 * i) (by omega), getD_block l at_ (4 * i + 1) (by omega), getD_block l at_ (4 * i + 2) (by omega), getD_block l at_ (4 * i + 3) (by omega)]
  simp only [Nat.add_assoc]

set_option maxRecDepth 20000 in
set_option maxHeartbeats 1000000 in
theorem four_any (s : ByteArray) (i : Nat) (h : i + 4 ≤ s.size) (hs : s.size ≤ 9223372036854775807) (w : World) :
    Calls Tryd.prog 70 #[.string s, .int .i64 (i : Int)] w fun e w' => e = .returned (.int .i64 (fourN s.data.toList i : Int)) ∧ Below w.heap.size w w' := by
  have hl : s.data.toList.length = s.size := (size_eq s).symm
  have g : ∀ j, j < 4 → s.data.toList[i + j]? = some (s.data.toList.getD (i + j) 0) := fun j hj => by
    rw [List.getD_eq_getElem?_getD, List.getElem?_eq_getElem (by omega)]
    rfl
  have h0 := fun W => rindex_at (P := Tryd.prog) W 9 s .i64 (i : Int) i _ Tryd.underlying9 rfl (g 0 (by omega))
  have h1 := fun W => rindex_at (P := Tryd.prog) W 9 s .i64 ((i : Int) + 1) (i + 1) _ Tryd.underlying9 (by omega) (g 1 (by omega))
  have h2 := fun W => rindex_at (P := Tryd.prog) W 9 s .i64 ((i : Int) + 2) (i + 2) _ Tryd.underlying9 (by omega) (g 2 (by omega))
  have h3 := fun W => rindex_at (P := Tryd.prog) W 9 s .i64 ((i : Int) + 3) (i + 3) _ Tryd.underlying9 (by omega) (g 3 (by omega))
  have HF : Hid (fourN s.data.toList i = 16777216 * (s.data.toList.getD (i + 0) 0).toNat + 65536 * (s.data.toList.getD (i + 1) 0).toNat + 256 * (s.data.toList.getD (i + 2) 0).toNat + (s.data.toList.getD (i + 3) 0).toNat) := rfl
  have l0 := (s.data.toList.getD (i + 0) 0).toNat_lt
  have l1 := (s.data.toList.getD (i + 1) 0).toNat_lt
  have l2 := (s.data.toList.getD (i + 2) 0).toNat_lt
  have l3 := (s.data.toList.getD (i + 3) 0).toNat_lt
  clear g
  revert h0 h1 h2 h3 HF l0 l1 l2 l3
  generalize (s.data.toList.getD (i + 0) 0).toNat = x0
  generalize (s.data.toList.getD (i + 1) 0).toNat = x1
  generalize (s.data.toList.getD (i + 2) 0).toNat = x2
  generalize (s.data.toList.getD (i + 3) 0).toNat = x3
  intro h0 h1 h2 h3 HF l0 l1 l2 l3
  clear hl
  have a1 : IntKind.i64.wrap ((i : Int) + 1) = (i : Int) + 1 := by rw [IntKind.wrap_i64]; omega
  have a2 : IntKind.i64.wrap ((i : Int) + 2) = (i : Int) + 2 := by rw [IntKind.wrap_i64]; omega
  have a3 : IntKind.i64.wrap ((i : Int) + 3) = (i : Int) + 3 := by rw [IntKind.wrap_i64]; omega
  go_enter Tryd.func70, Tryd.ntmps70
  go_wp2_with fail
  go_quiet (fail)
  go_wp2
  go_ret
  refine ⟨?_, below_drewN w nq⟩
  rw [HF.out]
  simp
  try omega

/-- the two blocks of schedule -/
structure Rs (w wr : World) (ws : List Nat) : Prop where
  res : ∃ z : Array Value, z.size = 64 ∧ wr.heap[w.heap.size]? = some (.cells z 100 (0, 0))
  own : wr.heap[w.heap.size + 1]? = some (.cells (i64s (pad ws)) 100 (0, 0))
  bel : Below w.heap.size w wr
theorem ipad_set (l : List Nat) (x : Nat) (h : l.length < 64) : (i64s (pad l)).setIfInBounds l.length (.int .i64 (x : Int)) = i64s (pad (l ++ [x])) := by
  have e : 64 - l.length = (64 - (l.length + 1)) + 1 := by omega
  simp [i64s, i64L, pad, e, List.replicate_succ]
theorem Rs.put {w wr : World} {ws : List Nat} (h : Rs w wr ws) (x : Nat) (hl : ws.length < 64) : Rs w (wr.setCell ⟨w.heap.size + 1, ws.length, none⟩ (.int .i64 (x : Int))) (ws ++ [x]) := by
  obtain ⟨z, hz, hr⟩ := h.res
  refine ⟨⟨z, hz, ?_⟩, ?_, h.bel.setCell (by simp) _⟩
  · rw [← hr]; exact Below.heap_setCell _ _ _ _ (by simp)
  · rw [← ipad_set ws x hl]; exact heap_setCell_same _ _ _ _ _ _ h.own
theorem Rs.cell {w wr : World} {ws : List Nat} (h : Rs w wr ws) (i : Nat) (hi : i < ws.length) (hl : ws.length ≤ 64) : wr.cell? ⟨w.heap.size + 1, i, none⟩ = some (.int .i64 ((ws.getD i 0 : Nat) : Int)) := by
  rw [cell_of_heap h.own, i64s_at _ _ (by rw [pad_length _ hl]; omega), pad_at _ _ hi]
theorem Rs.next {w wr : World} {ws : List Nat} (h : Rs w wr ws) (hl : ws.length < 64) : wr.cell? ⟨w.heap.size + 1, ws.length, none⟩ = some (.int .i64 0) := by
  rw [cell_of_heap h.own, i64s_at _ _ (by rw [pad_length _ (by omega)]; omega), pad_next _ hl]
  rfl
theorem Rs.under {w wr w' : World} {ws : List Nat} (h : Rs w wr ws) (hb : Below wr.heap.size wr w') : Rs w w' ws := by
  have hlt := heap_lt h.own
  obtain ⟨z, hz, hr⟩ := h.res
  exact ⟨⟨z, hz, (hb.block _ (by omega)).trans hr⟩, (hb.block _ hlt).trans h.own, h.bel.trans (hb.mono h.bel.size)⟩
theorem Rs.drew {w wr : World} {ws : List Nat} (h : Rs w wr ws) : Rs w wr.drew ws := ⟨h.res, h.own, h.bel.drew⟩
theorem Rs.start (w : World) (z z' : Array Value) (hz : z.size = 64) (hz' : z' = i64s (pad [])) : Rs w ((w.alloc (.cells z 100)).alloc (.cells z' 100)) [] := by
  subst hz'
  refine ⟨⟨z, hz, ?_⟩, ?_, ((Below.refl _ _).alloc (Nat.le_refl _) _).alloc (by simp) _⟩
  · rw [Below.heap_alloc _ _ _ (by simp)]
    exact heap_new _ _
  · have h := heap_new (w.alloc (.cells z 100)) (.cells (i64s (pad [])) 100)
    simpa using h
theorem isize64 : (Tryd.prog.info? 100).map (·.size) = some 64 := by kernel_rfl

set_option maxRecDepth 20000 in
set_option maxHeartbeats 4000000 in
theorem schedule_any (s : ByteArray) (at_ : Nat) (h : at_ + 64 ≤ s.size) (hs : s.size ≤ 9223372036854775807) (w : World) (hr : RTabs w) (h4 : 4 ≤ w.heap.size) (b : List UInt8) (hb : (s.data.toList.drop at_).take 64 = b) :
    Calls Tryd.prog 67 #[.string s, .int .i64 (at_ : Int)] w fun e w' => e = .returned (.agg (i64s (sched b))) ∧ Below w.heap.size w w' := by
  go_enter Tryd.func67, Tryd.ntmps67
  go_wp2
  go_loopg [6] 16 (fun gk i wr => ∃ k : Nat, k + gk = 16 ∧ i = .int .i64 k ∧ Rs w wr (wordsN b k))
  case atStart => exact ⟨0, by omega, rfl, Rs.start w _ _ rfl rfl⟩
  case round =>
    obtain ⟨k, hk, rfl, HS⟩ := hrel
    have HK : Hid (k + gk = 16) := hk
    have hk' : k ≤ 16 := by omega
    clear hk
    by_cases hlt : k < 16
    · have hfo := fun W => four_any s (at_ + 4 * k) (by omega) hs W
      rw [fourN_word _ _ _ hlt, hb, show ((at_ + 4 * k : Nat) : Int) = (at_ : Int) + 4 * (k : Int) by omega] at hfo
      have lw := word_lt b k
      have HP : Hid (∀ W, Below wr.heap.size wr W → Rs w (W.setCell ⟨w.heap.size + 1, k, none⟩ (.int .i64 (word b k : Int))) (wordsN b (k + 1)) ∧ W.cell? ⟨w.heap.size + 1, k, none⟩ = some (.int .i64 0) ∧ W.frozen? ⟨w.heap.size + 1, k, none⟩ = false) := fun W hbW => by
        have HS' := HS.under hbW
        have h1 := HS'.put (word b k) (by rw [wordsN_length]; omega)
        have h2 := HS'.next (by rw [wordsN_length]; omega)
        rw [← wordsN_succ, wordsN_length] at h1
        rw [wordsN_length] at h2
        exact ⟨h1, h2, frozen_of_heap HS'.own⟩
      clear HS
      revert hfo lw HP
      generalize word b k = x
      intro hfo lw HP
      have a1 : IntKind.i64.wrap ((at_ : Int) + 4 * (k : Int)) = (at_ : Int) + 4 * (k : Int) := by rw [IntKind.wrap_i64]; omega
      go_wp2_with (go_at_call 70; refine (hfo _).mono ?_; rintro e w1 ⟨rfl, hb1⟩; have c1 := (HP.out w1 hb1).2.1; have f1 := (HP.out w1 hb1).2.2)
      have R := (HP.out w1 hb1).1
      go_roundg (gk - 1)
      case measure => have := HK.out; omega
      case rel => exact ⟨k + 1, by have := HK.out; omega, by go_num, R⟩
    · obtain rfl : k = 16 := by omega
      go_wp2
      go_loopg [7] 48 (fun gk i wr => ∃ m : Nat, m + gk = 48 ∧ i = .int .i64 ((m : Int) + 16) ∧ Rs w wr (schedN (wordsN b 16) m))
      case atStart => exact ⟨0, by omega, rfl, HS⟩
      case round =>
        clear HS
        obtain ⟨m, hm, rfl, HS⟩ := hrel
        have HK : Hid (m + gk = 48) := hm
        have hm' : m ≤ 48 := by omega
        clear hm
        have hwl : (schedN (wordsN b 16) m).length = m + 16 := by rw [schedN_length, wordsN_length]; omega
        have HW : Hid (∀ x ∈ schedN (wordsN b 16) m, x < 4294967296) := schedN_lt _ (wordsN_lt b 16) _
        have HN : Hid (schedN (wordsN b 16) (m + 1) = schedN (wordsN b 16) m ++ [more (schedN (wordsN b 16) m)]) := rfl
        have HE : Hid (m = 48 → schedN (wordsN b 16) m = sched b) := fun h => by subst h; rfl
        generalize schedN (wordsN b 16) m = ws at HS hwl HW HN HE
        by_cases hlt : m < 48
        · have c1 : ∀ W, Rs w W ws → W.cell? ⟨w.heap.size + 1, m + 14, none⟩ = some (.int .i64 ((ws.getD (m + 14) 0 : Nat) : Int)) := fun W h => h.cell (m + 14) (by omega) (by omega)
          have c2 : ∀ W, Rs w W ws → W.cell? ⟨w.heap.size + 1, m + 9, none⟩ = some (.int .i64 ((ws.getD (m + 9) 0 : Nat) : Int)) := fun W h => h.cell (m + 9) (by omega) (by omega)
          have c3 : ∀ W, Rs w W ws → W.cell? ⟨w.heap.size + 1, m + 1, none⟩ = some (.int .i64 ((ws.getD (m + 1) 0 : Nat) : Int)) := fun W h => h.cell (m + 1) (by omega) (by omega)
          have c4 : ∀ W, Rs w W ws → W.cell? ⟨w.heap.size + 1, m, none⟩ = some (.int .i64 ((ws.getD m 0 : Nat) : Int)) := fun W h => h.cell m (by omega) (by omega)
          have l1 := getD_lt HW.out (m + 14)
          have l2 := getD_lt HW.out (m + 9)
          have l3 := getD_lt HW.out (m + 1)
          have l4 := getD_lt HW.out m
          have HM : Hid (more ws = (little1 (ws.getD (m + 14) 0) + ws.getD (m + 9) 0 + little0 (ws.getD (m + 1) 0) + ws.getD m 0) % 4294967296) := by unfold more; rw [hwl]; rfl
          generalize ws.getD (m + 14) 0 = x1 at c1 l1 HM
          generalize ws.getD (m + 9) 0 = x2 at c2 l2 HM
          generalize ws.getD (m + 1) 0 = x3 at c3 l3 HM
          generalize ws.getD m 0 = x4 at c4 l4 HM
          have HL : Hid (ws.length = m + 16) := hwl
          clear hwl
          have HC : Hid ((∀ W, Rs w W ws → W.cell? ⟨w.heap.size + 1, m + 14, none⟩ = some (.int .i64 (x1 : Int))) ∧ (∀ W, Rs w W ws → W.cell? ⟨w.heap.size + 1, m + 9, none⟩ = some (.int .i64 (x2 : Int))) ∧ (∀ W, Rs w W ws → W.cell? ⟨w.heap.size + 1, m + 1, none⟩ = some (.int .i64 (x3 : Int))) ∧ (∀ W, Rs w W ws → W.cell? ⟨w.heap.size + 1, m, none⟩ = some (.int .i64 (x4 : Int)))) := ⟨c1, c2, c3, c4⟩
          clear c1 c2 c3 c4
          have s1 : IntKind.i64.wrap ((m : Int) + 16 - 2) = ((m + 14 : Nat) : Int) := by rw [IntKind.wrap_i64]; omega
          have s2 : IntKind.i64.wrap ((m : Int) + 16 - 7) = ((m + 9 : Nat) : Int) := by rw [IntKind.wrap_i64]; omega
          have s3 : IntKind.i64.wrap ((m : Int) + 16 - 15) = ((m + 1 : Nat) : Int) := by rw [IntKind.wrap_i64]; omega
          have s4 : IntKind.i64.wrap ((m : Int) + 16 - 16) = ((m : Nat) : Int) := by rw [IntKind.wrap_i64]; omega
          have s5 : IntKind.i64.wrap (m : Int) = (m : Int) := by rw [IntKind.wrap_i64]; omega
          have q0 : (m : Int) < 64 := by omega
          have q1' : (m : Int) + 14 < 64 := by omega
          have q2' : (m : Int) + 9 < 64 := by omega
          have q3' : (m : Int) + 1 < 64 := by omega
          have q4' : (m : Int) + 16 < 64 := by omega
          have r1 : (0 : Int) ≤ (m : Int) + 14 := by omega
          have r2 : (0 : Int) ≤ (m : Int) + 9 := by omega
          have r3 : (0 : Int) ≤ (m : Int) + 1 := by omega
          have r4 : (0 : Int) ≤ (m : Int) + 16 := by omega
          have t1 : ((m : Int) + 14).toNat = m + 14 := by omega
          have t2 : ((m : Int) + 9).toNat = m + 9 := by omega
          have t3 : ((m : Int) + 1).toNat = m + 1 := by omega
          have t4 : ((m : Int) + 16).toNat = m + 16 := by omega
          have b1 := little1_lt x1 l1
          have b0 := little0_lt x3 l3
          have hli1 := fun W hR h4 => rlittle1_any x1 W hR h4 l1
          have hli0 := fun W hR h4 => rlittle0_any x3 W hR h4 l3
          revert hli1 hli0 b1 b0 HM
          generalize little1 x1 = y1
          generalize little0 x3 = y0
          intro HM b1 b0 hli1 hli0
          have c1 := HC.out.1 _ HS
          have z0 := HS.bel.size
          go_wp2_with fail
          refine (hli1 wr (hr.below HS.bel h4) (by omega)).mono ?_
          rintro e w1 ⟨rfl, hb1⟩
          have HS1 := HS.under hb1
          clear hb1 HS c1
          have c1 := HC.out.2.2.1 _ HS1
          have z1 := HS1.bel.size
          go_wp2_with fail
          refine (hli0 w1 (hr.below HS1.bel h4) (by omega)).mono ?_
          rintro e w2 ⟨rfl, hb2⟩
          have HS2 := HS1.under hb2
          clear hb2 HS1 c1
          have c2 := HC.out.2.1 _ HS2
          have c4 := HC.out.2.2.2 _ HS2
          have c5 := HS2.next (by have := HL.out; omega)
          have f5 : w2.frozen? ⟨w.heap.size + 1, ws.length, none⟩ = false := frozen_of_heap HS2.own
          rw [HL.out] at c5 f5
          have R0 := (HS2.put (more ws) (by have := HL.out; omega)).drew
          rw [← HN.out, HL.out, HM.out, show (((y1 + x2 + y0 + x4) % 4294967296 : Nat) : Int) = ((y1 : Int) + (x2 : Int) + (y0 : Int) + (x4 : Int)) % 4294967296 by omega] at R0
          have R : Hid (Rs w (w2.setCell ⟨w.heap.size + 1, m + 16, none⟩ (.int .i64 (((y1 : Int) + (x2 : Int) + (y0 : Int) + (x4 : Int)) % 4294967296))).drew (schedN (wordsN b 16) (m + 1))) := R0
          clear R0
          have tm : ((y1 : Int) + (x2 : Int) + (y0 : Int) + (x4 : Int)).tmod 4294967296 = (((y1 + x2 + y0 + x4) % 4294967296 : Nat) : Int) := by rw [Int.tmod_eq_emod_of_nonneg (by omega)]; omega
          clear HS2 hli0 hli1
          go_wp2_with fail
          go_region
          all_goals
            go_wp2
            go_roundg (gk - 1)
            case measure => have := HK.out; omega
            case rel => exact ⟨m + 1, by have := HK.out; omega, by go_num, R.out⟩
        · have HL := hwl
          clear hwl
          have e48 : m = 48 := by omega
          have HQ : Hid (ws = sched b) := HE.out e48
          have hl64 : ws.length = 64 := by have := HL; omega
          have hown := HS.own
          obtain ⟨z, hz, hres⟩ := HS.res
          rw [pad_full _ hl64] at hown
          have hbel := HS.bel
          have hth : wr.there w.heap.size 0 (i64s ws).size := there_of_heap hres (by rw [i64s_size, hl64]; omega)
          have hsz : (Tryd.prog.info? 100).map (·.size) = some (i64s ws).size := by rw [i64s_size, hl64]; exact isize64
          have hone : (i64s ws).all (·.oneCell') = true := all_oneCell_toArray (i64L_one _)
          have hr := heap_setCells w.heap.size 100 (i64s ws).toList 0 _ _ hres
          rw [setMany_all _ _ (by rw [hz, Array.length_toList, i64s_size, hl64]), Array.toArray_toList] at hr
          have HR : Hid ((wr.setCells w.heap.size 0 (i64s ws).toList).heap[w.heap.size]? = some (.cells (i64s ws) 100 (0, 0))) := hr
          clear HS HE HN HW HL hl64 hr hres
          subst e48
          go_wp2_with (first | (refine wpList_load_row rfl 100 (.tmp 5) rfl (w.heap.size + 1) rfl 100 _ (0, 0) _ hown Tryd.underlying100 rfl hsz ?_) | (refine wpList_store_mid rfl 100 (.tmp 4) (.tmp 52) rfl w.heap.size 0 _ rfl rfl hth hsz hone ?_))
          refine bodyPost_ret (results_cell_row rfl _ _ w.heap.size 100 _ (0, 0) _ rfl HR.out Tryd.underlying100 rfl hsz) rfl ?_
          rw [HQ.out]
          exact ⟨rfl, Below.setCells hbel (Nat.le_refl _) _ _⟩

end Go.Proofs.YtjjabkimmgcejaaDoor
