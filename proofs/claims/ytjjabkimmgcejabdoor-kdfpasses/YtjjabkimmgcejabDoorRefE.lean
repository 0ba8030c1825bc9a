import Derived.Test.YtjjabkimmgcejabDoorRefD
import Derived.Test.YtjjabkimmgcejabDoorShaM
namespace Go.Proofs.YtjjabkimmgcejabDoor
open Go.RowKit Go.Lib Go.Deep

theorem rblock_any (s : W8) (hs : s.OK) (y : ByteArray) (at_ : Nat) (h : at_ + 64 ≤ y.size) (hy : y.size ≤ 9223372036854775807) (w : World) (hr : RTabs w) (h4 : 4 ≤ w.heap.size) :
    Calls Tryd.prog 39 #[.agg (i64s s.list), .string y, .int .i64 (at_ : Int)] w fun e w' => e = .returned (.agg (i64s (mix s ((y.data.toList.drop at_).take 64)).list)) ∧ Below w.heap.size w w' :=
  rblock_core s hs y at_ (sched ((y.data.toList.drop at_).take 64)) (sched_length _) (sched_lt _) (fun W hR h4 => schedule_any y at_ h hy W hR h4 _ rfl) w hr h4

theorem eatN_rest : ∀ (k : Nat) (s : W8) (l : List UInt8), (eatN k s l).2 = l.drop (64 * k)
  | 0, _, l => by simp [eatN]
  | k + 1, s, l => by rw [eatN, eatN_rest k, List.drop_drop]; congr 1; omega
theorem eatN_succ (k : Nat) (s : W8) (l : List UInt8) : (eatN (k + 1) s l).1 = mix (eatN k s l).1 ((l.drop (64 * k)).take 64) := by
  rw [eatN_add k 1, eatN_rest]
  rfl

/-- the two blocks of 'blocks' -/
structure Rk (w wr : World) (st : W8) : Prop where
  own : wr.heap[w.heap.size]? = some (.cells (i64s st.list) 54 (0, 0))
  res : ∃ z : Array Value, z.size = 8 ∧ wr.heap[w.heap.size + 1]? = some (.cells z 54 (0, 0))
  bel : Below w.heap.size w wr
theorem Rk.start (w : World) (st : W8) (z : Array Value) (hz : z.size = 8) : Rk w ((w.alloc (.cells (i64s st.list) 54)).alloc (.cells z 54)) st := by
  refine ⟨?_, ⟨z, hz, ?_⟩, ((Below.refl _ _).alloc (Nat.le_refl _) _).alloc (by simp) _⟩
  · rw [Below.heap_alloc _ _ _ (by simp)]
    exact heap_new _ _
  · have h := heap_new (w.alloc (.cells (i64s st.list) 54)) (.cells z 54)
    simpa using h
theorem Rk.under {w wr w' : World} {st : W8} (h : Rk w wr st) (hb : Below wr.heap.size wr w') : Rk w w' st := by
  obtain ⟨z, hz, hr⟩ := h.res
  exact ⟨(hb.block _ (heap_lt h.own)).trans h.own, ⟨z, hz, (hb.block _ (heap_lt hr)).trans hr⟩, h.bel.trans (hb.mono h.bel.size)⟩
theorem e8 (st : W8) : (i64s st.list).size = 8 := by rw [i64s_size]; rfl
theorem Rk.put {w wr : World} {st : W8} (h : Rk w wr st) (st' : W8) : Rk w (wr.setCells w.heap.size 0 (i64s st'.list).toList) st' := by
  obtain ⟨z, hz, hr⟩ := h.res
  have h1 := heap_setCells w.heap.size 54 (i64s st'.list).toList 0 _ _ h.own
  rw [setMany_all (i64s st.list) (i64s st'.list).toList (by rw [Array.length_toList, e8, e8]), Array.toArray_toList] at h1
  exact ⟨h1, ⟨z, hz, (heap_setCells_other _ _ (by omega) _ _ _).trans hr⟩, Below.setCells h.bel (Nat.le_refl _) _ _⟩

theorem esize (st : W8) : (Tryd.prog.info? 54).map (·.size) = some (i64s st.list).size := by
  rw [i64s_size]
  exact isize8
theorem eone (st : W8) : (i64s st.list).all (·.oneCell') = true := all_oneCell_toArray (i64L_one _)

set_option maxRecDepth 20000 in
set_option maxHeartbeats 2000000 in
theorem rblocks_any (s : W8) (hs : s.OK) (y : ByteArray) (hy : y.size ≤ 4611686018427387904) (w : World) (hr : RTabs w) (h4 : 4 ≤ w.heap.size) :
    Calls Tryd.prog 29 #[.agg (i64s s.list), .string y] w fun e w' => e = .returned (.agg (i64s (eat s y.data.toList).1.list)) ∧ Below w.heap.size w w' := by
  have hl : y.data.toList.length = y.size := (size_eq y).symm
  go_enter Tryd.func29, Tryd.ntmps29
  go_wp2
  go_loopg [5] (y.size / 64) (fun gk i wr => ∃ k : Nat, k + gk = y.size / 64 ∧ i = .int .i64 (64 * (k : Int)) ∧ Rk w wr (eatN k s y.data.toList).1)
  case atStart => exact ⟨0, by omega, rfl, Rk.start w s _ rfl⟩
  case round =>
    obtain ⟨k, hk, rfl, HK'⟩ := hrel
    have HK : Hid (k + gk = y.size / 64) := hk
    have hk' : k ≤ y.size / 64 := by omega
    clear hk
    have hok := eatN_OK k s y.data.toList hs
    have HN := eatN_succ k s y.data.toList
    have HE : Hid (k = y.size / 64 → (eat s y.data.toList).1 = (eatN k s y.data.toList).1) := fun h => by unfold eat; rw [hl, h]
    revert hok HN HE HK'
    generalize (eatN k s y.data.toList).1 = st
    intro HR hok HN HE
    have HN : Hid ((eatN (k + 1) s y.data.toList).1 = mix st ((y.data.toList.drop (64 * k)).take 64)) := HN
    have a1 : IntKind.i64.wrap (64 * (k : Int) + 64) = 64 * (k : Int) + 64 := by rw [IntKind.wrap_i64]; omega
    by_cases hlt : k < y.size / 64
    · have hle : 64 * (k : Int) + 64 ≤ (y.size : Int) := by omega
      have hbl := rblock_any st hok y (64 * k) (by omega) (by omega)
      rw [show ((64 * k : Nat) : Int) = 64 * (k : Int) by omega] at hbl
      revert hbl HN
      generalize mix st ((y.data.toList.drop (64 * k)).take 64) = st'
      intro HN hbl
      have hown := HR.own
      have hbel := HR.bel
      have zz := hbel.size
      have hst := esize st
      have hst' := esize st'
      have hone := eone st'
      have HP : Hid (∀ W, Below wr.heap.size wr W → W.there w.heap.size 0 (i64s st'.list).size ∧ Rk w (W.setCells w.heap.size 0 (i64s st'.list).toList) st') := fun W hb1 => ⟨there_of_heap (HR.under hb1).own (by rw [e8, e8]; decide), (HR.under hb1).put st'⟩
      have hbl' := hbl wr (hr.below hbel h4) (by omega)
      clear HR hbl hbel
      obtain ⟨C', hC'⟩ : ∃ C', i64s st'.list = C' := ⟨_, rfl⟩
      rw [hC'] at hbl' hst' hone HP
      clear hC'
      go_wp2_with (first | (refine wpList_load_row rfl 54 (.tmp 2) rfl w.heap.size rfl 54 _ (0, 0) _ hown Tryd.underlying54 rfl hst ?_) | (go_at_call 39; refine hbl'.mono ?_; rintro e w1 ⟨rfl, hb1⟩; have hth := (HP.out w1 hb1).1) | (refine wpList_store_mid rfl 54 (.tmp 2) (.tmp 16) rfl w.heap.size 0 C' rfl rfl hth hst' hone ?_))
      have R := (HP.out w1 hb1).2
      go_roundg (gk - 1)
      case measure => have := HK.out; omega
      case rel => exact ⟨k + 1, by have := HK.out; omega, by go_num, by rw [HN.out]; exact R⟩
    · have hle : ¬ 64 * (k : Int) + 64 ≤ (y.size : Int) := by omega
      have HQ : Hid ((eat s y.data.toList).1 = st) := HE.out (by omega)
      have hown := HR.own
      obtain ⟨z, hz, hres⟩ := HR.res
      have hbel := HR.bel
      have hst := esize st
      have hone := eone st
      have hth : wr.there (w.heap.size + 1) 0 (i64s st.list).size := there_of_heap hres (by rw [e8, hz]; decide)
      have hr2 := heap_setCells (w.heap.size + 1) 54 (i64s st.list).toList 0 _ _ hres
      rw [setMany_all _ _ (by rw [hz, Array.length_toList, e8]), Array.toArray_toList] at hr2
      have HR2 : Hid ((wr.setCells (w.heap.size + 1) 0 (i64s st.list).toList).heap[w.heap.size + 1]? = some (.cells (i64s st.list) 54 (0, 0))) := hr2
      clear HR hr2 hres HN HE
      go_wp2_with (first | (refine wpList_load_row rfl 54 (.tmp 2) rfl w.heap.size rfl 54 _ (0, 0) _ hown Tryd.underlying54 rfl hst ?_) | (refine wpList_store_mid rfl 54 (.tmp 4) (.tmp 17) rfl (w.heap.size + 1) 0 _ rfl rfl hth hst hone ?_))
      refine bodyPost_ret (results_cell_row rfl _ _ (w.heap.size + 1) 54 _ (0, 0) _ rfl HR2.out Tryd.underlying54 rfl hst) rfl ?_
      rw [HQ.out]
      exact ⟨rfl, Below.setCells hbel (by omega) _ _⟩

set_option maxRecDepth 20000 in
set_option maxHeartbeats 1000000 in
theorem rfirst_any (w : World) : Calls Tryd.prog 30 #[] w fun e w' => e = .returned (.agg (i64s first.list)) ∧ Below w.heap.size w w' := by
  have hth : ∀ z : Array Value, z.size = 8 → (w.alloc (.cells z 54)).there w.heap.size 0 (i64s first.list).size := fun z hz => there_of_heap (heap_new _ _) (by rw [e8, hz]; decide)
  have hone := eone first
  have hst := esize first
  have hr2 : ∀ z : Array Value, z.size = 8 → ((w.alloc (.cells z 54)).setCells w.heap.size 0 (i64s first.list).toList).heap[w.heap.size]? = some (.cells (i64s first.list) 54 (0, 0)) := fun z hz => by
    have h := heap_setCells w.heap.size 54 (i64s first.list).toList 0 z _ (heap_new w (.cells z 54))
    rw [setMany_all _ _ (by rw [hz, Array.length_toList, e8]), Array.toArray_toList] at h
    exact h
  go_enter Tryd.func30, Tryd.ntmps30
  go_wp2_with (refine wpList_store_mid rfl 54 (.tmp 0) (.tmp 2) rfl w.heap.size 0 (i64s first.list) rfl rfl (hth _ rfl) hst hone ?_)
  refine bodyPost_ret (results_cell_row rfl _ _ w.heap.size 54 _ (0, 0) _ rfl (hr2 _ rfl) Tryd.underlying54 rfl hst) rfl ?_
  exact ⟨rfl, Below.setCells ((Below.refl _ _).alloc (Nat.le_refl _) _) (Nat.le_refl _) _ _⟩

end Go.Proofs.YtjjabkimmgcejabDoor
