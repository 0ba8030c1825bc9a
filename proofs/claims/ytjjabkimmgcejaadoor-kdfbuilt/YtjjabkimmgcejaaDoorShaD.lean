import Derived.Test.YtjjabkimmgcejaaDoorShaC
namespace Go.Proofs.YtjjabkimmgcejaaDoor
open Go.RowKit Go.Lib Go.Deep

set_option maxHeartbeats 4000000 in
theorem spread_any (b : List UInt8) (w : World) (hb : b.length = 64) :
    Calls Tryd.prog 53 #[.agg (bytesV b)] w fun e w' => e = .returned (.agg (u32s (sched b))) ∧ Below w.heap.size w w' := by
  go_enter Tryd.func53, Tryd.ntmps53
  go_wp2
  go_loopg [6] 16 (fun gk i wr => ∃ k : Nat, k + gk = 16 ∧ i = .int .i64 k ∧ Sp b w wr (wordsN b k))
  case atStart => exact ⟨0, by omega, rfl, Sp.start b w⟩
  case round =>
    obtain ⟨k, hk, rfl, HS⟩ := hrel
    have HK : Hid (k + gk = 16) := hk
    have hk' : k ≤ 16 := by omega
    clear hk
    by_cases hlt : k < 16
    · have c0 : wr.cell? ⟨w.heap.size, 4 * k, none⟩ = some (.int .u8 ((b.getD (4 * k) 0).toNat : Int)) := (cell_of_heap HS.src).trans (bytesV_at b _ (by omega))
      have c1 : wr.cell? ⟨w.heap.size, 4 * k + 1, none⟩ = some (.int .u8 ((b.getD (4 * k + 1) 0).toNat : Int)) := (cell_of_heap HS.src).trans (bytesV_at b _ (by omega))
      have c2 : wr.cell? ⟨w.heap.size, 4 * k + 2, none⟩ = some (.int .u8 ((b.getD (4 * k + 2) 0).toNat : Int)) := (cell_of_heap HS.src).trans (bytesV_at b _ (by omega))
      have c3 : wr.cell? ⟨w.heap.size, 4 * k + 3, none⟩ = some (.int .u8 ((b.getD (4 * k + 3) 0).toNat : Int)) := (cell_of_heap HS.src).trans (bytesV_at b _ (by omega))
      have hw : Hid (word b k = 16777216 * (b.getD (4 * k) 0).toNat + 65536 * (b.getD (4 * k + 1) 0).toNat + 256 * (b.getD (4 * k + 2) 0).toNat + (b.getD (4 * k + 3) 0).toNat) := rfl
      have l0 := (b.getD (4 * k) 0).toNat_lt
      have l1 := (b.getD (4 * k + 1) 0).toNat_lt
      have l2 := (b.getD (4 * k + 2) 0).toNat_lt
      have l3 := (b.getD (4 * k + 3) 0).toNat_lt
      generalize (b.getD (4 * k) 0).toNat = x0 at c0 hw l0
      generalize (b.getD (4 * k + 1) 0).toNat = x1 at c1 hw l1
      generalize (b.getD (4 * k + 2) 0).toNat = x2 at c2 hw l2
      generalize (b.getD (4 * k + 3) 0).toNat = x3 at c3 hw l3
      have c4 : wr.cell? ⟨w.heap.size + 1 + 1, k, none⟩ = some (.int .u32 0) := by
        have := HS.next (by rw [wordsN_length]; omega)
        rwa [wordsN_length] at this
      have f4 : wr.frozen? ⟨w.heap.size + 1 + 1, k, none⟩ = false := frozen_of_heap HS.own
      go_wp2_with fail
      go_region
      have R := (HS.put (word b k) (by rw [wordsN_length]; omega)).drew
      rw [← wordsN_succ, wordsN_length, hw.out, ← word_or x0 x1 x2 x3 l0 l1 l2 l3] at R
      clear HS c0 c1 c2 c3 c4 f4
      go_wp2
      go_roundg (gk - 1)
      case measure => have := HK.out; omega
      case rel => exact ⟨k + 1, by have := HK.out; omega, by go_num, R⟩
    · obtain rfl : k = 16 := by omega
      go_wp2
      go_loopg [5] 48 (fun gk i wr => ∃ m : Nat, m + gk = 48 ∧ i = .int .i64 ((m : Int) + 16) ∧ Sp b w wr (schedN (wordsN b 16) m))
      case atStart => exact ⟨0, by omega, rfl, HS⟩
      case round =>
        clear HS
        obtain ⟨m, hm, rfl, HS⟩ := hrel
        have HK : Hid (m + gk = 48) := hm
        have hm' : m ≤ 48 := by omega
        clear hm
        have hwl : (schedN (wordsN b 16) m).length = m + 16 := by rw [schedN_length, wordsN_length]; omega
        have HW : Hid (∀ x ∈ schedN (wordsN b 16) m, x < 4294967296) := schedN_lt _ (wordsN_lt b 16) _
        have HN : Hid (schedN (wordsN b 16) (m + 1) = schedN (wordsN b 16) m ++ [more (schedN (wordsN b 16) m)]) := rfl
        have HE : Hid (m = 48 → schedN (wordsN b 16) m = sched b) := fun h => by subst h; rfl
        generalize schedN (wordsN b 16) m = ws at HS hwl HW HN HE
        by_cases hlt : m < 48
        · have c1 := HS.cell (m + 14) (by omega) (by omega)
          have c2 := HS.cell (m + 9) (by omega) (by omega)
          have c3 := HS.cell (m + 1) (by omega) (by omega)
          have c4 := HS.cell m (by omega) (by omega)
          have c5 := HS.next (by omega)
          have f5 : wr.frozen? ⟨w.heap.size + 1 + 1, ws.length, none⟩ = false := frozen_of_heap HS.own
          have l1 := getD_lt HW.out (m + 14)
          have l2 := getD_lt HW.out (m + 9)
          have l3 := getD_lt HW.out (m + 1)
          have l4 := getD_lt HW.out m
          have HM : Hid (more ws = (little1 (ws.getD (m + 14) 0) + ws.getD (m + 9) 0 + little0 (ws.getD (m + 1) 0) + ws.getD m 0) % 4294967296) := by unfold more; rw [hwl]; rfl
          rw [hwl] at c5 f5
          generalize ws.getD (m + 14) 0 = x1 at c1 l1 HM
          generalize ws.getD (m + 9) 0 = x2 at c2 l2 HM
          generalize ws.getD (m + 1) 0 = x3 at c3 l3 HM
          generalize ws.getD m 0 = x4 at c4 l4 HM
          have HL : Hid (ws.length = m + 16) := hwl
          clear hwl
          have KS : Hid (∀ v : Value, (wr.setCell ⟨w.heap.size + 1 + 1, m + 16, none⟩ v).drew.cell? ⟨w.heap.size + 1 + 1, m + 14, none⟩ = some (.int .u32 (x1 : Int)) ∧ (wr.setCell ⟨w.heap.size + 1 + 1, m + 16, none⟩ v).drew.cell? ⟨w.heap.size + 1 + 1, m + 9, none⟩ = some (.int .u32 (x2 : Int)) ∧ (wr.setCell ⟨w.heap.size + 1 + 1, m + 16, none⟩ v).drew.cell? ⟨w.heap.size + 1 + 1, m + 1, none⟩ = some (.int .u32 (x3 : Int)) ∧ (wr.setCell ⟨w.heap.size + 1 + 1, m + 16, none⟩ v).drew.cell? ⟨w.heap.size + 1 + 1, m, none⟩ = some (.int .u32 (x4 : Int))) :=
            fun v => ⟨(cell_store_ne _ _ _ _ _ (by omega)).trans c1, (cell_store_ne _ _ _ _ _ (by omega)).trans c2, (cell_store_ne _ _ _ _ _ (by omega)).trans c3, (cell_store_ne _ _ _ _ _ (by omega)).trans c4⟩
          have s1 : IntKind.i64.wrap ((m : Int) + 16 - 2) = ((m + 14 : Nat) : Int) := by rw [IntKind.wrap_i64]; omega
          have s2 : IntKind.i64.wrap ((m : Int) + 16 - 7) = ((m + 9 : Nat) : Int) := by rw [IntKind.wrap_i64]; omega
          have s3 : IntKind.i64.wrap ((m : Int) + 16 - 15) = ((m + 1 : Nat) : Int) := by rw [IntKind.wrap_i64]; omega
          have s4 : IntKind.i64.wrap ((m : Int) + 16 - 16) = ((m : Nat) : Int) := by rw [IntKind.wrap_i64]; omega
          have s5 : IntKind.i64.wrap (m : Int) = (m : Int) := by rw [IntKind.wrap_i64]; omega
          have q0 : (m : Int) < 64 := by omega
          have q1 : ((m + 14 : Nat) : Int) < 64 := by omega
          have q2 : ((m + 9 : Nat) : Int) < 64 := by omega
          have q3 : ((m + 1 : Nat) : Int) < 64 := by omega
          have q4 : ((m + 16 : Nat) : Int) < 64 := by omega
          have q1' : (m : Int) + 14 < 64 := by omega
          have q2' : (m : Int) + 9 < 64 := by omega
          have q3' : (m : Int) + 1 < 64 := by omega
          have q4' : (m : Int) + 16 < 64 := by omega
          have r1 : (0 : Int) ≤ (m : Int) + 14 := by omega
          have r2 : (0 : Int) ≤ (m : Int) + 9 := by omega
          have r3 : (0 : Int) ≤ (m : Int) + 1 := by omega
          have r4 : (0 : Int) ≤ (m : Int) + 16 := by omega
          have t1 : ((m : Int) + 14).toNat = m + 14 := by omega
          have t2 : ((m : Int) + 9).toNat = m + 9 := by omega
          have t3 : ((m : Int) + 1).toNat = m + 1 := by omega
          have t4 : ((m : Int) + 16).toNat = m + 16 := by omega
          go_wp2_with fail
          go_region_held3 (fun w' => w'.cell? ⟨w.heap.size + 1 + 1, m + 14, none⟩ = some (.int .u32 (x1 : Int)) ∧ w'.cell? ⟨w.heap.size + 1 + 1, m + 9, none⟩ = some (.int .u32 (x2 : Int)) ∧ w'.cell? ⟨w.heap.size + 1 + 1, m + 1, none⟩ = some (.int .u32 (x3 : Int)) ∧ w'.cell? ⟨w.heap.size + 1 + 1, m, none⟩ = some (.int .u32 (x4 : Int))) (first | exact KS.out _ | go_keep) (first | (go_at_call 61; refine (little1_any x1 _ l1).mono ?_; rintro e w'' ⟨rfl, rfl⟩) | (go_at_call 62; refine (little0_any x3 _ l3).mono ?_; rintro e w'' ⟨rfl, rfl⟩))
          have R := (HS.put (more ws) (by have := HL.out; omega)).drew
          rw [← HN.out, HL.out, HM.out, ← wrap3] at R
          clear HS c1 c2 c3 c4 c5 f5 KS
          all_goals
            go_wp2
            go_roundg (gk - 1)
            case measure => have := HK.out; omega
            case rel => exact ⟨m + 1, by have := HK.out; omega, by go_num, R⟩
        · have HL := hwl
          clear hwl
          have e48 : m = 48 := by omega
          have HQ : Hid (ws = sched b) := HE.out e48
          have hl64 : ws.length = 64 := by have := HL; omega
          have hown := HS.own
          have hres := HS.res
          rw [pad_full _ hl64] at hown
          have hbel := HS.bel
          have hth : wr.there (w.heap.size + 1) 0 (u32s ws).size := there_of_heap hres (by rw [u32s_size, u32s_size, hl64, pad_length _ (by simp)]; decide)
          have hsz : (Tryd.prog.info? 87).map (·.size) = some (u32s ws).size := by rw [u32s_size, hl64]; exact size64
          have hone : (u32s ws).all (·.oneCell') = true := all_oneCell_toArray (u32L_one _)
          have hr := heap_setCells (w.heap.size + 1) 87 (u32s ws).toList 0 _ _ hres
          rw [setMany_all _ _ (by rw [u32s_size, pad_length _ (by simp), Array.length_toList, u32s_size, hl64]), Array.toArray_toList] at hr
          have HR : Hid ((wr.setCells (w.heap.size + 1) 0 (u32s ws).toList).heap[w.heap.size + 1]? = some (.cells (u32s ws) 87 (0, 0))) := hr
          clear HS HE HN HW HL hl64 hr hres
          subst e48
          go_wp2_with (first | (refine wpList_load_row rfl 87 (.tmp 3) rfl (w.heap.size + 1 + 1) rfl 87 _ (0, 0) _ hown Tryd.underlying87 rfl hsz ?_) | (refine wpList_store_mid rfl 87 (.tmp 2) (.tmp 68) rfl (w.heap.size + 1) 0 _ rfl rfl hth hsz hone ?_))
          refine bodyPost_ret (results_cell_row rfl _ _ (w.heap.size + 1) 87 _ (0, 0) _ rfl HR.out Tryd.underlying87 rfl hsz) rfl ?_
          rw [HQ.out]
          exact ⟨rfl, Below.setCells hbel (by omega) _ _⟩

end Go.Proofs.YtjjabkimmgcejaaDoor
