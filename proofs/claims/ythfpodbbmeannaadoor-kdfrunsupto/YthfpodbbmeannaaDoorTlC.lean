import Derived.Test.YthfpodbbmeannaaDoorTlB
namespace Go.Proofs.YthfpodbbmeannaaDoor
open Go.RowKit Go.Lib Go.Deep

theorem write_tl {tl : List Value} {ty : TypeId} {w : World} {p : Nat} {s : W8} {r : List UInt8} {n : Nat} (hh : Ht tl ty w p s r n) (ht : Tabs w) (data : ByteArray) (hb : n + data.size ≤ 1099511627776) :
    Calls Tryd.prog 18 #[.pointer (some ⟨p, 0, none⟩), .string data] w fun e w' => e = .returned (.int .i64 0) ∧
      Ht tl ty w' p (eat s (r ++ data.data.toList)).1 (eat s (r ++ data.data.toList)).2 (n + data.size) ∧ Only [p] w w' ∧ Tabs w' := by
  have hmade := hh.made
  have hcount := hh.count
  have h1 : ¬ (1099511627776 : Int) - (n : Int) < (data.size : Int) := by omega
  have htk := take_tl tl ty p s r n data w hh ht (by omega)
  go_enter Tryd.func18, Tryd.ntmps18
  go_wp2_with (first | (go_at_call 25; refine (there_yes hmade).mono ?_; rintro e w' ⟨rfl, rfl⟩) | (go_at_call 26; refine htk.mono ?_; rintro e w2 ⟨rfl, r1, r2, r3⟩))
  go_ret
  exact ⟨rfl, r1, r2, r3⟩


theorem copiedT {tl : List Value} {ty : TypeId} {w : World} {p : Nat} {s : W8} {r : List UInt8} {n : Nat} (hh : Ht tl ty w p s r n) (ht : Tabs w) :
    Hs ((w.alloc (.cells zero74 53)).setCells w.heap.size 0 (hcells s r n).toArray.toList) w.heap.size s r n ∧ Below w.heap.size w ((w.alloc (.cells zero74 53)).setCells w.heap.size 0 (hcells s r n).toArray.toList) ∧
      Tabs ((w.alloc (.cells zero74 53)).setCells w.heap.size 0 (hcells s r n).toArray.toList) := by
  have hb : Below w.heap.size w ((w.alloc (.cells zero74 53)).setCells w.heap.size 0 (hcells s r n).toArray.toList) := Below.setCells ((Below.refl _ _).alloc (Nat.le_refl _) _) (Nat.le_refl _) _ _
  refine ⟨⟨?_, hh.ok, hh.len, hh.big, by have := hh.lt; have := hh.own; omega⟩, hb, ht.below hb ht.size⟩
  have h := heap_setCells w.heap.size 53 (hcells s r n).toArray.toList 0 zero74 _ (heap_new w (.cells zero74 53))
  rw [setMany_all _ _ (by rw [zero74_size, List.toList_toArray, hcells_length _ _ _ hh.rlen])] at h
  simpa using h

set_option maxRecDepth 20000 in
set_option maxHeartbeats 400000 in
theorem hsum_tl {tl : List Value} {ty : TypeId} {w : World} {p : Nat} {s : W8} {r : List UInt8} {n : Nat} (hh : Ht tl ty w p s r n) (ht : Tabs w) (hn : n < 1152921504606846976) :
    Calls Tryd.prog 21 #[.pointer (some ⟨p, 0, none⟩)] w fun e w' => e = .returned (.string (str (sumB s r n))) ∧ Below w.heap.size w w' := by
  have hmade := hh.made
  have hcount := hh.count
  have hp := hh.lt
  have h74 : (hcells s r n).toArray.size = 74 := by rw [List.size_toArray, hcells_length _ _ _ hh.rlen]
  have hst : (Tryd.prog.info? 53).map (·.size) = some (hcells s r n).toArray.size := by rw [h74]; exact size74
  have hone : (hcells s r n).toArray.all (·.oneCell') = true := by
    refine all_oneCell_toArray ?_
    intro v hv
    simp only [hcells, List.mem_append, List.mem_cons, List.not_mem_nil, or_false] at hv
    rcases hv with ((rfl | hv) | hv) | rfl
    · rfl
    · exact u32L_one _ v hv
    · exact byteCells_one _ v hv
    · rfl
  have hheap := hh.whole
  have hst0 : (Tryd.prog.info? 53).map (·.size) = some (hcells s r n).length := by rw [hcells_length _ _ _ hh.rlen]; exact size74
  have hth : (w.alloc (.cells zero74 53)).there w.heap.size 0 (hcells s r n).toArray.size := there_of_heap (heap_new _ _) (by rw [h74, zero74_size]; decide)
  have hz57 := zero_run w
  go_enter Tryd.func21, Tryd.ntmps21
  obtain ⟨hcp, hbA, htA⟩ := copiedT hh ht
  rw [List.toList_toArray] at hcp hbA htA
  have c73 : ((w.alloc (.cells zero74 53)).setCells w.heap.size 0 (hcells s r n)).cell? ⟨p, 73, none⟩ = some (.int .u64 (n : Int)) := by
    rw [hbA.cell (p := ⟨p, 73, none⟩) hp]
    exact hcount
  go_wp2_with (first | (go_at_call 25; refine (there_yes hmade).mono ?_; rintro e w' ⟨rfl, rfl⟩) | (refine wpList_load_mid rfl 53 (.tmp 8) rfl p 0 rfl _ _ hheap Tryd.underlying53 rfl hst0 ?_) | (refine wpList_alloc_zero rfl 53 zero74 rfl hz57 ?_) | (refine wpList_store_mid rfl 53 (.tmp 3) (.tmp 9) rfl w.heap.size 0 _ rfl rfl hth hst hone ?_) | (go_at_call 27; refine (ending_any n _ hn).mono ?_; rintro e w2 ⟨rfl, hb2⟩))
  have hlt : w.heap.size < ((w.alloc (.cells zero74 53)).setCells w.heap.size 0 (hcells s r n)).heap.size := hcp.lt
  have hs2 := hcp.below hb2 hlt
  have ht2 := htA.below hb2 htA.size
  have hb02 : Below w.heap.size w w2 := hbA.trans (hb2.mono (by omega))
  have hsz : (str (endL n)).size ≤ 200 := by rw [str_size]; simp [endL, zeros, be8]; omega
  clear hcp hbA htA c73 hth hone hst hst0 hheap hz57 hb2 hlt
  refine (take_any w.heap.size s r n (str (endL n)) w2 hs2 ht2 (by omega)).mono ?_
  rintro e w3 ⟨rfl, hs3, ho3, ht3⟩
  rw [str_data] at hs3
  have hwd := hs3.words
  have hok := hs3.ok
  have hb03 : Below w.heap.size w w3 := hb02.trans (ho3.below hb02.size (by simp))
  have HS : Hid (sumB s r n = wtext (eat s (r ++ endL n)).1) := rfl
  revert hwd hok HS
  generalize (eat s (r ++ endL n)).1 = s3
  intro hwd hok HS
  clear hs3 ho3 hs2 ht2
  go_wp2_with (first | (refine wpList_load_mid rfl 48 (.tmp 16) rfl w.heap.size 1 rfl _ _ hwd Tryd.underlying48 rfl size8 ?_) | (go_at_call 28; refine (text_any s3 hok _).mono ?_; rintro e w4 ⟨rfl, hb4⟩))
  go_ret
  rw [HS.out]
  exact ⟨rfl, hb03.trans (hb4.mono hb03.size)⟩

end Go.Proofs.YthfpodbbmeannaaDoor
