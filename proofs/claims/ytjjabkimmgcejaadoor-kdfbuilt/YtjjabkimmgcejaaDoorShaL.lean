import Derived.Test.YtjjabkimmgcejaaDoorShaK
namespace Go.Proofs.YtjjabkimmgcejaaDoor
open Go.RowKit Go.Lib Go.Deep

theorem size74 : (Tryd.prog.info? 69).map (·.size) = some 74 := by kernel_rfl
def zero74 : Array Value := ([Value.bool false] ++ List.replicate 8 (Value.int .u32 0) ++ List.replicate 64 (Value.int .u8 0) ++ [Value.int .u64 0]).toArray
theorem zero74_size : zero74.size = 74 := by simp [zero74]
theorem zero_run (w : World) : (zeroValue 69).run Tryd.prog w = .ok (.agg zero74) w := by kernel_rfl

theorem wpList_alloc_zero {P : Program} {ops : Array Oper} {rest : List Oper} {o : Oper} {a : Act} {w : World} {Q : Exit → Act → World → Prop} (hg : o.guard = none) (t : TypeId) (z : Array Value) (ho : o.op = .alloc t)
    (hz : (zeroValue t).run P w = .ok (.agg z) w) (h : wpList P ops Q rest (a.put o.dst (.pointer (some ⟨w.heap.size, 0, none⟩))) (w.alloc (.cells z t))) : wpList P ops Q (o :: rest) a w := by
  refine wpList_plain hg fun K hK => ?_
  unfold Oper.wp execOp
  simp [ho, hz, Instr.alloc, Oper.upon, Result.andThen]
  exact hK _ _ h

theorem wpList_build_eq {P : Program} {ops : Array Oper} {rest : List Oper} {o : Oper} {a : Act} {w : World} {Q : Exit → Act → World → Prop} (hg : o.guard = none) (t : TypeId) (parts : Array (Nat × Operand)) (ho : o.op = .build t parts)
    (vals : List (Nat × Value)) (hv : (parts.map fun (i, x) => (i, a.eval x)).toList = vals) (cells : Array Value) (hc : P.built t vals = some cells)
    (h : wpList P ops Q rest (a.put o.dst (.agg cells)) w) : wpList P ops Q (o :: rest) a w := by
  refine wpList_build hg t parts ho (by rw [hv, hc]; rfl) ?_
  rw [hv, hc]
  exact h

set_option maxRecDepth 20000 in
set_option maxHeartbeats 400000 in
theorem new_any (w : World) (ht : Tabs w) (h4 : 4 ≤ w.heap.size) :
    Calls Tryd.prog 32 #[] w fun e w' => e = .returned (.pointer (some ⟨w.heap.size, 0, none⟩)) ∧ Hs w' w.heap.size first [] 0 ∧ Below w.heap.size w w' ∧ w'.heap.size = w.heap.size + 1 ∧ Tabs w' := by
  have hfw : w.rangeAt 0 0 [.int .u32 1779033703, .int .u32 3144134277, .int .u32 1013904242, .int .u32 2773480762, .int .u32 1359893119, .int .u32 2600822924, .int .u32 528734635, .int .u32 1541459225] := ht.fw
  have hbl : (Tryd.prog.built 69 [(0, Value.bool true), (1, Value.agg #[.int .u32 1779033703, .int .u32 3144134277, .int .u32 1013904242, .int .u32 2773480762, .int .u32 1359893119, .int .u32 2600822924, .int .u32 528734635, .int .u32 1541459225])]) = some (hcells first [] 0).toArray := by kernel_rfl
  obtain ⟨C, hC⟩ : ∃ C, (hcells first [] 0).toArray = C := ⟨_, rfl⟩
  rw [hC] at hbl
  go_enter Tryd.func32, Tryd.ntmps32
  go_wp2_with (first | (refine wpList_load_mid rfl 64 (.global 0) rfl 0 0 rfl _ _ hfw Tryd.underlying64 rfl size8 ?_) | (refine wpList_build_eq rfl 69 #[(0, .const (.bool true)), (1, .tmp 1)] rfl [(0, Value.bool true), (1, Value.agg #[.int .u32 1779033703, .int .u32 3144134277, .int .u32 1013904242, .int .u32 2773480762, .int .u32 1359893119, .int .u32 2600822924, .int .u32 528734635, .int .u32 1541459225])] (by simp [Act.eval, Act.put]) C hbl ?_))
  go_ret
  have hb : ∀ o, Below w.heap.size w (w.alloc o) := fun o => (Below.refl _ _).alloc (Nat.le_refl _) _
  rw [← hC]
  exact ⟨rfl, ⟨heap_new w _, first_OK, rfl, by omega, h4⟩, hb _, by simp, ht.below (hb _) (by omega)⟩

/-- the sum of a text, as bytes -/
def sumB (s : W8) (r : List UInt8) (n : Nat) : List UInt8 := wtext (eat s (r ++ endL n)).1

theorem copied {w : World} {p : Nat} {s : W8} {r : List UInt8} {n : Nat} (hh : Hs w p s r n) (ht : Tabs w) :
    Hs ((w.alloc (.cells zero74 69)).setCells w.heap.size 0 (hcells s r n).toArray.toList) w.heap.size s r n ∧ Below w.heap.size w ((w.alloc (.cells zero74 69)).setCells w.heap.size 0 (hcells s r n).toArray.toList) ∧
      Tabs ((w.alloc (.cells zero74 69)).setCells w.heap.size 0 (hcells s r n).toArray.toList) := by
  have hb : Below w.heap.size w ((w.alloc (.cells zero74 69)).setCells w.heap.size 0 (hcells s r n).toArray.toList) := Below.setCells ((Below.refl _ _).alloc (Nat.le_refl _) _) (Nat.le_refl _) _ _
  refine ⟨⟨?_, hh.ok, hh.len, hh.big, by have := hh.lt; have := hh.own; omega⟩, hb, ht.below hb ht.size⟩
  have h := heap_setCells w.heap.size 69 (hcells s r n).toArray.toList 0 zero74 _ (heap_new w (.cells zero74 69))
  rw [setMany_all _ _ (by rw [zero74_size, List.toList_toArray, hcells_length _ _ _ hh.rlen])] at h
  simpa using h

set_option maxRecDepth 20000 in
set_option maxHeartbeats 400000 in
theorem hsum_any {w : World} {p : Nat} {s : W8} {r : List UInt8} {n : Nat} (hh : Hs w p s r n) (ht : Tabs w) (hn : n < 1152921504606846976) :
    Calls Tryd.prog 34 #[.pointer (some ⟨p, 0, none⟩)] w fun e w' => e = .returned (.string (str (sumB s r n))) ∧ Below w.heap.size w w' := by
  have hmade := hh.made
  have hcount := hh.count
  have hp := hh.lt
  have h74 : (hcells s r n).toArray.size = 74 := by rw [List.size_toArray, hcells_length _ _ _ hh.rlen]
  have hst : (Tryd.prog.info? 69).map (·.size) = some (hcells s r n).toArray.size := by rw [h74]; exact size74
  have hone : (hcells s r n).toArray.all (·.oneCell') = true := by
    refine all_oneCell_toArray ?_
    intro v hv
    simp only [hcells, List.mem_append, List.mem_cons, List.not_mem_nil, or_false] at hv
    rcases hv with ((rfl | hv) | hv) | rfl
    · rfl
    · exact u32L_one _ v hv
    · exact byteCells_one _ v hv
    · rfl
  have hheap := hh.heap
  have hth : (w.alloc (.cells zero74 69)).there w.heap.size 0 (hcells s r n).toArray.size := there_of_heap (heap_new _ _) (by rw [h74, zero74_size]; decide)
  have hz57 := zero_run w
  go_enter Tryd.func34, Tryd.ntmps34
  obtain ⟨hcp, hbA, htA⟩ := copied hh ht
  rw [List.toList_toArray] at hcp hbA htA
  have c73 : ((w.alloc (.cells zero74 69)).setCells w.heap.size 0 (hcells s r n)).cell? ⟨p, 73, none⟩ = some (.int .u64 (n : Int)) := by
    rw [hbA.cell (p := ⟨p, 73, none⟩) hp]
    exact hcount
  go_wp2_with (first | (go_at_call 46; refine (there_yes hmade).mono ?_; rintro e w' ⟨rfl, rfl⟩) | (refine wpList_load_row rfl 69 (.tmp 8) rfl p rfl 69 _ (0, 0) _ hheap Tryd.underlying69 rfl hst ?_) | (refine wpList_alloc_zero rfl 69 zero74 rfl hz57 ?_) | (refine wpList_store_mid rfl 69 (.tmp 3) (.tmp 9) rfl w.heap.size 0 _ rfl rfl hth hst hone ?_) | (go_at_call 47; refine (ending_any n _ hn).mono ?_; rintro e w2 ⟨rfl, hb2⟩))
  have hlt : w.heap.size < ((w.alloc (.cells zero74 69)).setCells w.heap.size 0 (hcells s r n)).heap.size := hcp.lt
  have hs2 := hcp.below hb2 hlt
  have ht2 := htA.below hb2 htA.size
  have hb02 : Below w.heap.size w w2 := hbA.trans (hb2.mono (by omega))
  have hsz : (str (endL n)).size ≤ 200 := by rw [str_size]; simp [endL, zeros, be8]; omega
  clear hcp hbA htA c73 hth hone hst hheap hz57 hb2 hlt
  refine (take_any w.heap.size s r n (str (endL n)) w2 hs2 ht2 (by omega)).mono ?_
  rintro e w3 ⟨rfl, hs3, ho3, ht3⟩
  rw [str_data] at hs3
  have hwd := hs3.words
  have hok := hs3.ok
  have hb03 : Below w.heap.size w w3 := hb02.trans (ho3.below hb02.size (by simp))
  have HS : Hid (sumB s r n = wtext (eat s (r ++ endL n)).1) := rfl
  revert hwd hok HS
  generalize (eat s (r ++ endL n)).1 = s3
  intro hwd hok HS
  clear hs3 ho3 hs2 ht2
  go_wp2_with (first | (refine wpList_load_mid rfl 64 (.tmp 16) rfl w.heap.size 1 rfl _ _ hwd Tryd.underlying64 rfl size8 ?_) | (go_at_call 48; refine (text_any s3 hok _).mono ?_; rintro e w4 ⟨rfl, hb4⟩))
  go_ret
  rw [HS.out]
  exact ⟨rfl, hb03.trans (hb4.mono hb03.size)⟩

end Go.Proofs.YtjjabkimmgcejaaDoor
