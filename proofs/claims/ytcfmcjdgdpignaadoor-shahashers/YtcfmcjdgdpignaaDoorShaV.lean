import Derived.Test.YtcfmcjdgdpignaaDoorShaW
namespace Go.Proofs.YtcfmcjdgdpignaaDoor
open Go.RowKit Go.Lib Go.Deep

theorem stCount_lt (l : List UInt8) : stCount l < 18446744073709551616 := by
  have h1 := beNum_lt ((l.drop 32).take 8)
  have h2 : ((l.drop 32).take 8).length ≤ 8 := by rw [List.length_take]; omega
  have h3 : 256 ^ ((l.drop 32).take 8).length ≤ 256 ^ 8 := Nat.pow_le_pow_right (by omega) h2
  unfold stCount
  omega

def Restored (w : World) (l : List UInt8) (e : Ending) (w' : World) : Prop :=
  (Good l ∧ (∃ q, e = .returned (.tuple #[.pointer (some ⟨q, 0, none⟩), .int .i64 0]) ∧ w.heap.size ≤ q ∧ Hs w' q (w8 (stWords l)) (l.drop 40) (stCount l)) ∨ ¬ Good l ∧ e = .returned (.tuple #[.pointer none, .int .i64 21])) ∧ Below w.heap.size w w'

theorem exec_build {P : Program} {a : Act} {o : Oper} {w : World} (t : TypeId) (parts : Array (Nat × Operand)) (ho : o.op = .build t parts) (vals : List (Nat × Value)) (hv : (parts.map fun (i, x) => (i, a.eval x)).toList = vals) (C : Array Value) (hc : P.built t vals = some C) :
    (execOp a.eval o).run P w = .ok (.value (.agg C)) w := by
  subst hv
  unfold execOp
  simp only [ho, Sem.run_bind, run_build w t _ C hc, Result.andThen_ok]
  rfl

theorem Below.setRow_of {B : Nat} (w : World) (g : Nat) (cs : Array Value) (h : B ≤ g) : Below B w (w.setRow g cs) :=
  ⟨rfl, rfl, rfl, by simp, fun k hk => setRow_other _ _ _ _ (by omega)⟩

theorem hcells_copy (s : W8) (r : List UInt8) (n : Nat) (hr : r.length ≤ 64) : (hcells s [] n).toArray.toList.take 9 ++ byteCells r ++ (hcells s [] n).toArray.toList.drop (9 + r.length) = hcells s r n := by
  have e : hcells s [] n = ([Value.bool true] ++ u32L s.list) ++ (byteCells (zeros 64) ++ [Value.int .u64 (n : Int)]) := by simp [hcells]
  have hp : ([Value.bool true] ++ u32L s.list).length = 9 := by simp [u32L, W8.list]
  rw [List.toList_toArray, e, List.take_left' hp, ← List.drop_drop, List.drop_left' hp]
  have e2 : (zeros 64 : List UInt8) = zeros r.length ++ zeros (64 - r.length) := by
    unfold zeros
    rw [List.replicate_append_replicate]
    congr 1
    omega
  have hz : (byteCells (zeros r.length)).length = r.length := by rw [byteCells_length]; simp [zeros]
  rw [e2, byteCells_append, List.append_assoc (byteCells (zeros r.length)), List.drop_left' hz, hcells, byteCells_append]
  simp

set_option maxRecDepth 20000 in
set_option maxHeartbeats 1000000 in
theorem restore_any (s : ByteArray) (w : World) (ht : Tabs w) (h4 : 4 ≤ w.heap.size) : Calls Tryd.prog 5 #[.string s] w (Restored w s.data.toList) := by
  by_cases h40 : s.size < 40
  · have hlt : (s.size : Int) < 40 := by omega
    go_enter Tryd.func5, Tryd.ntmps5
    go_wp2
    go_ret2
    refine ⟨Or.inr ⟨fun h => ?_, rfl⟩, Below.refl _ _⟩
    have := h.len
    rw [← size_eq] at this
    omega
  · have hlt : ¬ (s.size : Int) < 40 := by omega
    have i32 : (32 : Int) ≤ (s.size : Int) := by omega
    have i40 : (40 : Int) ≤ (s.size : Int) := by omega
    have hwo : ∀ W : World, Calls Tryd.prog 15 #[.string (s.extract 0 32)] W fun e w' => e = .returned (.agg (u32s (stWords s.data.toList))) ∧ Below W.heap.size W w' := fun W => by
      have h := wordsOf_any (s.extract 0 32) W (by simp; omega)
      rw [extract_data] at h
      exact h
    have hno : ∀ W : World, Calls Tryd.prog 16 #[.string (s.extract 32 40)] W fun e w' => e = .returned (.int .u64 (stCount s.data.toList : Int)) ∧ W = w' := fun W => by
      have h := numberOf_any (s.extract 32 40) W (by simp; omega)
      rw [extract_data] at h
      exact h
    have hnl := stCount_lt s.data.toList
    have hwl : ∀ x ∈ stWords s.data.toList, x < 4294967296 := wordsL_lt _ _
    obtain ⟨a, b, c, d, e, f, g, h, HW0⟩ : ∃ a b c d e f g h, stWords s.data.toList = [a, b, c, d, e, f, g, h] := by
      have : (stWords s.data.toList).length = 8 := wordsL_length _ _
      match stWords s.data.toList, this with
      | [a, b, c, d, e, f, g, h], _ => exact ⟨a, b, c, d, e, f, g, h, rfl⟩
    rw [HW0] at hwo hwl
    have HW : Hid (stWords s.data.toList = [a, b, c, d, e, f, g, h]) := HW0
    clear HW0
    obtain ⟨n, HN0⟩ : ∃ n, stCount s.data.toList = n := ⟨_, rfl⟩
    rw [HN0] at hno hnl
    have HN : Hid (stCount s.data.toList = n) := HN0
    clear HN0
    have hbl : (Tryd.prog.built 55 [(0, Value.bool true), (1, Value.agg #[.int .u32 (a : Int), .int .u32 (b : Int), .int .u32 (c : Int), .int .u32 (d : Int), .int .u32 (e : Int), .int .u32 (f : Int), .int .u32 (g : Int), .int .u32 (h : Int)]), (3, .int .u64 (n : Int))]) = some (hcells ⟨a, b, c, d, e, f, g, h⟩ [] n).toArray := by kernel_rfl
    have hone : (hcells ⟨a, b, c, d, e, f, g, h⟩ [] n).toArray.all (·.oneCell') = true := by kernel_rfl
    obtain ⟨C, HC0⟩ : ∃ C, (hcells ⟨a, b, c, d, e, f, g, h⟩ [] n).toArray = C := ⟨_, rfl⟩
    rw [HC0] at hbl hone
    have HC : Hid ((hcells ⟨a, b, c, d, e, f, g, h⟩ [] n).toArray = C) := HC0
    clear HC0
    go_enter Tryd.func5, Tryd.ntmps5
    go_wp2_with fail
    refine wp_region_any (by kernel_rfl) ?_
    refine wpAny_take (i := 0) (oi := { dst := some 8, op := .move (.tmp 0), type := 9, pos := _, after := #[], guard := none }) (v := .string s) rfl (by kernel_rfl) (by kernel_rfl) (by kernel_rfl) (fun _ _ _ h => h) (Or.inl ⟨by rfl, by intro w; go_simp⟩) ?_
    try simp only [Act.put, List.setIfInBounds_toArray, List.set_cons_zero, List.set_cons_succ]
    refine wpAny_take (i := 1) (oi := { dst := some 9, op := .slice 9 (.tmp 8) none (some (.const (.int .i64 32))) none, type := 9, pos := _, after := #[{ on := 0, ground := .data }], guard := none }) (v := .string (s.extract 0 32)) rfl (by kernel_rfl) (by kernel_rfl) (by kernel_rfl) (fun _ _ _ h => h) (Or.inl ⟨by rfl, by intro w; go_simp⟩) ?_
    try simp only [Act.put, List.setIfInBounds_toArray, List.set_cons_zero, List.set_cons_succ]
    refine wpAny_take (i := 3) (oi := { dst := some 11, op := .move (.tmp 0), type := 9, pos := _, after := #[], guard := none }) (v := .string s) rfl (by kernel_rfl) (by kernel_rfl) (by kernel_rfl) (fun _ _ _ h => h) (Or.inl ⟨by rfl, by intro w; go_simp⟩) ?_
    try simp only [Act.put, List.setIfInBounds_toArray, List.set_cons_zero, List.set_cons_succ]
    refine wpAny_take (i := 4) (oi := { dst := some 12, op := .slice 9 (.tmp 11) (some (.const (.int .i64 32))) (some (.const (.int .i64 40))) none, type := 9, pos := _, after := #[{ on := 3, ground := .data }], guard := none }) (v := .string (s.extract 32 40)) rfl (by kernel_rfl) (by kernel_rfl) (by kernel_rfl) (fun _ _ _ h => h) (Or.inl ⟨by rfl, by intro w; go_simp⟩) ?_
    try simp only [Act.put, List.setIfInBounds_toArray, List.set_cons_zero, List.set_cons_succ]
    refine wpAny_ready (rs := [2]) (by kernel_rfl) (by simp) ?_
    intro i hi
    obtain rfl : i = 2 := by simpa using hi
    refine wpOp_step (o := { dst := some 10, op := .call { callee := .value (.func 15), args := #[.tmp 9], argTypes := #[9] }, type := 48, pos := _, after := #[{ on := 1, ground := .data }], guard := none }) rfl ?_
    intro K hK
    go_simp
    refine (hwo _).mono ?_
    rintro e w1 ⟨rfl, hb1⟩
    refine hK _ _ ?_
    clear hK K
    try simp only [Act.put, List.setIfInBounds_toArray, List.set_cons_zero, List.set_cons_succ]
    refine wpAny_ready (rs := [5]) (by kernel_rfl) (by simp) ?_
    intro i hi
    obtain rfl : i = 5 := by simpa using hi
    refine wpOp_step (o := { dst := some 13, op := .call { callee := .value (.func 16), args := #[.tmp 12], argTypes := #[9] }, type := 50, pos := _, after := #[{ on := 4, ground := .data }, { on := 2, ground := .chain }], guard := none }) rfl ?_
    intro K hK
    go_simp
    refine (hno _).mono ?_
    rintro e w' ⟨rfl, rfl⟩
    refine hK _ _ ?_
    clear hK K
    try simp only [Act.put, List.setIfInBounds_toArray, List.set_cons_zero, List.set_cons_succ]
    refine wpAny_take (i := 6) (oi := { dst := some 14, op := .build 55 #[(0, .const (.bool true)), (1, .tmp 10), (3, .tmp 13)], type := 55, pos := _, after := #[{ on := 2, ground := .data }, { on := 5, ground := .data }], guard := none }) (v := .agg C) rfl (by kernel_rfl) (by kernel_rfl) (by kernel_rfl) (fun _ _ _ h => h) (Or.inl ⟨by rfl, by intro w; exact exec_build _ _ rfl _ (by simp [Act.eval, u32s, u32L]) _ hbl⟩) ?_
    try simp only [Act.put, List.setIfInBounds_toArray, List.set_cons_zero, List.set_cons_succ]
    refine wpAny_ready (rs := [7]) (by kernel_rfl) (by simp) ?_
    intro i hi
    obtain rfl : i = 7 := by simpa using hi
    refine wpOp_step (o := { dst := some 15, op := .box 55 (.tmp 14), type := 22, pos := _, after := #[{ on := 6, ground := .data }], guard := none }) rfl ?_
    intro K hK
    go_simp
    refine hK _ _ ?_
    clear hK K
    try simp only [Act.put, List.setIfInBounds_toArray, List.set_cons_zero, List.set_cons_succ]
    refine wpAny_take (i := 8) (oi := { dst := some 4, op := .assign (.tmp 15), type := 22, pos := _, after := #[{ on := 7, ground := .data }, { on := 5, ground := .chain }, { on := 0, ground := .phase }, { on := 1, ground := .phase }, { on := 2, ground := .phase }, { on := 3, ground := .phase }, { on := 4, ground := .phase }, { on := 5, ground := .phase }, { on := 6, ground := .phase }, { on := 7, ground := .phase }], guard := none }) (v := .pointer (some ⟨w1.heap.size, 0, none⟩)) rfl (by kernel_rfl) (by kernel_rfl) (by kernel_rfl) (fun _ _ _ h => h) (Or.inl ⟨by rfl, by intro w; go_simp⟩) ?_
    try simp only [Act.put, List.setIfInBounds_toArray, List.set_cons_zero, List.set_cons_succ]
    refine wpAny_done (by kernel_rfl) ?_ _
    have hb1' : Below w.heap.size w w1 := (Below.refl w.heap.size w).drew.trans hb1
    have hq0 : w.heap.size ≤ w1.heap.size := hb1'.size
    have hbA : Below w.heap.size w (w1.alloc (.cells C 55)) := hb1'.alloc hq0 _
    refine with_world (R := fun W => Exit.then _ _ _ _ W) (Q := fun W => W.heap[w1.heap.size]? = some (.cells C 55 (0, 0)) ∧ Below w.heap.size w W) _ ⟨heap_new _ _, hbA⟩ ?_
    clear hbA hb1' hb1
    obtain ⟨q, hq⟩ : ∃ q, w1.heap.size = q := ⟨_, rfl⟩
    rw [hq] at hq0 ⊢
    clear hq
    rintro w2 ⟨hh2, hb2⟩
    have ht2 := ht.below hb2 (by omega)
    rw [← HC.out] at hh2
    have c73 : w2.cell? ⟨q, 73, none⟩ = some (.int .u64 (n : Int)) := by
      rw [cell_of_heap hh2, List.getElem?_toArray]
      exact hcells_count _ _ _ (by simp)
    have hwd : w2.rangeAt q 1 (u32L [a, b, c, d, e, f, g, h]) := range_of_heap (pre := [Value.bool true]) (post := byteCells (zeros 64) ++ [Value.int .u64 (n : Int)]) hh2 (by simp [hcells, W8.list])
    clear hwo hno hbl
    by_cases hbig : 1099511627776 < n
    · have hbi : (1099511627776 : Int) < (n : Int) := by omega
      go_wp2
      go_ret2
      refine ⟨Or.inr ⟨fun hg => ?_, rfl⟩, hb2⟩
      have := hg.cnt
      rw [HN.out] at this
      omega
    · have hbi : ¬ (1099511627776 : Int) < (n : Int) := by omega
      have hfl := filled_any (w := w2) c73 (by omega)
      obtain ⟨z, hz⟩ : ∃ z, n % 64 = z := ⟨_, rfl⟩
      have hz64 : z < 64 := by omega
      rw [hz] at hfl
      have HZ : Hid (n % 64 = z) := hz
      clear hz
      by_cases hlen : s.size = 40 + z
      · have hle : (s.size : Int) = 40 + (z : Int) := by omega
        have x1 := hwd 0 _ rfl
        have x2 := hwd 1 _ rfl
        have x3 := hwd 2 _ rfl
        have x4 := hwd 3 _ rfl
        have x5 := hwd 4 _ rfl
        have x6 := hwd 5 _ rfl
        have x7 := hwd 6 _ rfl
        have x8 := hwd 7 _ rfl
        have y1 := ht2.fw 0 _ rfl
        have y2 := ht2.fw 1 _ rfl
        have y3 := ht2.fw 2 _ rfl
        have y4 := ht2.fw 3 _ rfl
        have y5 := ht2.fw 4 _ rfl
        have y6 := ht2.fw 5 _ rfl
        have y7 := ht2.fw 6 _ rfl
        have y8 := ht2.fw 7 _ rfl
        simp only [Nat.add_zero, Nat.zero_add, Nat.reduceAdd] at x1 x2 x3 x4 x5 x6 x7 x8 y1 y2 y3 y4 y5 y6 y7 y8
        clear hwd
        have HR : Hid ((s.data.toList.drop 40).length = z) := by show _ = _; rw [List.length_drop, ← size_eq]; omega
        have hex : (s.extract 40 s.size).data.toList = s.data.toList.drop 40 := by rw [extract_data, List.take_of_length_le (by rw [List.length_drop, ← size_eq]; omega)]
        have hmin : Nat.min (s.extract 40 s.size).size 64 = z := by
          have : (s.extract 40 s.size).size = z := by rw [size_eq, hex, HR.out]
          rw [this]
          exact Nat.min_eq_left (by omega)
        have hfit : 9 + z ≤ (hcells ⟨a, b, c, d, e, f, g, h⟩ [] n).toArray.size := by rw [List.size_toArray, hcells_length _ _ _ (by simp)]; omega
        have hcopy : (hcells ⟨a, b, c, d, e, f, g, h⟩ [] n).toArray.toList.take 9 ++ byteCells ((s.extract 40 s.size).data.toList.take z) ++ (hcells ⟨a, b, c, d, e, f, g, h⟩ [] n).toArray.toList.drop (9 + z) = hcells ⟨a, b, c, d, e, f, g, h⟩ (s.data.toList.drop 40) n := by
          have et : (s.data.toList.drop 40).take z = s.data.toList.drop 40 := List.take_of_length_le (Nat.le_of_eq HR.out)
          rw [hex, et]
          have := hcells_copy ⟨a, b, c, d, e, f, g, h⟩ (s.data.toList.drop 40) n (by rw [HR.out]; omega)
          rw [HR.out] at this
          exact this
        clear hex
        have hok : (⟨a, b, c, d, e, f, g, h⟩ : W8).OK := w8_OK [a, b, c, d, e, f, g, h] rfl hwl
        by_cases hn64 : n < 64
        · have hd : decide ((n : Int) < 64) = true := by simp; omega
          by_cases hf : [a, b, c, d, e, f, g, h] = first.list
          · have HF : Hid ([a, b, c, d, e, f, g, h] = first.list) := hf
            simp only [W8.list, List.cons.injEq, and_true] at hf
            obtain ⟨e1, e2, e3, e4, e5, e6, e7, e8⟩ := hf
            have hv : ((a : Int) == (first.a : Int) && ((b : Int) == (first.b : Int) && ((c : Int) == (first.c : Int) && ((d : Int) == (first.d : Int) && ((e : Int) == (first.e : Int) && ((f : Int) == (first.f : Int) && ((g : Int) == (first.g : Int) && (h : Int) == (first.h : Int)))))))) = true := by
              rw [e1, e2, e3, e4, e5, e6, e7, e8]
              simp
            have heq : ∀ W, (Op.equalIn 10000 48 (.agg #[.int .u32 (a : Int), .int .u32 (b : Int), .int .u32 (c : Int), .int .u32 (d : Int), .int .u32 (e : Int), .int .u32 (f : Int), .int .u32 (g : Int), .int .u32 (h : Int)]) (.agg #[.int .u32 (first.a : Int), .int .u32 (first.b : Int), .int .u32 (first.c : Int), .int .u32 (first.d : Int), .int .u32 (first.e : Int), .int .u32 (first.f : Int), .int .u32 (first.g : Int), .int .u32 (first.h : Int)])).run Tryd.prog W = .ok true W := fun W => by rw [eq_words, hv]
            clear hv e1 e2 e3 e4 e5 e6 e7 e8
            have hgood : Good s.data.toList := ⟨by rw [HN.out, HZ.out, ← size_eq]; exact hlen, by rw [HN.out]; omega, fun _ => by rw [HW.out]; exact HF.out⟩
            have hgw := guardW
            go_wp2_with (go_at_call 17; refine hfl.mono ?_; rintro e w' ⟨rfl, rfl⟩)
            go_quiet (fail)
            have hh6 : (w2.drewN nq).heap[q]? = some (.cells (hcells ⟨a, b, c, d, e, f, g, h⟩ [] n).toArray 55 (0, 0)) := hh2
            have hb6 : Below w.heap.size w (w2.drewN nq) := ⟨hb2.os, hb2.tape, hb2.output, hb2.size, hb2.block⟩
            refine with_world (R := fun W => Exit.then _ _ _ _ W) (Q := fun W => W.heap[q]? = some (.cells (hcells ⟨a, b, c, d, e, f, g, h⟩ [] n).toArray 55 (0, 0)) ∧ Below w.heap.size w W) _ ⟨hh6, hb6⟩ ?_
            clear hle hlen hh6 hb6 x1 x2 x3 x4 x5 x6 x7 x8 y1 y2 y3 y4 y5 y6 y7 y8 hh2 hb2 c73 ht2 hfl
            rintro w3 ⟨hh3, hb3⟩
            have hh3' : w3.drew.heap[q]? = some (.cells (hcells ⟨a, b, c, d, e, f, g, h⟩ [] n).toArray 55 (0, 0)) := hh3
            go_wp2_with fail
            go_region_held_law (fun _ => True) (trivial) (refine step_copy_string rfl _ _ 57 9 rfl 5 Tryd.underlying57 size5 q 9 64 64 z (s.extract 40 s.size) (by simp [Act.eval]) (by simp [Act.eval]) _ 55 hh3' hmin hfit _ hcopy ?_)
            go_wp2
            go_ret2
            have hn3 := setRow_heap _ _ _ (hcells ⟨a, b, c, d, e, f, g, h⟩ (s.data.toList.drop 40) n).toArray _ _ hh3'
            refine ⟨Or.inl ⟨hgood, q, rfl, hq0, ?_⟩, ?_⟩
            · rw [HW.out, HN.out]
              exact ⟨hn3, hok, by rw [HR.out, HZ.out], by omega, by omega⟩
            · exact hb3.drew.trans (Below.setRow_of _ _ _ hq0)
          · have hv : ((a : Int) == (first.a : Int) && ((b : Int) == (first.b : Int) && ((c : Int) == (first.c : Int) && ((d : Int) == (first.d : Int) && ((e : Int) == (first.e : Int) && ((f : Int) == (first.f : Int) && ((g : Int) == (first.g : Int) && (h : Int) == (first.h : Int)))))))) = false := by
              apply Bool.eq_false_iff.2
              intro hall
              simp only [Bool.and_eq_true, beq_iff_eq, Int.natCast_inj] at hall
              obtain ⟨e1, e2, e3, e4, e5, e6, e7, e8⟩ := hall
              exact hf (by rw [e1, e2, e3, e4, e5, e6, e7, e8]; rfl)
            have heq : ∀ W, (Op.equalIn 10000 48 (.agg #[.int .u32 (a : Int), .int .u32 (b : Int), .int .u32 (c : Int), .int .u32 (d : Int), .int .u32 (e : Int), .int .u32 (f : Int), .int .u32 (g : Int), .int .u32 (h : Int)]) (.agg #[.int .u32 (first.a : Int), .int .u32 (first.b : Int), .int .u32 (first.c : Int), .int .u32 (first.d : Int), .int .u32 (first.e : Int), .int .u32 (first.f : Int), .int .u32 (first.g : Int), .int .u32 (first.h : Int)])).run Tryd.prog W = .ok false W := fun W => by rw [eq_words, hv]
            clear hv
            have hgw := guardW
            have HF : Hid (¬ [a, b, c, d, e, f, g, h] = first.list) := hf
            clear hf
            go_wp2_with (go_at_call 17; refine hfl.mono ?_; rintro e w' ⟨rfl, rfl⟩)
            go_quiet (fail)
            go_wp2
            go_ret2
            refine ⟨Or.inr ⟨fun hg => ?_, rfl⟩, ⟨hb2.os, hb2.tape, hb2.output, hb2.size, hb2.block⟩⟩
            have := hg.few (by rw [HN.out]; exact hn64)
            rw [HW.out] at this
            exact HF.out this
        · have hd : decide ((n : Int) < 64) = false := by simp; omega
          have hgood : Good s.data.toList := ⟨by rw [HN.out, HZ.out, ← size_eq]; exact hlen, by rw [HN.out]; omega, fun h => absurd h (by rw [HN.out]; exact hn64)⟩
          go_wp2_with (go_at_call 17; refine hfl.mono ?_; rintro e w' ⟨rfl, rfl⟩)
          go_quiet (fail)
          have hh6 : (w2.drewN nq).heap[q]? = some (.cells (hcells ⟨a, b, c, d, e, f, g, h⟩ [] n).toArray 55 (0, 0)) := hh2
          have hb6 : Below w.heap.size w (w2.drewN nq) := ⟨hb2.os, hb2.tape, hb2.output, hb2.size, hb2.block⟩
          refine with_world (R := fun W => Exit.then _ _ _ _ W) (Q := fun W => W.heap[q]? = some (.cells (hcells ⟨a, b, c, d, e, f, g, h⟩ [] n).toArray 55 (0, 0)) ∧ Below w.heap.size w W) _ ⟨hh6, hb6⟩ ?_
          clear hle hlen hh6 hb6 x1 x2 x3 x4 x5 x6 x7 x8 y1 y2 y3 y4 y5 y6 y7 y8 hh2 hb2 c73 ht2 hfl
          rintro w3 ⟨hh3, hb3⟩
          have hh3' : w3.drew.heap[q]? = some (.cells (hcells ⟨a, b, c, d, e, f, g, h⟩ [] n).toArray 55 (0, 0)) := hh3
          go_wp2_with fail
          go_region_held_law (fun _ => True) (trivial) (refine step_copy_string rfl _ _ 57 9 rfl 5 Tryd.underlying57 size5 q 9 64 64 z (s.extract 40 s.size) (by simp [Act.eval]) (by simp [Act.eval]) _ 55 hh3' hmin hfit _ hcopy ?_)
          go_wp2
          go_ret2
          have hn3 := setRow_heap _ _ _ (hcells ⟨a, b, c, d, e, f, g, h⟩ (s.data.toList.drop 40) n).toArray _ _ hh3'
          refine ⟨Or.inl ⟨hgood, q, rfl, hq0, ?_⟩, ?_⟩
          · rw [HW.out, HN.out]
            exact ⟨hn3, hok, by rw [HR.out, HZ.out], by omega, by omega⟩
          · exact hb3.drew.trans (Below.setRow_of _ _ _ hq0)
      · have hle : ¬ (s.size : Int) = 40 + (z : Int) := by omega
        go_wp2_with (go_at_call 17; refine hfl.mono ?_; rintro e w' ⟨rfl, rfl⟩)
        go_ret2
        refine ⟨Or.inr ⟨fun hg => ?_, rfl⟩, hb2⟩
        have := hg.len
        rw [HN.out, HZ.out, ← size_eq] at this
        exact hlen this

end Go.Proofs.YtcfmcjdgdpignaaDoor
