import Derived.Test.YtjjabkimmgcejaaDoorShaH
namespace Go.Proofs.YtjjabkimmgcejaaDoor
open Go.RowKit Go.Lib Go.Deep

theorem size5 : (Tryd.prog.info? 5).map (·.size) = some 1 := by kernel_rfl

theorem byteCells_zeros (a b : List UInt8) : byteCells (a ++ b) = byteCells a ++ byteCells b := by simp [byteCells]

theorem copy_cells (s : W8) (r x : List UInt8) (n : Nat) (h : r.length + x.length ≤ 64) :
    (hcells s r n).take (9 + r.length) ++ byteCells x ++ (hcells s r n).drop (9 + r.length + x.length) = hcells s (r ++ x) n := by
  have e : hcells s r n = ([Value.bool true] ++ u32L s.list ++ byteCells r) ++ (byteCells (zeros x.length) ++ (byteCells (zeros (64 - (r ++ x).length)) ++ [Value.int .u64 (n : Int)])) := by
    have : zeros (64 - r.length) = zeros x.length ++ zeros (64 - (r ++ x).length) := by
      unfold zeros
      rw [← List.replicate_append_replicate.symm]
      simp
      omega
    simp only [hcells, this, byteCells_zeros, List.append_assoc]
  have l1 : ([Value.bool true] ++ u32L s.list ++ byteCells r).length = 9 + r.length := by simp [u32L, W8.list, byteCells]; omega
  have l2 : (byteCells (zeros x.length)).length = x.length := by simp [byteCells, zeros]
  rw [e, ← l1, List.take_left, List.drop_append]
  rw [List.drop_eq_nil_of_le (by omega), show ([Value.bool true] ++ u32L s.list ++ byteCells r).length + x.length - ([Value.bool true] ++ u32L s.list ++ byteCells r).length = (byteCells (zeros x.length)).length by omega, List.nil_append, List.drop_left]
  simp only [hcells, byteCells_zeros, List.append_assoc]

theorem count_cells (s : W8) (r : List UInt8) (n m : Nat) (h : r.length ≤ 64) : (hcells s r n).toArray.setIfInBounds 73 (.int .u64 (m : Int)) = (hcells s r m).toArray := by
  have hl : ([Value.bool true] ++ u32L s.list ++ byteCells (r ++ zeros (64 - r.length))).length = 73 := by
    simp [u32L, W8.list, byteCells, zeros]
    omega
  rw [List.setIfInBounds_toArray, hcells, List.set_append_right _ _ (by omega), hl]
  rfl

theorem words_cells (s s' : W8) (r : List UInt8) (n : Nat) : setMany (hcells s r n).toArray 1 (u32L s'.list) = (hcells s' r n).toArray := by
  have := setMany_part [Value.bool true] (u32L s.list) (byteCells (r ++ zeros (64 - r.length)) ++ [Value.int .u64 (n : Int)]) (u32L s'.list) rfl
  simp only [hcells, List.append_assoc] at this ⊢
  exact this

theorem clear_cells (s : W8) (r : List UInt8) (n : Nat) (h : r.length ≤ 64) : setMany (hcells s r n).toArray 9 (byteCells (zeros 64)) = (hcells s [] n).toArray := by
  have hl : (byteCells (r ++ zeros (64 - r.length))).length = (byteCells (zeros 64)).length := by simp [byteCells, zeros]; omega
  have := setMany_part ([Value.bool true] ++ u32L s.list) (byteCells (r ++ zeros (64 - r.length))) [Value.int .u64 (n : Int)] (byteCells (zeros 64)) hl
  simp only [hcells] at this ⊢
  exact this

/-- a running sum's block, whatever its bytes fill -/
def HB (w : World) (p : Nat) (s : W8) (r : List UInt8) (n : Nat) : Prop := w.heap[p]? = some (.cells (hcells s r n).toArray 69 (0, 0))

structure Tk (w0 : World) (p : Nat) (w : World) (s : W8) (r : List UInt8) (n : Nat) : Prop where
  hb : HB w p s r n
  only : Only [p] w0 w
  tabs : Tabs w

theorem Tk.mixed {w0 : World} {p : Nat} {w w5 : World} {s : W8} {r : List UInt8} {n : Nat} (h : Tk w0 p w s r n) (hb : Below w.heap.size w w5) : Tk w0 p w5 s r n := by
  refine ⟨(hb.block p (heap_lt h.hb)).trans h.hb, h.only.trans ⟨hb.os, hb.tape, hb.output, hb.size, fun k hk _ => hb.block k hk⟩, h.tabs.below hb h.tabs.size⟩
theorem Tk.words {w0 : World} {p : Nat} {w : World} {s : W8} {r : List UInt8} {n : Nat} (h : Tk w0 p w s r n) (hp : 4 ≤ p) (s' : W8) : Tk w0 p (w.setCells p 1 (u32s s'.list).toList) s' r n := by
  refine ⟨?_, h.only.setCells (by simp) _ _, h.tabs.kept fun k hk => heap_setCells_other _ _ (by omega) _ _ _⟩
  have e := heap_setCells p 69 (u32L s'.list) 1 _ _ h.hb
  rw [words_cells] at e
  exact e
theorem Tk.clear {w0 : World} {p : Nat} {w : World} {s : W8} {r : List UInt8} {n : Nat} (h : Tk w0 p w s r n) (hp : 4 ≤ p) (hr : r.length ≤ 64) : Tk w0 p (w.setCells p 9 (byteCells (zeros 64))) s [] n := by
  refine ⟨?_, h.only.setCells (by simp) _ _, h.tabs.kept fun k hk => heap_setCells_other _ _ (by omega) _ _ _⟩
  have e := heap_setCells p 69 (byteCells (zeros 64)) 9 _ _ h.hb
  rw [clear_cells s r n hr] at e
  exact e

set_option maxRecDepth 20000 in
set_option maxHeartbeats 4000000 in
theorem take_any (p : Nat) (s0 : W8) (r0 : List UInt8) (n0 : Nat) (data : ByteArray) (w : World) (hh : Hs w p s0 r0 n0) (ht : Tabs w) (hbig : n0 + data.size < 9223372036854775808) :
    Calls Tryd.prog 33 #[.pointer (some ⟨p, 0, none⟩), .string data] w fun e w' => e = .returned (.tuple #[]) ∧
      Hs w' p (eat s0 (r0 ++ data.data.toList)).1 (eat s0 (r0 ++ data.data.toList)).2 (n0 + data.size) ∧ Only [p] w w' ∧ Tabs w' := by
  go_enter Tryd.func33, Tryd.ntmps33
  go_wp2
  go_loopg [1] data.size (fun gk d wr => ∃ (x : ByteArray) (s : W8) (r : List UInt8) (n : Nat), x.size ≤ gk ∧ d = .string x ∧ n + x.size = n0 + data.size ∧ eat s (r ++ x.data.toList) = eat s0 (r0 ++ data.data.toList) ∧ s.OK ∧ r.length = n % 64 ∧ Tk w p wr s r n)
  case atStart => exact ⟨data, s0, r0, n0, Nat.le_refl _, rfl, rfl, rfl, hh.ok, hh.len, hh.heap, Only.refl _ _, ht⟩
  case round =>
    obtain ⟨x, s, r, n, hx, rfl, hn, heq, hs, hr, HT⟩ := hrel
    have HK : Hid (x.size ≤ gk) := hx
    have HQ : Hid (eat s (r ++ x.data.toList) = eat s0 (r0 ++ data.data.toList)) := heq
    have HR : Hid (r.length = n % 64) := hr
    have HP : Hid (4 ≤ p) := hh.own
    have HN : Hid (n + x.size = n0 + data.size) := hn
    have hnb : n + x.size < 9223372036854775808 := by omega
    clear hx heq hn hr
    by_cases hpos : 0 < x.size
    · have hpos' : (0 : Int) < (x.size : Int) := by omega
      have hr64 : r.length ≤ 64 := by have := HR.out; omega
      have c73 : wr.cell? ⟨p, 73, none⟩ = some (.int .u64 (n : Int)) := by
        have h := HT.hb
        unfold HB at h
        rw [cell_of_heap h, List.getElem?_toArray]
        exact hcells_count s r n hr64
      have hg : wr.drew.heap[p]? = some (.cells (hcells s r n).toArray 69 (0, 0)) := HT.hb
      obtain ⟨q, hq⟩ : ∃ q, n % 64 = q := ⟨_, rfl⟩
      have hq64 : q < 64 := by omega
      have hnl : n < 9223372036854775808 := by omega
      have hfl : ∀ W : World, W.cell? ⟨p, 73, none⟩ = some (.int .u64 (n : Int)) → Calls Tryd.prog 44 #[.pointer (some ⟨p, 0, none⟩)] W fun e w' => e = .returned (.int .i64 (q : Int)) ∧ W = w' := fun W h => by
        have := filled_any h hnl
        rwa [hq] at this
      have HQ' : Hid (n % 64 = q) := hq
      clear hq
      have q0 : (0 : Int) ≤ (q : Int) := by omega
      have q1 : (q : Int) ≤ 64 := by omega
      obtain ⟨m, hm⟩ : ∃ m, Nat.min x.size (64 - q) = m := ⟨_, rfl⟩
      have hm1 : m ≤ x.size := by rw [← hm]; exact Nat.min_le_left _ _
      have hm2 : q + m ≤ 64 := by have : m ≤ 64 - q := by rw [← hm]; exact Nat.min_le_right _ _
                                  omega
      have hm3 : 0 < m := by rw [← hm]; exact Nat.lt_min.2 ⟨hpos, by omega⟩
      have HM : Hid (m = x.size ∨ q + m = 64) := by
        show m = x.size ∨ q + m = 64
        rcases Nat.le_total x.size (64 - q) with h | h
        · left; rw [← hm]; exact Nat.min_eq_left h
        · right; have : m = 64 - q := by rw [← hm]; exact Nat.min_eq_right h
          omega
      have hrq : r.length = q := by have := HR.out; have := HQ'.out; omega
      have hxm : (x.data.toList.take m).length = m := by simp; omega
      have hcs : (hcells s r n).toArray.toList.take (9 + q) ++ byteCells (x.data.toList.take m) ++ (hcells s r n).toArray.toList.drop (9 + q + m) = hcells s (r ++ x.data.toList.take m) n := by
        have := copy_cells s r (x.data.toList.take m) n (by omega)
        rw [hxm, hrq] at this
        exact this
      have hfit : 9 + q + m ≤ (hcells s r n).toArray.size := by rw [List.size_toArray, hcells_length _ _ _ hr64]; omega
      have hgw : (wr.drew.setRow p (hcells s (r ++ x.data.toList.take m) n).toArray).heap[p]? = some (.cells (hcells s (r ++ x.data.toList.take m) n).toArray 69 (0, 0)) := setRow_heap _ _ _ _ _ _ hg
      have KS : (wr.drew.setRow p (hcells s (r ++ x.data.toList.take m) n).toArray).cell? ⟨p, 73, none⟩ = some (.int .u64 (n : Int)) := by
        rw [cell_of_heap hgw, List.getElem?_toArray]
        exact hcells_count s _ n (by rw [List.length_append]; omega)
      have HTK : Tk w p (wr.drew.setRow p (hcells s (r ++ x.data.toList.take m) n).toArray) s (r ++ x.data.toList.take m) n :=
        ⟨hgw, (Only.drew HT.only).setRow (by simp) _, HT.tabs.kept fun k hk => setRow_other _ _ _ _ (by have := HP.out; omega)⟩
      have h64q : ¬ 64 = q := by omega
      go_wp2_with fail
      go_region_held3 (fun w' => w'.cell? ⟨p, 73, none⟩ = some (.int .u64 (n : Int))) (first | assumption | go_keep) (first | (go_at_call 44; refine (hfl _ (by assumption)).mono ?_; rintro e w' ⟨rfl, rfl⟩) | (refine step_copy_string rfl (.tmp 13) (.tmp 14) 42 9 rfl 5 Tryd.underlying42 size5 p (9 + q) (64 - q) (64 - q) m x (by simp [Act.eval]) (by simp [Act.eval]) (hcells s r n).toArray 69 hg hm hfit _ hcs ?_))
      refine with_world (R := fun W => Exit.then _ _ _ _ W) (Q := fun W => Tk w p W s (r ++ x.data.toList.take m) n) _ HTK ?_
      clear hcs hfit hgw KS HTK HT hg c73 hfl
      intro w1 HT0
      have HT : Tk w p w1 s (r ++ x.data.toList.take m) n := HT0
      clear HT0
      have HE : Hid (eat s ((r ++ x.data.toList.take m) ++ x.data.toList.drop m) = eat s0 (r0 ++ data.data.toList)) := by
        have := HQ.out
        rwa [← List.take_append_drop m x.data.toList, ← List.append_assoc] at this
      have HX : Hid ((x.extract m x.size).data.toList = x.data.toList.drop m ∧ (x.extract m x.size).size = x.size - m) := by
        refine ⟨?_, by simp⟩
        rw [extract_data, List.take_of_length_le (by simp)]
      have hl1 : (r ++ x.data.toList.take m).length = q + m := by rw [List.length_append]; omega
      clear HQ hxm
      obtain ⟨r1, hr1⟩ : ∃ r1, r ++ x.data.toList.take m = r1 := ⟨_, rfl⟩
      rw [hr1] at HT HE hl1
      obtain ⟨y, hy⟩ : ∃ y, x.extract m x.size = y := ⟨_, rfl⟩
      have hsl : ∀ W : World, (Instr.slice 9 (.string x) (some (.int .i64 (m : Int))) none none).run Tryd.prog W = .ok (.string y) W := fun W => by
        rw [← hy]
        exact run_slice_string_l (P := Tryd.prog) W 9 x Tryd.underlying9 .i64 (m : Int) (by omega) (by omega)
      rw [hy] at HX
      clear hr1 hrq hy
      have c73 : w1.cell? ⟨p, 73, none⟩ = some (.int .u64 (n : Int)) := by
        have h := HT.hb
        unfold HB at h
        rw [cell_of_heap h, List.getElem?_toArray]
        exact hcells_count s r1 n (by omega)
      have f73 : w1.frozen? ⟨p, 73, none⟩ = false := frozen_of_heap HT.hb
      have HT2 : Tk w p (w1.setCell ⟨p, 73, none⟩ (.int .u64 ((n : Int) + (m : Int)))) s r1 (n + m) := by
        refine ⟨?_, HT.only.setCell (by simp) _, HT.tabs.kept fun k hk => Below.heap_setCell _ _ _ _ (by have := HP.out; simp; omega)⟩
        have h := heap_setCell_same _ _ 73 _ _ (.int .u64 ((n + m : Nat) : Int)) HT.hb
        rw [count_cells s r1 n (n + m) (by omega)] at h
        exact h
      have c73' : (w1.setCell ⟨p, 73, none⟩ (.int .u64 ((n : Int) + (m : Int)))).cell? ⟨p, 73, none⟩ = some (.int .u64 ((n + m : Nat) : Int)) := by
        have h := HT2.hb
        unfold HB at h
        rw [cell_of_heap h, List.getElem?_toArray]
        exact hcells_count s r1 (n + m) (by omega)
      have hcvm : (m : Int) % 18446744073709551616 = (m : Int) := by omega
      by_cases hz : q + m = 64
      · have hfz := filled_any c73' (by omega)
        rw [show (n + m) % 64 = 0 by have := HQ'.out; omega] at hfz
        go_wp2_with (go_at_call 44; refine hfz.mono ?_; rintro e w' ⟨rfl, rfl⟩)
        have hwd : (w1.setCell ⟨p, 73, none⟩ (.int .u64 ((n : Int) + (m : Int)))).drew.rangeAt p 1 (u32L s.list) :=
          range_of_heap (pre := [Value.bool true]) (post := byteCells (r1 ++ zeros (64 - r1.length)) ++ [Value.int .u64 ((n + m : Nat) : Int)]) HT2.hb (by simp [hcells])
        have hrs : (w1.setCell ⟨p, 73, none⟩ (.int .u64 ((n : Int) + (m : Int)))).drew.rangeAt p 9 (byteCells r1) := by
          have h := range_of_heap (pre := [Value.bool true] ++ u32L s.list) (mid := byteCells (r1 ++ zeros (64 - r1.length))) (post := [Value.int .u64 ((n + m : Nat) : Int)]) HT2.hb (by simp [hcells])
          rw [show 64 - r1.length = 0 by omega, show zeros 0 = [] from rfl, List.append_nil] at h
          exact h
        have hi50 : (Tryd.prog.info? 64).map (·.size) = some (u32L s.list).length := size8
        have hi55 : (Tryd.prog.info? 66).map (·.size) = some (byteCells r1).length := by rw [byteCells_length, hl1, hz]; exact sizeB
        have HT3 : Tk w p (w1.setCell ⟨p, 73, none⟩ (.int .u64 ((n : Int) + (m : Int)))).drew s r1 (n + m) := ⟨HT2.hb, HT2.only.drew, ⟨HT2.tabs.fw, HT2.tabs.sw⟩⟩
        obtain ⟨W3, hW3⟩ : ∃ W3, (w1.setCell ⟨p, 73, none⟩ (.int .u64 ((n : Int) + (m : Int)))).drew = W3 := ⟨_, rfl⟩
        rw [hW3] at hwd hrs HT3
        refine wp_region_any (by kernel_rfl) ?_
        change wpAny _ _ _ _ _ _ _ (World.drew _)
        rw [hW3]
        clear hW3 HT2 c73 c73' f73 HT hfz
        have hmx := mixed_any s hs r1 (by omega) W3 HT3.tabs
        refine wpAny_take (i := 0) (oi := { dst := some 31, op := .move (.tmp 0), type := 59, pos := _, after := #[], guard := none }) (v := .pointer (some ⟨p, 0, none⟩)) rfl (by kernel_rfl) (by kernel_rfl) (by kernel_rfl) (fun _ _ _ h => h) (Or.inl ⟨by rfl, by intro w; go_simp⟩) ?_
        simp only [Act.put, List.setIfInBounds_toArray, List.set_cons_zero, List.set_cons_succ]
        refine wpAny_take (i := 1) (oi := { dst := some 32, op := .move (.tmp 0), type := 59, pos := _, after := #[], guard := none }) (v := .pointer (some ⟨p, 0, none⟩)) rfl (by kernel_rfl) (by kernel_rfl) (by kernel_rfl) (fun _ _ _ h => h) (Or.inl ⟨by rfl, by intro w; go_simp⟩) ?_
        simp only [Act.put, List.setIfInBounds_toArray, List.set_cons_zero, List.set_cons_succ]
        refine wpAny_take (i := 2) (oi := { dst := some 33, op := .nilCheck (.tmp 32), type := 0, pos := _, after := #[{ on := 1, ground := .data }], guard := none }) (v := .pointer (some ⟨p, 0, none⟩)) rfl (by kernel_rfl) (by kernel_rfl) (by kernel_rfl) (fun _ _ _ h => h) (Or.inl ⟨by rfl, by intro w; go_simp⟩) ?_
        simp only [Act.put, List.setIfInBounds_toArray, List.set_cons_zero, List.set_cons_succ]
        refine wpAny_take (i := 3) (oi := { dst := some 34, op := .fieldAddr 69 (.tmp 33) 1, type := 0, pos := _, after := #[{ on := 2, ground := .data }], guard := none }) (v := .pointer (some ⟨p, 1, none⟩)) rfl (by kernel_rfl) (by kernel_rfl) (by kernel_rfl) (fun _ _ _ h => h) (Or.inl ⟨by rfl, by intro w; go_simp⟩) ?_
        simp only [Act.put, List.setIfInBounds_toArray, List.set_cons_zero, List.set_cons_succ]
        refine wpAny_take (i := 5) (oi := { dst := some 36, op := .move (.tmp 0), type := 59, pos := _, after := #[], guard := none }) (v := .pointer (some ⟨p, 0, none⟩)) rfl (by kernel_rfl) (by kernel_rfl) (by kernel_rfl) (fun _ _ _ h => h) (Or.inl ⟨by rfl, by intro w; go_simp⟩) ?_
        simp only [Act.put, List.setIfInBounds_toArray, List.set_cons_zero, List.set_cons_succ]
        refine wpAny_take (i := 6) (oi := { dst := some 37, op := .nilCheck (.tmp 36), type := 0, pos := _, after := #[{ on := 5, ground := .data }], guard := none }) (v := .pointer (some ⟨p, 0, none⟩)) rfl (by kernel_rfl) (by kernel_rfl) (by kernel_rfl) (fun _ _ _ h => h) (Or.inl ⟨by rfl, by intro w; go_simp⟩) ?_
        simp only [Act.put, List.setIfInBounds_toArray, List.set_cons_zero, List.set_cons_succ]
        refine wpAny_take (i := 7) (oi := { dst := some 38, op := .fieldAddr 69 (.tmp 37) 2, type := 0, pos := _, after := #[{ on := 6, ground := .data }], guard := none }) (v := .pointer (some ⟨p, 9, none⟩)) rfl (by kernel_rfl) (by kernel_rfl) (by kernel_rfl) (fun _ _ _ h => h) (Or.inl ⟨by rfl, by intro w; go_simp⟩) ?_
        simp only [Act.put, List.setIfInBounds_toArray, List.set_cons_zero, List.set_cons_succ]
        refine wpAny_ready (rs := [4, 8]) (by kernel_rfl) (by simp) ?_
        intro i hi
        rcases (show i = 4 ∨ i = 8 by simpa using hi) with rfl | rfl
        · refine wpOp_step (o := { dst := some 35, op := .load 64 (.tmp 34), type := 64, pos := _, after := #[{ on := 3, ground := .data }], guard := none }) rfl ?_
          intro K hK
          refine step_load_mid rfl 64 (.tmp 34) rfl p 1 (by simp [Act.eval]) (u32L s.list) _ hwd Tryd.underlying64 rfl hi50 ?_
          refine hK _ _ ?_
          clear hK K
          simp only [Act.put, List.setIfInBounds_toArray, List.set_cons_zero, List.set_cons_succ]
          refine wpAny_ready (rs := [8]) (by kernel_rfl) (by simp) ?_
          intro i hi
          obtain rfl : i = 8 := by simpa using hi
          refine wpOp_step (o := { dst := some 39, op := .load 66 (.tmp 38), type := 66, pos := _, after := #[{ on := 7, ground := .data }], guard := none }) rfl ?_
          intro K hK
          refine step_load_mid rfl 66 (.tmp 38) rfl p 9 (by simp [Act.eval]) (byteCells r1) _ hrs Tryd.underlying66 rfl hi55 ?_
          refine hK _ _ ?_
          clear hK K
          simp only [Act.put, List.setIfInBounds_toArray, List.set_cons_zero, List.set_cons_succ]
          refine wpAny_ready (rs := [9]) (by kernel_rfl) (by simp) ?_
          intro i hi
          obtain rfl : i = 9 := by simpa using hi
          refine wpOp_step (o := { dst := some 40, op := .call { callee := .value (.func 45), args := #[.tmp 35, .tmp 39], argTypes := #[64, 66] }, type := 64, pos := _, after := #[{ on := 4, ground := .data }, { on := 8, ground := .data }], guard := none }) rfl ?_
          intro K hK
          go_simp
          refine hmx.mono ?_
          rintro e w5 ⟨rfl, hb5⟩
          refine hK _ _ ?_
          clear hK K
          have HT5 : Tk w p w5 s r1 (n + m) := HT3.mixed hb5
          have hth5 : w5.there p 1 8 := there_of_heap HT5.hb (by rw [List.size_toArray, hcells_length _ _ _ (by omega)]; decide)
          clear hb5
          refine wpAny_take (i := 10) (oi := { dst := some 41, op := .nilCheck (.tmp 31), type := 0, pos := _, after := #[{ on := 0, ground := .data }, { on := 0, ground := .phase }, { on := 1, ground := .phase }, { on := 2, ground := .phase }, { on := 3, ground := .phase }, { on := 4, ground := .phase }, { on := 5, ground := .phase }, { on := 6, ground := .phase }, { on := 7, ground := .phase }, { on := 8, ground := .phase }, { on := 9, ground := .phase }], guard := none }) (v := .pointer (some ⟨p, 0, none⟩)) rfl (by kernel_rfl) (by kernel_rfl) (by kernel_rfl) (fun _ _ _ h => h) (Or.inl ⟨by rfl, by intro w; go_simp⟩) ?_
          simp only [Act.put, List.setIfInBounds_toArray, List.set_cons_zero, List.set_cons_succ]
          refine wpAny_take (i := 11) (oi := { dst := some 42, op := .fieldAddr 69 (.tmp 41) 1, type := 0, pos := _, after := #[{ on := 10, ground := .data }, { on := 0, ground := .phase }, { on := 1, ground := .phase }, { on := 2, ground := .phase }, { on := 3, ground := .phase }, { on := 4, ground := .phase }, { on := 5, ground := .phase }, { on := 6, ground := .phase }, { on := 7, ground := .phase }, { on := 8, ground := .phase }, { on := 9, ground := .phase }], guard := none }) (v := .pointer (some ⟨p, 1, none⟩)) rfl (by kernel_rfl) (by kernel_rfl) (by kernel_rfl) (fun _ _ _ h => h) (Or.inl ⟨by rfl, by intro w; go_simp⟩) ?_
          simp only [Act.put, List.setIfInBounds_toArray, List.set_cons_zero, List.set_cons_succ]
          refine wpAny_ready (rs := [12]) (by kernel_rfl) (by simp) ?_
          intro i hi
          obtain rfl : i = 12 := by simpa using hi
          refine wpOp_step (o := { dst := none, op := .store 64 (.tmp 42) (.tmp 40), type := 0, pos := _, after := #[{ on := 11, ground := .data }, { on := 9, ground := .data }, { on := 9, ground := .chain }, { on := 0, ground := .phase }, { on := 1, ground := .phase }, { on := 2, ground := .phase }, { on := 3, ground := .phase }, { on := 4, ground := .phase }, { on := 5, ground := .phase }, { on := 6, ground := .phase }, { on := 7, ground := .phase }, { on := 8, ground := .phase }, { on := 9, ground := .phase }], guard := none }) rfl ?_
          intro K hK
          refine step_store_mid rfl 64 (.tmp 42) (.tmp 40) rfl p 1 (u32s (mix s r1).list) (by simp [Act.eval]) (by simp [Act.eval]) hth5 size8 (all_oneCell_toArray (u32L_one _)) ?_
          refine hK _ _ ?_
          clear hK K
          simp only [Act.put]
          refine wpAny_done (by kernel_rfl) ?_ _
          refine with_world (R := fun W => Exit.then _ _ _ _ W) (Q := fun W => Tk w p W (mix s r1) r1 (n + m)) _ (HT5.words HP.out (mix s r1)) ?_
          clear HT5
          intro w6 HT6
          have HT6' : Tk w p w6 (mix s r1) r1 (n + m) := HT6
          have hth6 : w6.there p 9 64 := there_of_heap HT6'.hb (by rw [List.size_toArray, hcells_length _ _ _ (by omega)]; decide)
          go_wp2_with (refine wpList_store_mid rfl 66 (.tmp 46) (.tmp 44) rfl p 9 (bytesV (zeros 64)) rfl rfl hth6 sizeB (all_oneCell_toArray (byteCells_one _)) ?_)
          rw [put_none]
          go_roundg (gk - m)
          case measure => have := HK.out; omega
          case rel =>
            obtain ⟨x1, x2⟩ := HX.out
            refine ⟨y, mix s r1, [], n + m, by have := HK.out; omega, rfl, by have := HN.out; omega, ?_, mix_OK _ _, by have := HQ'.out; simp; omega, HT6'.clear HP.out (by omega)⟩
            have he := HE.out
            rw [eat_block _ _ (by rw [List.length_append]; omega), List.take_left' (by omega), List.drop_left' (by omega)] at he
            rw [x1]
            exact he
        · refine wpOp_step (o := { dst := some 39, op := .load 66 (.tmp 38), type := 66, pos := _, after := #[{ on := 7, ground := .data }], guard := none }) rfl ?_
          intro K hK
          refine step_load_mid rfl 66 (.tmp 38) rfl p 9 (by simp [Act.eval]) (byteCells r1) _ hrs Tryd.underlying66 rfl hi55 ?_
          refine hK _ _ ?_
          clear hK K
          simp only [Act.put, List.setIfInBounds_toArray, List.set_cons_zero, List.set_cons_succ]
          refine wpAny_ready (rs := [4]) (by kernel_rfl) (by simp) ?_
          intro i hi
          obtain rfl : i = 4 := by simpa using hi
          refine wpOp_step (o := { dst := some 35, op := .load 64 (.tmp 34), type := 64, pos := _, after := #[{ on := 3, ground := .data }], guard := none }) rfl ?_
          intro K hK
          refine step_load_mid rfl 64 (.tmp 34) rfl p 1 (by simp [Act.eval]) (u32L s.list) _ hwd Tryd.underlying64 rfl hi50 ?_
          refine hK _ _ ?_
          clear hK K
          simp only [Act.put, List.setIfInBounds_toArray, List.set_cons_zero, List.set_cons_succ]
          refine wpAny_ready (rs := [9]) (by kernel_rfl) (by simp) ?_
          intro i hi
          obtain rfl : i = 9 := by simpa using hi
          refine wpOp_step (o := { dst := some 40, op := .call { callee := .value (.func 45), args := #[.tmp 35, .tmp 39], argTypes := #[64, 66] }, type := 64, pos := _, after := #[{ on := 4, ground := .data }, { on := 8, ground := .data }], guard := none }) rfl ?_
          intro K hK
          go_simp
          refine hmx.mono ?_
          rintro e w5 ⟨rfl, hb5⟩
          refine hK _ _ ?_
          clear hK K
          have HT5 : Tk w p w5 s r1 (n + m) := HT3.mixed hb5
          have hth5 : w5.there p 1 8 := there_of_heap HT5.hb (by rw [List.size_toArray, hcells_length _ _ _ (by omega)]; decide)
          clear hb5
          refine wpAny_take (i := 10) (oi := { dst := some 41, op := .nilCheck (.tmp 31), type := 0, pos := _, after := #[{ on := 0, ground := .data }, { on := 0, ground := .phase }, { on := 1, ground := .phase }, { on := 2, ground := .phase }, { on := 3, ground := .phase }, { on := 4, ground := .phase }, { on := 5, ground := .phase }, { on := 6, ground := .phase }, { on := 7, ground := .phase }, { on := 8, ground := .phase }, { on := 9, ground := .phase }], guard := none }) (v := .pointer (some ⟨p, 0, none⟩)) rfl (by kernel_rfl) (by kernel_rfl) (by kernel_rfl) (fun _ _ _ h => h) (Or.inl ⟨by rfl, by intro w; go_simp⟩) ?_
          simp only [Act.put, List.setIfInBounds_toArray, List.set_cons_zero, List.set_cons_succ]
          refine wpAny_take (i := 11) (oi := { dst := some 42, op := .fieldAddr 69 (.tmp 41) 1, type := 0, pos := _, after := #[{ on := 10, ground := .data }, { on := 0, ground := .phase }, { on := 1, ground := .phase }, { on := 2, ground := .phase }, { on := 3, ground := .phase }, { on := 4, ground := .phase }, { on := 5, ground := .phase }, { on := 6, ground := .phase }, { on := 7, ground := .phase }, { on := 8, ground := .phase }, { on := 9, ground := .phase }], guard := none }) (v := .pointer (some ⟨p, 1, none⟩)) rfl (by kernel_rfl) (by kernel_rfl) (by kernel_rfl) (fun _ _ _ h => h) (Or.inl ⟨by rfl, by intro w; go_simp⟩) ?_
          simp only [Act.put, List.setIfInBounds_toArray, List.set_cons_zero, List.set_cons_succ]
          refine wpAny_ready (rs := [12]) (by kernel_rfl) (by simp) ?_
          intro i hi
          obtain rfl : i = 12 := by simpa using hi
          refine wpOp_step (o := { dst := none, op := .store 64 (.tmp 42) (.tmp 40), type := 0, pos := _, after := #[{ on := 11, ground := .data }, { on := 9, ground := .data }, { on := 9, ground := .chain }, { on := 0, ground := .phase }, { on := 1, ground := .phase }, { on := 2, ground := .phase }, { on := 3, ground := .phase }, { on := 4, ground := .phase }, { on := 5, ground := .phase }, { on := 6, ground := .phase }, { on := 7, ground := .phase }, { on := 8, ground := .phase }, { on := 9, ground := .phase }], guard := none }) rfl ?_
          intro K hK
          refine step_store_mid rfl 64 (.tmp 42) (.tmp 40) rfl p 1 (u32s (mix s r1).list) (by simp [Act.eval]) (by simp [Act.eval]) hth5 size8 (all_oneCell_toArray (u32L_one _)) ?_
          refine hK _ _ ?_
          clear hK K
          simp only [Act.put]
          refine wpAny_done (by kernel_rfl) ?_ _
          refine with_world (R := fun W => Exit.then _ _ _ _ W) (Q := fun W => Tk w p W (mix s r1) r1 (n + m)) _ (HT5.words HP.out (mix s r1)) ?_
          clear HT5
          intro w6 HT6
          have HT6' : Tk w p w6 (mix s r1) r1 (n + m) := HT6
          have hth6 : w6.there p 9 64 := there_of_heap HT6'.hb (by rw [List.size_toArray, hcells_length _ _ _ (by omega)]; decide)
          go_wp2_with (refine wpList_store_mid rfl 66 (.tmp 46) (.tmp 44) rfl p 9 (bytesV (zeros 64)) rfl rfl hth6 sizeB (all_oneCell_toArray (byteCells_one _)) ?_)
          rw [put_none]
          go_roundg (gk - m)
          case measure => have := HK.out; omega
          case rel =>
            obtain ⟨x1, x2⟩ := HX.out
            refine ⟨y, mix s r1, [], n + m, by have := HK.out; omega, rfl, by have := HN.out; omega, ?_, mix_OK _ _, by have := HQ'.out; simp; omega, HT6'.clear HP.out (by omega)⟩
            have he := HE.out
            rw [eat_block _ _ (by rw [List.length_append]; omega), List.take_left' (by omega), List.drop_left' (by omega)] at he
            rw [x1]
            exact he
      · have hfz := filled_any c73' (by omega)
        obtain ⟨z, hz1, hz2⟩ : ∃ z, (n + m) % 64 = z ∧ 0 < z := ⟨_, rfl, by have := HQ'.out; omega⟩
        rw [hz1] at hfz
        have hzb : ((z : Int) == 0) = false := by simp; omega
        have HZ : Hid (r1.length = (n + m) % 64) := by show r1.length = (n + m) % 64; have := HQ'.out; omega
        clear hz1
        go_wp2_with (go_at_call 44; refine hfz.mono ?_; rintro e w' ⟨rfl, rfl⟩)
        go_roundg (gk - m)
        case measure => have := HK.out; omega
        case rel =>
          obtain ⟨x1, x2⟩ := HX.out
          refine ⟨y, s, r1, n + m, by have := HK.out; omega, rfl, by have := HN.out; omega, ?_, hs, HZ.out, HT2⟩
          rw [x1]
          exact HE.out
    · have h0 : x.size = 0 := by omega
      have hpos' : ¬ (0 : Int) < (x.size : Int) := by omega
      have hx0 : x.data.toList = [] := List.eq_nil_of_length_eq_zero (by rw [← size_eq]; exact h0)
      have HF : Hid (Hs wr p (eat s0 (r0 ++ data.data.toList)).1 (eat s0 (r0 ++ data.data.toList)).2 (n0 + data.size) ∧ Only [p] w wr ∧ Tabs wr) := by
        have he := HQ.out
        rw [hx0, List.append_nil, eat_short s r (by have := HR.out; omega)] at he
        have hn := HN.out
        rw [← he, show n0 + data.size = n by omega]
        exact ⟨⟨HT.hb, hs, HR.out, by omega, HP.out⟩, HT.only, HT.tabs⟩
      clear HT hx0 h0
      go_wp2
      go_end0
      exact ⟨rfl, HF.out⟩

end Go.Proofs.YtjjabkimmgcejaaDoor
