import Derived.Test.YtengclnahppmhaaGreatDoorShM1
import Derived.Test.YtengclnahppmhaaGreatDoorBaseM
namespace Go.Proofs.YtengclnahppmhaaGreatDoor
open Go.RowKit Go.Lib Go.Deep

theorem size5 : (Tryz.prog.info? 5).map (·.size) = some 1 := by kernel_rfl

theorem byteCells_zeros (a b : List UInt8) : byteCells (a ++ b) = byteCells a ++ byteCells b := by simp [byteCells]

theorem copy_cells (s : W8) (r x : List UInt8) (n : Nat) (h : r.length + x.length ≤ 64) :
    (hcells s r n).take (9 + r.length) ++ byteCells x ++ (hcells s r n).drop (9 + r.length + x.length) = hcells s (r ++ x) n := by
  have e : hcells s r n = ([Value.bool true] ++ u32L s.list ++ byteCells r) ++ (byteCells (zeros x.length) ++ (byteCells (zeros (64 - (r ++ x).length)) ++ [Value.int .u64 (n : Int)])) := by
    have : zeros (64 - r.length) = zeros x.length ++ zeros (64 - (r ++ x).length) := by
      unfold zeros
      rw [← List.replicate_append_replicate.symm]
      simp
      omega
    simp only [hcells, this, byteCells_zeros, List.append_assoc]
  have l1 : ([Value.bool true] ++ u32L s.list ++ byteCells r).length = 9 + r.length := by simp [u32L, W8.list, byteCells]; omega
  have l2 : (byteCells (zeros x.length)).length = x.length := by simp [byteCells, zeros]
  rw [e, ← l1, List.take_left, List.drop_append]
  rw [List.drop_eq_nil_of_le (by omega), show ([Value.bool true] ++ u32L s.list ++ byteCells r).length + x.length - ([Value.bool true] ++ u32L s.list ++ byteCells r).length = (byteCells (zeros x.length)).length by omega, List.nil_append, List.drop_left]
  simp only [hcells, byteCells_zeros, List.append_assoc]

theorem count_cells (s : W8) (r : List UInt8) (n m : Nat) (h : r.length ≤ 64) : (hcells s r n).toArray.setIfInBounds 73 (.int .u64 (m : Int)) = (hcells s r m).toArray := by
  have hl : ([Value.bool true] ++ u32L s.list ++ byteCells (r ++ zeros (64 - r.length))).length = 73 := by
    simp [u32L, W8.list, byteCells, zeros]
    omega
  rw [List.setIfInBounds_toArray, hcells, List.set_append_right _ _ (by omega), hl]
  rfl

theorem words_cells (s s' : W8) (r : List UInt8) (n : Nat) : setMany (hcells s r n).toArray 1 (u32L s'.list) = (hcells s' r n).toArray := by
  have := setMany_part [Value.bool true] (u32L s.list) (byteCells (r ++ zeros (64 - r.length)) ++ [Value.int .u64 (n : Int)]) (u32L s'.list) rfl
  simp only [hcells, List.append_assoc] at this ⊢
  exact this

theorem clear_cells (s : W8) (r : List UInt8) (n : Nat) (h : r.length ≤ 64) : setMany (hcells s r n).toArray 9 (byteCells (zeros 64)) = (hcells s [] n).toArray := by
  have hl : (byteCells (r ++ zeros (64 - r.length))).length = (byteCells (zeros 64)).length := by simp [byteCells, zeros]; omega
  have := setMany_part ([Value.bool true] ++ u32L s.list) (byteCells (r ++ zeros (64 - r.length))) [Value.int .u64 (n : Int)] (byteCells (zeros 64)) hl
  simp only [hcells] at this ⊢
  exact this

/-- a running sum's block, whatever its bytes fill -/
def HB (w : World) (p : Nat) (s : W8) (r : List UInt8) (n : Nat) : Prop := w.heap[p]? = some (.cells (hcells s r n).toArray 148 (0, 0))

structure Tk (w0 : World) (p : Nat) (w : World) (s : W8) (r : List UInt8) (n : Nat) : Prop where
  hb : HB w p s r n
  only : Only [p] w0 w
  tabs : Tabs w

theorem Tk.mixed {w0 : World} {p : Nat} {w w5 : World} {s : W8} {r : List UInt8} {n : Nat} (h : Tk w0 p w s r n) (hb : Below w.heap.size w w5) : Tk w0 p w5 s r n := by
  refine ⟨(hb.block p (heap_lt h.hb)).trans h.hb, h.only.trans ⟨hb.os, hb.tape, hb.output, hb.size, fun k hk _ => hb.block k hk⟩, h.tabs.below hb h.tabs.size⟩
theorem Tk.words {w0 : World} {p : Nat} {w : World} {s : W8} {r : List UInt8} {n : Nat} (h : Tk w0 p w s r n) (hp : 8 ≤ p) (s' : W8) : Tk w0 p (w.setCells p 1 (u32s s'.list).toList) s' r n := by
  refine ⟨?_, h.only.setCells (by simp) _ _, h.tabs.kept fun k hk => heap_setCells_other _ _ (by omega) _ _ _⟩
  have e := heap_setCells p 148 (u32L s'.list) 1 _ _ h.hb
  rw [words_cells] at e
  exact e
theorem Tk.clear {w0 : World} {p : Nat} {w : World} {s : W8} {r : List UInt8} {n : Nat} (h : Tk w0 p w s r n) (hp : 8 ≤ p) (hr : r.length ≤ 64) : Tk w0 p (w.setCells p 9 (byteCells (zeros 64))) s [] n := by
  refine ⟨?_, h.only.setCells (by simp) _ _, h.tabs.kept fun k hk => heap_setCells_other _ _ (by omega) _ _ _⟩
  have e := heap_setCells p 148 (byteCells (zeros 64)) 9 _ _ h.hb
  rw [clear_cells s r n hr] at e
  exact e

set_option maxRecDepth 20000 in
set_option maxHeartbeats 4000000 in
theorem take_any (p : Nat) (s0 : W8) (r0 : List UInt8) (n0 : Nat) (data : ByteArray) (w : World) (hh : Hs w p s0 r0 n0) (ht : Tabs w) (hbig : n0 + data.size < 9223372036854775808) :
    Calls Tryz.prog 86 #[.pointer (some ⟨p, 0, none⟩), .string data] w fun e w' => e = .returned (.tuple #[]) ∧
      Hs w' p (eat s0 (r0 ++ data.data.toList)).1 (eat s0 (r0 ++ data.data.toList)).2 (n0 + data.size) ∧ Only [p] w w' ∧ Tabs w' := by
  go_enter Tryz.func86, Tryz.ntmps86
  go_wp2
  go_loopg [1] data.size (fun gk d wr => ∃ (x : ByteArray) (s : W8) (r : List UInt8) (n : Nat), x.size ≤ gk ∧ d = .string x ∧ n + x.size = n0 + data.size ∧ eat s (r ++ x.data.toList) = eat s0 (r0 ++ data.data.toList) ∧ s.OK ∧ r.length = n % 64 ∧ Tk w p wr s r n)
  case atStart => exact ⟨data, s0, r0, n0, Nat.le_refl _, rfl, rfl, rfl, hh.ok, hh.len, hh.heap, Only.refl _ _, ht⟩
  case round =>
    obtain ⟨x, s, r, n, hx, rfl, hn, heq, hs, hr, HT⟩ := hrel
    have HK : Hid (x.size ≤ gk) := hx
    have HQ : Hid (eat s (r ++ x.data.toList) = eat s0 (r0 ++ data.data.toList)) := heq
    have HR : Hid (r.length = n % 64) := hr
    have HP : Hid (8 ≤ p) := hh.own
    have HN : Hid (n + x.size = n0 + data.size) := hn
    have hnb : n + x.size < 9223372036854775808 := by omega
    clear hx heq hn hr
    by_cases hpos : 0 < x.size
    · have hpos' : (0 : Int) < (x.size : Int) := by omega
      have hr64 : r.length ≤ 64 := by have := HR.out; omega
      have c73 : wr.cell? ⟨p, 73, none⟩ = some (.int .u64 (n : Int)) := by
        have h := HT.hb
        unfold HB at h
        rw [cell_of_heap h, List.getElem?_toArray]
        exact hcells_count s r n hr64
      have hg : wr.drew.heap[p]? = some (.cells (hcells s r n).toArray 148 (0, 0)) := HT.hb
      obtain ⟨q, hq⟩ : ∃ q, n % 64 = q := ⟨_, rfl⟩
      have hq64 : q < 64 := by omega
      have hnl : n < 9223372036854775808 := by omega
      have hfl : ∀ W : World, W.cell? ⟨p, 73, none⟩ = some (.int .u64 (n : Int)) → Calls Tryz.prog 104 #[.pointer (some ⟨p, 0, none⟩)] W fun e w' => e = .returned (.int .i64 (q : Int)) ∧ W = w' := fun W h => by
        have := filled_any h hnl
        rwa [hq] at this
      have HQ' : Hid (n % 64 = q) := hq
      clear hq
      have q0 : (0 : Int) ≤ (q : Int) := by omega
      have q1 : (q : Int) ≤ 64 := by omega
      obtain ⟨m, hm⟩ : ∃ m, Nat.min x.size (64 - q) = m := ⟨_, rfl⟩
      have hm1 : m ≤ x.size := by rw [← hm]; exact Nat.min_le_left _ _
      have hm2 : q + m ≤ 64 := by have : m ≤ 64 - q := by rw [← hm]; exact Nat.min_le_right _ _
                                  omega
      have hm3 : 0 < m := by rw [← hm]; exact Nat.lt_min.2 ⟨hpos, by omega⟩
      have HM : Hid (m = x.size ∨ q + m = 64) := by
        show m = x.size ∨ q + m = 64
        rcases Nat.le_total x.size (64 - q) with h | h
        · left; rw [← hm]; exact Nat.min_eq_left h
        · right; have : m = 64 - q := by rw [← hm]; exact Nat.min_eq_right h
          omega
      have hrq : r.length = q := by have := HR.out; have := HQ'.out; omega
      have hxm : (x.data.toList.take m).length = m := by simp; omega
      have hcs : (hcells s r n).toArray.toList.take (9 + q) ++ byteCells (x.data.toList.take m) ++ (hcells s r n).toArray.toList.drop (9 + q + m) = hcells s (r ++ x.data.toList.take m) n := by
        have := copy_cells s r (x.data.toList.take m) n (by omega)
        rw [hxm, hrq] at this
        exact this
      have hfit : 9 + q + m ≤ (hcells s r n).toArray.size := by rw [List.size_toArray, hcells_length _ _ _ hr64]; omega
      have hgw : (wr.drew.setRow p (hcells s (r ++ x.data.toList.take m) n).toArray).heap[p]? = some (.cells (hcells s (r ++ x.data.toList.take m) n).toArray 148 (0, 0)) := setRow_heap _ _ _ _ _ _ hg
      have KS : (wr.drew.setRow p (hcells s (r ++ x.data.toList.take m) n).toArray).cell? ⟨p, 73, none⟩ = some (.int .u64 (n : Int)) := by
        rw [cell_of_heap hgw, List.getElem?_toArray]
        exact hcells_count s _ n (by rw [List.length_append]; omega)
      have HTK : Tk w p (wr.drew.setRow p (hcells s (r ++ x.data.toList.take m) n).toArray) s (r ++ x.data.toList.take m) n :=
        ⟨hgw, (Only.drew HT.only).setRow (by simp) _, HT.tabs.kept fun k hk => setRow_other _ _ _ _ (by have := HP.out; omega)⟩
      have h64q : ¬ 64 = q := by omega
      go_wp2_with fail
      go_region_held3 (fun w' => w'.cell? ⟨p, 73, none⟩ = some (.int .u64 (n : Int))) (first | assumption | go_keep) (first | (go_at_call 104; refine (hfl _ (by assumption)).mono ?_; rintro e w' ⟨rfl, rfl⟩) | (refine step_copy_string rfl (.tmp 13) (.tmp 14) 96 9 rfl 5 Tryz.underlying96 size5 p (9 + q) (64 - q) (64 - q) m x (by simp [Act.eval]) (by simp [Act.eval]) (hcells s r n).toArray 148 hg hm hfit _ hcs ?_))
      refine with_world (R := fun W => Exit.then _ _ _ _ W) (Q := fun W => Tk w p W s (r ++ x.data.toList.take m) n) _ HTK ?_
      clear hcs hfit hgw KS HTK HT hg c73 hfl
      intro w1 HT0
      have HT : Tk w p w1 s (r ++ x.data.toList.take m) n := HT0
      clear HT0
      have HE : Hid (eat s ((r ++ x.data.toList.take m) ++ x.data.toList.drop m) = eat s0 (r0 ++ data.data.toList)) := by
        have := HQ.out
        rwa [← List.take_append_drop m x.data.toList, ← List.append_assoc] at this
      have HX : Hid ((x.extract m x.size).data.toList = x.data.toList.drop m ∧ (x.extract m x.size).size = x.size - m) := by
        refine ⟨?_, by simp⟩
        rw [extract_data, List.take_of_length_le (by simp)]
      have hl1 : (r ++ x.data.toList.take m).length = q + m := by rw [List.length_append]; omega
      clear HQ hxm
      obtain ⟨r1, hr1⟩ : ∃ r1, r ++ x.data.toList.take m = r1 := ⟨_, rfl⟩
      rw [hr1] at HT HE hl1
      obtain ⟨y, hy⟩ : ∃ y, x.extract m x.size = y := ⟨_, rfl⟩
      have hsl : ∀ W : World, (Instr.slice 9 (.string x) (some (.int .i64 (m : Int))) none none).run Tryz.prog W = .ok (.string y) W := fun W => by
        rw [← hy]
        exact run_slice_string_l (P := Tryz.prog) W 9 x Tryz.underlying9 .i64 (m : Int) (by omega) (by omega)
      rw [hy] at HX
      clear hr1 hrq hy
      have c73 : w1.cell? ⟨p, 73, none⟩ = some (.int .u64 (n : Int)) := by
        have h := HT.hb
        unfold HB at h
        rw [cell_of_heap h, List.getElem?_toArray]
        exact hcells_count s r1 n (by omega)
      have f73 : w1.frozen? ⟨p, 73, none⟩ = false := frozen_of_heap HT.hb
      have HT2 : Tk w p (w1.setCell ⟨p, 73, none⟩ (.int .u64 ((n : Int) + (m : Int)))) s r1 (n + m) := by
        refine ⟨?_, HT.only.setCell (by simp) _, HT.tabs.kept fun k hk => Below.heap_setCell _ _ _ _ (by have := HP.out; simp; omega)⟩
        have h := heap_setCell_same _ _ 73 _ _ (.int .u64 ((n + m : Nat) : Int)) HT.hb
        rw [count_cells s r1 n (n + m) (by omega)] at h
        exact h
      have c73' : (w1.setCell ⟨p, 73, none⟩ (.int .u64 ((n : Int) + (m : Int)))).cell? ⟨p, 73, none⟩ = some (.int .u64 ((n + m : Nat) : Int)) := by
        have h := HT2.hb
        unfold HB at h
        rw [cell_of_heap h, List.getElem?_toArray]
        exact hcells_count s r1 (n + m) (by omega)
      have hcvm : (m : Int) % 18446744073709551616 = (m : Int) := by omega
      by_cases hz : q + m = 64
      · have hfz := filled_any c73' (by omega)
        rw [show (n + m) % 64 = 0 by have := HQ'.out; omega] at hfz
        go_wp2_with (go_at_call 104; refine hfz.mono ?_; rintro e w' ⟨rfl, rfl⟩)
        have hwd : (w1.setCell ⟨p, 73, none⟩ (.int .u64 ((n : Int) + (m : Int)))).drew.rangeAt p 1 (u32L s.list) :=
          range_of_heap (pre := [Value.bool true]) (post := byteCells (r1 ++ zeros (64 - r1.length)) ++ [Value.int .u64 ((n + m : Nat) : Int)]) HT2.hb (by simp [hcells])
        have hrs : (w1.setCell ⟨p, 73, none⟩ (.int .u64 ((n : Int) + (m : Int)))).drew.rangeAt p 9 (byteCells r1) := by
          have h := range_of_heap (pre := [Value.bool true] ++ u32L s.list) (mid := byteCells (r1 ++ zeros (64 - r1.length))) (post := [Value.int .u64 ((n + m : Nat) : Int)]) HT2.hb (by simp [hcells])
          rw [show 64 - r1.length = 0 by omega, show zeros 0 = [] from rfl, List.append_nil] at h
          exact h
        have hi50 : (Tryz.prog.info? 143).map (·.size) = some (u32L s.list).length := size8
        have hi55 : (Tryz.prog.info? 145).map (·.size) = some (byteCells r1).length := by rw [byteCells_length, hl1, hz]; exact sizeB
        have HT3 : Tk w p (w1.setCell ⟨p, 73, none⟩ (.int .u64 ((n : Int) + (m : Int)))).drew s r1 (n + m) := ⟨HT2.hb, HT2.only.drew, ⟨HT2.tabs.fw, HT2.tabs.sw⟩⟩
        obtain ⟨W3, hW3⟩ : ∃ W3, (w1.setCell ⟨p, 73, none⟩ (.int .u64 ((n : Int) + (m : Int)))).drew = W3 := ⟨_, rfl⟩
        rw [hW3] at hwd hrs HT3
        refine wp_region_any (by kernel_rfl) ?_
        change wpAny _ _ _ _ _ _ _ (World.drew _)
        rw [hW3]
        clear hW3 HT2 c73 c73' f73 HT hfz
        have hmx := mixed_any s hs r1 (by omega) W3 HT3.tabs
        refine wpAny_take (i := 0) (oi := { dst := some 31, op := .move (.tmp 0), type := 118, pos := _, after := #[], guard := none }) (v := .pointer (some ⟨p, 0, none⟩)) rfl (by kernel_rfl) (by kernel_rfl) (by kernel_rfl) (fun _ _ _ h => h) (Or.inl ⟨by rfl, by intro w; go_simp⟩) ?_
        simp only [Act.put, List.setIfInBounds_toArray, List.set_cons_zero, List.set_cons_succ]
        refine wpAny_take (i := 1) (oi := { dst := some 32, op := .move (.tmp 0), type := 118, pos := _, after := #[], guard := none }) (v := .pointer (some ⟨p, 0, none⟩)) rfl (by kernel_rfl) (by kernel_rfl) (by kernel_rfl) (fun _ _ _ h => h) (Or.inl ⟨by rfl, by intro w; go_simp⟩) ?_
        simp only [Act.put, List.setIfInBounds_toArray, List.set_cons_zero, List.set_cons_succ]
        refine wpAny_take (i := 2) (oi := { dst := some 33, op := .nilCheck (.tmp 32), type := 0, pos := _, after := #[{ on := 1, ground := .data }], guard := none }) (v := .pointer (some ⟨p, 0, none⟩)) rfl (by kernel_rfl) (by kernel_rfl) (by kernel_rfl) (fun _ _ _ h => h) (Or.inl ⟨by rfl, by intro w; go_simp⟩) ?_
        simp only [Act.put, List.setIfInBounds_toArray, List.set_cons_zero, List.set_cons_succ]
        refine wpAny_take (i := 3) (oi := { dst := some 34, op := .fieldAddr 148 (.tmp 33) 1, type := 0, pos := _, after := #[{ on := 2, ground := .data }], guard := none }) (v := .pointer (some ⟨p, 1, none⟩)) rfl (by kernel_rfl) (by kernel_rfl) (by kernel_rfl) (fun _ _ _ h => h) (Or.inl ⟨by rfl, by intro w; go_simp⟩) ?_
        simp only [Act.put, List.setIfInBounds_toArray, List.set_cons_zero, List.set_cons_succ]
        refine wpAny_take (i := 5) (oi := { dst := some 36, op := .move (.tmp 0), type := 118, pos := _, after := #[], guard := none }) (v := .pointer (some ⟨p, 0, none⟩)) rfl (by kernel_rfl) (by kernel_rfl) (by kernel_rfl) (fun _ _ _ h => h) (Or.inl ⟨by rfl, by intro w; go_simp⟩) ?_
        simp only [Act.put, List.setIfInBounds_toArray, List.set_cons_zero, List.set_cons_succ]
        refine wpAny_take (i := 6) (oi := { dst := some 37, op := .nilCheck (.tmp 36), type := 0, pos := _, after := #[{ on := 5, ground := .data }], guard := none }) (v := .pointer (some ⟨p, 0, none⟩)) rfl (by kernel_rfl) (by kernel_rfl) (by kernel_rfl) (fun _ _ _ h => h) (Or.inl ⟨by rfl, by intro w; go_simp⟩) ?_
        simp only [Act.put, List.setIfInBounds_toArray, List.set_cons_zero, List.set_cons_succ]
        refine wpAny_take (i := 7) (oi := { dst := some 38, op := .fieldAddr 148 (.tmp 37) 2, type := 0, pos := _, after := #[{ on := 6, ground := .data }], guard := none }) (v := .pointer (some ⟨p, 9, none⟩)) rfl (by kernel_rfl) (by kernel_rfl) (by kernel_rfl) (fun _ _ _ h => h) (Or.inl ⟨by rfl, by intro w; go_simp⟩) ?_
        simp only [Act.put, List.setIfInBounds_toArray, List.set_cons_zero, List.set_cons_succ]
        refine wpAny_ready (rs := [4, 8]) (by kernel_rfl) (by simp) ?_
        intro i hi
        rcases (show i = 4 ∨ i = 8 by simpa using hi) with rfl | rfl
        · refine wpOp_step (o := { dst := some 35, op := .load 143 (.tmp 34), type := 143, pos := _, after := #[{ on := 3, ground := .data }], guard := none }) rfl ?_
          intro K hK
          refine step_load_mid rfl 143 (.tmp 34) rfl p 1 (by simp [Act.eval]) (u32L s.list) _ hwd Tryz.underlying143 rfl hi50 ?_
          refine hK _ _ ?_
          clear hK K
          simp only [Act.put, List.setIfInBounds_toArray, List.set_cons_zero, List.set_cons_succ]
          refine wpAny_ready (rs := [8]) (by kernel_rfl) (by simp) ?_
          intro i hi
          obtain rfl : i = 8 := by simpa using hi
          refine wpOp_step (o := { dst := some 39, op := .load 145 (.tmp 38), type := 145, pos := _, after := #[{ on := 7, ground := .data }], guard := none }) rfl ?_
          intro K hK
          refine step_load_mid rfl 145 (.tmp 38) rfl p 9 (by simp [Act.eval]) (byteCells r1) _ hrs Tryz.underlying145 rfl hi55 ?_
          refine hK _ _ ?_
          clear hK K
          simp only [Act.put, List.setIfInBounds_toArray, List.set_cons_zero, List.set_cons_succ]
          refine wpAny_ready (rs := [9]) (by kernel_rfl) (by simp) ?_
          intro i hi
          obtain rfl : i = 9 := by simpa using hi
          refine wpOp_step (o := { dst := some 40, op := .call { callee := .value (.func 105), args := #[.tmp 35, .tmp 39], argTypes := #[143, 145] }, type := 143, pos := _, after := #[{ on := 4, ground := .data }, { on := 8, ground := .data }], guard := none }) rfl ?_
          intro K hK
          go_simp
          refine hmx.mono ?_
          rintro e w5 ⟨rfl, hb5⟩
          refine hK _ _ ?_
          clear hK K
          have HT5 : Tk w p w5 s r1 (n + m) := HT3.mixed hb5
          have hth5 : w5.there p 1 8 := there_of_heap HT5.hb (by rw [List.size_toArray, hcells_length _ _ _ (by omega)]; decide)
          clear hb5
          refine wpAny_take (i := 10) (oi := { dst := some 41, op := .nilCheck (.tmp 31), type := 0, pos := _, after := #[{ on := 0, ground := .data }, { on := 0, ground := .phase }, { on := 1, ground := .phase }, { on := 2, ground := .phase }, { on := 3, ground := .phase }, { on := 4, ground := .phase }, { on := 5, ground := .phase }, { on := 6, ground := .phase }, { on := 7, ground := .phase }, { on := 8, ground := .phase }, { on := 9, ground := .phase }], guard := none }) (v := .pointer (some ⟨p, 0, none⟩)) rfl (by kernel_rfl) (by kernel_rfl) (by kernel_rfl) (fun _ _ _ h => h) (Or.inl ⟨by rfl, by intro w; go_simp⟩) ?_
          simp only [Act.put, List.setIfInBounds_toArray, List.set_cons_zero, List.set_cons_succ]
          refine wpAny_take (i := 11) (oi := { dst := some 42, op := .fieldAddr 148 (.tmp 41) 1, type := 0, pos := _, after := #[{ on := 10, ground := .data }, { on := 0, ground := .phase }, { on := 1, ground := .phase }, { on := 2, ground := .phase }, { on := 3, ground := .phase }, { on := 4, ground := .phase }, { on := 5, ground := .phase }, { on := 6, ground := .phase }, { on := 7, ground := .phase }, { on := 8, ground := .phase }, { on := 9, ground := .phase }], guard := none }) (v := .pointer (some ⟨p, 1, none⟩)) rfl (by kernel_rfl) (by kernel_rfl) (by kernel_rfl) (fun _ _ _ h => h) (Or.inl ⟨by rfl, by intro w; go_simp⟩) ?_
          simp only [Act.put, List.setIfInBounds_toArray, List.set_cons_zero, List.set_cons_succ]
          refine wpAny_ready (rs := [12]) (by kernel_rfl) (by simp) ?_
          intro i hi
          obtain rfl : i = 12 := by simpa using hi
          refine wpOp_step (o := { dst := none, op := .store 143 (.tmp 42) (.tmp 40), type := 0, pos := _, after := #[{ on := 11, ground := .data }, { on := 9, ground := .data }, { on := 9, ground := .chain }, { on := 0, ground := .phase }, { on := 1, ground := .phase }, { on := 2, ground := .phase }, { on := 3, ground := .phase }, { on := 4, ground := .phase }, { on := 5, ground := .phase }, { on := 6, ground := .phase }, { on := 7, ground := .phase }, { on := 8, ground := .phase }, { on := 9, ground := .phase }], guard := none }) rfl ?_
          intro K hK
          refine step_store_mid rfl 143 (.tmp 42) (.tmp 40) rfl p 1 (u32s (mix s r1).list) (by simp [Act.eval]) (by simp [Act.eval]) hth5 size8 (all_oneCell_toArray (u32L_one _)) ?_
          refine hK _ _ ?_
          clear hK K
          simp only [Act.put]
          refine wpAny_done (by kernel_rfl) ?_ _
          refine with_world (R := fun W => Exit.then _ _ _ _ W) (Q := fun W => Tk w p W (mix s r1) r1 (n + m)) _ (HT5.words HP.out (mix s r1)) ?_
          clear HT5
          intro w6 HT6
          have HT6' : Tk w p w6 (mix s r1) r1 (n + m) := HT6
          have hth6 : w6.there p 9 64 := there_of_heap HT6'.hb (by rw [List.size_toArray, hcells_length _ _ _ (by omega)]; decide)
          go_wp2_with (refine wpList_store_mid rfl 145 (.tmp 46) (.tmp 44) rfl p 9 (bytesV (zeros 64)) rfl rfl hth6 sizeB (all_oneCell_toArray (byteCells_one _)) ?_)
          rw [put_none]
          go_roundg (gk - m)
          case measure => have := HK.out; omega
          case rel =>
            obtain ⟨x1, x2⟩ := HX.out
            refine ⟨y, mix s r1, [], n + m, by have := HK.out; omega, rfl, by have := HN.out; omega, ?_, mix_OK _ _, by have := HQ'.out; simp; omega, HT6'.clear HP.out (by omega)⟩
            have he := HE.out
            rw [eat_block _ _ (by rw [List.length_append]; omega), List.take_left' (by omega), List.drop_left' (by omega)] at he
            rw [x1]
            exact he
        · refine wpOp_step (o := { dst := some 39, op := .load 145 (.tmp 38), type := 145, pos := _, after := #[{ on := 7, ground := .data }], guard := none }) rfl ?_
          intro K hK
          refine step_load_mid rfl 145 (.tmp 38) rfl p 9 (by simp [Act.eval]) (byteCells r1) _ hrs Tryz.underlying145 rfl hi55 ?_
          refine hK _ _ ?_
          clear hK K
          simp only [Act.put, List.setIfInBounds_toArray, List.set_cons_zero, List.set_cons_succ]
          refine wpAny_ready (rs := [4]) (by kernel_rfl) (by simp) ?_
          intro i hi
          obtain rfl : i = 4 := by simpa using hi
          refine wpOp_step (o := { dst := some 35, op := .load 143 (.tmp 34), type := 143, pos := _, after := #[{ on := 3, ground := .data }], guard := none }) rfl ?_
          intro K hK
          refine step_load_mid rfl 143 (.tmp 34) rfl p 1 (by simp [Act.eval]) (u32L s.list) _ hwd Tryz.underlying143 rfl hi50 ?_
          refine hK _ _ ?_
          clear hK K
          simp only [Act.put, List.setIfInBounds_toArray, List.set_cons_zero, List.set_cons_succ]
          refine wpAny_ready (rs := [9]) (by kernel_rfl) (by simp) ?_
          intro i hi
          obtain rfl : i = 9 := by simpa using hi
          refine wpOp_step (o := { dst := some 40, op := .call { callee := .value (.func 105), args := #[.tmp 35, .tmp 39], argTypes := #[143, 145] }, type := 143, pos := _, after := #[{ on := 4, ground := .data }, { on := 8, ground := .data }], guard := none }) rfl ?_
          intro K hK
          go_simp
          refine hmx.mono ?_
          rintro e w5 ⟨rfl, hb5⟩
          refine hK _ _ ?_
          clear hK K
          have HT5 : Tk w p w5 s r1 (n + m) := HT3.mixed hb5
          have hth5 : w5.there p 1 8 := there_of_heap HT5.hb (by rw [List.size_toArray, hcells_length _ _ _ (by omega)]; decide)
          clear hb5
          refine wpAny_take (i := 10) (oi := { dst := some 41, op := .nilCheck (.tmp 31), type := 0, pos := _, after := #[{ on := 0, ground := .data }, { on := 0, ground := .phase }, { on := 1, ground := .phase }, { on := 2, ground := .phase }, { on := 3, ground := .phase }, { on := 4, ground := .phase }, { on := 5, ground := .phase }, { on := 6, ground := .phase }, { on := 7, ground := .phase }, { on := 8, ground := .phase }, { on := 9, ground := .phase }], guard := none }) (v := .pointer (some ⟨p, 0, none⟩)) rfl (by kernel_rfl) (by kernel_rfl) (by kernel_rfl) (fun _ _ _ h => h) (Or.inl ⟨by rfl, by intro w; go_simp⟩) ?_
          simp only [Act.put, List.setIfInBounds_toArray, List.set_cons_zero, List.set_cons_succ]
          refine wpAny_take (i := 11) (oi := { dst := some 42, op := .fieldAddr 148 (.tmp 41) 1, type := 0, pos := _, after := #[{ on := 10, ground := .data }, { on := 0, ground := .phase }, { on := 1, ground := .phase }, { on := 2, ground := .phase }, { on := 3, ground := .phase }, { on := 4, ground := .phase }, { on := 5, ground := .phase }, { on := 6, ground := .phase }, { on := 7, ground := .phase }, { on := 8, ground := .phase }, { on := 9, ground := .phase }], guard := none }) (v := .pointer (some ⟨p, 1, none⟩)) rfl (by kernel_rfl) (by kernel_rfl) (by kernel_rfl) (fun _ _ _ h => h) (Or.inl ⟨by rfl, by intro w; go_simp⟩) ?_
          simp only [Act.put, List.setIfInBounds_toArray, List.set_cons_zero, List.set_cons_succ]
          refine wpAny_ready (rs := [12]) (by kernel_rfl) (by simp) ?_
          intro i hi
          obtain rfl : i = 12 := by simpa using hi
          refine wpOp_step (o := { dst := none, op := .store 143 (.tmp 42) (.tmp 40), type := 0, pos := _, after := #[{ on := 11, ground := .data }, { on := 9, ground := .data }, { on := 9, ground := .chain }, { on := 0, ground := .phase }, { on := 1, ground := .phase }, { on := 2, ground := .phase }, { on := 3, ground := .phase }, { on := 4, ground := .phase }, { on := 5, ground := .phase }, { on := 6, ground := .phase }, { on := 7, ground := .phase }, { on := 8, ground := .phase }, { on := 9, ground := .phase }], guard := none }) rfl ?_
          intro K hK
          refine step_store_mid rfl 143 (.tmp 42) (.tmp 40) rfl p 1 (u32s (mix s r1).list) (by simp [Act.eval]) (by simp [Act.eval]) hth5 size8 (all_oneCell_toArray (u32L_one _)) ?_
          refine hK _ _ ?_
          clear hK K
          simp only [Act.put]
          refine wpAny_done (by kernel_rfl) ?_ _
          refine with_world (R := fun W => Exit.then _ _ _ _ W) (Q := fun W => Tk w p W (mix s r1) r1 (n + m)) _ (HT5.words HP.out (mix s r1)) ?_
          clear HT5
          intro w6 HT6
          have HT6' : Tk w p w6 (mix s r1) r1 (n + m) := HT6
          have hth6 : w6.there p 9 64 := there_of_heap HT6'.hb (by rw [List.size_toArray, hcells_length _ _ _ (by omega)]; decide)
          go_wp2_with (refine wpList_store_mid rfl 145 (.tmp 46) (.tmp 44) rfl p 9 (bytesV (zeros 64)) rfl rfl hth6 sizeB (all_oneCell_toArray (byteCells_one _)) ?_)
          rw [put_none]
          go_roundg (gk - m)
          case measure => have := HK.out; omega
          case rel =>
            obtain ⟨x1, x2⟩ := HX.out
            refine ⟨y, mix s r1, [], n + m, by have := HK.out; omega, rfl, by have := HN.out; omega, ?_, mix_OK _ _, by have := HQ'.out; simp; omega, HT6'.clear HP.out (by omega)⟩
            have he := HE.out
            rw [eat_block _ _ (by rw [List.length_append]; omega), List.take_left' (by omega), List.drop_left' (by omega)] at he
            rw [x1]
            exact he
      · have hfz := filled_any c73' (by omega)
        obtain ⟨z, hz1, hz2⟩ : ∃ z, (n + m) % 64 = z ∧ 0 < z := ⟨_, rfl, by have := HQ'.out; omega⟩
        rw [hz1] at hfz
        have hzb : ((z : Int) == 0) = false := by simp; omega
        have HZ : Hid (r1.length = (n + m) % 64) := by show r1.length = (n + m) % 64; have := HQ'.out; omega
        clear hz1
        go_wp2_with (go_at_call 104; refine hfz.mono ?_; rintro e w' ⟨rfl, rfl⟩)
        go_roundg (gk - m)
        case measure => have := HK.out; omega
        case rel =>
          obtain ⟨x1, x2⟩ := HX.out
          refine ⟨y, s, r1, n + m, by have := HK.out; omega, rfl, by have := HN.out; omega, ?_, hs, HZ.out, HT2⟩
          rw [x1]
          exact HE.out
    · have h0 : x.size = 0 := by omega
      have hpos' : ¬ (0 : Int) < (x.size : Int) := by omega
      have hx0 : x.data.toList = [] := List.eq_nil_of_length_eq_zero (by rw [← size_eq]; exact h0)
      have HF : Hid (Hs wr p (eat s0 (r0 ++ data.data.toList)).1 (eat s0 (r0 ++ data.data.toList)).2 (n0 + data.size) ∧ Only [p] w wr ∧ Tabs wr) := by
        have he := HQ.out
        rw [hx0, List.append_nil, eat_short s r (by have := HR.out; omega)] at he
        have hn := HN.out
        rw [← he, show n0 + data.size = n by omega]
        exact ⟨⟨HT.hb, hs, HR.out, by omega, HP.out⟩, HT.only, HT.tabs⟩
      clear HT hx0 h0
      go_wp2
      go_end0
      exact ⟨rfl, HF.out⟩

end Go.Proofs.YtengclnahppmhaaGreatDoor

namespace Go.Proofs.YtengclnahppmhaaGreatDoor
open Go.RowKit Go.Lib Go.Deep

/-- a word as four bytes, the highest first -/
def be4 (x : Nat) : List UInt8 := [UInt8.ofNat (x / 16777216), UInt8.ofNat (x / 65536), UInt8.ofNat (x / 256), UInt8.ofNat x]
def be4s : List Nat → List UInt8
  | [] => []
  | x :: r => be4 x ++ be4s r
def wtext (s : W8) : List UInt8 := be4s s.list

theorem be4s_append (l r : List Nat) : be4s (l ++ r) = be4s l ++ be4s r := by
  induction l with
  | nil => rfl
  | cons x l ih => simp [be4s, ih]
theorem be4s_length (l : List Nat) : (be4s l).length = 4 * l.length := by
  induction l with
  | nil => rfl
  | cons x l ih => simp [be4s, be4, ih]; omega
theorem be4_cells (x : Nat) (h : x < 4294967296) : byteCells (be4 x) = [.int .u8 ((x : Int) / 16777216), .int .u8 ((x : Int) / 65536 % 256), .int .u8 ((x : Int) / 256 % 256), .int .u8 ((x : Int) % 256)] := by
  simp [byteCells, be4, UInt8.toNat_ofNat']
  omega

theorem four_cells (w : World) (a b c d : Value) : ∀ j u, [a, b, c, d][j]? = some u → (w.alloc (.cells #[a, b, c, d] 5)).cell? ((⟨w.heap.size, 0, none⟩ : Addr).add j) = some u := by
  intro j u h
  exact cells_new w #[a, b, c, d] 5 j u (by simpa using h)

theorem make32 (w : World) : (Instr.makeSlice 96 (.int .i64 0) (.int .i64 32)).run Tryz.prog w = .ok (.slice (some ⟨w.heap.size, 0, none⟩) 0 32) (w.alloc (.cells (madeCells #[.int .u8 0] 32) 5)) := by
  obtain ⟨i0, hi, hz0, hz1, hz2⟩ := info_parts info5
  have h := run_make (P := Tryz.prog) w 96 5 i0 (.int .u8 0) Tryz.underlying96 hi hz0 .i64 .i64 0 32 (by omega) (by omega) (by rw [hz2]; omega) (by omega)
  simpa [hz1, Value.cells] using h

theorem text_rel {w wr w' : World} {v v' : Value} {l : List Nat} {k x : Nat} (hx4 : x < 4294967296) (hx : l[k]? = some x) (hb : Below w.heap.size w wr) (ho : wr.ownsRow w.heap.size 5 1 v (be4s (l.take k)).length (byteCells (be4s (l.take k))))
    (ho' : w'.ownsRow w.heap.size 5 1 v' ((be4s (l.take k)).length + 4) (byteCells (be4s (l.take k)) ++ [.int .u8 ((x : Int) / 16777216), .int .u8 ((x : Int) / 65536 % 256), .int .u8 ((x : Int) / 256 % 256), .int .u8 ((x : Int) % 256)]))
    (cs : Array Value) (hg : (wr.alloc (.cells cs 5)).grownBy w' v.ownBlock) :
    w'.ownsRow w.heap.size 5 1 v' (be4s (l.take (k + 1))).length (byteCells (be4s (l.take (k + 1)))) ∧ Below w.heap.size w w' := by
  have e : be4s (l.take (k + 1)) = be4s (l.take k) ++ be4 x := by rw [List.take_add_one, hx, be4s_append]; simp [be4s]
  rw [e, byteCells_append, be4_cells x hx4]
  refine ⟨by simpa [be4] using ho', ?_⟩
  have h1 : Below w.heap.size w (wr.alloc (.cells cs 5)) := hb.alloc hb.size _
  exact h1.trans (grown_below hg h1.size (ho.alloc _))

set_option maxRecDepth 20000 in
set_option maxHeartbeats 1000000 in
theorem text_any (s : W8) (hs : s.OK) (w : World) :
    Calls Tryz.prog 108 #[.agg (u32s s.list)] w fun e w' => e = .returned (.string (str (wtext s))) ∧ Below w.heap.size w w' := by
  obtain ⟨i0, hi, hz0, hz1, hz2⟩ := info_parts info5
  have hl8 : ∀ x ∈ s.list, x < 4294967296 := by
    intro x hx
    simp only [W8.list, List.mem_cons, List.not_mem_nil, or_false] at hx
    obtain ⟨h1, h2, h3, h4, h5, h6, h7, h8⟩ := hs
    rcases hx with rfl | rfl | rfl | rfl | rfl | rfl | rfl | rfl <;> assumption
  have hlen8 : s.list.length = 8 := rfl
  have HW : Hid (wtext s = be4s s.list) := rfl
  revert hl8 hlen8 HW
  generalize s.list = l
  intro hl8 hlen8 HW
  have hmk := make32
  have hst : (Tryz.prog.info? 143).map (·.size) = some (u32s l).size := by rw [u32s_size, hlen8]; exact size8
  have hheap : ((w.alloc (.cells (u32s l) 143)).alloc (.cells (madeCells #[.int .u8 0] 32) 5)).heap[w.heap.size]? = some (.cells (u32s l) 143 (0, 0)) := by
    rw [Below.heap_alloc _ _ _ (by simp)]
    exact heap_new _ _
  go_enter Tryz.func108, Tryz.ntmps108
  go_wp2_with (refine wpList_load_row rfl 143 (.tmp 1) rfl w.heap.size rfl 143 _ (0, 0) _ hheap Tryz.underlying143 rfl hst ?_)
  have hown1 : ((w.alloc (.cells (u32s l) 143)).alloc (.cells (madeCells #[.int .u8 0] 32) 5)).ownsRow w.heap.size 5 1 (.slice (some ⟨w.heap.size + 1, 0, none⟩) 0 32) 0 [] :=
    ⟨rfl, .inr ⟨w.heap.size + 1, 32, madeCells #[.int .u8 0] 32, rfl, by omega, by have h := heap_new (w.alloc (.cells (u32s l) 143)) (.cells (madeCells #[.int .u8 0] 32) 5); simpa using h, by omega, by unfold maxLen; omega, by simp [size_madeCells], rfl⟩⟩
  have hb1 : Below w.heap.size w ((w.alloc (.cells (u32s l) 143)).alloc (.cells (madeCells #[.int .u8 0] 32) 5)) := ((Below.refl _ _).alloc (Nat.le_refl _) _).alloc (by simp) _
  go_loopg [3, 8] 8 (fun gk v i wr => ∃ k : Nat, k + gk = 8 ∧ i = .int .i64 k ∧ wr.ownsRow w.heap.size 5 1 v (be4s (l.take k)).length (byteCells (be4s (l.take k))) ∧ Below w.heap.size w wr)
  case atStart => exact ⟨0, by omega, rfl, by simpa [be4s, byteCells] using hown1, hb1⟩
  case round =>
    clear hown1 hb1 hmk hheap
    obtain ⟨k, hk, rfl, hown, hbel⟩ := hrel
    have HK : Hid (k + gk = 8) := hk
    have hk' : k ≤ 8 := by omega
    clear hk
    by_cases hlt : k < 8
    · obtain ⟨x, hx⟩ : ∃ x, l[k]? = some x := ⟨_, List.getElem?_eq_getElem (by omega)⟩
      have hx' : x < 4294967296 := hl8 x (List.mem_of_getElem? hx)
      have hix := fun W => index_agg (P := Tryz.prog) W 143 141 8 (u32s l) .i64 .u32 k (.int .u32 (x : Int)) Tryz.underlying143 Tryz.underlying141 size1 hlt (by simp [u32s, u32L, hx])
      have hone : ∀ u ∈ [Value.int .u8 ((x : Int) / 16777216), .int .u8 ((x : Int) / 65536 % 256), .int .u8 ((x : Int) / 256 % 256), .int .u8 ((x : Int) % 256)], u.oneCell' = true := by
        intro u hu
        simp only [List.mem_cons, List.not_mem_nil, or_false] at hu
        rcases hu with rfl | rfl | rfl | rfl <;> rfl
      have hlen : (be4s (l.take k)).length ≤ 32 := by rw [be4s_length]; simp; omega
      have hml : (be4s (l.take k)).length + 4 ≤ maxLen := by unfold maxLen; omega
      go_wp2_with (at_builtin; refine wpList_append_own _ rfl _ _ 96 rfl w.heap.size 5 i0 (.int .u8 0) 1 1 Tryz.underlying96 hi hz0 hz1 hz2 rfl (by decide) _ _ _ rfl (hown.alloc _) ⟨wr.heap.size, 0, none⟩ 4 4 [.int .u8 ((x : Int) / 16777216), .int .u8 ((x : Int) / 65536 % 256), .int .u8 ((x : Int) / 256 % 256), .int .u8 ((x : Int) % 256)] rfl rfl (four_cells wr _ _ _ _) hone hml (by omega) (by have := hbel.size; simp; omega) ?_; intro v' w' hown' hgrow' _)
      have R := text_rel hx' hx hbel hown hown' _ hgrow'
      clear hown' hgrow' hown hix
      go_wp2
      go_roundg (gk - 1)
      case measure => have := HK.out; omega
      case rel => exact ⟨k + 1, by have := HK.out; omega, by go_num, R.1, R.2⟩
    · have e8 : k = 8 := by omega
      subst e8
      rw [List.take_of_length_le (by omega)] at hown
      have hcv := convert_own (P := Tryz.prog) wr 96 9 5 w.heap.size _ (be4s l) Tryz.underlying96 Tryz.underlying5 Tryz.underlying9 hown
      go_wp2
      go_ret
      rw [HW.out]
      exact ⟨rfl, hbel⟩

/-- a number as eight bytes, the highest first -/
def be8 (n : Nat) : List UInt8 := [UInt8.ofNat (n / 2 ^ 56), UInt8.ofNat (n / 2 ^ 48), UInt8.ofNat (n / 2 ^ 40), UInt8.ofNat (n / 2 ^ 32), UInt8.ofNat (n / 2 ^ 24), UInt8.ofNat (n / 2 ^ 16), UInt8.ofNat (n / 2 ^ 8), UInt8.ofNat (n / 2 ^ 0)]
theorem be8_take (n i : Nat) (h : i < 8) : (be8 n).take (8 - i) = (be8 n).take (8 - (i + 1)) ++ [UInt8.ofNat (n / 2 ^ (8 * i))] := by
  match i, h with
  | 0, _ => rfl
  | 1, _ => rfl
  | 2, _ => rfl
  | 3, _ => rfl
  | 4, _ => rfl
  | 5, _ => rfl
  | 6, _ => rfl
  | 7, _ => rfl

theorem number_rel {w wr w' : World} {B : Nat} {v v' : Value} {pre : List UInt8} {n i : Nat} (hi : i < 8) (hb : Below B w wr) (hB : B ≤ wr.heap.size) (ho : wr.ownsRow B 5 1 v (pre ++ (be8 n).take (8 - (i + 1))).length (byteCells (pre ++ (be8 n).take (8 - (i + 1)))))
    (ho' : w'.ownsRow B 5 1 v' ((pre ++ (be8 n).take (8 - (i + 1))).length + 1) (byteCells (pre ++ (be8 n).take (8 - (i + 1))) ++ [.int .u8 ((n : Int) / 2 ^ (8 * i) % 256)]))
    (cs : Array Value) (hg : (wr.alloc (.cells cs 5)).grownBy w' v.ownBlock) :
    w'.ownsRow B 5 1 v' (pre ++ (be8 n).take (8 - i)).length (byteCells (pre ++ (be8 n).take (8 - i))) ∧ Below B w w' := by
  have e : byteCells (pre ++ (be8 n).take (8 - i)) = byteCells (pre ++ (be8 n).take (8 - (i + 1))) ++ [.int .u8 ((n : Int) / 2 ^ (8 * i) % 256)] := by
    rw [be8_take n i hi, ← List.append_assoc, byteCells_append]
    congr 1
  have e2 : (pre ++ (be8 n).take (8 - i)).length = (pre ++ (be8 n).take (8 - (i + 1))).length + 1 := by
    rw [be8_take n i hi, ← List.append_assoc, List.length_append]
    rfl
  rw [e, e2]
  refine ⟨ho', ?_⟩
  have h1 : Below B w (wr.alloc (.cells cs 5)) := hb.alloc hB _
  exact h1.trans (grown_below hg (by simp; omega) (ho.alloc _))

set_option maxRecDepth 20000 in
set_option maxHeartbeats 1000000 in
theorem number_any (B : Nat) (v : Value) (pre : List UInt8) (n : Nat) (w : World) (hB : B ≤ w.heap.size) (ho : w.ownsRow B 5 1 v pre.length (byteCells pre)) (hp : pre.length ≤ 1048576) (_hn : n < 18446744073709551616) :
    Calls Tryz.prog 130 #[v, .int .u64 (n : Int)] w fun e w' => ∃ v', e = .returned v' ∧ w'.ownsRow B 5 1 v' (pre ++ be8 n).length (byteCells (pre ++ be8 n)) ∧ Below B w w' := by
  obtain ⟨i0, hi, hz0, hz1, hz2⟩ := info_parts info5
  go_enter Tryz.func130, Tryz.ntmps130
  go_wp2
  go_loopg [0, 5] 8 (fun gk u i wr => i = .int .i64 (8 * (gk : Int) - 8) ∧ gk ≤ 8 ∧ wr.ownsRow B 5 1 u (pre ++ (be8 n).take (8 - gk)).length (byteCells (pre ++ (be8 n).take (8 - gk))) ∧ Below B w wr)
  case atStart => exact ⟨rfl, by omega, by simpa using ho, Below.refl _ _⟩
  case round =>
    clear ho
    obtain ⟨rfl, hg8, hown, hbel⟩ := hrel
    cases gk with
    | zero =>
      have hneg : ¬ (0 : Int) ≤ 8 * ((0 : Nat) : Int) - 8 := by omega
      have HO : wr.ownsRow B 5 1 _ (pre ++ be8 n).length (byteCells (pre ++ be8 n)) := hown
      go_wp2
      go_ret
      refine ⟨_, rfl, ?_, hbel⟩
      rw [← List.length_append]
      exact HO
    | succ i =>
      have e1 : 8 * ((i + 1 : Nat) : Int) - 8 = 8 * (i : Int) := by omega
      rw [e1]
      have hpos : (0 : Int) ≤ 8 * (i : Int) := by omega
      have hle : 8 * (i : Int) ≤ 64 := by omega
      have htn : (8 * (i : Int)).toNat = 8 * i := by omega
      have hone : ∀ u ∈ [Value.int .u8 ((n : Int) / 2 ^ (8 * i) % 256)], u.oneCell' = true := by
        intro u hu
        simp only [List.mem_cons, List.not_mem_nil, or_false] at hu
        subst hu
        rfl
      have hlen : (pre ++ (be8 n).take (8 - (i + 1))).length ≤ 1048584 := by rw [List.length_append, List.length_take]; omega
      have hml : (pre ++ (be8 n).take (8 - (i + 1))).length + 1 ≤ maxLen := by unfold maxLen; omega
      go_wp2_with (at_builtin; refine wpList_append_own _ rfl _ _ 96 rfl B 5 i0 (.int .u8 0) 1 1 Tryz.underlying96 hi hz0 hz1 hz2 rfl (by decide) _ _ _ rfl (hown.alloc _) ⟨wr.heap.size, 0, none⟩ 1 1 [.int .u8 ((n : Int) / 2 ^ (8 * i) % 256)] rfl rfl (by intro j u h; exact cells_new wr #[.int .u8 ((n : Int) / 2 ^ (8 * i) % 256)] 5 j u (by simpa using h)) hone hml (by omega) (by have := hbel.size; simp; omega) ?_; intro v' w' hown' hgrow' _)
      have R := number_rel (by omega) hbel (by have := hbel.size; omega) hown hown' _ hgrow'
      clear hown' hgrow' hown
      go_roundg i
      case measure => omega
      case rel => exact ⟨rfl, by omega, R.1, R.2⟩

end Go.Proofs.YtengclnahppmhaaGreatDoor

namespace Go.Proofs.YtengclnahppmhaaGreatDoor
open Go.RowKit Go.Lib Go.Deep

/-- what comes behind a text of so many bytes -/
def endL (n : Nat) : List UInt8 := ([128] ++ zeros ((119 - n % 64) % 64)) ++ be8 (8 * n)

theorem made_bytes (z : Nat) : (madeCells #[Value.int .u8 0] ((1 + z) * 1)).toList = byteCells (zeros (1 + z)) := by
  apply List.ext_getElem
  · simp [size_madeCells, byteCells, zeros]
  · intro i h1 h2
    simp [madeCells, byteCells, zeros, Nat.mod_one]

theorem made_own {w w1 : World} {z : Nat} (ho : w1.ownsRow w.heap.size 5 1 (.slice (some ⟨w.heap.size, 0, none⟩) (1 + z) (1 + z)) (1 + z) (madeCells (Value.int .u8 0).cells ((1 + z) * 1)).toList) :
    w1.ownsRow w.heap.size 5 1 (.slice (some ⟨w.heap.size, 0, none⟩) (1 + z) (1 + z)) (1 + z) (byteCells (zeros (1 + z))) := by
  have h := made_bytes z
  have e : (madeCells (Value.int .u8 0).cells ((1 + z) * 1)).toList = byteCells (zeros (1 + z)) := h
  rw [e] at ho
  exact ho
theorem made_cell {w w1 : World} {z : Nat} (ho : w1.ownsRow w.heap.size 5 1 (.slice (some ⟨w.heap.size, 0, none⟩) (1 + z) (1 + z)) (1 + z) (madeCells (Value.int .u8 0).cells ((1 + z) * 1)).toList) :
    w1.cell? ⟨w.heap.size, 0, none⟩ = some (.int .u8 0) ∧ w1.frozen? ⟨w.heap.size, 0, none⟩ = false := by
  have h := made_own ho
  refine ⟨?_, h.frozenAt 0⟩
  rw [h.cellAt 0 (by omega), show 1 + z = z + 1 by omega]
  rfl
theorem made_stored {w w1 : World} {z : Nat} (ho : w1.ownsRow w.heap.size 5 1 (.slice (some ⟨w.heap.size, 0, none⟩) (1 + z) (1 + z)) (1 + z) (madeCells (Value.int .u8 0).cells ((1 + z) * 1)).toList) :
    (w1.setCell ⟨w.heap.size, 0, none⟩ (.int .u8 128)).ownsRow w.heap.size 5 1 (.slice (some ⟨w.heap.size, 0, none⟩) (1 + z) (1 + z)) ([128] ++ zeros z : List UInt8).length (byteCells ([128] ++ zeros z)) := by
  have h := ((made_own ho).stored 0 (.int .u8 128)).1
  have e : (byteCells (zeros (1 + z))).set 0 (.int .u8 128) = byteCells ([128] ++ zeros z) := by
    rw [show 1 + z = z + 1 by omega]
    rfl
  rw [e] at h
  have l : ([128] ++ zeros z : List UInt8).length = 1 + z := by simp [zeros]; omega
  rw [l]
  exact h

set_option maxHeartbeats 1000000 in
theorem ending_any (n : Nat) (w : World) (hn : n < 1152921504606846976) :
    Calls Tryz.prog 107 #[.int .u64 (n : Int)] w fun e w' => e = .returned (.string (str (endL n))) ∧ Below w.heap.size w w' := by
  obtain ⟨i0, hi, hz0, hz1, hz2⟩ := info_parts info5
  obtain ⟨z, hz, hz64⟩ : ∃ z, (119 - n % 64) % 64 = z ∧ z < 64 := ⟨_, rfl, by omega⟩
  have HZ : Hid (endL n = ([128] ++ zeros z) ++ be8 (8 * n)) := by show endL n = _; rw [endL, hz]
  have t1 : ((n : Int).tmod 64) = (n : Int) % 64 := Int.tmod_eq_emod_of_nonneg (by omega)
  have t2 : ((119 - (n : Int) % 64).tmod 64) = (z : Int) := by rw [Int.tmod_eq_emod_of_nonneg (by omega)]; omega
  have hm8 : (8 * (n : Int)) % 18446744073709551616 = 8 * (n : Int) := by omega
  clear hz
  go_enter Tryz.func107, Tryz.ntmps107
  go_wp2_with (at_make; refine wpList_make_full _ rfl _ _ 96 rfl w.heap.size 5 i0 (.int .u8 0) 1 Tryz.underlying96 hi hz0 hz1 .u64 .u64 _ _ (1 + z) rfl rfl (by omega) (by omega) (by rw [hz2]; omega) (by unfold maxLen; omega) (Nat.le_refl _) ?_; intro w1 hown1 hg1; have c0 := (made_cell hown1).1; have f0 := (made_cell hown1).2)
  have hb1 : Below w.heap.size w (w1.setCell ⟨w.heap.size, 0, none⟩ (.int .u8 128)) := (Below.grown (Below.refl _ _) hg1 (Nat.le_refl _) (by simp)).setCell (Nat.le_refl _) _
  refine (number_any w.heap.size _ ([128] ++ zeros z) (8 * n) _ hb1.size (made_stored hown1) (by simp [zeros]; omega) (by omega)).mono ?_
  rintro e w2 ⟨v', rfl, hown2, hb2⟩
  have hcv := convert_own (P := Tryz.prog) w2 96 9 5 w.heap.size _ _ Tryz.underlying96 Tryz.underlying5 Tryz.underlying9 hown2
  go_wp2
  go_ret
  rw [HZ.out]
  exact ⟨rfl, hb1.trans hb2⟩

end Go.Proofs.YtengclnahppmhaaGreatDoor

namespace Go.Proofs.YtengclnahppmhaaGreatDoor
open Go.RowKit Go.Lib Go.Deep

theorem size74 : (Tryz.prog.info? 148).map (·.size) = some 74 := by kernel_rfl
def zero74 : Array Value := ([Value.bool false] ++ List.replicate 8 (Value.int .u32 0) ++ List.replicate 64 (Value.int .u8 0) ++ [Value.int .u64 0]).toArray
theorem zero74_size : zero74.size = 74 := by simp [zero74]
theorem zero_run (w : World) : (zeroValue 148).run Tryz.prog w = .ok (.agg zero74) w := by kernel_rfl

theorem wpList_alloc_zero {P : Program} {ops : Array Oper} {rest : List Oper} {o : Oper} {a : Act} {w : World} {Q : Exit → Act → World → Prop} (hg : o.guard = none) (t : TypeId) (z : Array Value) (ho : o.op = .alloc t)
    (hz : (zeroValue t).run P w = .ok (.agg z) w) (h : wpList P ops Q rest (a.put o.dst (.pointer (some ⟨w.heap.size, 0, none⟩))) (w.alloc (.cells z t))) : wpList P ops Q (o :: rest) a w := by
  refine wpList_plain hg fun K hK => ?_
  unfold Oper.wp execOp
  simp [ho, hz, Instr.alloc, Oper.upon, Result.andThen]
  exact hK _ _ h

theorem wpList_build_eq {P : Program} {ops : Array Oper} {rest : List Oper} {o : Oper} {a : Act} {w : World} {Q : Exit → Act → World → Prop} (hg : o.guard = none) (t : TypeId) (parts : Array (Nat × Operand)) (ho : o.op = .build t parts)
    (vals : List (Nat × Value)) (hv : (parts.map fun (i, x) => (i, a.eval x)).toList = vals) (cells : Array Value) (hc : P.built t vals = some cells)
    (h : wpList P ops Q rest (a.put o.dst (.agg cells)) w) : wpList P ops Q (o :: rest) a w := by
  refine wpList_build hg t parts ho (by rw [hv, hc]; rfl) ?_
  rw [hv, hc]
  exact h

set_option maxRecDepth 20000 in
set_option maxHeartbeats 400000 in
theorem new_any (w : World) (ht : Tabs w) (h4 : 8 ≤ w.heap.size) :
    Calls Tryz.prog 85 #[] w fun e w' => e = .returned (.pointer (some ⟨w.heap.size, 0, none⟩)) ∧ Hs w' w.heap.size first [] 0 ∧ Below w.heap.size w w' ∧ w'.heap.size = w.heap.size + 1 ∧ Tabs w' := by
  have hfw : w.rangeAt 0 0 [.int .u32 1779033703, .int .u32 3144134277, .int .u32 1013904242, .int .u32 2773480762, .int .u32 1359893119, .int .u32 2600822924, .int .u32 528734635, .int .u32 1541459225] := ht.fw
  have hbl : (Tryz.prog.built 148 [(0, Value.bool true), (1, Value.agg #[.int .u32 1779033703, .int .u32 3144134277, .int .u32 1013904242, .int .u32 2773480762, .int .u32 1359893119, .int .u32 2600822924, .int .u32 528734635, .int .u32 1541459225])]) = some (hcells first [] 0).toArray := by kernel_rfl
  obtain ⟨C, hC⟩ : ∃ C, (hcells first [] 0).toArray = C := ⟨_, rfl⟩
  rw [hC] at hbl
  go_enter Tryz.func85, Tryz.ntmps85
  go_wp2_with (first | (refine wpList_load_mid rfl 143 (.global 0) rfl 0 0 rfl _ _ hfw Tryz.underlying143 rfl size8 ?_) | (refine wpList_build_eq rfl 148 #[(0, .const (.bool true)), (1, .tmp 1)] rfl [(0, Value.bool true), (1, Value.agg #[.int .u32 1779033703, .int .u32 3144134277, .int .u32 1013904242, .int .u32 2773480762, .int .u32 1359893119, .int .u32 2600822924, .int .u32 528734635, .int .u32 1541459225])] (by simp [Act.eval, Act.put]) C hbl ?_))
  go_ret
  have hb : ∀ o, Below w.heap.size w (w.alloc o) := fun o => (Below.refl _ _).alloc (Nat.le_refl _) _
  rw [← hC]
  exact ⟨rfl, ⟨heap_new w _, first_OK, rfl, by omega, h4⟩, hb _, by simp, ht.below (hb _) (by omega)⟩

/-- the sum of a text, as bytes -/
def sumB (s : W8) (r : List UInt8) (n : Nat) : List UInt8 := wtext (eat s (r ++ endL n)).1

theorem copied {w : World} {p : Nat} {s : W8} {r : List UInt8} {n : Nat} (hh : Hs w p s r n) (ht : Tabs w) :
    Hs ((w.alloc (.cells zero74 148)).setCells w.heap.size 0 (hcells s r n).toArray.toList) w.heap.size s r n ∧ Below w.heap.size w ((w.alloc (.cells zero74 148)).setCells w.heap.size 0 (hcells s r n).toArray.toList) ∧
      Tabs ((w.alloc (.cells zero74 148)).setCells w.heap.size 0 (hcells s r n).toArray.toList) := by
  have hb : Below w.heap.size w ((w.alloc (.cells zero74 148)).setCells w.heap.size 0 (hcells s r n).toArray.toList) := Below.setCells ((Below.refl _ _).alloc (Nat.le_refl _) _) (Nat.le_refl _) _ _
  refine ⟨⟨?_, hh.ok, hh.len, hh.big, by have := hh.lt; have := hh.own; omega⟩, hb, ht.below hb ht.size⟩
  have h := heap_setCells w.heap.size 148 (hcells s r n).toArray.toList 0 zero74 _ (heap_new w (.cells zero74 148))
  rw [setMany_all _ _ (by rw [zero74_size, List.toList_toArray, hcells_length _ _ _ hh.rlen])] at h
  simpa using h

set_option maxRecDepth 20000 in
set_option maxHeartbeats 400000 in
theorem hsum_any {w : World} {p : Nat} {s : W8} {r : List UInt8} {n : Nat} (hh : Hs w p s r n) (ht : Tabs w) (hn : n < 1152921504606846976) :
    Calls Tryz.prog 87 #[.pointer (some ⟨p, 0, none⟩)] w fun e w' => e = .returned (.string (str (sumB s r n))) ∧ Below w.heap.size w w' := by
  have hmade := hh.made
  have hcount := hh.count
  have hp := hh.lt
  have h74 : (hcells s r n).toArray.size = 74 := by rw [List.size_toArray, hcells_length _ _ _ hh.rlen]
  have hst : (Tryz.prog.info? 148).map (·.size) = some (hcells s r n).toArray.size := by rw [h74]; exact size74
  have hone : (hcells s r n).toArray.all (·.oneCell') = true := by
    refine all_oneCell_toArray ?_
    intro v hv
    simp only [hcells, List.mem_append, List.mem_cons, List.not_mem_nil, or_false] at hv
    rcases hv with ((rfl | hv) | hv) | rfl
    · rfl
    · exact u32L_one _ v hv
    · exact byteCells_one _ v hv
    · rfl
  have hheap := hh.heap
  have hth : (w.alloc (.cells zero74 148)).there w.heap.size 0 (hcells s r n).toArray.size := there_of_heap (heap_new _ _) (by rw [h74, zero74_size]; decide)
  have hz57 := zero_run w
  go_enter Tryz.func87, Tryz.ntmps87
  obtain ⟨hcp, hbA, htA⟩ := copied hh ht
  rw [List.toList_toArray] at hcp hbA htA
  have c73 : ((w.alloc (.cells zero74 148)).setCells w.heap.size 0 (hcells s r n)).cell? ⟨p, 73, none⟩ = some (.int .u64 (n : Int)) := by
    rw [hbA.cell (p := ⟨p, 73, none⟩) hp]
    exact hcount
  go_wp2_with (first | (go_at_call 106; refine (there_yes hmade).mono ?_; rintro e w' ⟨rfl, rfl⟩) | (refine wpList_load_row rfl 148 (.tmp 8) rfl p rfl 148 _ (0, 0) _ hheap Tryz.underlying148 rfl hst ?_) | (refine wpList_alloc_zero rfl 148 zero74 rfl hz57 ?_) | (refine wpList_store_mid rfl 148 (.tmp 3) (.tmp 9) rfl w.heap.size 0 _ rfl rfl hth hst hone ?_) | (go_at_call 107; refine (ending_any n _ hn).mono ?_; rintro e w2 ⟨rfl, hb2⟩))
  have hlt : w.heap.size < ((w.alloc (.cells zero74 148)).setCells w.heap.size 0 (hcells s r n)).heap.size := hcp.lt
  have hs2 := hcp.below hb2 hlt
  have ht2 := htA.below hb2 htA.size
  have hb02 : Below w.heap.size w w2 := hbA.trans (hb2.mono (by omega))
  have hsz : (str (endL n)).size ≤ 200 := by rw [str_size]; simp [endL, zeros, be8]; omega
  clear hcp hbA htA c73 hth hone hst hheap hz57 hb2 hlt
  refine (take_any w.heap.size s r n (str (endL n)) w2 hs2 ht2 (by omega)).mono ?_
  rintro e w3 ⟨rfl, hs3, ho3, ht3⟩
  rw [str_data] at hs3
  have hwd := hs3.words
  have hok := hs3.ok
  have hb03 : Below w.heap.size w w3 := hb02.trans (ho3.below hb02.size (by simp))
  have HS : Hid (sumB s r n = wtext (eat s (r ++ endL n)).1) := rfl
  revert hwd hok HS
  generalize (eat s (r ++ endL n)).1 = s3
  intro hwd hok HS
  clear hs3 ho3 hs2 ht2
  go_wp2_with (first | (refine wpList_load_mid rfl 143 (.tmp 16) rfl w.heap.size 1 rfl _ _ hwd Tryz.underlying143 rfl size8 ?_) | (go_at_call 108; refine (text_any s3 hok _).mono ?_; rintro e w4 ⟨rfl, hb4⟩))
  go_ret
  rw [HS.out]
  exact ⟨rfl, hb03.trans (hb4.mono hb03.size)⟩

end Go.Proofs.YtengclnahppmhaaGreatDoor

namespace Go.Proofs.YtengclnahppmhaaGreatDoor
open Go.RowKit Go.Lib Go.Deep

/-- the sum of a text -/
def shaL (l : List UInt8) : List UInt8 := wtext (eat first (l ++ endL l.length)).1
theorem shaL_eat (l : List UInt8) : sumB (eat first l).1 (eat first l).2 l.length = shaL l := by
  unfold sumB shaL
  rw [eat_append first l (endL l.length)]

def joinL (ss : List ByteArray) : List UInt8 := (ss.map fun s => s.data.toList).flatten
theorem joinL_take (ss : List ByteArray) (k : Nat) (s : ByteArray) (h : ss[k]? = some s) : joinL (ss.take (k + 1)) = joinL (ss.take k) ++ s.data.toList := by
  unfold joinL
  rw [List.take_add_one, h]
  simp
theorem joinL_le (ss : List ByteArray) (k : Nat) : (joinL (ss.take k)).length ≤ (joinL ss).length := by
  have h : joinL ss = joinL (ss.take k) ++ joinL (ss.drop k) := by
    unfold joinL
    rw [← List.flatten_append, ← List.map_append, List.take_append_drop]
  rw [h, List.length_append]
  omega

/-- what Sum holds -/
structure Sm (w : World) (J : List UInt8) (wr : World) : Prop where
  hs : Hs wr w.heap.size (eat first J).1 (eat first J).2 J.length
  bel : Below w.heap.size w wr
  tabs : Tabs wr

set_option maxRecDepth 20000 in
set_option maxHeartbeats 1000000 in
theorem sum_some (w : World) (ht : Tabs w) (h4 : 8 ≤ w.heap.size) (b off len cap : Nat) (ss : List ByteArray) (hl : ss.length = len) (hlc : len ≤ 9223372036854775807) (hb : b < w.heap.size)
    (hc : ∀ i s, ss[i]? = some s → w.cell? ⟨b, off + i, none⟩ = some (.string s)) (hJ : (joinL ss).length < 576460752303423488) :
    Calls Tryz.prog 66 #[.slice (some ⟨b, off, none⟩) len cap] w fun e w' => e = .returned (.string (str (shaL (joinL ss)))) ∧ Below w.heap.size w w' := by
  go_enter Tryz.func66, Tryz.ntmps66
  go_wp2_with (go_at_call 85; refine (new_any w ht h4).mono ?_; rintro e w1 ⟨rfl, hs1, hb1, hz1, ht1⟩)
  have HS : Sm w [] w1 := ⟨hs1, hb1, ht1⟩
  clear hs1 hb1 hz1 ht1
  go_loopg [9] len (fun gk i wr => ∃ k : Nat, k + gk = len ∧ i = .int .i64 k ∧ Sm w (joinL (ss.take k)) wr)
  case atStart => exact ⟨0, by omega, rfl, HS⟩
  case round =>
    clear HS
    obtain ⟨k, hk, rfl, HS⟩ := hrel
    have HK : Hid (k + gk = len) := hk
    have hk' : k ≤ len := by omega
    clear hk
    by_cases hlt : k < len
    · obtain ⟨s, hs⟩ : ∃ s, ss[k]? = some s := ⟨_, List.getElem?_eq_getElem (by omega)⟩
      have hcell : wr.cell? ⟨b, off + k, none⟩ = some (.string s) := by
        rw [HS.bel.cell (p := ⟨b, off + k, none⟩) hb]
        exact hc k s hs
      have hj := joinL_take ss k s hs
      have hle := joinL_le ss (k + 1)
      rw [hj, List.length_append, ← size_eq] at hle
      have htk := take_any w.heap.size _ _ _ s wr HS.hs HS.tabs (by omega)
      have HR : Hid (∀ w' : World, Hs w' w.heap.size (eat (eat first (joinL (ss.take k))).1 ((eat first (joinL (ss.take k))).2 ++ s.data.toList)).1 (eat (eat first (joinL (ss.take k))).1 ((eat first (joinL (ss.take k))).2 ++ s.data.toList)).2 ((joinL (ss.take k)).length + s.size) → Only [w.heap.size] wr w' → Tabs w' → Sm w (joinL (ss.take (k + 1))) w') := by
        intro w' h1 h2 h3
        rw [← eat_append, ← hj] at h1
        refine ⟨?_, HS.bel.trans (h2.below HS.bel.size (by simp)), h3⟩
        have e : (joinL (ss.take (k + 1))).length = (joinL (ss.take k)).length + s.size := by rw [hj, List.length_append, ← size_eq]
        rw [e]
        exact h1
      clear HS hj hle
      go_wp2_with (go_at_call 86; refine htk.mono ?_; rintro e w2 ⟨rfl, r1, r2, r3⟩)
      have R := HR.out _ r1 r2 r3
      clear r1 r2 r3 HR htk hcell
      go_roundg (gk - 1)
      case measure => have := HK.out; omega
      case rel => exact ⟨k + 1, by have := HK.out; omega, by go_num, R⟩
    · obtain rfl : k = len := by omega
      rw [List.take_of_length_le (by omega)] at HS
      have hsm := hsum_any HS.hs HS.tabs (by omega)
      rw [shaL_eat] at hsm
      have hbel := HS.bel
      clear HS
      go_wp2_with (go_at_call 87; refine hsm.mono ?_; rintro e w2 ⟨rfl, r1⟩)
      go_ret
      exact ⟨rfl, hbel.trans (r1.mono hbel.size)⟩

set_option maxRecDepth 20000 in
set_option maxHeartbeats 1000000 in
theorem sum_none (w : World) (ht : Tabs w) (h4 : 8 ≤ w.heap.size) :
    Calls Tryz.prog 66 #[.slice none 0 0] w fun e w' => e = .returned (.string (str (shaL []))) ∧ Below w.heap.size w w' := by
  go_enter Tryz.func66, Tryz.ntmps66
  go_wp2_with (go_at_call 85; refine (new_any w ht h4).mono ?_; rintro e w1 ⟨rfl, hs1, hb1, hz1, ht1⟩)
  have hsm := hsum_any hs1 ht1 (by omega)
  rw [show sumB first [] 0 = shaL [] from shaL_eat []] at hsm
  clear hs1
  refine wp_loop_rounds 1 ?_
  rw [rounds_succ]
  go_wp2_with (go_at_call 87; refine hsm.mono ?_; rintro e w2 ⟨rfl, r1⟩)
  go_ret
  exact ⟨rfl, hb1.trans (r1.mono hb1.size)⟩

end Go.Proofs.YtengclnahppmhaaGreatDoor

namespace Go.Proofs.YtengclnahppmhaaGreatDoor
open Go.RowKit Go.Lib Go.Deep

theorem shaL_length (l : List UInt8) : (shaL l).length = 32 := by
  unfold shaL wtext
  rw [be4s_length]
  rfl

theorem cells_strs (w : World) (ss : List ByteArray) : ∀ i s, ss[i]? = some s → (w.alloc (.cells (ss.map Value.string).toArray 9)).cell? ⟨w.heap.size, 0 + i, none⟩ = some (.string s) := by
  intro i s h
  rw [Nat.zero_add, cell_of_heap (heap_new _ _)]
  simp [h]

theorem sum_one (s : ByteArray) (w : World) (ht : Tabs w) (h4 : 8 ≤ w.heap.size) (hs : s.size < 576460752303423488) :
    Calls Tryz.prog 66 #[.slice (some ⟨w.heap.size, 0, none⟩) 1 1] (w.alloc (.cells #[.string s] 9)) fun e w' => e = .returned (.string (str (shaL s.data.toList))) ∧ Below w.heap.size w w' := by
  have hb : Below w.heap.size w (w.alloc (.cells #[.string s] 9)) := (Below.refl _ _).alloc (Nat.le_refl _) _
  have hj : joinL [s] = s.data.toList := by simp [joinL]
  have h := sum_some _ (ht.below hb (by omega)) (by simp; omega) w.heap.size 0 1 1 [s] rfl (by omega) (by simp) (cells_strs w [s]) (by rw [hj, ← size_eq]; exact hs)
  rw [hj] at h
  refine h.mono ?_
  rintro e w' ⟨rfl, h2⟩
  exact ⟨rfl, hb.trans (h2.mono (by simp))⟩

/-- a list of texts as it was handed in -/
structure Lst (w : World) (a : Option Addr) (len : Nat) (ss : List ByteArray) : Prop where
  sz : ss.length = len
  top : len ≤ 9223372036854775807
  cell : ∀ i s, ss[i]? = some s → ∃ b off, a = some ⟨b, off, none⟩ ∧ b < w.heap.size ∧ w.cell? ⟨b, off + i, none⟩ = some (.string s)
theorem Lst.below {w w' : World} {a : Option Addr} {len : Nat} {ss : List ByteArray} (h : Lst w a len ss) (hb : Below w.heap.size w w') : Lst w' a len ss := by
  refine ⟨h.sz, h.top, fun i s hs => ?_⟩
  obtain ⟨b, off, rfl, hlt, hc⟩ := h.cell i s hs
  exact ⟨b, off, rfl, by have := hb.size; omega, (hb.cell (p := ⟨b, off + i, none⟩) hlt).trans hc⟩

def strCells (ss : List ByteArray) : List Value := ss.map Value.string
theorem strCells_length (ss : List ByteArray) : (strCells ss).length = ss.length := by simp [strCells]
theorem strCells_one (ss : List ByteArray) : ∀ v ∈ strCells ss, v.oneCell' = true := by
  intro v hv
  obtain ⟨n, _, rfl⟩ := List.mem_map.1 hv
  rfl
theorem strCells_take (ss : List ByteArray) (k : Nat) (s : ByteArray) (h : ss[k]? = some s) : strCells (ss.take (k + 1)) = strCells (ss.take k) ++ [.string s] := by
  rw [List.take_add_one, h]
  simp [strCells]
theorem info9 : (Tryz.prog.info? 9).map (fun i => (i.zero, i.size, i.bytes)) = some (some (.string { data := #[] }), 1, 16) := by kernel_rfl

theorem lst_one (s : ByteArray) (w : World) : Lst (w.alloc (.cells #[.string s] 9)) (some ⟨w.heap.size, 0, none⟩) 1 [s] :=
  ⟨rfl, by omega, fun i t h => ⟨w.heap.size, 0, rfl, by simp, cells_strs w [s] i t h⟩⟩
theorem joinL_one (s : ByteArray) : joinL [s] = s.data.toList := by simp [joinL]

end Go.Proofs.YtengclnahppmhaaGreatDoor
