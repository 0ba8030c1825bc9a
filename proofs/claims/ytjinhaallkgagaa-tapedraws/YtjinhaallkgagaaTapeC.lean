import Derived.Test.YtjinhaallkgagaaTapeB
namespace Go.Proofs.Ytjinhaallkgagaa
open Go.RowKit Go.Lib

theorem elem42 : Try.prog.elem 42 = 5 := by kernel_rfl
theorem under42 : Try.prog.underlying 42 = some (.slice (Try.prog.elem 42)) := by rw [elem42]; exact Try.underlying42
theorem sizeOf5 (w : World) : (sizeOf 5).run Try.prog w = .ok 1 w := by kernel_rfl

theorem addr_add (g o j : Nat) : (⟨g, o, none⟩ : Addr).add j = ⟨g, o + j, none⟩ := by unfold Addr.add; split <;> simp_all

theorem slice_to (ao : Option Addr) (n l : Nat) (h : n ≤ l) (w : World) :
    (Instr.slice 42 (.slice ao l l) none (some (.int .i64 (n : Int))) none).run Try.prog w = .ok (.slice (if l = 0 then ao else ao.map (·.add 0)) n l) w := by
  rw [run_slice_h (P := Try.prog) (w := w) 42 ao l l under42 .i64 (n : Int) (by omega) (by omega), elem42, sizeOf5]
  simp [sliced, Result.andThen]

theorem slice_from (ao : Option Addr) (n l : Nat) (h : n ≤ l) (w : World) :
    (Instr.slice 42 (.slice ao l l) (some (.int .i64 (n : Int))) none none).run Try.prog w = .ok (.slice (if l = n then ao else ao.map (·.add n)) (l - n) (l - n)) w := by
  rw [run_slice_l (P := Try.prog) (w := w) 42 ao l l under42 .i64 (n : Int) (by omega) (by omega), elem42, sizeOf5]
  simp [sliced, Result.andThen]

/-- A tape in memory: its struct's block, its reel's block, its row; what is left; how many were drawn. -/
structure IsTape (w : World) (t r g : Nat) (bs : List UInt8) (d : Nat) : Prop where
  tape : w.heap[t]? = some (.cells #[.pointer (some ⟨r, 0, none⟩)] 47 (0, 0))
  reel : ∃ ao, w.heap[r]? = some (.cells #[.slice ao bs.length bs.length, .int .i64 (d : Int)] 45 (0, 0)) ∧
    (0 < bs.length → ∃ o cur, ao = some ⟨g, o, none⟩ ∧ w.heap[g]? = some (.cells cur 5 (0, 0)) ∧ cur.toList.drop o = byteCells bs)
  bound : d + bs.length ≤ 67108864

theorem IsTape.keep {w w' : World} {t r g : Nat} {bs : List UInt8} {d : Nat} (h : IsTape w t r g bs d) (h1 : w'.heap[t]? = w.heap[t]?) (h2 : w'.heap[r]? = w.heap[r]?) (h3 : w'.heap[g]? = w.heap[g]?) : IsTape w' t r g bs d := by
  obtain ⟨a, ⟨ao, b, c⟩, e⟩ := h
  refine ⟨by rw [h1, a], ⟨ao, by rw [h2, b], fun hp => ?_⟩, e⟩
  obtain ⟨o, cur, x, y, z⟩ := c hp
  exact ⟨o, cur, x, by rw [h3, y], z⟩

theorem drop_row (cur : Array Value) (o n : Nat) (bs : List UInt8) (hd : cur.toList.drop o = byteCells bs) (zs : List Value) (hz : zs.length = n) (ho : o ≤ cur.size) :
    (cur.toList.take o ++ zs ++ cur.toList.drop (o + n)).toArray.toList.drop (o + n) = byteCells (bs.drop n) := by
  have hl : (cur.toList.take o).length = o := by simp; omega
  rw [List.toList_toArray, List.drop_append_of_le_length (by simp [hl, hz])]
  rw [List.drop_eq_nil_of_le (by simp [hl, hz])]
  rw [← List.drop_drop, hd]
  simp [byteCells, List.map_drop]

theorem IsTape.row_size {cur : Array Value} {o : Nat} {bs : List UInt8} (hd : cur.toList.drop o = byteCells bs) (hp : 0 < bs.length) : o + bs.length = cur.size := by
  have := congrArg List.length hd
  simp [byteCells_length] at this
  omega

theorem new_tape (s : ByteArray) (w : World) (h : s.size ≤ 67108864) :
    Calls Try.prog 8 #[.string s] w fun e w' => e = .returned (.tuple #[.pointer (some ⟨w.heap.size + 2, 0, none⟩), .int .i64 0]) ∧
      IsTape w' (w.heap.size + 2) (w.heap.size + 1) w.heap.size s.data.toList 0 ∧ Only [] w w' ∧ w'.heap.size = w.heap.size + 3 := by
  refine (new_run s w h).mono ?_
  rintro e w' ⟨rfl, rfl⟩
  have hl : s.data.toList.length = s.size := (size_eq s).symm
  refine ⟨rfl, ⟨?_, ⟨some ⟨w.heap.size, 0, none⟩, ?_, fun _ => ⟨0, (byteCells s.data.toList).toArray, rfl, ?_, by simp⟩⟩, by rw [hl]; omega⟩, ((((Only.refl _ _).alloc _).alloc _).alloc _), by simp⟩
  · have := heap_new ((w.alloc (.cells (byteCells s.data.toList).toArray 5)).alloc (.cells #[.slice (some ⟨w.heap.size, 0, none⟩) s.size s.size, .int .i64 0] 45)) (.cells #[.pointer (some ⟨w.heap.size + 1, 0, none⟩)] 47)
    simpa using this
  · rw [Below.heap_alloc _ _ _ (by simp)]
    have := heap_new (w.alloc (.cells (byteCells s.data.toList).toArray 5)) (.cells #[.slice (some ⟨w.heap.size, 0, none⟩) s.size s.size, .int .i64 0] 45)
    rw [hl]
    simpa using this
  · rw [Below.heap_alloc _ _ _ (by simp; omega), Below.heap_alloc _ _ _ (by simp)]
    exact heap_new _ _

theorem left_tape {t r g : Nat} {bs : List UInt8} {d : Nat} {w : World} (h : IsTape w t r g bs d) :
    Calls Try.prog 10 #[.pointer (some ⟨t, 0, none⟩)] w fun e w' => e = .returned (.int .i64 bs.length) ∧ w' = w := by
  obtain ⟨ht, ⟨ao, hr, _⟩, _⟩ := h
  exact left_any t r w ao _ _ (by rw [cell_of_heap ht]; rfl) (by rw [cell_of_heap hr]; rfl)

theorem drawn_tape {t r g : Nat} {bs : List UInt8} {d : Nat} {w : World} (h : IsTape w t r g bs d) :
    Calls Try.prog 11 #[.pointer (some ⟨t, 0, none⟩)] w fun e w' => e = .returned (.int .i64 d) ∧ w' = w := by
  obtain ⟨ht, ⟨ao, hr, _⟩, _⟩ := h
  exact drawn_any t r w d (by rw [cell_of_heap ht]; rfl) (by rw [cell_of_heap hr]; rfl)

theorem made_tape {t r g : Nat} {bs : List UInt8} {d : Nat} {w : World} (h : IsTape w t r g bs d) :
    Calls Try.prog 17 #[.pointer (some ⟨t, 0, none⟩)] w fun e w' => e = .returned (.bool true) ∧ w' = w :=
  made_yes t r w (by rw [cell_of_heap h.tape]; rfl)

theorem ne_of_type {w : World} {a b : Nat} {c c' : Array Value} {t t' : TypeId} (h : w.heap[a]? = some (.cells c t (0, 0))) (h' : w.heap[b]? = some (.cells c' t' (0, 0))) (hn : t ≠ t') : a ≠ b := by
  rintro rfl
  rw [h] at h'
  simp only [Option.some.injEq, Obj.cells.injEq] at h'
  exact hn h'.2.1

theorem lose_tape {t r g : Nat} {bs : List UInt8} {d : Nat} {w : World} (h : IsTape w t r g bs d) :
    Calls Try.prog 18 #[.pointer (some ⟨r, 0, none⟩)] w fun e w' => e = .returned (.tuple #[]) ∧ IsTape w' t r g [] d ∧ Only [r, g] w w' := by
  obtain ⟨ht, ⟨ao, hr, hg⟩, hb⟩ := h
  have htr := ne_of_type ht hr (by decide)
  have hc : w.cell? ⟨r, 0, none⟩ = some (.slice ao bs.length bs.length) := by rw [cell_of_heap hr]; rfl
  have fin : ∀ w1 : World, Only [r, g] w w1 → w1.heap[t]? = w.heap[t]? → w1.heap[r]? = w.heap[r]? → (∀ ty, (Builtin.clear_ #[42] ty #[.slice ao bs.length bs.length]).run Try.prog w = .ok (.tuple #[]) w1) →
      Calls Try.prog 18 #[.pointer (some ⟨r, 0, none⟩)] w fun e w' => e = .returned (.tuple #[]) ∧ IsTape w' t r g [] d ∧ Only [r, g] w w' := by
    intro w1 ho h1 h2 hcl
    rw [ht] at h1
    rw [hr] at h2
    refine (lose_run r w w1 ao _ _ hc hcl (by rw [cell_of_heap h2]; rfl) (frozen_of_heap h2)).mono ?_
    rintro e w' ⟨rfl, rfl⟩
    refine ⟨rfl, ⟨?_, ⟨none, ?_, fun hp => absurd hp (by simp)⟩, by simp; omega⟩, ho.setCell (by simp) _⟩
    · rw [Below.heap_setCell _ _ _ _ htr]; exact h1
    · rw [Go.Lib.heap_setCell_same (i := 0) h2]; rfl
  by_cases hp : 0 < bs.length
  · obtain ⟨o, cur, rfl, hgr, hd⟩ := hg hp
    have hsz := IsTape.row_size hd hp
    have hgr' := ne_of_type hgr hr (by decide)
    have hgt := ne_of_type hgr ht (by decide)
    refine fin _ ((Only.refl _ _).setRow (g := g) (by simp) _) (setRow_other _ _ _ _ hgt.symm) (setRow_other _ _ _ _ hgr'.symm) (fun ty => run_clear_row w 42 5 ty (.int .u8 0) Try.underlying42 zero5 rfl rfl g o _ _ cur 5 hgr (by omega))
  · have h0 : bs.length = 0 := by omega
    exact fin w (Only.refl _ _) rfl rfl (fun ty => by rw [h0]; exact run_clear_empty w 42 5 ty Try.underlying42 ao _)

theorem take_tape {t r g : Nat} {bs : List UInt8} {d : Nat} {w : World} (h : IsTape w t r g bs d) (n : Nat) (hn : n ≤ bs.length) :
    Calls Try.prog 19 #[.pointer (some ⟨r, 0, none⟩), .int .i64 (n : Int)] w fun e w' => e = .returned (.string ⟨(bs.take n).toArray⟩) ∧ IsTape w' t r g (bs.drop n) (d + n) ∧ Only [r, g] w w' := by
  obtain ⟨ht, ⟨ao, hr, hg⟩, hb⟩ := h
  have htr := ne_of_type ht hr (by decide)
  have hrl := heap_lt hr
  have htl := heap_lt ht
  have hc : w.cell? ⟨r, 0, none⟩ = some (.slice ao bs.length bs.length) := by rw [cell_of_heap hr]; rfl
  have hbl : ((byteCells bs).take n).length = n := by simp [byteCells_length]; omega
  have hdl : (bs.drop n).length = bs.length - n := by simp
  -- what is behind the copy
  have hcp : ∀ ty, (Builtin.copy_ #[42, 42] ty #[.slice (some ⟨w.heap.size, 0, none⟩) n n, .slice ao bs.length bs.length]).run Try.prog (w.alloc (.cells (madeCells #[.int .u8 0] n) 5)) =
      .ok (goInt n) (w.alloc (.cells ((byteCells bs).take n).toArray 5)) := by
    intro ty
    by_cases hp : 0 < bs.length
    · obtain ⟨o, cur, rfl, hgr, hd⟩ := hg hp
      have := run_copy_new_cells (P := Try.prog) w 42 42 ty 5 (.int .u8 0) ((byteCells bs).take n) ⟨g, o, none⟩ bs.length bs.length Try.underlying42 size5 (by omega) (heap_lt hgr) (fun j v hj => by
        have e := addr_add g o j
        rw [e, cell_of_heap hgr]
        have hj' : (byteCells bs)[j]? = some v := by
          rw [List.getElem?_take] at hj
          split at hj
          · exact hj
          · cases hj
        rw [← hd, List.getElem?_drop] at hj'
        rw [← hj']; simp) (fun v hv => byteCells_one bs v (List.mem_of_mem_take hv))
      rw [hbl] at this
      exact this
    · have h0 : bs.length = 0 := by omega
      obtain rfl : n = 0 := by omega
      have := run_copy_none (P := Try.prog) (w.alloc (.cells (madeCells #[.int .u8 0] 0) 5)) 42 42 ty 5 (some ⟨w.heap.size, 0, none⟩) ao 0 0 bs.length bs.length Try.underlying42 size5 (by simp)
      rw [this]
      have e : madeCells #[.int .u8 0] 0 = (List.take 0 (byteCells bs)).toArray := by simp [madeCells]
      rw [e]
      rfl
  -- the cells behind that
  have g1 : ∀ k, k < w.heap.size → (w.alloc (.cells ((byteCells bs).take n).toArray 5)).heap[k]? = w.heap[k]? := fun k hk => Below.heap_alloc _ _ _ hk
  have hN : (w.alloc (.cells ((byteCells bs).take n).toArray 5)).heap[w.heap.size]? = some (.cells ((byteCells bs).take n).toArray 5) := heap_new _ _
  have o1 : Only [r, g] w (w.alloc (.cells ((byteCells bs).take n).toArray 5)) := (Only.refl _ _).alloc _
  have z1 : (w.alloc (.cells ((byteCells bs).take n).toArray 5)).heap.size = w.heap.size + 1 := by simp
  generalize w.alloc (.cells ((byteCells bs).take n).toArray 5) = w1 at hcp g1 hN o1 z1
  -- the cuts, and what is behind the clear
  obtain ⟨ao1, ao2, w2, hs1, hs2, hcl, k2, o2, hrest⟩ : ∃ ao1 ao2 w2, (∀ w : World, (Instr.slice 42 (.slice ao bs.length bs.length) none (some (.int .i64 (n : Int))) none).run Try.prog w = .ok (.slice ao1 n bs.length) w) ∧
      (∀ w : World, (Instr.slice 42 (.slice ao bs.length bs.length) (some (.int .i64 (n : Int))) none none).run Try.prog w = .ok (.slice ao2 (bs.length - n) (bs.length - n)) w) ∧
      (∀ ty, (Builtin.clear_ #[42] ty #[.slice ao1 n bs.length]).run Try.prog w1 = .ok (.tuple #[]) w2) ∧ (∀ k, k ≠ g ∨ bs.length = 0 → w2.heap[k]? = w1.heap[k]?) ∧ Only [r, g] w w2 ∧
      (0 < bs.length - n → ∃ o cur, ao2 = some ⟨g, o, none⟩ ∧ w2.heap[g]? = some (.cells cur 5 (0, 0)) ∧ cur.toList.drop o = byteCells (bs.drop n)) := by
    by_cases hp : 0 < bs.length
    · obtain ⟨o, cur, rfl, hgr, hd⟩ := hg hp
      have hsz := IsTape.row_size hd hp
      have hgr1 : w1.heap[g]? = some (.cells cur 5 (0, 0)) := by rw [g1 _ (heap_lt hgr)]; exact hgr
      refine ⟨_, _, w1.setRow g (cur.toList.take o ++ List.replicate n (Value.int .u8 0) ++ cur.toList.drop (o + n)).toArray, fun w => slice_to _ n _ hn w, fun w => slice_from _ n _ hn w, fun ty => ?_, ?_, ?_, ?_⟩
      · rw [if_neg (by omega), Option.map_some, addr_add, Nat.add_zero]
        exact run_clear_row w1 42 5 ty (.int .u8 0) Try.underlying42 zero5 rfl rfl g o _ _ cur 5 hgr1 (by omega)
      · rintro k (hk | hk)
        · exact setRow_other _ _ _ _ hk
        · omega
      · exact o1.setRow (by simp) _
      · intro hlt
        refine ⟨o + n, _, ?_, setRow_heap w1 g cur _ 5 (0, 0) hgr1, drop_row cur o n bs hd _ (by simp) (by omega)⟩
        rw [if_neg (by omega), Option.map_some, addr_add]
    · have h0 : bs.length = 0 := by omega
      obtain rfl : n = 0 := by omega
      refine ⟨_, _, w1, fun w => slice_to _ 0 _ hn w, fun w => slice_from _ 0 _ hn w, fun ty => run_clear_empty w1 42 5 ty Try.underlying42 _ _, fun _ _ => rfl, o1, fun h => by omega⟩
  have hrg : r ≠ g ∨ bs.length = 0 := by
    by_cases hp : 0 < bs.length
    · obtain ⟨o, cur, rfl, hgr, hd⟩ := hg hp
      exact .inl (ne_of_type hr hgr (by decide))
    · exact .inr (by omega)
  have htg : t ≠ g ∨ bs.length = 0 := by
    by_cases hp : 0 < bs.length
    · obtain ⟨o, cur, rfl, hgr, hd⟩ := hg hp
      exact .inl (ne_of_type ht hgr (by decide))
    · exact .inr (by omega)
  have hNg : w.heap.size ≠ g ∨ bs.length = 0 := by
    by_cases hp : 0 < bs.length
    · obtain ⟨o, cur, rfl, hgr, hd⟩ := hg hp
      exact .inl (by have := heap_lt hgr; omega)
    · exact .inr (by omega)
  have r1 : w1.heap[r]? = some (.cells #[.slice ao bs.length bs.length, .int .i64 (d : Int)] 45 (0, 0)) := by rw [g1 _ hrl]; exact hr
  have r2 : w2.heap[r]? = some (.cells #[.slice ao bs.length bs.length, .int .i64 (d : Int)] 45 (0, 0)) := by rw [k2 _ hrg]; exact r1
  have r3 := Go.Lib.heap_setCell_same (i := 1) (Go.Lib.heap_setCell_same (i := 0) r2 (.slice ao2 (bs.length - n) (bs.length - n))) (.int .i64 ((d : Int) + (n : Int)))
  have k3 : ∀ k, k ≠ r → ((w2.setCell ⟨r, 0, none⟩ (.slice ao2 (bs.length - n) (bs.length - n))).setCell ⟨r, 1, none⟩ (.int .i64 ((d : Int) + (n : Int)))).heap[k]? = w2.heap[k]? := fun k hk => by
    rw [Below.heap_setCell _ _ _ _ hk, Below.heap_setCell _ _ _ _ hk]
  have o3 : Only [r, g] w ((w2.setCell ⟨r, 0, none⟩ (.slice ao2 (bs.length - n) (bs.length - n))).setCell ⟨r, 1, none⟩ (.int .i64 ((d : Int) + (n : Int)))) := (o2.setCell (by simp) _).setCell (by simp) _
  refine (take_run r n bs.length d w w1 w2 _ ao ao1 ao2 ⟨(bs.take n).toArray⟩ hn (by omega) hc hcp (by rw [cell_of_heap r1]; rfl) hs1 hcl (by rw [cell_of_heap r2]; rfl) (frozen_of_heap r2) hs2 (by rw [cell_of_heap r2]; rfl) (frozen_of_heap r2) rfl ?_).mono ?_
  · have hN3 : ((w2.setCell ⟨r, 0, none⟩ (.slice ao2 (bs.length - n) (bs.length - n))).setCell ⟨r, 1, none⟩ (.int .i64 ((d : Int) + (n : Int)))).heap[w.heap.size]? = some (.cells ((byteCells bs).take n).toArray 5) := by
      rw [k3 _ (by omega), k2 _ hNg]; exact hN
    have hlt : (bs.take n).length = n := by simp; omega
    have := run_convert_bytes_back (P := Try.prog) ((w2.setCell ⟨r, 0, none⟩ (.slice ao2 (bs.length - n) (bs.length - n))).setCell ⟨r, 1, none⟩ (.int .i64 ((d : Int) + (n : Int)))) 42 9 5 ⟨w.heap.size, 0, none⟩ n (bs.take n) Try.underlying42 Try.underlying5 Try.underlying9 (fun j hj => by
      rw [addr_add, cell_of_heap hN3]
      have hj2 : j < bs.length := by simp at hj; omega
      have hj3 : j < n := by omega
      simp [byteCells, hj2, hj3])
    rw [hlt] at this
    exact this
  · rintro e w' ⟨rfl, rfl⟩
    refine ⟨rfl, ⟨?_, ⟨ao2, ?_, ?_⟩, by omega⟩, o3⟩
    · rw [k3 _ htr, k2 _ htg, g1 _ htl]; exact ht
    · rw [r3, hdl]; simp
    · intro hlt
      rw [hdl] at hlt
      obtain ⟨o, cur, x, y, z⟩ := hrest hlt
      refine ⟨o, cur, x, ?_, z⟩
      rw [k3 _ (ne_of_type y r2 (by decide))]; exact y

end Go.Proofs.Ytjinhaallkgagaa
