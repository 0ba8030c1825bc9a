import Derived.Test.YtengclnahppmhaaGreatDoorShM2
namespace Go.Proofs.YtengclnahppmhaaGreatDoor
open Go.RowKit Go.Lib Go.Deep

/-- a key as it goes into the sums -/
def k64 (key : List UInt8) : List UInt8 := if key.length ≤ 64 then key else shaL key
def fill64 (l : List UInt8) : List UInt8 := l ++ zeros (64 - l.length)
def maskL (m : UInt8) (l : List UInt8) : List UInt8 := l.map fun b => b ^^^ m
def innerL (key : List UInt8) : List UInt8 := maskL 54 (fill64 (k64 key))
def outerL (key : List UInt8) : List UInt8 := maskL 92 (fill64 (k64 key))
/-- the keyed sum -/
def hmacL (key text : List UInt8) : List UInt8 := shaL (outerL key ++ shaL (innerL key ++ text))

theorem k64_le (key : List UInt8) : (k64 key).length ≤ 64 := by
  unfold k64
  split
  · assumption
  · rw [shaL_length]; omega
theorem fill64_length (l : List UInt8) (h : l.length ≤ 64) : (fill64 l).length = 64 := by simp [fill64, zeros]; omega
theorem maskL_length (m : UInt8) (l : List UInt8) : (maskL m l).length = l.length := by simp [maskL]
theorem innerL_length (key : List UInt8) : (innerL key).length = 64 := by rw [innerL, maskL_length, fill64_length _ (k64_le key)]
theorem outerL_length (key : List UInt8) : (outerL key).length = 64 := by rw [outerL, maskL_length, fill64_length _ (k64_le key)]
theorem hmacL_length (key text : List UInt8) : (hmacL key text).length = 32 := shaL_length _
theorem maskL_take (m : UInt8) (l : List UInt8) (k : Nat) (x : UInt8) (h : l[k]? = some x) : maskL m (l.take (k + 1)) = maskL m (l.take k) ++ [x ^^^ m] := by
  rw [List.take_add_one, h]
  simp [maskL]

/-- a row half masked -/
def half (m : UInt8) (l : List UInt8) (k : Nat) : List UInt8 := maskL m (l.take k) ++ l.drop k
theorem half_zero (m : UInt8) (l : List UInt8) : half m l 0 = l := by simp [half, maskL]
theorem half_all (m : UInt8) (l : List UInt8) : half m l l.length = maskL m l := by simp [half]
theorem half_length (m : UInt8) (l : List UInt8) (k : Nat) (h : k ≤ l.length) : (half m l k).length = l.length := by simp [half, maskL]; omega
theorem half_at (m : UInt8) (l : List UInt8) (k : Nat) (h : k < l.length) : (half m l k)[k]? = l[k]? := by
  rw [half, List.getElem?_append_right (by rw [maskL_length, List.length_take]; omega), maskL_length, List.length_take, List.getElem?_drop]
  congr 1
  omega
theorem half_set (m : UInt8) (l : List UInt8) (k : Nat) (x : UInt8) (h : l[k]? = some x) : (byteCells (half m l k)).toArray.setIfInBounds k (.int .u8 ((x ^^^ m).toNat : Int)) = (byteCells (half m l (k + 1))).toArray := by
  have hk : k < l.length := (List.getElem?_eq_some_iff.1 h).1
  have hd : l.drop k = x :: l.drop (k + 1) := by
    rw [List.drop_eq_getElem_cons hk]
    congr 1
    exact (List.getElem?_eq_some_iff.1 h).2
  have hlen : (byteCells (maskL m (l.take k))).length = k := by rw [byteCells_length, maskL_length, List.length_take]; omega
  have e : (byteCells (half m l k)).set k (.int .u8 ((x ^^^ m).toNat : Int)) = byteCells (half m l (k + 1)) := by
    rw [half, half, hd, maskL_take m l k x h, byteCells_append, List.set_append_right _ _ (by omega), hlen, Nat.sub_self, byteCells_append, byteCells_append]
    simp [byteCells]
  simp only [List.setIfInBounds_toArray, e]

theorem wpList_copy_string {P : Program} {ops : Array Oper} {rest : List Oper} {o : Oper} {a : Act} {w : World} {Q : Exit → Act → World → Prop} (hgd : o.guard = none) (d x : Operand) (dT sT : TypeId)
    (ho : o.op = .call { callee := .builtin .copy, args := #[d, x], argTypes := #[dT, sT] }) (elem : TypeId) (hu : P.underlying dT = some (.slice elem)) (hsz : (P.info? elem).map (·.size) = some 1)
    (g off dLen dCap m : Nat) (s : ByteArray) (hd : a.eval d = .slice (some ⟨g, off, none⟩) dLen dCap) (hx : a.eval x = .string s) (cur : Array Value) (t : TypeId) (hg : w.heap[g]? = some (.cells cur t (0, 0)))
    (hm : Nat.min s.size dLen = m) (hfit : off + m ≤ cur.size) (cs : List Value) (hcs : cur.toList.take off ++ byteCells (s.data.toList.take m) ++ cur.toList.drop (off + m) = cs)
    (h : wpList P ops Q rest (a.put o.dst (goInt m)) (w.setRow g cs.toArray)) : wpList P ops Q (o :: rest) a w := by
  refine wpList_plain hgd fun K hK => ?_
  have hrun := run_copy_some_string (P := P) w dT sT o.type elem g off dLen dCap m s cur t hu hsz hg hm hfit
  unfold Oper.wp
  rw [hcs] at hrun
  simp [execOp, ho, resolve, invoke, builtin, hd, hx, hrun, Result.andThen]
  exact hK _ _ h

theorem make64 (w : World) : (Instr.makeSlice 96 (.int .i64 64) (.int .i64 64)).run Tryz.prog w = .ok (.slice (some ⟨w.heap.size, 0, none⟩) 64 64) (w.alloc (.cells (byteCells (zeros 64)).toArray 5)) := by
  obtain ⟨i0, hi, hz0, hz1, hz2⟩ := info_parts info5
  have h := run_make (P := Tryz.prog) w 96 5 i0 (.int .u8 0) Tryz.underlying96 hi hz0 .i64 .i64 64 64 (by omega) (by omega) (by rw [hz2]; omega) (by omega)
  have e : madeCells #[Value.int .u8 0] 64 = (byteCells (zeros 64)).toArray := by
    have := made_bytes 63
    rw [← this, Array.toArray_toList]
  rw [← e]
  simpa [hz1, Value.cells] using h

set_option maxRecDepth 20000 in
set_option maxHeartbeats 1000000 in
theorem masked_any (key : ByteArray) (hk : key.size ≤ 64) (m : UInt8) (w : World) :
    Calls Tryz.prog 67 #[.string key, .int .u8 (m.toNat : Int)] w fun e w' => e = .returned (.string (str (maskL m (fill64 key.data.toList)))) ∧ Below w.heap.size w w' := by
  have hmk := make64
  have hsk : key.data.toList.length = key.size := (size_eq key).symm
  have hmin : Nat.min key.size 64 = key.size := Nat.min_eq_left hk
  have hz64 : (byteCells (zeros 64)).toArray.size = 64 := by rw [List.size_toArray, byteCells_length]; simp [zeros]
  have hfit : 0 + key.size ≤ (byteCells (zeros 64)).toArray.size := by omega
  have hcs : (byteCells (zeros 64)).toArray.toList.take 0 ++ byteCells (key.data.toList.take key.size) ++ (byteCells (zeros 64)).toArray.toList.drop (0 + key.size) = byteCells (fill64 key.data.toList) := by
    rw [List.take_zero, List.nil_append, Nat.zero_add, List.take_of_length_le (by omega), fill64, byteCells_append, hsk, List.toList_toArray]
    congr 1
    rw [byteCells, byteCells, ← List.map_drop, zeros, zeros, List.drop_replicate]
  have hlen : (fill64 key.data.toList).length = 64 := fill64_length _ (by omega)
  obtain ⟨l, hl⟩ : ∃ l, fill64 key.data.toList = l := ⟨_, rfl⟩
  rw [hl] at hcs hlen ⊢
  clear hl hsk
  have hm8 := m.toNat_lt
  go_enter Tryz.func67, Tryz.ntmps67
  go_wp2_with (refine wpList_copy_string rfl _ _ 96 9 rfl 5 Tryz.underlying96 size5 w.heap.size 0 64 64 key.size key rfl rfl _ 5 (heap_new _ _) hmin hfit _ hcs ?_)
  rw [setRow_alloc]
  have h0 : (w.alloc (.cells (byteCells l).toArray 5)).heap[w.heap.size]? = some (.cells (byteCells (half m l 0)).toArray 5 (0, 0)) := by rw [half_zero]; exact heap_new _ _
  have hb0 : Below w.heap.size w (w.alloc (.cells (byteCells l).toArray 5)) := (Below.refl _ _).alloc (Nat.le_refl _) _
  clear hcs hfit hz64 hmin hmk
  go_loopg [13] 64 (fun gk i wr => ∃ k : Nat, k + gk = 64 ∧ i = .int .i64 k ∧ wr.heap[w.heap.size]? = some (.cells (byteCells (half m l k)).toArray 5 (0, 0)) ∧ Below w.heap.size w wr)
  case atStart => exact ⟨0, by omega, rfl, h0, hb0⟩
  case round =>
    clear h0 hb0
    obtain ⟨k, hk', rfl, hh, hbel⟩ := hrel
    have HK : Hid (k + gk = 64) := hk'
    have hk'' : k ≤ 64 := by omega
    clear hk'
    by_cases hlt : k < 64
    · obtain ⟨x, hx⟩ : ∃ x, l[k]? = some x := ⟨_, List.getElem?_eq_getElem (by omega)⟩
      have hc : wr.cell? ⟨w.heap.size, k, none⟩ = some (.int .u8 (x.toNat : Int)) := by
        rw [cell_of_heap hh, List.getElem?_toArray, byteCells, List.getElem?_map, half_at m l k (by omega), hx]
        rfl
      have hf : wr.frozen? ⟨w.heap.size, k, none⟩ = false := frozen_of_heap hh
      have hx8 := x.toNat_lt
      have hxor : bits .xor .u8 (x.toNat : Int) (m.toNat : Int) = ((x ^^^ m).toNat : Int) := by rw [u8_xor_nat _ _ hx8 hm8, UInt8.toNat_xor]
      have R : (wr.setCell ⟨w.heap.size, k, none⟩ (.int .u8 ((x ^^^ m).toNat : Int))).heap[w.heap.size]? = some (.cells (byteCells (half m l (k + 1))).toArray 5 (0, 0)) := by
        rw [← half_set m l k x hx]
        exact heap_setCell_same _ _ _ _ _ _ hh
      have hb' : Below w.heap.size w (wr.setCell ⟨w.heap.size, k, none⟩ (.int .u8 ((x ^^^ m).toNat : Int))) := hbel.setCell (Nat.le_refl _) _
      clear hh hx
      go_wp2
      go_roundg (gk - 1)
      case measure => have := HK.out; omega
      case rel => exact ⟨k + 1, by have := HK.out; omega, by go_num, R, hb'⟩
    · have e64 : k = l.length := by omega
      rw [e64, half_all] at hh
      have hcv := run_convert_bytes_back (P := Tryz.prog) wr 96 9 5 ⟨w.heap.size, 0, none⟩ 64 (maskL m l) Tryz.underlying96 Tryz.underlying5 Tryz.underlying9 (fun j hj => by
        rw [Addr.add_lit, Nat.zero_add, cell_of_heap hh, List.getElem?_toArray, byteCells, List.getElem?_map, List.getElem?_eq_getElem hj]
        rfl)
      rw [maskL_length, hlen] at hcv
      have e64' : k = 64 := by omega
      subst e64'
      clear hh e64
      go_wp2
      go_ret
      exact ⟨rfl, hbel⟩

end Go.Proofs.YtengclnahppmhaaGreatDoor
