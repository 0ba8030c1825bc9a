import Derived.Test.YtgeadhgomhgmoaaDoorRefG
namespace Go.Proofs.YtgeadhgomhgmoaaDoor
open Go.RowKit Go.Lib Go.Deep

/-- a list that marked made, in a row of its own -/
structure Mk (w : World) (g : Nat) (xs : List ByteArray) : Prop where
  cur : ∃ cur : Array Value, w.heap[g]? = some (.cells cur 9 (0, 0)) ∧ xs.length ≤ cur.size ∧ cur.toList.take xs.length = strCells xs
theorem Mk.lt {w : World} {g : Nat} {xs : List ByteArray} (h : Mk w g xs) : g < w.heap.size := by
  obtain ⟨cur, h1, _⟩ := h.cur
  exact heap_lt h1
theorem Mk.kept {w w' : World} {g : Nat} {xs : List ByteArray} (h : Mk w g xs) (hk : w'.heap[g]? = w.heap[g]?) : Mk w' g xs := by
  obtain ⟨cur, h1, h2⟩ := h.cur
  exact ⟨cur, hk.trans h1, h2⟩
theorem Mk.below {w w' : World} {B g : Nat} {xs : List ByteArray} (h : Mk w g xs) (hb : Below B w w') (hg : g < B) : Mk w' g xs := h.kept (hb.block g hg)
theorem Mk.cell {w : World} {g : Nat} {xs : List ByteArray} (h : Mk w g xs) (i : Nat) (s : ByteArray) (hs : xs[i]? = some s) : w.cell? ⟨g, i, none⟩ = some (.string s) := by
  obtain ⟨cur, h1, h2, h3⟩ := h.cur
  have hi : i < xs.length := (List.getElem?_eq_some_iff.1 hs).1
  have e : (cur.toList.take xs.length)[i]? = some (.string s) := by rw [h3]; simp [strCells, hs]
  rw [List.getElem?_take, if_pos hi, Array.getElem?_toList] at e
  rw [cell_of_heap h1]
  exact e
theorem Mk.frozen {w : World} {g : Nat} {xs : List ByteArray} (h : Mk w g xs) (i : Nat) : w.frozen? ⟨g, i, none⟩ = false := by
  obtain ⟨cur, h1, _⟩ := h.cur
  exact frozen_of_heap h1
theorem Mk.put {w : World} {g : Nat} {xs : List ByteArray} (h : Mk w g xs) (i : Nat) (s : ByteArray) : Mk (w.setCell ⟨g, i, none⟩ (.string s)) g (xs.set i s) := by
  obtain ⟨cur, h1, h2, h3⟩ := h.cur
  refine ⟨cur.setIfInBounds i (.string s), heap_setCell_same _ _ _ _ _ _ h1, by rw [List.length_set, Array.size_setIfInBounds]; exact h2, ?_⟩
  have e : strCells (xs.set i s) = (strCells xs).set i (.string s) := by simp [strCells]
  rw [List.length_set, e, ← h3, Array.toList_setIfInBounds, List.take_set]

set_option maxRecDepth 20000 in
set_option maxHeartbeats 1000000 in
theorem still_any (w : World) (g cp : Nat) (a : Option Addr) (len cap : Nat) (ss : List ByteArray) (hL : Lst w a len ss) (hM : Mk w g (ss ++ [mark1, mark2, mark3])) (hcp : len + 3 ≤ cp) (hlen : len ≤ 4611686018427387904) :
    Calls Tryd.prog 22 #[.slice (some ⟨g, 0, none⟩) (len + 3) cp, .slice a len cap] w fun e w' => e = .returned (.bool true) ∧ Below w.heap.size w w' := by
  have hl := hL.sz
  have c1 : w.cell? ⟨g, len, none⟩ = some (.string { data := #[109, 97, 114, 107, 32, 49] }) := hM.cell len mark1 (by rw [List.getElem?_append_right (by omega), hl, Nat.sub_self]; rfl)
  have c2 : w.cell? ⟨g, len + 1, none⟩ = some (.string { data := #[109, 97, 114, 107, 32, 50] }) := hM.cell (len + 1) mark2 (by rw [List.getElem?_append_right (by omega), hl, show len + 1 - len = 1 by omega]; rfl)
  have c3 : w.cell? ⟨g, len + 2, none⟩ = some (.string { data := #[109, 97, 114, 107, 32, 51] }) := hM.cell (len + 2) mark3 (by rw [List.getElem?_append_right (by omega), hl, show len + 2 - len = 2 by omega]; rfl)
  have HL : Hid (Lst w a len ss) := hL
  have HM : Hid (Mk w g (ss ++ [mark1, mark2, mark3])) := hM
  clear hL hM
  have w1 : IntKind.i64.wrap ((len : Int) + 1) = (len : Int) + 1 := by rw [IntKind.wrap_i64]; omega
  have w2 : IntKind.i64.wrap ((len : Int) + 2) = (len : Int) + 2 := by rw [IntKind.wrap_i64]; omega
  have w3 : IntKind.i64.wrap ((len : Int) + 3) = (len : Int) + 3 := by rw [IntKind.wrap_i64]; omega
  have n1 : ((len : Int) + 1).toNat = len + 1 := by omega
  have n2 : ((len : Int) + 2).toNat = len + 2 := by omega
  have q0 : (len : Int) < (len : Int) + 3 := by omega
  have q1 : (len : Int) + 1 < (len : Int) + 3 := by omega
  have q2 : (len : Int) + 2 < (len : Int) + 3 := by omega
  have p1 : (0 : Int) ≤ (len : Int) + 1 := by omega
  have p2 : (0 : Int) ≤ (len : Int) + 2 := by omega
  go_enter Tryd.func22, Tryd.ntmps22
  go_wp2
  clear c1 c2 c3 w1 w2 w3 n1 n2 q0 q1 q2 p1 p2
  go_loopg [6] len (fun gk i wr => ∃ k : Nat, k + gk = len ∧ i = .int .i64 k ∧ Below w.heap.size w wr)
  case atStart => exact ⟨0, by omega, rfl, Below.refl _ _⟩
  case round =>
    obtain ⟨k, hk, rfl, hbel⟩ := hrel
    have HK : Hid (k + gk = len) := hk
    have hk' : k ≤ len := by omega
    clear hk
    by_cases hlt : k < len
    · obtain ⟨s, hs⟩ : ∃ s, ss[k]? = some s := ⟨_, List.getElem?_eq_getElem (by omega)⟩
      obtain ⟨b, off, rfl, hbl, hcell⟩ := (HL.out.below hbel).cell k s hs
      have hc2 := (HM.out.below hbel HM.out.lt).cell k s (by rw [List.getElem?_append_left (by omega)]; exact hs)
      clear hs hbl
      have hkI : (k : Int) < (len : Int) + 3 := by omega
      go_wp2_with fail
      go_quiet (fail)
      have hb' : Below w.heap.size w (wr.drewN nq) := hbel.trans ((below_drewN wr nq).mono hbel.size)
      clear hcell hc2
      go_wp2
      go_roundg (gk - 1)
      case measure => have := HK.out; omega
      case rel => exact ⟨k + 1, by have := HK.out; omega, by go_num, hb'⟩
    · obtain rfl : k = len := by omega
      go_wp2
      go_ret
      exact ⟨rfl, hbel⟩

/-- a text turned into another -/
def twist (s : ByteArray) : ByteArray := if s.size = 0 then str [120] else str ((s.data.toList.getD 0 0 ^^^ 1) :: s.data.toList.drop 1)
theorem twist_size (s : ByteArray) : (twist s).size ≤ s.size + 1 := by
  unfold twist
  split
  · rw [str_size]; simp
  · rw [str_size, List.length_cons, List.length_drop, ← size_eq]; omega
theorem twist_join : ∀ (ss : List ByteArray), (joinL (ss.map twist)).length ≤ (joinL ss).length + ss.length
  | [] => by simp [joinL]
  | s :: r => by
    have h := twist_join r
    have h1 := twist_size s
    have e : (joinL ((s :: r).map twist)).length = (twist s).size + (joinL (r.map twist)).length := by rw [size_eq]; simp [joinL]
    have e2 : (joinL (s :: r)).length = s.size + (joinL r).length := by rw [size_eq]; simp [joinL]
    rw [e, e2, List.length_cons]
    omega

end Go.Proofs.YtgeadhgomhgmoaaDoor
