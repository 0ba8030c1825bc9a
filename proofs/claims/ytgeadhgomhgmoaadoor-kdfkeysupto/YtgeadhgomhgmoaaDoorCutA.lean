import Derived.Test.YtgeadhgomhgmoaaDoorShaY
namespace Go.Proofs.YtgeadhgomhgmoaaDoor
open Go.RowKit Go.Lib Go.Deep

/-- a list of texts as it was handed in -/
structure Lst (w : World) (a : Option Addr) (len : Nat) (ss : List ByteArray) : Prop where
  sz : ss.length = len
  top : len ≤ 9223372036854775807
  cell : ∀ i s, ss[i]? = some s → ∃ b off, a = some ⟨b, off, none⟩ ∧ b < w.heap.size ∧ w.cell? ⟨b, off + i, none⟩ = some (.string s)
theorem Lst.below {w w' : World} {a : Option Addr} {len : Nat} {ss : List ByteArray} (h : Lst w a len ss) (hb : Below w.heap.size w w') : Lst w' a len ss := by
  refine ⟨h.sz, h.top, fun i s hs => ?_⟩
  obtain ⟨b, off, rfl, hlt, hc⟩ := h.cell i s hs
  exact ⟨b, off, rfl, by have := hb.size; omega, (hb.cell (p := ⟨b, off + i, none⟩) hlt).trans hc⟩

set_option maxRecDepth 20000 in
set_option maxHeartbeats 1000000 in
theorem beyond_any (w : World) (a : Option Addr) (len cap : Nat) (ss : List ByteArray) (hL : Lst w a len ss) :
    Calls Tryd.prog 12 #[.slice a len cap] w (Byd w ss len) := by
  have HL : Hid (Lst w a len ss) := hL
  have hl := hL.sz
  have hlc := hL.top
  clear hL
  go_enter Tryd.func12, Tryd.ntmps12
  go_wp2
  go_loopg [3, 4] len (fun gk v i wr => ∃ k : Nat, k + gk = len ∧ i = .int .i64 k ∧ v = .int .i64 (((joinL (ss.take k)).length + k : Nat) : Int) ∧ (joinL (ss.take k)).length + k ≤ 4294967295 ∧ w = wr)
  case atStart => exact ⟨0, by omega, rfl, rfl, by simp [joinL], rfl⟩
  case round =>
    obtain ⟨k, hk, rfl, rfl, hn, rfl⟩ := hrel
    have HK : Hid (k + gk = len) := hk
    have hk' : k ≤ len := by omega
    clear hk
    by_cases hlt : k < len
    · obtain ⟨s, hs⟩ : ∃ s, ss[k]? = some s := ⟨_, List.getElem?_eq_getElem (by omega)⟩
      obtain ⟨b, off, rfl, hbl, hcell⟩ := HL.out.cell k s hs
      have HJ : Hid ((joinL (ss.take (k + 1))).length = (joinL (ss.take k)).length + s.size) := by show _ = _; rw [joinL_take ss k s hs, List.length_append, ← size_eq]
      clear hs hbl
      obtain ⟨m, hm⟩ : ∃ m, (joinL (ss.take k)).length + k = m := ⟨_, rfl⟩
      rw [hm] at hn ⊢
      have HM : Hid ((joinL (ss.take k)).length + k = m) := hm
      clear hm
      by_cases h1 : 2147483647 < s.size
      · have h1' : decide ((2147483647 : Int) < (s.size : Int)) = true := by simp; omega
        go_wp2
        go_ret
        exact ⟨true, rfl, (fun h => by cases h), rfl⟩
      · have h1' : decide ((2147483647 : Int) < (s.size : Int)) = false := by simp; omega
        by_cases h2 : 2147483647 < m
        · have h2' : decide ((2147483647 : Int) < (m : Int)) = true := by simp; omega
          go_wp2
          go_ret
          exact ⟨true, rfl, (fun h => by cases h), rfl⟩
        · have h2' : decide ((2147483647 : Int) < (m : Int)) = false := by simp; omega
          have w1 : IntKind.i64.wrap ((m : Int) + (s.size : Int)) = ((m + s.size : Nat) : Int) := by rw [IntKind.wrap_i64]; omega
          go_wp2
          go_roundg (gk - 1)
          case measure => have := HK.out; omega
          case rel => exact ⟨k + 1, by have := HK.out; omega, by go_num, by rw [HJ.out]; have := HM.out; congr 1; omega, by rw [HJ.out]; have := HM.out; omega, rfl⟩
    · obtain rfl : k = len := by omega
      rw [List.take_of_length_le (by omega)] at hn ⊢
      obtain ⟨m, hm⟩ : ∃ m, (joinL ss).length + k = m := ⟨_, rfl⟩
      rw [hm] at hn ⊢
      go_wp2
      go_ret
      exact ⟨_, rfl, (fun h => by simp at h; omega), rfl⟩

def strCells (ss : List ByteArray) : List Value := ss.map Value.string
theorem strCells_length (ss : List ByteArray) : (strCells ss).length = ss.length := by simp [strCells]
theorem strCells_one (ss : List ByteArray) : ∀ v ∈ strCells ss, v.oneCell' = true := by
  intro v hv
  obtain ⟨n, _, rfl⟩ := List.mem_map.1 hv
  rfl
theorem strCells_take (ss : List ByteArray) (k : Nat) (s : ByteArray) (h : ss[k]? = some s) : strCells (ss.take (k + 1)) = strCells (ss.take k) ++ [.string s] := by
  rw [List.take_add_one, h]
  simp [strCells]
theorem info9 : (Tryd.prog.info? 9).map (fun i => (i.zero, i.size, i.bytes)) = some (some (.string { data := #[] }), 1, 16) := by kernel_rfl

def mark1 : ByteArray := { data := #[109, 97, 114, 107, 32, 49] }
def mark2 : ByteArray := { data := #[109, 97, 114, 107, 32, 50] }
def mark3 : ByteArray := { data := #[109, 97, 114, 107, 32, 51] }

set_option maxRecDepth 20000 in
set_option maxHeartbeats 1000000 in
theorem marked_any (w : World) (a : Option Addr) (len cap : Nat) (ss : List ByteArray) (hL : Lst w a len ss) (hsm : len ≤ 2147483647) :
    Calls Tryd.prog 19 #[.slice a len cap] w fun e w' => ∃ v, e = .returned v ∧ w'.ownsRow w.heap.size 9 1 v (len + 3) (strCells ss ++ [.string mark1, .string mark2, .string mark3]) ∧ Below w.heap.size w w' := by
  obtain ⟨i0, hi, hz0, hz1, hz2⟩ := info_parts info9
  have HL : Hid (Lst w a len ss) := hL
  have hl := hL.sz
  clear hL
  go_enter Tryd.func19, Tryd.ntmps19
  go_wp2
  go_loopg [3, 4] len (fun gk v i wr => ∃ k : Nat, k + gk = len ∧ i = .int .i64 k ∧ wr.ownsRow w.heap.size 9 1 v k (strCells (ss.take k)) ∧ Below w.heap.size w wr)
  case atStart => exact ⟨0, by omega, rfl, World.ownsRow_nil _ _ _ _, Below.refl _ _⟩
  case round =>
    obtain ⟨k, hk, rfl, hown, hbel⟩ := hrel
    have HK : Hid (k + gk = len) := hk
    have hk' : k ≤ len := by omega
    clear hk
    have hml : k + 3 ≤ maxLen := by unfold maxLen; omega
    by_cases hlt : k < len
    · obtain ⟨s, hs⟩ : ∃ s, ss[k]? = some s := ⟨_, List.getElem?_eq_getElem (by omega)⟩
      obtain ⟨b, off, rfl, hbl, hcell⟩ := (HL.out.below hbel).cell k s hs
      have HS : Hid (strCells (ss.take (k + 1)) = strCells (ss.take k) ++ [.string s]) := strCells_take ss k s hs
      clear hs hbl
      have hone : ∀ u ∈ [Value.string s], u.oneCell' = true := strCells_one [s]
      go_wp2_with (at_builtin; refine wpList_append_own _ rfl _ _ 29 rfl w.heap.size 9 i0 (.string { data := #[] }) 1 16 Tryd.underlying29 hi hz0 hz1 hz2 rfl (by decide) _ _ _ rfl (hown.alloc _) ⟨wr.heap.size, 0, none⟩ 1 1 [.string s] rfl rfl (by intro j u h; exact cells_new wr #[.string s] 9 j u (by simpa using h)) hone (by omega) (by omega) (by have := hbel.size; simp; omega) ?_; intro v' w' hown' hgrow' _)
      have R : w'.ownsRow w.heap.size 9 1 v' (k + 1) (strCells (ss.take (k + 1))) := by rw [HS.out]; exact hown'
      have hb' : Below w.heap.size w w' := by
        have h1 := hbel.alloc hbel.size (.cells #[.string s] 9)
        exact h1.trans (grown_below hgrow' h1.size (hown.alloc _))
      clear hown' hgrow' hown hcell
      go_wp2
      go_roundg (gk - 1)
      case measure => have := HK.out; omega
      case rel => exact ⟨k + 1, by have := HK.out; omega, by go_num, R, hb'⟩
    · obtain rfl : k = len := by omega
      rw [List.take_of_length_le (by omega)] at hown
      have hone : ∀ u ∈ [Value.string mark1, .string mark2, .string mark3], u.oneCell' = true := strCells_one [mark1, mark2, mark3]
      go_wp2_with (at_builtin; refine wpList_append_own _ rfl _ _ 29 rfl w.heap.size 9 i0 (.string { data := #[] }) 1 16 Tryd.underlying29 hi hz0 hz1 hz2 rfl (by decide) _ _ _ rfl (hown.alloc _) ⟨wr.heap.size, 0, none⟩ 3 3 [.string mark1, .string mark2, .string mark3] rfl rfl (by intro j u h; exact cells_new wr #[.string mark1, .string mark2, .string mark3] 9 j u (by simpa using h)) hone hml (by omega) (by have := hbel.size; simp; omega) ?_; intro v' w' hown' hgrow' _)
      have hb' : Below w.heap.size w w' := by
        have h1 := hbel.alloc hbel.size (.cells #[.string mark1, .string mark2, .string mark3] 9)
        exact h1.trans (grown_below hgrow' h1.size (hown.alloc _))
      go_ret
      exact ⟨_, rfl, hown', hb'⟩

end Go.Proofs.YtgeadhgomhgmoaaDoor
