import Derived.Test.YtjjabkimmgcejaaDoorShaG
import Derived.Test.YtjjabkimmgcejaaDoorLawsF
namespace Go.Proofs.YtjjabkimmgcejaaDoor
open Go.RowKit Go.Lib Go.Deep

/-- so many blocks of a text, and what is left -/
def eatN : Nat → W8 → List UInt8 → W8 × List UInt8
  | 0, s, l => (s, l)
  | k + 1, s, l => eatN k (mix s (l.take 64)) (l.drop 64)
/-- all whole blocks of a text -/
def eat (s : W8) (l : List UInt8) : W8 × List UInt8 := eatN (l.length / 64) s l

theorem eat_short (s : W8) (l : List UInt8) (h : l.length < 64) : eat s l = (s, l) := by
  unfold eat
  rw [Nat.div_eq_of_lt h]
  rfl
theorem eat_block (s : W8) (l : List UInt8) (h : 64 ≤ l.length) : eat s l = eat (mix s (l.take 64)) (l.drop 64) := by
  unfold eat
  rw [List.length_drop, show l.length / 64 = (l.length - 64) / 64 + 1 by omega]
  rfl
theorem eatN_OK : ∀ (k : Nat) (s : W8) (l : List UInt8), s.OK → (eatN k s l).1.OK
  | 0, _, _, h => h
  | k + 1, s, _, _ => eatN_OK k _ _ (mix_OK s _)
theorem eat_OK (s : W8) (l : List UInt8) (h : s.OK) : (eat s l).1.OK := eatN_OK _ s l h
theorem eatN_length : ∀ (k : Nat) (s : W8) (l : List UInt8), (eatN k s l).2.length = l.length - 64 * k
  | 0, _, l => by simp [eatN]
  | k + 1, s, l => by rw [eatN, eatN_length k, List.length_drop]; omega
theorem eat_length (s : W8) (l : List UInt8) : (eat s l).2.length = l.length % 64 := by
  unfold eat
  rw [eatN_length]
  omega

/-- one behind the other -/
theorem eatN_append : ∀ (k : Nat) (s : W8) (l r : List UInt8), 64 * k ≤ l.length → eatN k s (l ++ r) = ((eatN k s l).1, (eatN k s l).2 ++ r)
  | 0, _, _, _, _ => rfl
  | k + 1, s, l, r, h => by
    rw [eatN, eatN, List.take_append_of_le_length (by omega), List.drop_append_of_le_length (by omega)]
    exact eatN_append k _ _ r (by rw [List.length_drop]; omega)
theorem eatN_add : ∀ (k m : Nat) (s : W8) (l : List UInt8), eatN (k + m) s l = eatN m (eatN k s l).1 (eatN k s l).2
  | 0, m, s, l => by rw [Nat.zero_add]; rfl
  | k + 1, m, s, l => by
    rw [show k + 1 + m = (k + m) + 1 by omega, eatN, eatN]
    exact eatN_add k m _ _
theorem eat_append (s : W8) (l r : List UInt8) : eat s (l ++ r) = eat (eat s l).1 ((eat s l).2 ++ r) := by
  have h1 := eat_length s l
  have e : (l ++ r).length / 64 = l.length / 64 + ((eat s l).2 ++ r).length / 64 := by
    rw [List.length_append, List.length_append, h1]
    omega
  have h2 := eatN_append (l.length / 64) s l r (by omega)
  conv => lhs; rw [eat, e, eatN_add, h2]
  rfl

def zeros (n : Nat) : List UInt8 := List.replicate n 0
/-- a running sum's cells -/
def hcells (s : W8) (r : List UInt8) (n : Nat) : List Value := [Value.bool true] ++ u32L s.list ++ byteCells (r ++ zeros (64 - r.length)) ++ [Value.int .u64 (n : Int)]

/-- a running sum in memory: the words, the bytes that fill no block yet, the count -/
structure Hs (w : World) (p : Nat) (s : W8) (r : List UInt8) (n : Nat) : Prop where
  heap : w.heap[p]? = some (.cells (hcells s r n).toArray 69 (0, 0))
  ok : s.OK
  len : r.length = n % 64
  big : n < 9223372036854775808
  own : 4 ≤ p

theorem Hs.kept {w w' : World} {p : Nat} {s : W8} {r : List UInt8} {n : Nat} (h : Hs w p s r n) (hk : w'.heap[p]? = w.heap[p]?) : Hs w' p s r n := ⟨hk.trans h.heap, h.ok, h.len, h.big, h.own⟩
theorem Hs.lt {w : World} {p : Nat} {s : W8} {r : List UInt8} {n : Nat} (h : Hs w p s r n) : p < w.heap.size := heap_lt h.heap
theorem Hs.only {w w' : World} {S : List Nat} {p : Nat} {s : W8} {r : List UInt8} {n : Nat} (h : Hs w p s r n) (ho : Only S w w') (hp : p ∉ S) : Hs w' p s r n := h.kept (ho.block p h.lt hp)
theorem Hs.below {w w' : World} {B : Nat} {p : Nat} {s : W8} {r : List UInt8} {n : Nat} (h : Hs w p s r n) (ho : Below B w w') (hp : p < B) : Hs w' p s r n := h.kept (ho.block p hp)

theorem hcells_length (s : W8) (r : List UInt8) (n : Nat) (h : r.length ≤ 64) : (hcells s r n).length = 74 := by
  simp [hcells, u32L, W8.list, byteCells, zeros]
  omega
theorem hcells_made (s : W8) (r : List UInt8) (n : Nat) : (hcells s r n)[0]? = some (.bool true) := rfl
theorem hcells_count (s : W8) (r : List UInt8) (n : Nat) (h : r.length ≤ 64) : (hcells s r n)[73]? = some (.int .u64 (n : Int)) := by
  have hl : ([Value.bool true] ++ u32L s.list ++ byteCells (r ++ zeros (64 - r.length))).length = 73 := by
    simp [u32L, W8.list, byteCells, zeros]
    omega
  rw [hcells, List.getElem?_append_right (by omega), hl]
  rfl
theorem Hs.rlen {w : World} {p : Nat} {s : W8} {r : List UInt8} {n : Nat} (h : Hs w p s r n) : r.length ≤ 64 := by have := h.len; omega
theorem Hs.made {w : World} {p : Nat} {s : W8} {r : List UInt8} {n : Nat} (h : Hs w p s r n) : w.cell? ⟨p, 0, none⟩ = some (.bool true) := by
  rw [cell_of_heap h.heap]
  rfl
theorem Hs.count {w : World} {p : Nat} {s : W8} {r : List UInt8} {n : Nat} (h : Hs w p s r n) : w.cell? ⟨p, 73, none⟩ = some (.int .u64 (n : Int)) := by
  rw [cell_of_heap h.heap, List.getElem?_toArray]
  exact hcells_count s r n h.rlen
theorem Hs.words {w : World} {p : Nat} {s : W8} {r : List UInt8} {n : Nat} (h : Hs w p s r n) : w.rangeAt p 1 (u32L s.list) :=
  range_of_heap (pre := [Value.bool true]) (post := byteCells (r ++ zeros (64 - r.length)) ++ [Value.int .u64 (n : Int)]) h.heap (by simp [hcells])
theorem Hs.rest {w : World} {p : Nat} {s : W8} {r : List UInt8} {n : Nat} (h : Hs w p s r n) : w.rangeAt p 9 (byteCells (r ++ zeros (64 - r.length))) :=
  range_of_heap (pre := [Value.bool true] ++ u32L s.list) (post := [Value.int .u64 (n : Int)]) h.heap (by simp [hcells])

theorem filled_any {w : World} {p : Nat} {n : Nat} (h : w.cell? ⟨p, 73, none⟩ = some (.int .u64 (n : Int))) (hn : n < 9223372036854775808) :
    Calls Tryd.prog 44 #[.pointer (some ⟨p, 0, none⟩)] w fun e w' => e = .returned (.int .i64 ((n % 64 : Nat) : Int)) ∧ w = w' := by
  have h1 : ((n : Int).tmod 64) = (n : Int) % 64 := Int.tmod_eq_emod_of_nonneg (by omega)
  go_enter Tryd.func44, Tryd.ntmps44
  go_wp2
  go_ret
  exact ⟨by simp, rfl⟩

theorem there_yes {w : World} {p : Nat} (h : w.cell? ⟨p, 0, none⟩ = some (.bool true)) :
    Calls Tryd.prog 46 #[.pointer (some ⟨p, 0, none⟩)] w fun e w' => e = .returned (.bool true) ∧ w = w' := by
  go_enter Tryd.func46, Tryd.ntmps46
  go_wp2
  go_ret
  exact ⟨rfl, rfl⟩
theorem there_nil (w : World) :
    Calls Tryd.prog 46 #[.pointer none] w fun e w' => e = .returned (.bool false) ∧ w = w' := by
  go_enter Tryd.func46, Tryd.ntmps46
  go_wp2
  go_ret
  exact ⟨rfl, rfl⟩

end Go.Proofs.YtjjabkimmgcejaaDoor
