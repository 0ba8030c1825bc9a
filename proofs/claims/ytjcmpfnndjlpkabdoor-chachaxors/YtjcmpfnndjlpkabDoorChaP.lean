import Derived.Test.YtjcmpfnndjlpkabDoorChaA
namespace Go.Proofs.YtjcmpfnndjlpkabDoor
open Go.RowKit Go.Lib

theorem xor_twice (a b : UInt8) : (a ^^^ b) ^^^ b = a := by rw [UInt8.xor_assoc, UInt8.xor_self, UInt8.xor_zero]

/-- what was laid over comes off again -/
theorem overL_twice (key : List UInt8) (c : Nat) (nonce data : List UInt8) : overL key c nonce (overL key c nonce data) = data := by
  apply List.ext_getElem
  · rw [overL_length, overL_length]
  · intro i h1 h2
    have e : (overL key c nonce data).getD i 0 = data.getD i 0 ^^^ streamB key c nonce i := overL_getD key c nonce data i h2
    have e2 := overL_getD key c nonce (overL key c nonce data) i (by rw [overL_length]; exact h2)
    rw [e, xor_twice, List.getD_eq_getElem?_getD, List.getElem?_eq_getElem h1, List.getD_eq_getElem?_getD, List.getElem?_eq_getElem h2] at e2
    exact e2

theorem getD_left (a b : List UInt8) (i : Nat) (h : i < a.length) : (a ++ b).getD i 0 = a.getD i 0 := getD_append_left a b i h

/-- the stream goes by blocks -/
theorem overL_append (key : List UInt8) (c : Nat) (nonce a b : List UInt8) (k : Nat) (hk : a.length = 64 * k) : overL key c nonce (a ++ b) = overL key c nonce a ++ overL key (c + k) nonce b := by
  unfold overL overN
  rw [List.length_append, List.range_add, List.map_append, List.map_map]
  congr 1
  · apply List.map_congr_left
    intro i hi
    rw [getD_append_left a b i (List.mem_range.1 hi)]
  · apply List.map_congr_left
    intro i hi
    show (a ++ b).getD (a.length + i) 0 ^^^ streamB key c nonce (a.length + i) = b.getD i 0 ^^^ streamB key (c + k) nonce i
    rw [getD_append_right a b i]
    unfold streamB
    rw [hk, show (64 * k + i) / 64 = k + i / 64 by omega, show (64 * k + i) % 64 = i % 64 by omega, Nat.add_assoc]

/-- so many blocks -/
def catN (key : List UInt8) (c : Nat) (nonce : List UInt8) : Nat → List UInt8
  | 0 => []
  | n + 1 => catN key c nonce n ++ blockL key (c + n) nonce
theorem catN_length (key : List UInt8) (c : Nat) (nonce : List UInt8) : ∀ n, (catN key c nonce n).length = 64 * n
  | 0 => rfl
  | n + 1 => by rw [catN, List.length_append, catN_length key c nonce n, blockL_length]; omega
theorem map_range_getD (l : List UInt8) : (List.range l.length).map (fun i => l.getD i 0) = l := by
  apply List.ext_getElem
  · simp
  · intro i h1 h2
    simp [List.getD_eq_getElem?_getD, h2]
theorem catN_eq (key : List UInt8) (c : Nat) (nonce : List UInt8) : ∀ n, catN key c nonce n = (List.range (64 * n)).map (streamB key c nonce)
  | 0 => rfl
  | n + 1 => by
    rw [catN, catN_eq key c nonce n, show 64 * (n + 1) = 64 * n + 64 by omega, List.range_add, List.map_append, List.map_map]
    congr 1
    have h := map_range_getD (blockL key (c + n) nonce)
    rw [blockL_length] at h
    rw [← h]
    apply List.map_congr_left
    intro i hi
    have hi' := List.mem_range.1 hi
    show (blockL key (c + n) nonce).getD i 0 = streamB key c nonce (64 * n + i)
    unfold streamB
    rw [show (64 * n + i) / 64 = n by omega, show (64 * n + i) % 64 = i by omega]
theorem over_zeros (key : List UInt8) (c : Nat) (nonce : List UInt8) (l n : Nat) (h : l ≤ 64 * n) : overL key c nonce (List.replicate l 0) = (catN key c nonce n).take l := by
  rw [catN_eq, ← List.map_take, List.take_range, Nat.min_eq_left h]
  unfold overL overN
  rw [List.length_replicate]
  apply List.map_congr_left
  intro i hi
  have hi' := List.mem_range.1 hi
  have e : (List.replicate l (0 : UInt8)).getD i 0 = 0 := by
    rw [List.getD_eq_getElem?_getD, List.getElem?_replicate, if_pos hi']
    rfl
  rw [e, UInt8.zero_xor]

end Go.Proofs.YtjcmpfnndjlpkabDoor
