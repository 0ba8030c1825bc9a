import Derived.Test.YtebhmebldemndaaDoorBaseM
import Derived.Test.YtebhmebldemndaaDoorChM1
namespace Go.Proofs.YtebhmebldemndaaDoor.Cha
open Go.RowKit Go.Lib

/-- a block laid over a part of a text, up to k -/
def layN (l : List UInt8) (off : Nat) (b : List UInt8) : Nat → List UInt8
  | 0 => l
  | k + 1 => (layN l off b k).set (off + k) (l.getD (off + k) 0 ^^^ b.getD k 0)
theorem layN_length (l : List UInt8) (off : Nat) (b : List UInt8) : ∀ k, (layN l off b k).length = l.length
  | 0 => rfl
  | k + 1 => by rw [layN, List.length_set, layN_length l off b k]
theorem layN_at (l : List UInt8) (off : Nat) (b : List UInt8) : ∀ k j, off + k ≤ j → (layN l off b k)[j]? = l[j]?
  | 0, _, _ => rfl
  | k + 1, j, h => by rw [layN, List.getElem?_set_ne (by omega)]; exact layN_at l off b k j (by omega)

/-- the first k bytes of a text under the stream -/
def outK (key : List UInt8) (c : Nat) (nonce data : List UInt8) (k : Nat) : List UInt8 := overN key c nonce data k ++ data.drop k
theorem outK_zero (key : List UInt8) (c : Nat) (nonce data : List UInt8) : outK key c nonce data 0 = data := by simp [outK, overN]
theorem outK_all (key : List UInt8) (c : Nat) (nonce data : List UInt8) : outK key c nonce data data.length = overL key c nonce data := by simp [outK, overL]
theorem outK_length (key : List UInt8) (c : Nat) (nonce data : List UInt8) (k : Nat) (h : k ≤ data.length) : (outK key c nonce data k).length = data.length := by rw [outK, List.length_append, overN_length, List.length_drop]; omega
theorem outK_at (key : List UInt8) (c : Nat) (nonce data : List UInt8) (k j : Nat) (h : k ≤ j) : (outK key c nonce data k).getD j 0 = data.getD j 0 := by
  rw [List.getD_eq_getElem?_getD, outK, List.getElem?_append_right (by rw [overN_length]; exact h), overN_length, List.getElem?_drop, show k + (j - k) = j by omega, List.getD_eq_getElem?_getD]
theorem outK_set (key : List UInt8) (c : Nat) (nonce data : List UInt8) (k : Nat) (h : k < data.length) : (outK key c nonce data k).set k (data.getD k 0 ^^^ streamB key c nonce k) = outK key c nonce data (k + 1) := by
  have hd : data.drop k = data.getD k 0 :: data.drop (k + 1) := by
    rw [List.drop_eq_getElem_cons h, List.getD_eq_getElem?_getD, List.getElem?_eq_getElem h]
    rfl
  rw [outK, List.set_append_right _ _ (by rw [overN_length]; exact Nat.le_refl _), overN_length, Nat.sub_self, hd, outK, overN_succ, List.append_assoc]
  rfl
theorem lay_out (key : List UInt8) (c : Nat) (nonce data : List UInt8) (n : Nat) : ∀ k, k ≤ 64 → 64 * n + k ≤ data.length → layN (outK key c nonce data (64 * n)) (64 * n) (blockL key (c + n) nonce) k = outK key c nonce data (64 * n + k)
  | 0, _, _ => rfl
  | k + 1, h1, h2 => by
    rw [layN, lay_out key c nonce data n k (by omega) (by omega), outK_at key c nonce data (64 * n) (64 * n + k) (by omega), show 64 * n + (k + 1) = (64 * n + k) + 1 by omega, ← outK_set key c nonce data (64 * n + k) (by omega)]
    unfold streamB
    rw [show (64 * n + k) / 64 = n by omega, show (64 * n + k) % 64 = k by omega]

set_option maxRecDepth 20000 in
set_option maxHeartbeats 1000000 in
theorem lay_any (blk : ByteArray) (g off m cap : Nat) (l : List UInt8) (w : World) (hb : Buf w g l) (hom : off + m ≤ l.length) (hm : m ≤ blk.size) (hbs : blk.size ≤ 64) (_hl : l.length ≤ 281474976710656) :
    Calls Tryd.prog 32 #[.string blk, .slice (some ⟨g, off, none⟩) m cap] w fun e w' => e = .returned (.tuple #[]) ∧ Buf w' g (layN l off blk.data.toList m) ∧ Only [g] w w' := by
  have hbl : blk.data.toList.length = blk.size := (size_eq blk).symm
  go_enter Tryd.func32, Tryd.ntmps32
  go_wp2
  go_loopg [7] m (fun gk i wr => ∃ k : Nat, k + gk = m ∧ i = .int .i64 k ∧ Buf wr g (layN l off blk.data.toList k) ∧ Only [g] w wr)
  case atStart => exact ⟨0, by omega, rfl, hb, Only.refl _ _⟩
  case round =>
    clear hb
    obtain ⟨k, hkk, rfl, hb, hon⟩ := hrel
    have HK : Hid (k + gk = m) := hkk
    have hk' : k ≤ m := by omega
    clear hkk
    by_cases hlt : k < m
    · have hltI : (k : Int) < (m : Int) := by omega
      obtain ⟨x, hx⟩ : ∃ x, l[off + k]? = some x := ⟨_, List.getElem?_eq_getElem (by omega)⟩
      obtain ⟨y, hy⟩ : ∃ y, blk.data.toList[k]? = some y := ⟨_, List.getElem?_eq_getElem (by omega)⟩
      have hx8 := x.toNat_lt
      have hy8 := y.toNat_lt
      have hxor : bits .xor .u8 (x.toNat : Int) (y.toNat : Int) = ((x ^^^ y).toNat : Int) := by rw [u8_xor_nat _ _ hx8 hy8, UInt8.toNat_xor]
      have hiy := fun W => rindex_at (P := Tryd.prog) W 9 blk .i64 (k : Int) k y Tryd.underlying9 rfl hy
      have c0 := hb.cell (off + k) x (by rw [layN_at l off blk.data.toList k (off + k) (Nat.le_refl _)]; exact hx)
      have f0 := hb.frozen (off + k) (by rw [layN_length]; omega)
      have c0d : wr.drew.cell? ⟨g, off + k, none⟩ = some (.int .u8 (x.toNat : Int)) := c0
      have f0d : wr.drew.frozen? ⟨g, off + k, none⟩ = false := f0
      have hput := hb.put (off + k) (x ^^^ y)
      have HL : Hid ((layN l off blk.data.toList k).set (off + k) (x ^^^ y) = layN l off blk.data.toList (k + 1)) := by
        show _ = _
        rw [layN, List.getD_eq_getElem?_getD, List.getD_eq_getElem?_getD, hx, hy]
        rfl
      rw [HL.out] at hput
      have hon2 := (hon.setCell (p := ⟨g, off + k, none⟩) (by simp) (.int .u8 ((x ^^^ y).toNat : Int)))
      clear hx hy hx8 hy8 hb HL
      revert hxor hiy c0 c0d hput hon2
      generalize (x.toNat : Int) = xi
      generalize (y.toNat : Int) = yi
      generalize ((x ^^^ y).toNat : Int) = zi
      intro hxor hiy c0 c0d hput hon2
      have hputd : Buf (wr.setCell ⟨g, off + k, none⟩ (.int .u8 zi)).drew g (layN l off blk.data.toList (k + 1)) := hput.kept rfl
      have hond : Only [g] w (wr.setCell ⟨g, off + k, none⟩ (.int .u8 zi)).drew := ⟨hon2.os, hon2.tape, hon2.output, hon2.size, hon2.block⟩
      go_wp2_with fail
      go_region
      refine with_world (R := fun W => Exit.inBlock _ _ _ _ W) (Q := fun W => Buf W g (layN l off blk.data.toList (k + 1)) ∧ Only [g] w W) _ ⟨hputd, hond⟩ ?_
      clear hputd hond hput hon2 c0 c0d f0 f0d hxor hiy
      rintro w9 ⟨hput, hon2⟩
      go_wp2
      go_roundg (gk - 1)
      case measure => have := HK.out; omega
      case rel => exact ⟨k + 1, by have := HK.out; omega, by go_num, hput, hon2⟩
    · obtain rfl : k = m := by omega
      have hltI : ¬ (k : Int) < (k : Int) := by omega
      go_wp2
      go_end0
      exact ⟨rfl, hb, hon⟩

theorem blocksIn_any (n : Nat) (hn : n ≤ 281474976710656) (w : World) : Calls Tryd.prog 30 #[.int .i64 (n : Int)] w fun e w' => e = .returned (.int .i64 (((n + 63) / 64 : Nat) : Int)) ∧ w = w' := by
  have h1 : IntKind.i64.wrap ((n : Int) + 64) = (n : Int) + 64 := by rw [IntKind.wrap_i64]; omega
  have h2 : IntKind.i64.wrap ((n : Int) + 64 - 1) = (n : Int) + 63 := by rw [IntKind.wrap_i64]; omega
  have HE : Hid (((n + 63) / 64 : Nat) = ((n : Int) + 64 - 1) / 64) := by show _ = _; omega
  have h3 : ((n : Int) + 64 - 1).tdiv 64 = ((n : Int) + 64 - 1) / 64 := Int.tdiv_eq_ediv_of_nonneg (by omega)
  have h4 : wrap64 (((n : Int) + 64 - 1) / 64) = ((n : Int) + 64 - 1) / 64 := by unfold wrap64; omega
  rw [HE.out]
  go_enter Tryd.func30, Tryd.ntmps30
  go_wp2
  go_ret
  exact ⟨by simp; omega, rfl⟩

end Go.Proofs.YtebhmebldemndaaDoor.Cha
