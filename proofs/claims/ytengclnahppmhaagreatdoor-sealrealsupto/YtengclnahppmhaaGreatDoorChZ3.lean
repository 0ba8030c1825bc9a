import Derived.Test.YtengclnahppmhaaGreatDoorBaseM
import Derived.Test.YtengclnahppmhaaGreatDoorChZ1
import Derived.Test.YtengclnahppmhaaGreatDoorChZ2
namespace Go.Proofs.YtengclnahppmhaaGreatDoor.Cha
open Go.RowKit Go.Lib

/-- a block laid over a part of a text, up to k -/
def layN (l : List UInt8) (off : Nat) (b : List UInt8) : Nat → List UInt8
  | 0 => l
  | k + 1 => (layN l off b k).set (off + k) (l.getD (off + k) 0 ^^^ b.getD k 0)
theorem layN_length (l : List UInt8) (off : Nat) (b : List UInt8) : ∀ k, (layN l off b k).length = l.length
  | 0 => rfl
  | k + 1 => by rw [layN, List.length_set, layN_length l off b k]
theorem layN_at (l : List UInt8) (off : Nat) (b : List UInt8) : ∀ k j, off + k ≤ j → (layN l off b k)[j]? = l[j]?
  | 0, _, _ => rfl
  | k + 1, j, h => by rw [layN, List.getElem?_set_ne (by omega)]; exact layN_at l off b k j (by omega)

/-- the first k bytes of a text under the stream -/
def outK (key : List UInt8) (c : Nat) (nonce data : List UInt8) (k : Nat) : List UInt8 := overN key c nonce data k ++ data.drop k
theorem outK_zero (key : List UInt8) (c : Nat) (nonce data : List UInt8) : outK key c nonce data 0 = data := by simp [outK, overN]
theorem outK_all (key : List UInt8) (c : Nat) (nonce data : List UInt8) : outK key c nonce data data.length = overL key c nonce data := by simp [outK, overL]
theorem outK_length (key : List UInt8) (c : Nat) (nonce data : List UInt8) (k : Nat) (h : k ≤ data.length) : (outK key c nonce data k).length = data.length := by rw [outK, List.length_append, overN_length, List.length_drop]; omega
theorem outK_at (key : List UInt8) (c : Nat) (nonce data : List UInt8) (k j : Nat) (h : k ≤ j) : (outK key c nonce data k).getD j 0 = data.getD j 0 := by
  rw [List.getD_eq_getElem?_getD, outK, List.getElem?_append_right (by rw [overN_length]; exact h), overN_length, List.getElem?_drop, show k + (j - k) = j by omega, List.getD_eq_getElem?_getD]
theorem outK_set (key : List UInt8) (c : Nat) (nonce data : List UInt8) (k : Nat) (h : k < data.length) : (outK key c nonce data k).set k (data.getD k 0 ^^^ streamB key c nonce k) = outK key c nonce data (k + 1) := by
  have hd : data.drop k = data.getD k 0 :: data.drop (k + 1) := by
    rw [List.drop_eq_getElem_cons h, List.getD_eq_getElem?_getD, List.getElem?_eq_getElem h]
    rfl
  rw [outK, List.set_append_right _ _ (by rw [overN_length]; exact Nat.le_refl _), overN_length, Nat.sub_self, hd, outK, overN_succ, List.append_assoc]
  rfl
theorem lay_out (key : List UInt8) (c : Nat) (nonce data : List UInt8) (n : Nat) : ∀ k, k ≤ 64 → 64 * n + k ≤ data.length → layN (outK key c nonce data (64 * n)) (64 * n) (blockL key (c + n) nonce) k = outK key c nonce data (64 * n + k)
  | 0, _, _ => rfl
  | k + 1, h1, h2 => by
    rw [layN, lay_out key c nonce data n k (by omega) (by omega), outK_at key c nonce data (64 * n) (64 * n + k) (by omega), show 64 * n + (k + 1) = (64 * n + k) + 1 by omega, ← outK_set key c nonce data (64 * n + k) (by omega)]
    unfold streamB
    rw [show (64 * n + k) / 64 = n by omega, show (64 * n + k) % 64 = k by omega]

set_option maxRecDepth 20000 in
set_option maxHeartbeats 1000000 in
theorem lay_any (blk : ByteArray) (g off m cap : Nat) (l : List UInt8) (w : World) (hb : Buf w g l) (hom : off + m ≤ l.length) (hm : m ≤ blk.size) (hbs : blk.size ≤ 64) (_hl : l.length ≤ 281474976710656) :
    Calls Tryz.prog 139 #[.string blk, .slice (some ⟨g, off, none⟩) m cap] w fun e w' => e = .returned (.tuple #[]) ∧ Buf w' g (layN l off blk.data.toList m) ∧ Only [g] w w' := by
  have hbl : blk.data.toList.length = blk.size := (size_eq blk).symm
  go_enter Tryz.func139, Tryz.ntmps139
  go_wp2
  go_loopg [7] m (fun gk i wr => ∃ k : Nat, k + gk = m ∧ i = .int .i64 k ∧ Buf wr g (layN l off blk.data.toList k) ∧ Only [g] w wr)
  case atStart => exact ⟨0, by omega, rfl, hb, Only.refl _ _⟩
  case round =>
    clear hb
    obtain ⟨k, hkk, rfl, hb, hon⟩ := hrel
    have HK : Hid (k + gk = m) := hkk
    have hk' : k ≤ m := by omega
    clear hkk
    by_cases hlt : k < m
    · have hltI : (k : Int) < (m : Int) := by omega
      obtain ⟨x, hx⟩ : ∃ x, l[off + k]? = some x := ⟨_, List.getElem?_eq_getElem (by omega)⟩
      obtain ⟨y, hy⟩ : ∃ y, blk.data.toList[k]? = some y := ⟨_, List.getElem?_eq_getElem (by omega)⟩
      have hx8 := x.toNat_lt
      have hy8 := y.toNat_lt
      have hxor : bits .xor .u8 (x.toNat : Int) (y.toNat : Int) = ((x ^^^ y).toNat : Int) := by rw [u8_xor_nat _ _ hx8 hy8, UInt8.toNat_xor]
      have hiy := fun W => rindex_at (P := Tryz.prog) W 9 blk .i64 (k : Int) k y Tryz.underlying9 rfl hy
      have c0 := hb.cell (off + k) x (by rw [layN_at l off blk.data.toList k (off + k) (Nat.le_refl _)]; exact hx)
      have f0 := hb.frozen (off + k) (by rw [layN_length]; omega)
      have c0d : wr.drew.cell? ⟨g, off + k, none⟩ = some (.int .u8 (x.toNat : Int)) := c0
      have f0d : wr.drew.frozen? ⟨g, off + k, none⟩ = false := f0
      have hput := hb.put (off + k) (x ^^^ y)
      have HL : Hid ((layN l off blk.data.toList k).set (off + k) (x ^^^ y) = layN l off blk.data.toList (k + 1)) := by
        show _ = _
        rw [layN, List.getD_eq_getElem?_getD, List.getD_eq_getElem?_getD, hx, hy]
        rfl
      rw [HL.out] at hput
      have hon2 := (hon.setCell (p := ⟨g, off + k, none⟩) (by simp) (.int .u8 ((x ^^^ y).toNat : Int)))
      clear hx hy hx8 hy8 hb HL
      revert hxor hiy c0 c0d hput hon2
      generalize (x.toNat : Int) = xi
      generalize (y.toNat : Int) = yi
      generalize ((x ^^^ y).toNat : Int) = zi
      intro hxor hiy c0 c0d hput hon2
      have hputd : Buf (wr.setCell ⟨g, off + k, none⟩ (.int .u8 zi)).drew g (layN l off blk.data.toList (k + 1)) := hput.kept rfl
      have hond : Only [g] w (wr.setCell ⟨g, off + k, none⟩ (.int .u8 zi)).drew := ⟨hon2.os, hon2.tape, hon2.output, hon2.size, hon2.block⟩
      go_wp2_with fail
      go_region
      refine with_world (R := fun W => Exit.inBlock _ _ _ _ W) (Q := fun W => Buf W g (layN l off blk.data.toList (k + 1)) ∧ Only [g] w W) _ ⟨hputd, hond⟩ ?_
      clear hputd hond hput hon2 c0 c0d f0 f0d hxor hiy
      rintro w9 ⟨hput, hon2⟩
      go_wp2
      go_roundg (gk - 1)
      case measure => have := HK.out; omega
      case rel => exact ⟨k + 1, by have := HK.out; omega, by go_num, hput, hon2⟩
    · obtain rfl : k = m := by omega
      have hltI : ¬ (k : Int) < (k : Int) := by omega
      go_wp2
      go_end0
      exact ⟨rfl, hb, hon⟩

theorem blocksIn_any (n : Nat) (hn : n ≤ 281474976710656) (w : World) : Calls Tryz.prog 137 #[.int .i64 (n : Int)] w fun e w' => e = .returned (.int .i64 (((n + 63) / 64 : Nat) : Int)) ∧ w = w' := by
  have h1 : IntKind.i64.wrap ((n : Int) + 64) = (n : Int) + 64 := by rw [IntKind.wrap_i64]; omega
  have h2 : IntKind.i64.wrap ((n : Int) + 64 - 1) = (n : Int) + 63 := by rw [IntKind.wrap_i64]; omega
  have HE : Hid (((n + 63) / 64 : Nat) = ((n : Int) + 64 - 1) / 64) := by show _ = _; omega
  have h3 : ((n : Int) + 64 - 1).tdiv 64 = ((n : Int) + 64 - 1) / 64 := Int.tdiv_eq_ediv_of_nonneg (by omega)
  have h4 : wrap64 (((n : Int) + 64 - 1) / 64) = ((n : Int) + 64 - 1) / 64 := by unfold wrap64; omega
  rw [HE.out]
  go_enter Tryz.func137, Tryz.ntmps137
  go_wp2
  go_ret
  exact ⟨by simp; omega, rfl⟩

end Go.Proofs.YtengclnahppmhaaGreatDoor.Cha

namespace Go.Proofs.YtengclnahppmhaaGreatDoor.Cha
open Go.RowKit Go.Lib Go.Deep

/-- what Xor holds in memory -/
structure XrS (w wr : World) (g sb : Nat) (out : List UInt8) (st : List Nat) : Prop where
  buf : Buf wr g out
  own : wr.heap[sb]? = some (.cells (u32s st) 181 (0, 0))
  bel : Below w.heap.size w wr
  hg : w.heap.size ≤ g
  hs : w.heap.size ≤ sb
  ne : g ≠ sb

theorem XrS.below {w wr w' : World} {g sb : Nat} {out : List UInt8} {st : List Nat} (h : XrS w wr g sb out st) (hb : Below wr.heap.size wr w') : XrS w w' g sb out st :=
  ⟨h.buf.kept (hb.block g h.buf.lt), (hb.block sb (heap_lt h.own)).trans h.own, h.bel.trans (hb.mono h.bel.size), h.hg, h.hs, h.ne⟩
theorem XrS.only {w wr w' : World} {g sb : Nat} {out out' : List UInt8} {st : List Nat} (h : XrS w wr g sb out st) (hb : Only [g] wr w') (hbuf : Buf w' g out') : XrS w w' g sb out' st :=
  ⟨hbuf, (hb.block sb (heap_lt h.own) (by simp; exact fun e => h.ne e.symm)).trans h.own, h.bel.trans (hb.below h.bel.size (by simp; exact h.hg)), h.hg, h.hs, h.ne⟩
theorem XrS.put {w wr : World} {g sb : Nat} {out : List UInt8} {st : List Nat} (h : XrS w wr g sb out st) (i x : Nat) : XrS w (wr.setCell ⟨sb, i, none⟩ (.int .u32 (x : Int))) g sb out (st.set i x) :=
  ⟨h.buf.kept (Below.heap_setCell _ _ _ _ (by show g ≠ sb; exact h.ne)), by rw [← u32s_set]; exact heap_setCell_same _ _ _ _ _ _ h.own, h.bel.setCell h.hs _, h.hg, h.hs, h.ne⟩
theorem XrS.range {w wr : World} {g sb : Nat} {out : List UInt8} {st : List Nat} (h : XrS w wr g sb out st) : wr.rangeAt sb 0 (u32L st) := range_of_heap (pre := []) (mid := u32L st) (post := []) h.own (by simp [u32s])
theorem XrS.drew {w wr : World} {g sb : Nat} {out : List UInt8} {st : List Nat} (h : XrS w wr g sb out st) : XrS w wr.drew g sb out st := ⟨h.buf.kept rfl, h.own, h.bel.drew, h.hg, h.hs, h.ne⟩

theorem size5 : (Tryz.prog.info? 5).map (·.size) = some 1 := by kernel_rfl
set_option maxRecDepth 20000 in
/-- 'b[lo:hi]' -/
theorem slice_mid (W : World) (g L cap lo hi : Nat) (z1 z2 : Int) (h1 : z1 = (lo : Int)) (h2 : z2 = (hi : Int)) (hlo : lo < hi) (hhi : hi ≤ cap) :
    (Instr.slice 96 (.slice (some ⟨g, 0, none⟩) L cap) (some (.int .i64 z1)) (some (.int .i64 z2)) none).run Tryz.prog W = .ok (.slice (some ⟨g, lo, none⟩) (hi - lo) (cap - lo)) W := by
  subst h1 h2
  obtain ⟨i0, hi0, hs0⟩ : ∃ i0, Tryz.prog.info? 5 = some i0 ∧ i0.size = 1 := by
    have h := size5
    cases hq : Tryz.prog.info? 5 with
    | none => simp [hq] at h
    | some i => exact ⟨i, rfl, by simpa [hq] using h⟩
  have he : Tryz.prog.elem 96 = 5 := by kernel_rfl
  rw [run_slice_lh (P := Tryz.prog) (ht := Tryz.underlying96) (kl := .i64) (kh := .i64) (l := (lo : Int)) (h := (hi : Int)) (h0 := by omega) (h1 := by omega) (h2 := by omega)]
  have hne : ¬ cap = lo := by omega
  simp [sizeOf, typeInfo, he, hi0, hs0, sliced, hne, Result.andThen, Addr.add_lit]

set_option maxRecDepth 20000 in
set_option maxHeartbeats 4000000 in
theorem xor_yes (key nonce data : ByteArray) (c : Nat) (hk : key.size = 32) (hn : nonce.size = 12) (hd : data.size ≤ 281474976710656) (hc : c < 4294967296) (hroom : c + (data.size + 63) / 64 ≤ 4294967296) (w : World) (hT : CTabs w) (h3 : 8 ≤ w.heap.size) :
    Calls Tryz.prog 119 #[.string key, .int .i64 (c : Int), .string nonce, .string data] w fun e w' => e = .returned (.tuple #[.string (str (overL key.data.toList c nonce.data.toList data.data.toList)), .int .i64 0]) ∧ Below w.heap.size w w' := by
  have hf := fault_any key nonce 12 (by unfold maxLen; omega) (by unfold maxLen; omega) w
  rw [fault_ok hk hn] at hf
  have hiw := isWord_yes c hc w
  have hbi := blocksIn_any data.size hd w
  obtain ⟨nb, hnb⟩ : ∃ nb, (data.size + 63) / 64 = nb := ⟨_, rfl⟩
  rw [hnb] at hbi hroom
  have hsb : IntKind.i64.wrap (4294967296 - (c : Int)) = 4294967296 - (c : Int) := by rw [IntKind.wrap_i64]; omega
  have hgt : ¬ (4294967296 - (c : Int) < (nb : Int)) := by omega
  have hgt2 : decide (4294967296 - (c : Int) < (nb : Int)) = false := decide_eq_false hgt
  obtain ⟨v1, w2, hcv, hrow, hb1⟩ := bytes_any data (by unfold maxLen; omega) w
  obtain ⟨g, cap, rfl, hg, hcap, hcm, hbuf⟩ := Buf.of_rowF hrow
  have hz : data.data.toList.length = data.size := (size_eq data).symm
  rw [hz] at hcv hcap
  have z2 := hb1.size
  have hss := streamState_any key nonce c hk hn hc w2 (hT.below hb1 h3) (by omega)
  have hS0 : St (streamL key.data.toList c nonce.data.toList) := stateL_st _ _
  have hl0 := hS0.len
  have hszM : (Tryz.prog.info? 181).map (·.size) = some (u32s (streamL key.data.toList c nonce.data.toList)).size := by rw [u32s_size, hl0]; exact sizeSt
  have hone : (u32s (streamL key.data.toList c nonce.data.toList)).all (·.oneCell') = true := all_oneCell_toArray (u32L_one _)
  clear hrow
  go_enter Tryz.func119, Tryz.ntmps119
  go_wp2_with fail
  refine hf.mono ?_
  rintro e w1 ⟨rfl, rfl⟩
  go_wp2_with fail
  refine hiw.mono ?_
  rintro e w1 ⟨rfl, rfl⟩
  go_wp2_with fail
  refine hbi.mono ?_
  rintro e w1 ⟨rfl, rfl⟩
  clear hf hiw hbi
  go_wp2_with (first | (go_at_call 138; refine hss.mono ?_; rintro e w3 ⟨rfl, hb3⟩) | (refine wpList_store_mid rfl 181 (.tmp 12) (.tmp 36) rfl w3.heap.size 0 _ rfl rfl (there_of_heap (heap_new _ _) (by rw [u32s_size, hl0]; decide)) hszM hone ?_))
  have HX : XrS w ((w3.alloc (.cells (u32s (List.replicate 16 0)) 181)).setCells w3.heap.size 0 (u32s (streamL key.data.toList c nonce.data.toList)).toList) g w3.heap.size data.data.toList (streamL key.data.toList c nonce.data.toList) := by
    have hgl := hbuf.lt
    have z3 := hb3.size
    have hb03 := hb1.trans (hb3.mono z2)
    refine ⟨hbuf.kept ?_, ?_, Below.setCells (hb03.alloc (by omega) _) (by omega) _ _, hg, by omega, by omega⟩
    · rw [heap_setCells_other _ _ (by omega), Below.heap_alloc _ _ _ (by omega), hb3.block _ hgl]
    · have h := heap_setCells w3.heap.size 181 (u32s (streamL key.data.toList c nonce.data.toList)).toList 0 _ _ (heap_new w3 (.cells (u32s (List.replicate 16 0)) 181))
      rw [setMany_all _ _ (by rw [Array.length_toList, u32s_size, u32s_size, hl0]; rfl), Array.toArray_toList] at h
      exact h
  (try rw [put_none])
  refine with_world (R := fun W => Code.wp _ _ _ _ W) (Q := fun W => XrS w W g w3.heap.size data.data.toList (streamL key.data.toList c nonce.data.toList)) _ HX ?_
  clear HX hb3 hss hszM hone hcv hbuf hsb hgt hgt2
  intro w4 HX
  obtain ⟨sb, hsb⟩ : ∃ sb, w3.heap.size = sb := ⟨_, rfl⟩
  rw [hsb] at HX ⊢
  clear hsb hb1 z2 hS0
  have HNB : Hid ((data.size + 63) / 64 = nb) := hnb
  clear hnb
  have hnl : nb ≤ 4398046511104 := by have := HNB.out; omega
  go_loopg [13] nb (fun gk i wr => ∃ (n : Nat) (st : List Nat), n + gk = nb ∧ i = .int .i64 (64 * (n : Int)) ∧ XrS w wr g sb (outK key.data.toList c nonce.data.toList data.data.toList (min (64 * n) data.size)) st ∧ st.length = 16 ∧ (n < nb → st = streamL key.data.toList (c + n) nonce.data.toList))
  case atStart => exact ⟨0, _, by omega, rfl, by rw [Nat.mul_zero, Nat.zero_min, outK_zero]; exact HX, hl0, fun _ => rfl⟩
  case round =>
    clear HX hl0
    obtain ⟨n, st, hnn, rfl, HX, hst, hstr⟩ := hrel
    have HN : Hid (n + gk = nb) := hnn
    have hn' : n ≤ nb := by omega
    clear hnn
    by_cases hlt : n < nb
    · have h64 : 64 * n < data.size := by have := HNB.out; omega
      have hltI : 64 * (n : Int) < (data.size : Int) := by omega
      obtain ⟨m, hm⟩ : ∃ m, min 64 (data.size - 64 * n) = m := ⟨_, rfl⟩
      have hm1 : m ≤ 64 := by omega
      have hm2 : 64 * n + m ≤ data.size := by omega
      have HM : Hid (min (64 * (n + 1)) data.size = 64 * n + m) := by show _ = _; omega
      have HST := hstr hlt
      have hcn : c + n < 4294967296 := by omega
      subst HST
      have hSt : St (streamL key.data.toList (c + n) nonce.data.toList) := stateL_st _ _
      rw [Nat.min_eq_left (by omega : 64 * n ≤ data.size)] at HX
      have hbl := fun W hT h3 => block_any (streamL key.data.toList (c + n) nonce.data.toList) hSt W hT h3
      have HB : Hid (blockOf (streamL key.data.toList (c + n) nonce.data.toList) = blockL key.data.toList (c + n) nonce.data.toList) := rfl
      rw [HB.out] at hbl
      have hlay := fun W (h : Buf W g (outK key.data.toList c nonce.data.toList data.data.toList (64 * n))) => lay_any (str (blockL key.data.toList (c + n) nonce.data.toList)) g (64 * n) m (cap - 64 * n) _ W h (by rw [outK_length _ _ _ _ _ (by omega)]; omega) (by rw [str_size, blockL_length]; omega) (by rw [str_size, blockL_length]; omega) (by rw [outK_length _ _ _ _ _ (by omega)]; omega)
      rw [str_data, lay_out key.data.toList c nonce.data.toList data.data.toList n m (by omega) (by omega)] at hlay
      have h12 := streamL_at key.data.toList (c + n) nonce.data.toList hcn
      have hnx : n + 1 < nb → (streamL key.data.toList (c + n) nonce.data.toList).set 12 ((c + n + 1) % 4294967296) = streamL key.data.toList (c + (n + 1)) nonce.data.toList := fun h => by
        rw [Nat.mod_eq_of_lt (by omega)]
        exact streamL_next key.data.toList (c + n) nonce.data.toList (by omega)
      have HNX : Hid (n + 1 < nb → (streamL key.data.toList (c + n) nonce.data.toList).set 12 ((c + n + 1) % 4294967296) = streamL key.data.toList (c + (n + 1)) nonce.data.toList) := hnx
      clear hstr hnx HB
      have HCT : Hid (∀ W, Below w.heap.size w W → CTabs W ∧ 8 ≤ W.heap.size) := fun W h => ⟨hT.below h h3, by have := h.size; omega⟩
      revert HX hst hSt hbl hlay h12 HNX
      generalize str (blockL key.data.toList (c + n) nonce.data.toList) = yb
      generalize streamL key.data.toList (c + n) nonce.data.toList = s1
      generalize outK key.data.toList c nonce.data.toList data.data.toList (64 * n) = o1
      intro HX hst hSt hbl hlay h12 HNX
      have hb2 : ∀ W, XrS w W g sb o1 s1 → Calls Tryz.prog 140 #[.agg (u32s s1)] W fun e w' => e = .returned (.string yb) ∧ XrS w w' g sb o1 s1 := fun W h =>
        (hbl W (HCT.out W h.bel).1 (HCT.out W h.bel).2).mono fun e w' ⟨h1, h2⟩ => ⟨h1, h.below h2⟩
      have hl2 : ∀ W, XrS w W g sb o1 s1 → Calls Tryz.prog 139 #[.string yb, .slice (some ⟨g, 64 * n, none⟩) m (cap - 64 * n)] W fun e w' => e = .returned (.tuple #[]) ∧ XrS w w' g sb (outK key.data.toList c nonce.data.toList data.data.toList (64 * n + m)) s1 := fun W h =>
        (hlay W h.buf).mono fun e w' ⟨h1, h2, h3⟩ => ⟨h1, h.only h3 h2⟩
      have hsz1 : (Tryz.prog.info? 181).map (·.size) = some (u32L s1).length := by rw [u32L_length, hst]; exact sizeSt
      have hu53 := Tryz.underlying181
      have hl16 : (u32L s1).length = 16 := by rw [u32L_length, hst]
      have hone1 := u32L_one s1
      clear hbl hlay
      have hr1 := HX.range
      have hXd := HX.drew
      have hr1d : wr.drew.rangeAt sb 0 (u32L s1) := hr1
      have hw64 : IntKind.i64.wrap (64 * (n : Int) + 64) = 64 * (n : Int) + 64 := by rw [IntKind.wrap_i64]; omega
      obtain ⟨H, hH⟩ : ∃ H, 64 * n + m = H := ⟨_, rfl⟩
      have hmin : (if (data.size : Int) < 64 * (n : Int) + 64 then (data.size : Int) else 64 * (n : Int) + 64) = (H : Int) := by split <;> omega
      have hsl := fun W => slice_mid W g data.size cap (64 * n) H (64 * (n : Int)) (H : Int) (by omega) rfl (by omega) (by omega)
      rw [show H - 64 * n = m by omega] at hsl
      obtain ⟨x, hx⟩ : ∃ x, c + n = x := ⟨_, rfl⟩
      obtain ⟨z, hz2⟩ : ∃ z, (c + n + 1) % 4294967296 = z := ⟨_, rfl⟩
      have HC12 : Hid (∀ W o, XrS w W g sb o s1 → W.cell? ⟨sb, 12, none⟩ = some (.int .u32 (x : Int)) ∧ W.frozen? ⟨sb, 12, none⟩ = false) := fun W o h => by
        refine ⟨?_, frozen_of_heap h.own⟩
        rw [cell_of_heap h.own, u32s_at _ _ (by omega), h12, hx]
      have hw12 : ((x : Int) + 1) % 4294967296 = (z : Int) := by omega
      rw [hz2] at HNX
      clear hx hz2 h12
      go_wp2_with fail
      go_region_held_law (fun w' => w'.rangeAt sb 0 (u32L s1)) (first | assumption | exact XrS.range (by assumption)) (first | (go_at_call 140; refine (hb2 _ (by assumption)).mono ?_; rintro e w5 ⟨rfl, hX5⟩) | (go_at_call 139; refine (hl2 _ (by assumption)).mono ?_; rintro e w6 ⟨rfl, hX6⟩))
      all_goals
        obtain ⟨c12, f12⟩ := HC12.out _ _ hX6
        have HP := hX6.put 12 z
        rw [← HM.out] at HP
        have hst2 : (s1.set 12 z).length = 16 := by rw [List.length_set]; exact hst
        clear hX6 hX5 hb2 hl2 hsl hmin hr1 hr1d hXd HX hsz1 hone1 hl16 hu53 hw64
        go_wp2
        go_roundg (gk - 1)
        case measure => have := HN.out; omega
        case rel => exact ⟨n + 1, s1.set 12 z, by have := HN.out; omega, by go_num, HP, hst2, HNX.out⟩
    · obtain rfl : n = nb := by omega
      have h64 : data.size ≤ 64 * n := by have := HNB.out; omega
      have hltI : ¬ 64 * (n : Int) < (data.size : Int) := by omega
      rw [Nat.min_eq_right h64, ← hz, outK_all] at HX
      have hcv := HX.buf.text (P := Tryz.prog) 96 9 cap Tryz.underlying96 Tryz.underlying5 Tryz.underlying9
      rw [overL_length, hz] at hcv
      have hbel := HX.bel
      clear HX hstr
      go_wp2
      go_ret2
      exact ⟨rfl, hbel⟩

end Go.Proofs.YtengclnahppmhaaGreatDoor.Cha

namespace Go.Proofs.YtengclnahppmhaaGreatDoor.Cha
open Go.RowKit Go.Lib Go.Deep

theorem block_yes (key nonce : ByteArray) (c : Nat) (hk : key.size = 32) (hn : nonce.size = 12) (hc : c < 4294967296) (w : World) (hT : CTabs w) (h3 : 8 ≤ w.heap.size) :
    Calls Tryz.prog 120 #[.string key, .int .i64 (c : Int), .string nonce] w fun e w' => e = .returned (.tuple #[.string (str (blockL key.data.toList c nonce.data.toList)), .int .i64 0]) ∧ Below w.heap.size w w' := by
  have hf := fault_any key nonce 12 (by unfold maxLen; omega) (by unfold maxLen; omega) w
  rw [fault_ok hk hn] at hf
  have hiw := isWord_yes c hc w
  have hss := streamState_any key nonce c hk hn hc w hT h3
  have hS : St (streamL key.data.toList c nonce.data.toList) := stateL_st _ _
  have HB : Hid (blockL key.data.toList c nonce.data.toList = blockOf (streamL key.data.toList c nonce.data.toList)) := rfl
  revert hss hS HB
  generalize streamL key.data.toList c nonce.data.toList = s
  intro hss hS HB
  go_enter Tryz.func120, Tryz.ntmps120
  go_wp2_with fail
  refine hf.mono ?_
  rintro e w1 ⟨rfl, rfl⟩
  go_wp2_with fail
  refine hiw.mono ?_
  rintro e w1 ⟨rfl, rfl⟩
  go_wp2_with fail
  refine hss.mono ?_
  rintro e w1 ⟨rfl, hb1⟩
  have z1 := hb1.size
  have hbl := block_any s hS w1 (hT.below hb1 h3) (by omega)
  clear hss hf hiw
  go_wp2_with (go_at_call 140; refine hbl.mono ?_; rintro e w2 ⟨rfl, hb2⟩)
  go_ret2
  rw [HB.out]
  exact ⟨rfl, hb1.trans (hb2.mono z1)⟩

theorem block_no (key nonce : ByteArray) (c : Int) (hk : key.size ≤ maxLen) (hn : nonce.size ≤ maxLen) (h : ¬ (key.size = 32 ∧ nonce.size = 12)) (w : World) :
    Calls Tryz.prog 120 #[.string key, .int .i64 c, .string nonce] w fun e w' => e = .returned (.tuple #[.string { data := #[] }, .int .i64 (faultN key nonce 12)]) ∧ w = w' := by
  have hf := fault_any key nonce 12 hk hn w
  rcases fault_no h with h40 | h40
  · rw [h40] at hf ⊢
    go_enter Tryz.func120, Tryz.ntmps120
    go_wp2_with fail
    refine hf.mono ?_
    rintro e w1 ⟨rfl, rfl⟩
    go_wp2
    go_ret2
    exact ⟨rfl, rfl⟩
  · rw [h40] at hf ⊢
    go_enter Tryz.func120, Tryz.ntmps120
    go_wp2_with fail
    refine hf.mono ?_
    rintro e w1 ⟨rfl, rfl⟩
    go_wp2
    go_ret2
    exact ⟨rfl, rfl⟩

theorem block_far (key nonce : ByteArray) (c : Int) (hk : key.size = 32) (hn : nonce.size = 12) (hc : ¬ (0 ≤ c ∧ c < 4294967296)) (w : World) :
    Calls Tryz.prog 120 #[.string key, .int .i64 c, .string nonce] w fun e w' => e = .returned (.tuple #[.string { data := #[] }, .int .i64 42]) ∧ w = w' := by
  have hf := fault_any key nonce 12 (by unfold maxLen; omega) (by unfold maxLen; omega) w
  rw [fault_ok hk hn] at hf
  have hiw := isWord_no c hc w
  clear hc
  go_enter Tryz.func120, Tryz.ntmps120
  go_wp2_with fail
  refine hf.mono ?_
  rintro e w1 ⟨rfl, rfl⟩
  go_wp2_with fail
  refine hiw.mono ?_
  rintro e w1 ⟨rfl, rfl⟩
  go_wp2
  go_ret2
  exact ⟨rfl, rfl⟩

end Go.Proofs.YtengclnahppmhaaGreatDoor.Cha
