import Derived.Test.YtbjiamaaocjbfaaGreatDoorKdM1
import Derived.OneCell
import Derived.Test.YtbjiamaaocjbfaaGreatDoorBaseM
import Derived.BigRegion
import Derived.Test.YtbjiamaaocjbfaaGreatDoorShM2
import Derived.Deep.RegionHeldLaw
namespace Go.Proofs.YtbjiamaaocjbfaaGreatDoor
open Go.RowKit Go.Lib

/-- what the closure of chain has captured -/
structure Chn (w : World) (p q : Nat) (yi yo s : ByteArray) : Prop where
  key : w.heap[p]? = some (.cells #[.string yi, .string yo] 126 (0, 0))
  last : w.heap[q]? = some (.cells #[.string s] 9 (0, 0))

set_option maxRecDepth 20000 in
set_option maxHeartbeats 1000000 in
theorem chain_any (yi yo s : ByteArray) (w : World) :
    Calls Tryz.prog 78 #[.agg #[.string yi, .string yo], .string s] w fun e w' => e = .returned (.func (.func 101) #[] #[.pointer (some ⟨w.heap.size, 0, none⟩), .pointer (some ⟨w.heap.size + 1, 0, none⟩)]) ∧ Chn w' w.heap.size (w.heap.size + 1) yi yo s ∧ Below w.heap.size w w' := by
  go_enter Tryz.func78, Tryz.ntmps78
  go_wp2
  go_ret
  have h1 := heap_new (w.alloc (.cells #[.string yi, .string yo] 126)) (.cells #[.string s] 9)
  rw [show (w.alloc (.cells #[.string yi, .string yo] 126)).heap.size = w.heap.size + 1 by simp] at h1
  exact ⟨rfl, ⟨(Below.heap_alloc _ _ _ (by simp)).trans (heap_new _ _), h1⟩, ((Below.refl w.heap.size w).alloc (Nat.le_refl _) _).alloc (by simp) _⟩

set_option maxRecDepth 20000 in
set_option maxHeartbeats 1000000 in
theorem link_any (key s : ByteArray) (_hk : key.size ≤ 140737488351232) (hs : s.size ≤ 281474976710656) (p q : Nat) (w : World) (ht : Tabs w) (h4 : 9 ≤ w.heap.size) (hc : Chn w p q (str (innerL key.data.toList)) (str (outerL key.data.toList)) s) :
    Calls Tryz.prog 101 #[.pointer (some ⟨p, 0, none⟩), .pointer (some ⟨q, 0, none⟩)] w fun e w' => e = .returned (.string (str (hmacL key.data.toList s.data.toList))) ∧ Chn w' p q (str (innerL key.data.toList)) (str (outerL key.data.toList)) (str (hmacL key.data.toList s.data.toList)) ∧ Only [q] w w' := by
  have hb : Below w.heap.size w (w.alloc (.cells #[.string s] 9)) := (Below.refl _ _).alloc (Nat.le_refl _) _
  have hsum := ksum_any (str (innerL key.data.toList)) (str (outerL key.data.toList)) (by rw [str_size, outerL_length]; omega) (w.alloc (.cells #[.string s] 9)) (ht.below hb (by omega)) (by simp; omega) (some ⟨w.heap.size, 0, none⟩) 1 1 [s] (lst_one s w) (by intro h; cases h) (by omega) (by rw [joinL_one, ← size_eq, str_size, innerL_length]; omega)
  rw [str_data, str_data, joinL_one, show shaL (outerL key.data.toList ++ shaL (innerL key.data.toList ++ s.data.toList)) = hmacL key.data.toList s.data.toList from rfl] at hsum
  revert hsum hc
  generalize str (innerL key.data.toList) = yi
  generalize str (outerL key.data.toList) = yo
  generalize str (hmacL key.data.toList s.data.toList) = y
  intro hc hsum
  have x0 : w.cell? ⟨p, 0, none⟩ = some (.string yi) := by rw [cell_of_heap hc.key]; rfl
  have x1 : w.cell? ⟨p, 1, none⟩ = some (.string yo) := by rw [cell_of_heap hc.key]; rfl
  have x2 : w.cell? ⟨q, 0, none⟩ = some (.string s) := by rw [cell_of_heap hc.last]; rfl
  have hpq : p ≠ q := by
    rintro rfl
    have h1 := hc.key
    rw [hc.last] at h1
    simp at h1
  have hpl := heap_lt hc.key
  have hql := heap_lt hc.last
  go_enter Tryz.func101, Tryz.ntmps101
  go_wp2_with fail
  refine hsum.mono ?_
  clear hsum
  rintro e w2 ⟨rfl, hb2⟩
  have hb' : Below w.heap.size w w2 := hb.trans (hb2.mono hb.size)
  have l2 : w2.heap[q]? = some (.cells #[.string s] 9 (0, 0)) := (hb'.block q hql).trans hc.last
  have k2 : w2.heap[p]? = some (.cells #[.string yi, .string yo] 126 (0, 0)) := (hb'.block p hpl).trans hc.key
  have f0 : w2.frozen? ⟨q, 0, none⟩ = false := frozen_of_heap l2
  have c0 : w2.cell? ⟨q, 0, none⟩ = some (.string s) := by rw [cell_of_heap l2]; rfl
  have l3 : (w2.setCell ⟨q, 0, none⟩ (.string y)).heap[q]? = some (.cells #[.string y] 9 (0, 0)) := heap_setCell_same _ _ _ _ _ _ l2
  have c1 : (w2.setCell ⟨q, 0, none⟩ (.string y)).cell? ⟨q, 0, none⟩ = some (.string y) := by rw [cell_of_heap l3]; rfl
  have HC : Hid (Chn (w2.setCell ⟨q, 0, none⟩ (.string y)) p q yi yo y) := ⟨(Below.heap_setCell _ _ _ _ hpq).trans k2, l3⟩
  have HO : Hid (Only [q] w (w2.setCell ⟨q, 0, none⟩ (.string y))) := Only.setCell (S := [q]) ⟨hb'.os, hb'.tape, hb'.output, hb'.size, fun k hk _ => hb'.block k hk⟩ (by simp) _
  clear hb2 hb' hb l2 k2 l3 x0 x1 x2 hc
  go_wp2
  go_ret
  exact ⟨rfl, HC.out, HO.out⟩

end Go.Proofs.YtbjiamaaocjbfaaGreatDoor

namespace Go.Proofs.YtbjiamaaocjbfaaGreatDoor
open Go.RowKit Go.Lib Go.Deep

/-- a byte of a text, by a drawn index (kept in RefB and ChaE too: for a seat that has neither) -/
theorem rindex_at {P : Program} (w : World) (t : TypeId) (s : ByteArray) (k : IntKind) (z : Int) (i : Nat) (c : UInt8) (h : P.underlying t = some .string) (hz : z = (i : Int)) (hc : s.data.toList[i]? = some c) :
    (Instr.index t (.string s) (.int k z)).run P w = .ok (.int .u8 (c.toNat : Int)) w := by
  subst hz
  exact index_at w t s k i c h hc


end Go.Proofs.YtbjiamaaocjbfaaGreatDoor

namespace Go.Proofs.YtbjiamaaocjbfaaGreatDoor
open Go.RowKit Go.Lib

/-- xored up to k -/
def mixX (a b : List UInt8) (k : Nat) : List UInt8 := (xorL a b).take k ++ a.drop k
theorem mixX_zero (a b : List UInt8) : mixX a b 0 = a := by simp [mixX]
theorem mixX_length (a b : List UInt8) (k : Nat) (ha : a.length = 32) (hb : b.length = 32) (hk : k ≤ 32) : (mixX a b k).length = 32 := by
  rw [mixX, List.length_append, List.length_take, List.length_drop, xorL_length, ha, hb]; omega
theorem mixX_all (a b : List UInt8) (ha : a.length = 32) (hb : b.length = 32) : mixX a b 32 = xorL a b := by
  rw [mixX, List.take_of_length_le (by rw [xorL_length, ha, hb]; omega), List.drop_of_length_le (by omega), List.append_nil]
theorem mixX_at (a b : List UInt8) (k : Nat) (x : UInt8) (ha : a.length = 32) (hb : b.length = 32) (hx : a[k]? = some x) : (mixX a b k)[k]? = some x := by
  have hk : k < a.length := (List.getElem?_eq_some_iff.1 hx).1
  have hl : ((xorL a b).take k).length = k := by rw [List.length_take, xorL_length]; omega
  rw [mixX, List.getElem?_append_right (by omega), hl, Nat.sub_self, List.getElem?_drop]
  exact hx
theorem mixX_set (a b : List UInt8) (k : Nat) (x y : UInt8) (ha : a.length = 32) (hb : b.length = 32) (hx : a[k]? = some x) (hy : b[k]? = some y) : (mixX a b k).set k (x ^^^ y) = mixX a b (k + 1) := by
  have hk : k < a.length := (List.getElem?_eq_some_iff.1 hx).1
  have hl : ((xorL a b).take k).length = k := by rw [List.length_take, xorL_length]; omega
  have hd : a.drop k = x :: a.drop (k + 1) := by
    rw [List.drop_eq_getElem_cons hk]
    congr 1
    exact (List.getElem?_eq_some_iff.1 hx).2
  rw [mixX, List.set_append_right _ _ (by omega), hl, Nat.sub_self, hd, mixX, xorL_take a b k x y hx hy, List.append_assoc]
  rfl

theorem Chn.only {w w' : World} {p q g : Nat} {yi yo s : ByteArray} (h : Chn w p q yi yo s) (ho : Only [g] w w') (hp : p ≠ g) (hq : q ≠ g) : Chn w' p q yi yo s :=
  ⟨(ho.block p (heap_lt h.key) (by simpa using hp)).trans h.key, (ho.block q (heap_lt h.last) (by simpa using hq)).trans h.last⟩

set_option maxRecDepth 20000 in
set_option maxHeartbeats 2000000 in
theorem xorOf_any (key s : ByteArray) (R : Nat) (hR : R < 4096) (hk : key.size ≤ 140737488351232) (hs : s.size ≤ 281474976710656) (p q : Nat) (w : World) (hq4 : 9 ≤ q) (hT : Tabs w) (hc : Chn w p q (str (innerL key.data.toList)) (str (outerL key.data.toList)) s) :
    Calls Tryz.prog 77 #[.int .i64 ((R : Int) + 1), .func (.func 101) #[] #[.pointer (some ⟨p, 0, none⟩), .pointer (some ⟨q, 0, none⟩)]] w fun e w' => ∃ g cap, e = .returned (.slice (some ⟨g, 0, none⟩) 32 cap) ∧ w.heap.size ≤ g ∧ Buf w' g (pasF key.data.toList s.data.toList R) ∧ Only [q] w w' := by
  have hql := heap_lt hc.last
  have hpl := heap_lt hc.key
  have HT : Hid (∀ W, Only [q] w W → Tabs W) := fun W h => hT.below (h.below (B := q) (by omega) (by simp)) (by omega)
  have hl0 := link_any key s hk hs p q w hT (by omega) hc
  have HL : Hid (∀ r W, Only [q] w W → Chn W p q (str (innerL key.data.toList)) (str (outerL key.data.toList)) (str (pasU key.data.toList s.data.toList r)) → Calls Tryz.prog 101 #[.pointer (some ⟨p, 0, none⟩), .pointer (some ⟨q, 0, none⟩)] W fun e w' => e = .returned (.string (str (pasU key.data.toList s.data.toList (r + 1)))) ∧ Chn w' p q (str (innerL key.data.toList)) (str (outerL key.data.toList)) (str (pasU key.data.toList s.data.toList (r + 1))) ∧ Only [q] W w') := fun r W ho hc' => by
    have h := link_any key (str (pasU key.data.toList s.data.toList r)) hk (by rw [str_size, pasU_length]; omega) p q W (HT.out W ho) (by have := ho.size; omega) hc'
    rw [str_data] at h
    exact h
  have HU : Hid (hmacL key.data.toList s.data.toList = pasU key.data.toList s.data.toList 0) := rfl
  rw [HU.out] at hl0
  have HB : Hid (∀ W, ∃ v w', (convert 9 29 (.string (str (pasU key.data.toList s.data.toList 0)))).run Tryz.prog W = .ok v w' ∧ RowF w' W.heap.size 5 v (Lib.byteCells (pasU key.data.toList s.data.toList 0)) ∧ Below W.heap.size W w') := fun W => by
    have h := bytes_any (str (pasU key.data.toList s.data.toList 0)) (by rw [str_size, pasU_length]; unfold maxLen; omega) W
    rw [str_data] at h
    exact h
  have h32 := pasU_length key.data.toList s.data.toList 0
  clear hc hT
  go_enter Tryz.func77, Tryz.ntmps77
  go_wp2_with (go_at_call 101; refine hl0.mono ?_; rintro e w1 ⟨rfl, hc1, ho1⟩; obtain ⟨v1, w2, hcv, hrow, hb1⟩ := HB.out w1)
  obtain ⟨g, cap, rfl, hg, hcap, hcm, hbuf⟩ := Buf.of_rowF hrow
  rw [h32]
  rw [h32] at hcap
  have z1 := ho1.size
  have HG : Hid (w.heap.size ≤ g) := by show _ ≤ _; omega
  have hpg : p ≠ g := by omega
  have hqg : q ≠ g := by omega
  have ho2 : Only [q] w w2 := ho1.trans ⟨hb1.os, hb1.tape, hb1.output, hb1.size, fun k hk _ => hb1.block k hk⟩
  have hc2 : Chn w2 p q (str (innerL key.data.toList)) (str (outerL key.data.toList)) (str (pasU key.data.toList s.data.toList 0)) := ⟨(hb1.block p (by omega)).trans hc1.key, (hb1.block q (by omega)).trans hc1.last⟩
  have hbuf0 : Buf w2 g (pasF key.data.toList s.data.toList 0) := hbuf
  clear hl0 hcv hrow hb1 hc1 ho1 hbuf HB h32 z1
  go_loopg [13] R (fun gk i wr => ∃ r : Nat, r + gk = R ∧ i = .int .i64 r ∧ Chn wr p q (str (innerL key.data.toList)) (str (outerL key.data.toList)) (str (pasU key.data.toList s.data.toList r)) ∧ Buf wr g (pasF key.data.toList s.data.toList r) ∧ Only [q] w wr)
  case atStart => exact ⟨0, by omega, rfl, hc2, hbuf0, ho2⟩
  case round =>
    clear hc2 hbuf0 ho2
    obtain ⟨r, hrr, rfl, hch, hbuf, hon⟩ := hrel
    have HRR : Hid (r + gk = R) := hrr
    have hr' : r ≤ R := by omega
    clear hrr
    by_cases hlt : r < R
    · have hltI : (r : Int) < (R : Int) := by omega
      have hl := HL.out r wr hon hch
      clear hch
      go_wp2_with (go_at_call 101; refine hl.mono ?_; rintro e w3 ⟨rfl, hc3, ho3⟩)
      have hbuf3 := hbuf.kept (ho3.block g hbuf.lt (by simpa using Ne.symm hqg))
      have ho4 := hon.trans ho3
      have HC3 : Hid (Chn w3 p q (str (innerL key.data.toList)) (str (outerL key.data.toList)) (str (pasU key.data.toList s.data.toList (r + 1)))) := hc3
      have hla := pasF_length key.data.toList s.data.toList r
      have hlb := pasU_length key.data.toList s.data.toList (r + 1)
      have HF : Hid (pasF key.data.toList s.data.toList (r + 1) = xorL (pasF key.data.toList s.data.toList r) (pasU key.data.toList s.data.toList (r + 1))) := rfl
      rw [← mixX_zero (pasF key.data.toList s.data.toList r) (pasU key.data.toList s.data.toList (r + 1))] at hbuf3
      clear hl hbuf hon ho3 hc3
      go_loopg [19] 32 (fun gj i wx => ∃ k : Nat, k + gj = 32 ∧ i = .int .i64 k ∧ Buf wx g (mixX (pasF key.data.toList s.data.toList r) (pasU key.data.toList s.data.toList (r + 1)) k) ∧ Only [g] w3 wx)
      case atStart => exact ⟨0, by omega, rfl, hbuf3, Only.refl _ _⟩
      case round =>
        clear hbuf3
        obtain ⟨k, hkk, rfl, hbuf, hon⟩ := hrel
        have HK : Hid (k + gk = 32) := hkk
        have hk' : k ≤ 32 := by omega
        clear hkk
        by_cases hk32 : k < 32
        · have hkI : (k : Int) < 32 := by omega
          obtain ⟨x, hx⟩ : ∃ x, (pasF key.data.toList s.data.toList r)[k]? = some x := ⟨_, List.getElem?_eq_getElem (by omega)⟩
          obtain ⟨y, hy⟩ : ∃ y, (pasU key.data.toList s.data.toList (r + 1))[k]? = some y := ⟨_, List.getElem?_eq_getElem (by omega)⟩
          have hx8 := x.toNat_lt
          have hy8 := y.toNat_lt
          have hxor : bits .xor .u8 (x.toNat : Int) (y.toNat : Int) = ((x ^^^ y).toNat : Int) := by rw [u8_xor_nat _ _ hx8 hy8, UInt8.toNat_xor]
          have hiy := fun W => rindex_at (P := Tryz.prog) W 9 (str (pasU key.data.toList s.data.toList (r + 1))) .i64 (k : Int) k y Tryz.underlying9 rfl (by rw [str_data]; exact hy)
          have c0 := hbuf.cell k x (mixX_at _ _ k x hla hlb hx)
          have f0 := hbuf.frozen k (by rw [mixX_length _ _ k hla hlb hk']; omega)
          have c0d : wr.drew.cell? ⟨g, k, none⟩ = some (.int .u8 (x.toNat : Int)) := c0
          have f0d : wr.drew.frozen? ⟨g, k, none⟩ = false := f0
          have hput := hbuf.put k (x ^^^ y)
          rw [mixX_set _ _ k x y hla hlb hx hy] at hput
          have hon2 := (hon.setCell (p := ⟨g, k, none⟩) (by simp) (.int .u8 ((x ^^^ y).toNat : Int)))
          clear hx hy hx8 hy8 hbuf
          revert hxor hiy c0 c0d hput hon2
          generalize (x.toNat : Int) = xi
          generalize (y.toNat : Int) = yi
          generalize ((x ^^^ y).toNat : Int) = zi
          intro hxor hiy c0 c0d hput hon2
          have hputd : Buf (wr.setCell ⟨g, k, none⟩ (.int .u8 zi)).drew g (mixX (pasF key.data.toList s.data.toList r) (pasU key.data.toList s.data.toList (r + 1)) (k + 1)) := hput.kept rfl
          have hond : Only [g] w3 (wr.setCell ⟨g, k, none⟩ (.int .u8 zi)).drew := ⟨hon2.os, hon2.tape, hon2.output, hon2.size, hon2.block⟩
          go_wp2_with fail
          go_region
          refine with_world (R := fun W => Exit.inBlock _ _ _ _ W) (Q := fun W => Buf W g (mixX (pasF key.data.toList s.data.toList r) (pasU key.data.toList s.data.toList (r + 1)) (k + 1)) ∧ Only [g] w3 W) _ ⟨hputd, hond⟩ ?_
          clear hputd hond hput hon2 c0 c0d f0 f0d hxor hiy
          rintro w9 ⟨hput, hon2⟩
          go_wp2
          go_roundg (gk - 1)
          case measure => have := HK.out; omega
          case rel => exact ⟨k + 1, by have := HK.out; omega, by go_num, hput, hon2⟩
        · obtain rfl : k = 32 := by omega
          rw [mixX_all _ _ hla hlb, ← HF.out] at hbuf
          have hc5 := HC3.out.only hon hpg hqg
          have ho5 : Only [q] w wr := ⟨hon.os.trans ho4.os, hon.tape.trans ho4.tape, hon.output.trans ho4.output, Nat.le_trans ho4.size hon.size, fun j hj hjq => (hon.block j (by have := ho4.size; omega) (by have := HG.out; simp; omega)).trans (ho4.block j hj hjq)⟩
          go_wp2
          go_roundg (R - (r + 1))
          case measure => have := HRR.out; omega
          case rel => exact ⟨r + 1, by have := HRR.out; omega, by go_num, hc5, hbuf, ho5⟩
    · obtain rfl : r = R := by omega
      go_wp2
      go_ret
      exact ⟨g, cap, rfl, HG.out, hbuf, hon⟩

end Go.Proofs.YtbjiamaaocjbfaaGreatDoor

namespace Go.Proofs.YtbjiamaaocjbfaaGreatDoor
open Go.RowKit Go.Lib Go.Deep

/-- a list that marked made, in a row of its own -/
structure Mk (w : World) (g : Nat) (xs : List ByteArray) : Prop where
  cur : ∃ cur : Array Value, w.heap[g]? = some (.cells cur 9 (0, 0)) ∧ xs.length ≤ cur.size ∧ cur.toList.take xs.length = strCells xs
theorem Mk.lt {w : World} {g : Nat} {xs : List ByteArray} (h : Mk w g xs) : g < w.heap.size := by
  obtain ⟨cur, h1, _⟩ := h.cur
  exact heap_lt h1
theorem Mk.kept {w w' : World} {g : Nat} {xs : List ByteArray} (h : Mk w g xs) (hk : w'.heap[g]? = w.heap[g]?) : Mk w' g xs := by
  obtain ⟨cur, h1, h2⟩ := h.cur
  exact ⟨cur, hk.trans h1, h2⟩
theorem Mk.below {w w' : World} {B g : Nat} {xs : List ByteArray} (h : Mk w g xs) (hb : Below B w w') (hg : g < B) : Mk w' g xs := h.kept (hb.block g hg)
theorem Mk.cell {w : World} {g : Nat} {xs : List ByteArray} (h : Mk w g xs) (i : Nat) (s : ByteArray) (hs : xs[i]? = some s) : w.cell? ⟨g, i, none⟩ = some (.string s) := by
  obtain ⟨cur, h1, h2, h3⟩ := h.cur
  have hi : i < xs.length := (List.getElem?_eq_some_iff.1 hs).1
  have e : (cur.toList.take xs.length)[i]? = some (.string s) := by rw [h3]; simp [strCells, hs]
  rw [List.getElem?_take, if_pos hi, Array.getElem?_toList] at e
  rw [cell_of_heap h1]
  exact e
theorem Mk.frozen {w : World} {g : Nat} {xs : List ByteArray} (h : Mk w g xs) (i : Nat) : w.frozen? ⟨g, i, none⟩ = false := by
  obtain ⟨cur, h1, _⟩ := h.cur
  exact frozen_of_heap h1
theorem Mk.put {w : World} {g : Nat} {xs : List ByteArray} (h : Mk w g xs) (i : Nat) (s : ByteArray) : Mk (w.setCell ⟨g, i, none⟩ (.string s)) g (xs.set i s) := by
  obtain ⟨cur, h1, h2, h3⟩ := h.cur
  refine ⟨cur.setIfInBounds i (.string s), heap_setCell_same _ _ _ _ _ _ h1, by rw [List.length_set, Array.size_setIfInBounds]; exact h2, ?_⟩
  have e : strCells (xs.set i s) = (strCells xs).set i (.string s) := by simp [strCells]
  rw [List.length_set, e, ← h3, Array.toList_setIfInBounds, List.take_set]

theorem owns_below {w w' : World} {B n : Nat} {v : Value} {e : TypeId} {xs : List Value} (h : w.ownsRow B e 1 v n xs) (hb : ∀ k, B ≤ k → k < w.heap.size → w'.heap[k]? = w.heap[k]?) : w'.ownsRow B e 1 v n xs := by
  obtain ⟨h1, h2⟩ := h
  refine ⟨h1, ?_⟩
  rcases h2 with h0 | ⟨g', cap', cur', e1, e2, e3, e4⟩
  · exact .inl h0
  · exact .inr ⟨g', cap', cur', e1, e2, (hb _ e2 (heap_lt e3)).trans e3, e4⟩

/-- the list of an own row, as it is handed on -/
theorem lst_owns {w : World} {B n : Nat} {v : Value} {ss : List ByteArray} (h : w.ownsRow B 9 1 v n (strCells ss)) : ∃ a cap, v = .slice a n cap ∧ Lst w a n ss := by
  have hl : ss.length = n := by have := h.1; rw [strCells_length] at this; omega
  rcases h.2 with ⟨rfl, rfl⟩ | ⟨g, cap, cur, rfl, h1, h2, h3, h4, h5, h6⟩
  · have h0 : ss = [] := List.eq_nil_of_length_eq_zero hl
    subst h0
    exact ⟨none, 0, rfl, ⟨rfl, by omega, fun i s hs => by simp at hs⟩⟩
  · refine ⟨some ⟨g, 0, none⟩, cap, rfl, ⟨hl, by unfold maxLen at h4; omega, fun i s hs => ⟨g, 0, rfl, heap_lt h2, ?_⟩⟩⟩
    have hi : i < ss.length := (List.getElem?_eq_some_iff.1 hs).1
    rw [Nat.zero_add, h.cellAt i (by omega)]
    simp [strCells, hs]

/-- half turned, by any turn -/
def mixedF (f : ByteArray → ByteArray) (ss : List ByteArray) (k : Nat) : List ByteArray := (ss.take k).map f ++ ss.drop k
theorem mixedF_length (f : ByteArray → ByteArray) (ss : List ByteArray) (k : Nat) (h : k ≤ ss.length) : (mixedF f ss k).length = ss.length := by simp [mixedF]; omega
theorem mixedF_zero (f : ByteArray → ByteArray) (ss : List ByteArray) : mixedF f ss 0 = ss := by simp [mixedF]
theorem mixedF_all (f : ByteArray → ByteArray) (ss : List ByteArray) : mixedF f ss ss.length = ss.map f := by simp [mixedF]
theorem mixedF_at (f : ByteArray → ByteArray) (ss : List ByteArray) (k : Nat) (s : ByteArray) (h : ss[k]? = some s) (r : List ByteArray) : (mixedF f ss k ++ r)[k]? = some s := by
  have hk : k < ss.length := (List.getElem?_eq_some_iff.1 h).1
  have hl : ((ss.take k).map f).length = k := by rw [List.length_map, List.length_take]; omega
  rw [List.getElem?_append_left (by rw [mixedF_length f ss k (by omega)]; exact hk), mixedF, List.getElem?_append_right (by omega), hl, Nat.sub_self, List.getElem?_drop]
  exact h
theorem mixedF_set (f : ByteArray → ByteArray) (ss : List ByteArray) (k : Nat) (s : ByteArray) (h : ss[k]? = some s) (r : List ByteArray) : (mixedF f ss k ++ r).set k (f s) = mixedF f ss (k + 1) ++ r := by
  have hk : k < ss.length := (List.getElem?_eq_some_iff.1 h).1
  have hl : ((ss.take k).map f).length = k := by rw [List.length_map, List.length_take]; omega
  have hd : ss.drop k = s :: ss.drop (k + 1) := by
    rw [List.drop_eq_getElem_cons hk]
    congr 1
    exact (List.getElem?_eq_some_iff.1 h).2
  rw [List.set_append_left _ _ (by rw [mixedF_length f ss k (by omega)]; exact hk), mixedF, List.set_append_right _ _ (by omega), hl, Nat.sub_self, hd, mixedF, List.take_add_one, h]
  simp

end Go.Proofs.YtbjiamaaocjbfaaGreatDoor

namespace Go.Proofs.YtbjiamaaocjbfaaGreatDoor
open Go.RowKit Go.Lib

set_option maxRecDepth 20000 in
set_option maxHeartbeats 4000000 in
theorem kpbkdf_any (key salt : ByteArray) (rounds n : Int) (hk : key.size ≤ 140737488351232) (hsa : salt.size ≤ 140737488351232) (r1 : 1 ≤ rounds) (r2 : rounds ≤ 4096) (h1 : 0 ≤ n) (h2 : n ≤ 1024) (w : World) (ht : Tabs w) (h4 : 9 ≤ w.heap.size) :
    Calls Tryz.prog 61 #[.string key, .string salt, .int .i64 rounds, .int .i64 n] w fun e w' => e = .returned (.tuple #[.string (str (pasL key.data.toList salt.data.toList (rounds.toNat - 1) n.toNat)), .int .i64 0]) ∧ Below w.heap.size w w' := by
  obtain ⟨i0, hi, hz0, hz1, hz2⟩ := info_parts info5
  obtain ⟨N, rfl⟩ := Int.eq_ofNat_of_zero_le h1
  obtain ⟨R, rfl⟩ : ∃ R : Nat, rounds = (R : Int) + 1 := ⟨(rounds - 1).toNat, by omega⟩
  rw [Int.toNat_natCast, show ((R : Int) + 1).toNat - 1 = R by omega]
  have e1 : ¬ (N : Int) < 0 := by omega
  have e2 : ¬ (1024 : Int) < (N : Int) := by omega
  have e3 : ¬ (R : Int) + 1 < 1 := by omega
  have e4 : ¬ (4096 : Int) < (R : Int) + 1 := by omega
  have HT : Hid (Tabs w) := ht
  have HN : Hid (pasL key.data.toList salt.data.toList R N = (pasAll key.data.toList salt.data.toList R ((N + 31) / 32)).take N) := rfl
  have hbl := blocksOf_any key (by omega) w ht h4
  clear ht
  have HX : Hid (∀ (s : ByteArray) (p q : Nat) (W : World), s.size ≤ 281474976710656 → 9 ≤ q → Tabs W → Chn W p q (str (innerL key.data.toList)) (str (outerL key.data.toList)) s → Calls Tryz.prog 77 #[.int .i64 ((R : Int) + 1), .func (.func 101) #[] #[.pointer (some ⟨p, 0, none⟩), .pointer (some ⟨q, 0, none⟩)]] W fun e w' => ∃ g cap, e = .returned (.slice (some ⟨g, 0, none⟩) 32 cap) ∧ W.heap.size ≤ g ∧ Buf w' g (pasF key.data.toList s.data.toList R) ∧ Only [q] W w') := fun s p q W hs hq hT hc => xorOf_any key s R (by omega) hk hs p q W hq hT hc
  revert hbl HX
  generalize str (innerL key.data.toList) = yi
  generalize str (outerL key.data.toList) = yo
  intro hbl HX
  go_enter Tryz.func61, Tryz.ntmps61
  go_wp2_with fail
  refine hbl.mono ?_
  clear hbl
  rintro e w1 ⟨rfl, hb1⟩
  have z1 := hb1.size
  have hth : ∀ z : Array Value, z.size = 2 → (w1.alloc (.cells z 126)).there w1.heap.size 0 (#[Value.string yi, .string yo] : Array Value).size := fun z hz => there_of_heap (heap_new _ _) (by rw [hz]; exact Nat.le_refl 2)
  have hone2 : (#[Value.string yi, .string yo] : Array Value).all (·.oneCell') = true := all_oneCell_toArray (cs := [Value.string yi, .string yo]) (strCells_one [yi, yo])
  have hr2 : ∀ z : Array Value, z.size = 2 → Kb ((w1.alloc (.cells z 126)).setCells w1.heap.size 0 [Value.string yi, .string yo]) w1.heap.size yi yo := fun z hz => by
    have h := heap_setCells w1.heap.size 126 [Value.string yi, .string yo] 0 z _ (heap_new w1 (.cells z 126))
    rw [setMany_all _ _ (by rw [hz]; rfl)] at h
    exact h
  have hbz : ∀ z : Array Value, Below w.heap.size w ((w1.alloc (.cells z 126)).setCells w1.heap.size 0 [Value.string yi, .string yo]) := fun z => Below.setCells (hb1.alloc z1 _) z1 _ _
  go_wp2_with (refine wpList_store_mid rfl 126 (.tmp 10) (.tmp 26) rfl w1.heap.size 0 #[Value.string yi, .string yo] rfl rfl (hth _ rfl) size2 hone2 ?_)
  refine with_world (R := fun W => Code.wp _ _ _ _ W) (Q := fun W => Kb W w1.heap.size yi yo ∧ Below w.heap.size w W) _ ⟨hr2 _ rfl, hbz _⟩ ?_
  clear hth hone2 hr2 hbz hb1
  obtain ⟨p, hp⟩ : ∃ p, w1.heap.size = p := ⟨_, rfl⟩
  rw [hp] at z1 ⊢
  clear hp
  rintro w2 ⟨HK2, hb2⟩
  go_loopg [11, 12] ((N + 31) / 32) (fun gk ov i wr => ∃ k : Nat, k + gk = (N + 31) / 32 ∧ i = .int .u32 ((k : Int) + 1) ∧ wr.ownsRow (p + 1) 5 1 ov (pasAll key.data.toList salt.data.toList R k).length (Lib.byteCells (pasAll key.data.toList salt.data.toList R k)) ∧ Kb wr p yi yo ∧ Below w.heap.size w wr)
  case atStart => exact ⟨0, by omega, rfl, World.ownsRow_nil _ _ _ _, HK2, hb2⟩
  case round =>
    clear HK2 hb2
    obtain ⟨k, hk', rfl, hown, HKb, hbel⟩ := hrel
    have HK : Hid (k + gk = (N + 31) / 32) := hk'
    have hk'' : k ≤ (N + 31) / 32 := by omega
    clear hk'
    have hlA := pasAll_length key.data.toList salt.data.toList R k
    have hplt : p < wr.heap.size := heap_lt HKb
    rw [hlA] at hown
    obtain ⟨sl, cp, hov⟩ : ∃ sl cp, u11 = Value.slice sl (32 * k) cp := by
      rcases hown.2 with ⟨e, h0⟩ | ⟨g, cp, cur, e, _⟩
      · exact ⟨none, 0, by rw [e, h0]⟩
      · exact ⟨_, cp, e⟩
    subst hov
    by_cases hlt : k < (N + 31) / 32
    · have hsl : 32 * (k : Int) < (N : Int) := by omega
      have hf4 := fun W => fourBytes_any (k + 1) (by omega) W
      rw [show ((k + 1 : Nat) : Int) = (k : Int) + 1 by omega] at hf4
      have s4 : (str [0, 0, 0, UInt8.ofNat (k + 1)]).size = 4 := by rw [str_size]; rfl
      have a1 : salt.size + (str [0, 0, 0, UInt8.ofNat (k + 1)]).size ≤ 9223372036854775807 := by omega
      have HF : Hid ((salt ++ str [0, 0, 0, UInt8.ofNat (k + 1)]).data.toList = salt.data.toList ++ [0, 0, 0, UInt8.ofNat (k + 1)] ∧ (salt ++ str [0, 0, 0, UInt8.ofNat (k + 1)]).size ≤ 281474976710656) := by
        have e : (salt ++ str [0, 0, 0, UInt8.ofNat (k + 1)]).data.toList = salt.data.toList ++ [0, 0, 0, UInt8.ofNat (k + 1)] := by rw [ByteArray.data_append, Array.toList_append, str_data]
        refine ⟨e, ?_⟩
        rw [size_eq, e, List.length_append, ← size_eq]
        simp only [List.length_cons, List.length_nil]
        omega
      obtain ⟨F, hF⟩ : ∃ F, salt ++ str [0, 0, 0, UInt8.ofNat (k + 1)] = F := ⟨_, rfl⟩
      rw [hF] at HF
      clear s4
      revert hf4 a1 hF
      generalize str [0, 0, 0, UInt8.ofNat (k + 1)] = y4
      intro hf4 a1 hF
      have HA : Hid (pasAll key.data.toList salt.data.toList R (k + 1) = pasAll key.data.toList salt.data.toList R k ++ pasF key.data.toList F.data.toList R) := by
        show _ = _
        rw [HF.out.1]
        rfl
      obtain ⟨l, hl⟩ : ∃ l, pasF key.data.toList F.data.toList R = l := ⟨_, rfl⟩
      have hll : l.length = 32 := by rw [← hl, pasF_length]
      have zr := hbel.size
      have KT : Hid (∀ W W', Below wr.heap.size wr W → Below W.heap.size W W' → Below wr.heap.size wr W') := fun W W' h1 h2 => h1.trans (h2.mono h1.size)
      have KS : Hid (∀ W, Below wr.heap.size wr W → W.cell? ⟨p, 0, none⟩ = some (.string yi) ∧ W.cell? ⟨p, 1, none⟩ = some (.string yo)) := fun W h => by
        have e := (h.block p hplt).trans HKb
        exact ⟨by rw [cell_of_heap e]; rfl, by rw [cell_of_heap e]; rfl⟩
      have KS8 : Hid (∀ W W', Below wr.heap.size wr W → Below (p + 1) W W' → W'.cell? ⟨p, 0, none⟩ = some (.string yi) ∧ W'.cell? ⟨p, 1, none⟩ = some (.string yo)) := fun W W' h h' => by
        have e := (h'.block p (Nat.lt_succ_self p)).trans ((h.block p hplt).trans HKb)
        exact ⟨by rw [cell_of_heap e]; rfl, by rw [cell_of_heap e]; rfl⟩
      have KX : Hid (∀ W5 W6, Below wr.heap.size wr W5 → Below W5.heap.size W5 W6 → Chn W6 W5.heap.size (W5.heap.size + 1) yi yo F → Calls Tryz.prog 77 #[.int .i64 ((R : Int) + 1), .func (.func 101) #[] #[.pointer (some ⟨W5.heap.size, 0, none⟩), .pointer (some ⟨W5.heap.size + 1, 0, none⟩)]] W6 fun e w' => ∃ g cap, e = .returned (.slice (some ⟨g, 0, none⟩) 32 cap) ∧ Buf w' g l ∧ Below wr.heap.size wr w' ∧ w'.ownsRow (p + 1) 5 1 (.slice sl (32 * k) cp) (32 * k) (Lib.byteCells (pasAll key.data.toList salt.data.toList R k))) := fun W5 W6 h5 h6 hc => by
        have z5 := h5.size
        have h06 := h5.trans (h6.mono z5)
        refine (HX.out F _ _ W6 HF.out.2 (by omega) ((HT.out.below hbel (by omega)).below h06 (by omega)) hc).mono ?_
        rintro e w' ⟨g, cap, rfl, _, hbuf, ho⟩
        have hb : Below wr.heap.size wr w' := h06.trans (ho.below (B := wr.heap.size) h06.size (by simp; omega))
        exact ⟨g, cap, rfl, hl ▸ hbuf, hb, owns_below hown (fun j _ hj => hb.block j hj)⟩
      have HBU : Hid (∀ W g, Buf W g l → ∀ j u, (Lib.byteCells l)[j]? = some u → W.cell? ((⟨g, 0, none⟩ : Addr).add j) = some u) := fun W g hb j u hu => by
        rw [Addr.add_lit, Nat.zero_add]
        rw [Lib.byteCells, List.getElem?_map] at hu
        obtain ⟨x, hx, rfl⟩ := Option.map_eq_some_iff.1 hu
        exact hb.cell j x hx
      have hln : (Lib.byteCells l).length = 32 := by simp [Lib.byteCells, hll]
      have HS : Hid (Lib.byteCells (pasAll key.data.toList salt.data.toList R (k + 1)) = Lib.byteCells (pasAll key.data.toList salt.data.toList R k) ++ Lib.byteCells l ∧ (pasAll key.data.toList salt.data.toList R (k + 1)).length = 32 * k + 32) := by
        rw [hl] at HA
        exact ⟨by rw [HA.out, byteCells_append], by rw [pasAll_length]; omega⟩
      have hone : ∀ u ∈ Lib.byteCells l, u.oneCell' = true := byteCells_one l
      have hml : 32 * k + 32 ≤ maxLen := by unfold maxLen; omega
      have w1' : IntKind.u32.wrap ((k : Int) + 1 + 1) = (k : Int) + 1 + 1 := by rw [IntKind.wrap_u32]; omega
      have KB : Hid (Kb wr p yi yo) := HKb
      have hplt1 : p + 1 ≤ wr.heap.size := hplt
      obtain ⟨x0, x1⟩ := KS.out wr (Below.refl _ _)
      have KD : Hid (∀ n, Below wr.heap.size wr (wr.drewN n)) := fun _ => ⟨rfl, rfl, rfl, Nat.le_refl _, fun _ _ => rfl⟩
      clear HA hl hown HKb
      go_wp2_with fail
      go_region_held_law (fun W => W.cell? ⟨p, 0, none⟩ = some (.string yi) ∧ W.cell? ⟨p, 1, none⟩ = some (.string yo)) (first | exact KS.out _ (KD.out _) | exact KS.out _ hb5 | exact KS.out _ hb6 | exact KS.out _ hb7 | exact hs8 | go_keep)
        (first | (go_at_call 79; refine (hf4 _).mono ?_; rintro e w5 ⟨rfl, hb5'⟩; have hb5 := KT.out _ _ (KD.out _) hb5') | (go_at_call 78; refine (chain_any yi yo F w5).mono ?_; rintro e w6 ⟨rfl, hc6, hb6'⟩; have hb6 := KT.out _ _ hb5 hb6') | (go_at_call 77; refine (KX.out w5 w6 hb5 hb6' hc6).mono ?_; rintro e w7 ⟨g, cap, rfl, hbuf7, hb7, hown7⟩) | (refine step_append_own rfl (.tmp 33) (.tmp 41) 29 rfl (p + 1) 5 i0 (.int .u8 0) 1 1 Tryz.underlying29 hi hz0 hz1 hz2 rfl (by decide) _ _ _ (by simp [Act.eval]) hown7 ⟨g, 0, none⟩ 32 cap (Lib.byteCells l) (by simp [Act.eval]) hln (HBU.out _ _ hbuf7) hone hml (by omega) (Nat.le_trans hplt1 hb7.size) ?_; intro v8 w8 hown8 hgrow8; have hg8 := grown_below hgrow8 (Nat.le_trans hplt1 hb7.size) hown7; have hs8 := KS8.out _ _ hb7 hg8))
      all_goals
        have R5 : w8.ownsRow (p + 1) 5 1 v8 (pasAll key.data.toList salt.data.toList R (k + 1)).length (Lib.byteCells (pasAll key.data.toList salt.data.toList R (k + 1))) := by
          rw [HS.out.1, HS.out.2]
          exact hown8
        have R6 : Kb w8 p yi yo := (KB.out.below hb7 hplt).below hg8 (Nat.lt_succ_self p)
        have R7 : Below w.heap.size w w8 := (hbel.trans (hb7.mono zr)).trans (hg8.mono (by omega))
        clear hown8 hgrow8 hg8 hown7 hb7 hbuf7 hf4 x0 x1
        go_wp2
        go_roundg (gk - 1)
        case measure => have := HK.out; omega
        case rel => exact ⟨k + 1, by have := HK.out; omega, by go_num, R5, R6, R7⟩
    · have HKE : Hid (k = (N + 31) / 32) := by show _ = _; omega
      have hsl : ¬ 32 * (k : Int) < (N : Int) := by omega
      have HR : Hid (pasL key.data.toList salt.data.toList R N = (pasAll key.data.toList salt.data.toList R k).take N) := by show _ = _; rw [HN.out, ← HKE.out]
      have htl : ((pasAll key.data.toList salt.data.toList R k).take N).length = N := by rw [List.length_take, hlA]; omega
      rcases hown.2 with ⟨e, h0⟩ | ⟨g, cp', cur, e, _, hg2, hg3, _, _, hg6⟩
      · simp only [Value.slice.injEq] at e
        obtain ⟨rfl, _, rfl⟩ := e
        have hk0 : k = 0 := by omega
        have hN0 : N = 0 := by omega
        subst hN0
        have HE : Hid ((pasAll key.data.toList salt.data.toList R k).take 0 = []) := rfl
        have hcvn := convert_own (P := Tryz.prog) wr 29 9 5 0 (.slice none 0 0) [] Tryz.underlying29 Tryz.underlying5 Tryz.underlying9 (World.ownsRow_nil _ _ _ _)
        clear hown HKb
        subst hk0
        go_wp2
        go_ret2
        rw [HR.out, HE.out]
        exact ⟨rfl, hbel⟩
      · simp only [Value.slice.injEq] at e
        obtain ⟨rfl, _, rfl⟩ := e
        have hcv : ∀ cc, (convert 29 9 (.slice (some ⟨g, 0, none⟩) N cc)).run Tryz.prog wr = .ok (.string (str ((pasAll key.data.toList salt.data.toList R k).take N))) wr := fun cc => by
          have h := run_convert_bytes_back (P := Tryz.prog) wr 29 9 5 ⟨g, 0, none⟩ cc ((pasAll key.data.toList salt.data.toList R k).take N) Tryz.underlying29 Tryz.underlying5 Tryz.underlying9 (fun j hj => by
            have hjN : j < N := by rw [htl] at hj; exact hj
            rw [Addr.add_lit, Nat.zero_add, hown.cellAt j (by omega), Lib.byteCells, List.getElem?_map, List.getElem?_eq_getElem (by rw [hlA]; omega)]
            simp)
          rw [htl] at h
          exact h
        have hNc : (N : Int) ≤ (cp : Int) := by omega
        clear hown HKb
        revert hcv HR
        generalize (pasAll key.data.toList salt.data.toList R k).take N = T
        intro HR hcv
        go_wp2
        go_ret2
        rw [HR.out]
        exact ⟨rfl, hbel⟩

theorem kpbkdf_rounds (key salt : ByteArray) (rounds n : Int) (h : rounds < 1 ∨ 4096 < rounds) (w : World) :
    Calls Tryz.prog 61 #[.string key, .string salt, .int .i64 rounds, .int .i64 n] w fun e w' => e = .returned (.tuple #[.string { data := #[] }, .int .i64 30]) ∧ Below w.heap.size w w' := by
  by_cases h1 : rounds < 1
  · go_enter Tryz.func61, Tryz.ntmps61
    go_wp2
    go_ret2
    exact ⟨rfl, Below.refl _ _⟩
  · have h2 : (4096 : Int) < rounds := by omega
    go_enter Tryz.func61, Tryz.ntmps61
    go_wp2
    go_ret2
    exact ⟨rfl, Below.refl _ _⟩

theorem kpbkdf_long (key salt : ByteArray) (rounds n : Int) (r1 : 1 ≤ rounds) (r2 : rounds ≤ 4096) (h : n < 0 ∨ 1024 < n) (w : World) :
    Calls Tryz.prog 61 #[.string key, .string salt, .int .i64 rounds, .int .i64 n] w fun e w' => e = .returned (.tuple #[.string { data := #[] }, .int .i64 31]) ∧ Below w.heap.size w w' := by
  have e3 : ¬ rounds < 1 := by omega
  have e4 : ¬ 4096 < rounds := by omega
  by_cases h1 : n < 0
  · go_enter Tryz.func61, Tryz.ntmps61
    go_wp2
    go_ret2
    exact ⟨rfl, Below.refl _ _⟩
  · have h2 : (1024 : Int) < n := by omega
    go_enter Tryz.func61, Tryz.ntmps61
    go_wp2
    go_ret2
    exact ⟨rfl, Below.refl _ _⟩

end Go.Proofs.YtbjiamaaocjbfaaGreatDoor
