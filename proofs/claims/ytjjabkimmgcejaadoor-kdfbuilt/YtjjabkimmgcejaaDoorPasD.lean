import Derived.Test.YtjjabkimmgcejaaDoorPasC
import Derived.Test.YtjjabkimmgcejaaDoorRowT
import Derived.Test.YtjjabkimmgcejaaDoorRefB
import Derived.BigRegion
namespace Go.Proofs.YtjjabkimmgcejaaDoor
open Go.RowKit Go.Lib

/-- bytes in a row of their own -/
structure Buf (w : World) (g : Nat) (l : List UInt8) : Prop where
  cur : ∃ (cur : Array Value) (fr : Nat × Nat), w.heap[g]? = some (.cells cur 5 fr) ∧ l.length ≤ cur.size ∧ (∀ j, j < l.length → w.frozen? ⟨g, j, none⟩ = false) ∧ cur.toList.take l.length = Lib.byteCells l
theorem frozen_kept {w w' : World} {g j : Nat} (hk : w'.heap[g]? = w.heap[g]?) : w'.frozen? ⟨g, j, none⟩ = w.frozen? ⟨g, j, none⟩ := by
  simp [World.frozen?, hk]
theorem Buf.lt {w : World} {g : Nat} {l : List UInt8} (h : Buf w g l) : g < w.heap.size := by
  obtain ⟨cur, fr, h1, _⟩ := h.cur
  exact heap_lt h1
theorem Buf.kept {w w' : World} {g : Nat} {l : List UInt8} (h : Buf w g l) (hk : w'.heap[g]? = w.heap[g]?) : Buf w' g l := by
  obtain ⟨cur, fr, h1, h2, h3, h4⟩ := h.cur
  exact ⟨cur, fr, hk.trans h1, h2, fun j hj => (frozen_kept hk).trans (h3 j hj), h4⟩
theorem Buf.frozen {w : World} {g : Nat} {l : List UInt8} (h : Buf w g l) (i : Nat) (hi : i < l.length) : w.frozen? ⟨g, i, none⟩ = false := by
  obtain ⟨cur, fr, h1, h2, h3, h4⟩ := h.cur
  exact h3 i hi
theorem Buf.cell {w : World} {g : Nat} {l : List UInt8} (h : Buf w g l) (i : Nat) (x : UInt8) (hx : l[i]? = some x) : w.cell? ⟨g, i, none⟩ = some (.int .u8 (x.toNat : Int)) := by
  obtain ⟨cur, fr, h1, h2, h3, h4⟩ := h.cur
  have hi : i < l.length := (List.getElem?_eq_some_iff.1 hx).1
  have e : (cur.toList.take l.length)[i]? = some (.int .u8 (x.toNat : Int)) := by rw [h4]; simp [Lib.byteCells, hx]
  rw [List.getElem?_take, if_pos hi, Array.getElem?_toList] at e
  rw [cell_of_heap h1]
  exact e
theorem Buf.put {w : World} {g : Nat} {l : List UInt8} (h : Buf w g l) (i : Nat) (x : UInt8) : Buf (w.setCell ⟨g, i, none⟩ (.int .u8 (x.toNat : Int))) g (l.set i x) := by
  obtain ⟨cur, fr, h1, h2, h3, h4⟩ := h.cur
  have h1' := heap_setCell_fr w g i cur 5 fr (.int .u8 (x.toNat : Int)) h1
  refine ⟨cur.setIfInBounds i (.int .u8 (x.toNat : Int)), fr, h1', by rw [List.length_set, Array.size_setIfInBounds]; exact h2, fun j hj => ?_, ?_⟩
  · rw [List.length_set] at hj
    have := h3 j hj
    simp only [World.frozen?, h1] at this
    simp only [World.frozen?, h1']
    exact this
  · have e : Lib.byteCells (l.set i x) = (Lib.byteCells l).set i (.int .u8 (x.toNat : Int)) := by simp [Lib.byteCells]
    rw [List.length_set, e, ← h4, Array.toList_setIfInBounds, List.take_set]
theorem Buf.of_rowF {w : World} {base : Nat} {v : Value} {l : List UInt8} (h : RowF w base 5 v (Lib.byteCells l)) : ∃ g cap, v = .slice (some ⟨g, 0, none⟩) l.length cap ∧ base ≤ g ∧ l.length ≤ cap ∧ cap ≤ maxLen ∧ Buf w g l := by
  obtain ⟨g, cap, cur, fr, rfl, r2, r3, r4, r5, r6, r7, r8⟩ := h
  have e : (Lib.byteCells l).length = l.length := by simp [Lib.byteCells]
  rw [e] at r6 r8 ⊢
  exact ⟨g, cap, rfl, r2, r6, r7, ⟨cur, fr, r3, by omega, fun j hj => r4 j (by omega), r8⟩⟩

/-- xored up to k -/
def mixX (a b : List UInt8) (k : Nat) : List UInt8 := (xorL a b).take k ++ a.drop k
theorem mixX_zero (a b : List UInt8) : mixX a b 0 = a := by simp [mixX]
theorem mixX_length (a b : List UInt8) (k : Nat) (ha : a.length = 32) (hb : b.length = 32) (hk : k ≤ 32) : (mixX a b k).length = 32 := by
  rw [mixX, List.length_append, List.length_take, List.length_drop, xorL_length, ha, hb]; omega
theorem mixX_all (a b : List UInt8) (ha : a.length = 32) (hb : b.length = 32) : mixX a b 32 = xorL a b := by
  rw [mixX, List.take_of_length_le (by rw [xorL_length, ha, hb]; omega), List.drop_of_length_le (by omega), List.append_nil]
theorem mixX_at (a b : List UInt8) (k : Nat) (x : UInt8) (ha : a.length = 32) (hb : b.length = 32) (hx : a[k]? = some x) : (mixX a b k)[k]? = some x := by
  have hk : k < a.length := (List.getElem?_eq_some_iff.1 hx).1
  have hl : ((xorL a b).take k).length = k := by rw [List.length_take, xorL_length]; omega
  rw [mixX, List.getElem?_append_right (by omega), hl, Nat.sub_self, List.getElem?_drop]
  exact hx
theorem mixX_set (a b : List UInt8) (k : Nat) (x y : UInt8) (ha : a.length = 32) (hb : b.length = 32) (hx : a[k]? = some x) (hy : b[k]? = some y) : (mixX a b k).set k (x ^^^ y) = mixX a b (k + 1) := by
  have hk : k < a.length := (List.getElem?_eq_some_iff.1 hx).1
  have hl : ((xorL a b).take k).length = k := by rw [List.length_take, xorL_length]; omega
  have hd : a.drop k = x :: a.drop (k + 1) := by
    rw [List.drop_eq_getElem_cons hk]
    congr 1
    exact (List.getElem?_eq_some_iff.1 hx).2
  rw [mixX, List.set_append_right _ _ (by omega), hl, Nat.sub_self, hd, mixX, xorL_take a b k x y hx hy, List.append_assoc]
  rfl

theorem Chn.only {w w' : World} {p q g : Nat} {yi yo s : ByteArray} (h : Chn w p q yi yo s) (ho : Only [g] w w') (hp : p ≠ g) (hq : q ≠ g) : Chn w' p q yi yo s :=
  ⟨(ho.block p (heap_lt h.key) (by simpa using hp)).trans h.key, (ho.block q (heap_lt h.last) (by simpa using hq)).trans h.last⟩

set_option maxRecDepth 20000 in
set_option maxHeartbeats 2000000 in
theorem xorOf_any (key s : ByteArray) (R : Nat) (hR : R < 4096) (hk : key.size ≤ 140737488351232) (hs : s.size ≤ 281474976710656) (p q : Nat) (w : World) (hq4 : 4 ≤ q) (hT : Tabs w) (hc : Chn w p q (str (innerL key.data.toList)) (str (outerL key.data.toList)) s) :
    Calls Tryd.prog 37 #[.int .i64 ((R : Int) + 1), .func (.func 49) #[] #[.pointer (some ⟨p, 0, none⟩), .pointer (some ⟨q, 0, none⟩)]] w fun e w' => ∃ g cap, e = .returned (.slice (some ⟨g, 0, none⟩) 32 cap) ∧ w.heap.size ≤ g ∧ Buf w' g (pasF key.data.toList s.data.toList R) ∧ Only [q] w w' := by
  have hql := heap_lt hc.last
  have hpl := heap_lt hc.key
  have HT : Hid (∀ W, Only [q] w W → Tabs W) := fun W h => hT.below (h.below (B := q) (by omega) (by simp)) (by omega)
  have hl0 := link_any key s hk hs p q w hT (by omega) hc
  have HL : Hid (∀ r W, Only [q] w W → Chn W p q (str (innerL key.data.toList)) (str (outerL key.data.toList)) (str (pasU key.data.toList s.data.toList r)) → Calls Tryd.prog 49 #[.pointer (some ⟨p, 0, none⟩), .pointer (some ⟨q, 0, none⟩)] W fun e w' => e = .returned (.string (str (pasU key.data.toList s.data.toList (r + 1)))) ∧ Chn w' p q (str (innerL key.data.toList)) (str (outerL key.data.toList)) (str (pasU key.data.toList s.data.toList (r + 1))) ∧ Only [q] W w') := fun r W ho hc' => by
    have h := link_any key (str (pasU key.data.toList s.data.toList r)) hk (by rw [str_size, pasU_length]; omega) p q W (HT.out W ho) (by have := ho.size; omega) hc'
    rw [str_data] at h
    exact h
  have HU : Hid (hmacL key.data.toList s.data.toList = pasU key.data.toList s.data.toList 0) := rfl
  rw [HU.out] at hl0
  have HB : Hid (∀ W, ∃ v w', (convert 9 42 (.string (str (pasU key.data.toList s.data.toList 0)))).run Tryd.prog W = .ok v w' ∧ RowF w' W.heap.size 5 v (Lib.byteCells (pasU key.data.toList s.data.toList 0)) ∧ Below W.heap.size W w') := fun W => by
    have h := bytes_any (str (pasU key.data.toList s.data.toList 0)) (by rw [str_size, pasU_length]; unfold maxLen; omega) W
    rw [str_data] at h
    exact h
  have h32 := pasU_length key.data.toList s.data.toList 0
  clear hc hT
  go_enter Tryd.func37, Tryd.ntmps37
  go_wp2_with (go_at_call 49; refine hl0.mono ?_; rintro e w1 ⟨rfl, hc1, ho1⟩; obtain ⟨v1, w2, hcv, hrow, hb1⟩ := HB.out w1)
  obtain ⟨g, cap, rfl, hg, hcap, hcm, hbuf⟩ := Buf.of_rowF hrow
  rw [h32]
  rw [h32] at hcap
  have z1 := ho1.size
  have HG : Hid (w.heap.size ≤ g) := by show _ ≤ _; omega
  have hpg : p ≠ g := by omega
  have hqg : q ≠ g := by omega
  have ho2 : Only [q] w w2 := ho1.trans ⟨hb1.os, hb1.tape, hb1.output, hb1.size, fun k hk _ => hb1.block k hk⟩
  have hc2 : Chn w2 p q (str (innerL key.data.toList)) (str (outerL key.data.toList)) (str (pasU key.data.toList s.data.toList 0)) := ⟨(hb1.block p (by omega)).trans hc1.key, (hb1.block q (by omega)).trans hc1.last⟩
  have hbuf0 : Buf w2 g (pasF key.data.toList s.data.toList 0) := hbuf
  clear hl0 hcv hrow hb1 hc1 ho1 hbuf HB h32 z1
  go_loopg [13] R (fun gk i wr => ∃ r : Nat, r + gk = R ∧ i = .int .i64 r ∧ Chn wr p q (str (innerL key.data.toList)) (str (outerL key.data.toList)) (str (pasU key.data.toList s.data.toList r)) ∧ Buf wr g (pasF key.data.toList s.data.toList r) ∧ Only [q] w wr)
  case atStart => exact ⟨0, by omega, rfl, hc2, hbuf0, ho2⟩
  case round =>
    clear hc2 hbuf0 ho2
    obtain ⟨r, hrr, rfl, hch, hbuf, hon⟩ := hrel
    have HRR : Hid (r + gk = R) := hrr
    have hr' : r ≤ R := by omega
    clear hrr
    by_cases hlt : r < R
    · have hltI : (r : Int) < (R : Int) := by omega
      have hl := HL.out r wr hon hch
      clear hch
      go_wp2_with (go_at_call 49; refine hl.mono ?_; rintro e w3 ⟨rfl, hc3, ho3⟩)
      have hbuf3 := hbuf.kept (ho3.block g hbuf.lt (by simpa using Ne.symm hqg))
      have ho4 := hon.trans ho3
      have HC3 : Hid (Chn w3 p q (str (innerL key.data.toList)) (str (outerL key.data.toList)) (str (pasU key.data.toList s.data.toList (r + 1)))) := hc3
      have hla := pasF_length key.data.toList s.data.toList r
      have hlb := pasU_length key.data.toList s.data.toList (r + 1)
      have HF : Hid (pasF key.data.toList s.data.toList (r + 1) = xorL (pasF key.data.toList s.data.toList r) (pasU key.data.toList s.data.toList (r + 1))) := rfl
      rw [← mixX_zero (pasF key.data.toList s.data.toList r) (pasU key.data.toList s.data.toList (r + 1))] at hbuf3
      clear hl hbuf hon ho3 hc3
      go_loopg [19] 32 (fun gj i wx => ∃ k : Nat, k + gj = 32 ∧ i = .int .i64 k ∧ Buf wx g (mixX (pasF key.data.toList s.data.toList r) (pasU key.data.toList s.data.toList (r + 1)) k) ∧ Only [g] w3 wx)
      case atStart => exact ⟨0, by omega, rfl, hbuf3, Only.refl _ _⟩
      case round =>
        clear hbuf3
        obtain ⟨k, hkk, rfl, hbuf, hon⟩ := hrel
        have HK : Hid (k + gk = 32) := hkk
        have hk' : k ≤ 32 := by omega
        clear hkk
        by_cases hk32 : k < 32
        · have hkI : (k : Int) < 32 := by omega
          obtain ⟨x, hx⟩ : ∃ x, (pasF key.data.toList s.data.toList r)[k]? = some x := ⟨_, List.getElem?_eq_getElem (by omega)⟩
          obtain ⟨y, hy⟩ : ∃ y, (pasU key.data.toList s.data.toList (r + 1))[k]? = some y := ⟨_, List.getElem?_eq_getElem (by omega)⟩
          have hx8 := x.toNat_lt
          have hy8 := y.toNat_lt
          have hxor : bits .xor .u8 (x.toNat : Int) (y.toNat : Int) = ((x ^^^ y).toNat : Int) := by rw [u8_xor_nat _ _ hx8 hy8, UInt8.toNat_xor]
          have hiy := fun W => rindex_at (P := Tryd.prog) W 9 (str (pasU key.data.toList s.data.toList (r + 1))) .i64 (k : Int) k y Tryd.underlying9 rfl (by rw [str_data]; exact hy)
          have c0 := hbuf.cell k x (mixX_at _ _ k x hla hlb hx)
          have f0 := hbuf.frozen k (by rw [mixX_length _ _ k hla hlb hk']; omega)
          have c0d : wr.drew.cell? ⟨g, k, none⟩ = some (.int .u8 (x.toNat : Int)) := c0
          have f0d : wr.drew.frozen? ⟨g, k, none⟩ = false := f0
          have hput := hbuf.put k (x ^^^ y)
          rw [mixX_set _ _ k x y hla hlb hx hy] at hput
          have hon2 := (hon.setCell (p := ⟨g, k, none⟩) (by simp) (.int .u8 ((x ^^^ y).toNat : Int)))
          clear hx hy hx8 hy8 hbuf
          revert hxor hiy c0 c0d hput hon2
          generalize (x.toNat : Int) = xi
          generalize (y.toNat : Int) = yi
          generalize ((x ^^^ y).toNat : Int) = zi
          intro hxor hiy c0 c0d hput hon2
          have hputd : Buf (wr.setCell ⟨g, k, none⟩ (.int .u8 zi)).drew g (mixX (pasF key.data.toList s.data.toList r) (pasU key.data.toList s.data.toList (r + 1)) (k + 1)) := hput.kept rfl
          have hond : Only [g] w3 (wr.setCell ⟨g, k, none⟩ (.int .u8 zi)).drew := ⟨hon2.os, hon2.tape, hon2.output, hon2.size, hon2.block⟩
          go_wp2_with fail
          go_region
          refine with_world (R := fun W => Exit.inBlock _ _ _ _ W) (Q := fun W => Buf W g (mixX (pasF key.data.toList s.data.toList r) (pasU key.data.toList s.data.toList (r + 1)) (k + 1)) ∧ Only [g] w3 W) _ ⟨hputd, hond⟩ ?_
          clear hputd hond hput hon2 c0 c0d f0 f0d hxor hiy
          rintro w9 ⟨hput, hon2⟩
          go_wp2
          go_roundg (gk - 1)
          case measure => have := HK.out; omega
          case rel => exact ⟨k + 1, by have := HK.out; omega, by go_num, hput, hon2⟩
        · obtain rfl : k = 32 := by omega
          rw [mixX_all _ _ hla hlb, ← HF.out] at hbuf
          have hc5 := HC3.out.only hon hpg hqg
          have ho5 : Only [q] w wr := ⟨hon.os.trans ho4.os, hon.tape.trans ho4.tape, hon.output.trans ho4.output, Nat.le_trans ho4.size hon.size, fun j hj hjq => (hon.block j (by have := ho4.size; omega) (by have := HG.out; simp; omega)).trans (ho4.block j hj hjq)⟩
          go_wp2
          go_roundg (R - (r + 1))
          case measure => have := HRR.out; omega
          case rel => exact ⟨r + 1, by have := HRR.out; omega, by go_num, hc5, hbuf, ho5⟩
    · obtain rfl : r = R := by omega
      go_wp2
      go_ret
      exact ⟨g, cap, rfl, HG.out, hbuf, hon⟩

end Go.Proofs.YtjjabkimmgcejaaDoor
