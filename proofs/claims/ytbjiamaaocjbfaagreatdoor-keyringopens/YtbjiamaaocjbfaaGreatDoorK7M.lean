import Derived.Test.YtbjiamaaocjbfaaGreatDoorKrQ
import Derived.Test.YtbjiamaaocjbfaaGreatDoorBaseM
import Derived.Test.YtbjiamaaocjbfaaGreatDoorKoM
import Derived.Test.YtbjiamaaocjbfaaGreatDoorAeZ
import Derived.Test.YtbjiamaaocjbfaaGreatDoorKrP
namespace Go.Proofs.YtbjiamaaocjbfaaGreatDoor.Kr
open Go.RowKit Go.Lib Go.Deep

theorem knum_any (z : Int) (w : World) : Calls Tryz.prog 10 #[.int .i64 z] w fun e w' => e = .returned (.int .i64 z) ∧ w = w' := by
  go_enter Tryz.func10, Tryz.ntmps10
  go_wp2
  go_ret
  exact ⟨rfl, rfl⟩
/-- a passphrase of anything -/
def phraseL (l : List UInt8) : List UInt8 := if l.length = 0 then [111, 97, 116, 115] else l.take 256
theorem phrase_ok (l : List UInt8) : passK (phraseL l) = true := by
  unfold passK phraseL
  apply decide_eq_true
  split
  · simp
  · rw [List.length_take]; omega
set_option maxRecDepth 20000 in
theorem phrase_any (s : ByteArray) (hs : s.size ≤ 9223372036854775807) (w : World) :
    Calls Tryz.prog 9 #[.string s] w fun e w' => e = .returned (.string (str (phraseL s.data.toList))) ∧ w = w' := by
  have hl : s.data.toList.length = s.size := (size_eq s).symm
  unfold phraseL
  by_cases h0 : s.size = 0
  · have he : s.toList.isEmpty = true := by rw [toList_data, List.isEmpty_iff]; exact List.eq_nil_of_length_eq_zero (by omega)
    rw [if_pos (by omega)]
    go_enter Tryz.func9, Tryz.ntmps9
    go_wp2
    go_ret
    exact ⟨rfl, rfl⟩
  · have he : s.toList.isEmpty = false := by
      rw [toList_data, List.isEmpty_eq_false_iff]
      intro h
      rw [h] at hl
      exact h0 hl.symm
    rw [if_neg (by omega)]
    by_cases h1 : 256 < s.size
    · have i1 : (256 : Int) < (s.size : Int) := by omega
      have hsl := fun W => Ae.slice_take (P := Tryz.prog) W 9 Tryz.underlying9 s.data.toList 256 (by omega)
      rw [str_of] at hsl
      change ∀ W, (Instr.slice 9 (.string s) none (some (.int .i64 256)) none).run Tryz.prog W = _ at hsl
      generalize str (s.data.toList.take 256) = y at hsl ⊢
      go_enter Tryz.func9, Tryz.ntmps9
      go_wp2
      go_ret
      exact ⟨rfl, rfl⟩
    · have i1 : ¬ (256 : Int) < (s.size : Int) := by omega
      rw [List.take_of_length_le (by omega), str_of]
      go_enter Tryz.func9, Tryz.ntmps9
      go_wp2
      go_ret
      exact ⟨rfl, rfl⟩
/-- a text of n bytes -/
def sz5 (l : List UInt8) (n : Nat) : List UInt8 := (l ++ List.replicate n 5).take n
theorem sz5_length (l : List UInt8) (n : Nat) : (sz5 l n).length = n := by simp [sz5]
theorem sz5_at (l : List UInt8) (n k : Nat) (hk : k < n) : (sz5 l n)[k]? = some (if h : k < l.length then l[k] else 5) := by
  unfold sz5
  rw [List.getElem?_take, if_pos hk]
  by_cases h : k < l.length
  · rw [dif_pos h, List.getElem?_append_left h, List.getElem?_eq_getElem h]
  · rw [dif_neg h, List.getElem?_append_right (by omega), List.getElem?_replicate, if_pos (by omega)]
/-- the bytes so far -/
def szk (l : List UInt8) (n k : Nat) : List UInt8 := (sz5 l n).take k ++ List.replicate (n - k) 0
theorem szk_length (l : List UInt8) (n k : Nat) (hk : k ≤ n) : (szk l n k).length = n := by
  unfold szk
  rw [List.length_append, List.length_take, sz5_length, List.length_replicate]
  omega
theorem szk_set (l : List UInt8) (n k : Nat) (hk : k < n) (x : UInt8) (hx : (sz5 l n)[k]? = some x) : (szk l n k).set k x = szk l n (k + 1) := by
  have hl : ((sz5 l n).take k).length = k := by rw [List.length_take, sz5_length]; omega
  unfold szk
  rw [List.set_append_right _ _ (by omega), hl, Nat.sub_self, show n - k = (n - (k + 1)) + 1 by omega, List.replicate_succ, List.set_cons_zero, List.take_add_one, hx]
  simp
theorem set_set (l : List UInt8) (k : Nat) (x y : UInt8) : (l.set k x).set k y = l.set k y := by simp
theorem make_n (m : Nat) (hm : m ≤ 1000) (w : World) : (Instr.makeSlice 29 (.int .i64 ((m + 1 : Nat) : Int)) (.int .i64 ((m + 1 : Nat) : Int))).run Tryz.prog w = .ok (.slice (some ⟨w.heap.size, 0, none⟩) (m + 1) (m + 1)) (w.alloc (.cells (Lib.byteCells (List.replicate (m + 1) 0)).toArray 5)) := by
  obtain ⟨i0, hi, hz0, hz1, hz2⟩ := info_parts info5
  have h := run_make (P := Tryz.prog) w 29 5 i0 (.int .u8 0) Tryz.underlying29 hi hz0 .i64 .i64 (m + 1) (m + 1) (by omega) (by omega) (by rw [hz2]; omega) (by omega)
  have e : madeCells #[Value.int .u8 0] (m + 1) = (Lib.byteCells (List.replicate (m + 1) 0)).toArray := by
    have h2 := made_bytes m
    rw [show 1 + m = m + 1 by omega, Nat.mul_one] at h2
    rw [show List.replicate (m + 1) (0 : UInt8) = zeros (m + 1) from rfl, ← h2]
  rw [← e]
  simpa [hz1, Value.cells] using h
theorem buf_new (w : World) (l : List UInt8) : Buf (w.alloc (.cells (Lib.byteCells l).toArray 5)) w.heap.size l := by
  refine ⟨(Lib.byteCells l).toArray, (0, 0), heap_new _ _, by simp [Lib.byteCells], fun j _ => frozen_of_heap (heap_new _ _), ?_⟩
  rw [List.take_of_length_le (by simp [Lib.byteCells])]

set_option maxRecDepth 20000 in
set_option maxHeartbeats 1000000 in
theorem ksized_any (s : ByteArray) (n : Nat) (hn : n ≤ 1000) (hn0 : 1 ≤ n) (hs : s.size ≤ 9223372036854775807) (w : World) :
    Calls Tryz.prog 8 #[.string s, .int .i64 (n : Int)] w fun e w' => e = .returned (.string (str (sz5 s.data.toList n))) ∧ Below w.heap.size w w' := by
  have hl : s.data.toList.length = s.size := (size_eq s).symm
  obtain ⟨m, rfl⟩ : ∃ m, n = m + 1 := ⟨n - 1, by omega⟩
  have hmk := make_n m (by omega) w
  have HB0 : Hid (Buf (w.alloc (.cells (Lib.byteCells (List.replicate (m + 1) 0)).toArray 5)) w.heap.size (szk s.data.toList (m + 1) 0) ∧ Below w.heap.size w (w.alloc (.cells (Lib.byteCells (List.replicate (m + 1) 0)).toArray 5))) := by
    have e : szk s.data.toList (m + 1) 0 = List.replicate (m + 1) 0 := by simp [szk]
    rw [e]
    exact ⟨buf_new _ _, (Below.refl _ _).alloc (Nat.le_refl _) _⟩
  generalize (Lib.byteCells (List.replicate (m + 1) 0)).toArray = C at hmk HB0
  obtain ⟨n, hnm⟩ : ∃ n, m + 1 = n := ⟨_, rfl⟩
  rw [hnm] at hmk HB0 hn ⊢
  clear hnm hn0
  go_enter Tryz.func8, Tryz.ntmps8
  go_wp2
  go_loopg [6] n (fun gk i wr => ∃ k : Nat, k + gk = n ∧ i = .int .i64 (k : Int) ∧ Hid (Buf wr w.heap.size (szk s.data.toList n k)) ∧ Below w.heap.size w wr)
  case atStart => exact ⟨0, by omega, rfl, HB0.out.1, HB0.out.2⟩
  case round =>
    clear HB0 hmk
    obtain ⟨k, hk, rfl, HB, hbel⟩ := hrel
    have HK : Hid (k + gk = n) := hk
    have hk' : k ≤ n := by omega
    clear hk
    by_cases hlt : k < n
    · have hltI : (k : Int) < (n : Int) := by omega
      have hlen := szk_length s.data.toList n k hk'
      obtain ⟨x0, hx0⟩ : ∃ x, (szk s.data.toList n k)[k]? = some x := ⟨_, List.getElem?_eq_getElem (by omega)⟩
      have c0 := HB.out.cell k x0 hx0
      have f0 := HB.out.frozen k (by omega)
      have hB1 := HB.out.put k 5
      have hb1 := hbel.setCell (p := ⟨w.heap.size, k, none⟩) (Nat.le_refl _) (.int .u8 (((5 : UInt8).toNat : Nat) : Int))
      change Buf (wr.setCell ⟨w.heap.size, k, none⟩ (.int .u8 5)) _ _ at hB1
      change Below _ _ (wr.setCell ⟨w.heap.size, k, none⟩ (.int .u8 5)) at hb1
      have c1 : (wr.setCell ⟨w.heap.size, k, none⟩ (.int .u8 5)).cell? ⟨w.heap.size, k, none⟩ = some (.int .u8 5) := hB1.cell k 5 (by rw [List.getElem?_set]; simp; omega)
      have f1 := hB1.frozen k (by rw [List.length_set]; omega)
      have hat := sz5_at s.data.toList n k hlt
      by_cases hks : k < s.size
      · have hksI : (k : Int) < (s.size : Int) := by omega
        obtain ⟨x, hx⟩ : ∃ x, s.data.toList[k]? = some x := ⟨_, List.getElem?_eq_getElem (by omega)⟩
        have hix := fun W => kindex_at (P := Tryz.prog) W 9 s .i64 (k : Int) k x Tryz.underlying9 rfl hx
        have hB2 := hB1.put k x
        have hb2 := hb1.setCell (p := ⟨w.heap.size, k, none⟩) (Nat.le_refl _) (.int .u8 (x.toNat : Int))
        rw [set_set, szk_set _ n k hlt x (by rw [hat, dif_pos (by omega)]; rw [List.getElem?_eq_getElem (by omega)] at hx; exact hx)] at hB2
        have HR : Hid (Buf ((wr.setCell ⟨w.heap.size, k, none⟩ (.int .u8 5)).setCell ⟨w.heap.size, k, none⟩ (.int .u8 (x.toNat : Int))) w.heap.size (szk s.data.toList n (k + 1)) ∧ Below w.heap.size w ((wr.setCell ⟨w.heap.size, k, none⟩ (.int .u8 5)).setCell ⟨w.heap.size, k, none⟩ (.int .u8 (x.toNat : Int)))) := ⟨hB2, hb2⟩
        clear hB1 hb1 hB2 hb2 hx hx0 hat HB hbel
        generalize x.toNat = xn at hix HR
        generalize x0.toNat = x0n at c0
        go_wp2
        go_roundg (gk - 1)
        case measure => have := HK.out; omega
        case rel => exact ⟨k + 1, by have := HK.out; omega, by go_num, HR.out.1, HR.out.2⟩
      · have hksI : ¬ (k : Int) < (s.size : Int) := by omega
        rw [szk_set _ n k hlt 5 (by rw [hat, dif_neg (by omega)])] at hB1
        have HR : Hid (Buf (wr.setCell ⟨w.heap.size, k, none⟩ (.int .u8 5)) w.heap.size (szk s.data.toList n (k + 1)) ∧ Below w.heap.size w (wr.setCell ⟨w.heap.size, k, none⟩ (.int .u8 5))) := ⟨hB1, hb1⟩
        clear hB1 hb1 hx0 hat HB hbel c1 f1
        generalize x0.toNat = x0n at c0
        go_wp2
        go_roundg (gk - 1)
        case measure => have := HK.out; omega
        case rel => exact ⟨k + 1, by have := HK.out; omega, by go_num, HR.out.1, HR.out.2⟩
    · obtain rfl : k = n := by omega
      have hltI : ¬ (k : Int) < (k : Int) := by omega
      have e : szk s.data.toList k k = sz5 s.data.toList k := by
        unfold szk
        rw [List.take_of_length_le (by rw [sz5_length]; omega)]
        simp
      have hcv := (HB.out).text (P := Tryz.prog) 29 9 k Tryz.underlying29 Tryz.underlying5 Tryz.underlying9
      rw [e, sz5_length] at hcv
      clear HB e
      go_wp2
      go_ret
      exact ⟨rfl, hbel⟩

end Go.Proofs.YtbjiamaaocjbfaaGreatDoor.Kr

namespace Go.Proofs.YtbjiamaaocjbfaaGreatDoor.Kr
open Go.RowKit Go.Lib Go.Deep

/-- what the laws ask of the program's calls, over what they ask of its tables -/
structure Tbl (KT : World → Prop) : Prop where
  below : ∀ w w', KT w → Below w.heap.size w w' → KT w'
def MakeC (KT : World → Prop) : Prop := ∀ (master p coins : ByteArray) (rounds : Int) (w : World), master.size ≤ 140737488355328 → p.size ≤ 140737488355328 → coins.size ≤ 140737488355328 → KT w →
    Calls Tryz.prog 7 #[.string master, .string p, .int .i64 rounds, .string coins] w fun e w' => e = .returned (.tuple #[.string (str (makeY master.data.toList p.data.toList rounds coins.data.toList)), .int .i64 (makeE master.data.toList p.data.toList rounds coins.data.toList)]) ∧ Below w.heap.size w w'
def UnlockC (KT : World → Prop) : Prop := ∀ (t p : ByteArray) (w : World), t.size ≤ 4194304 → p.size ≤ 140737488355328 → KT w →
    Calls Tryz.prog 15 #[.string t, .string p] w fun e w' => e = .returned (.tuple #[.string (str (unlockM t.data.toList p.data.toList)), .int .i64 (unlockN t.data.toList p.data.toList : Int), .int .i64 (unlockE t.data.toList p.data.toList)]) ∧ Below w.heap.size w w'
def AddC (KT : World → Prop) : Prop := ∀ (t p next coins : ByteArray) (rounds : Int) (w : World), t.size ≤ 4194304 → p.size ≤ 140737488355328 → next.size ≤ 140737488355328 → coins.size ≤ 140737488355328 → KT w →
    Calls Tryz.prog 16 #[.string t, .string p, .string next, .int .i64 rounds, .string coins] w fun e w' => e = .returned (.tuple #[.string (str (addY t.data.toList p.data.toList next.data.toList rounds coins.data.toList)), .int .i64 (addE t.data.toList p.data.toList next.data.toList rounds coins.data.toList)]) ∧ Below w.heap.size w w'
def ChangeC (KT : World → Prop) : Prop := ∀ (t p next coins : ByteArray) (rounds : Int) (w : World), t.size ≤ 4194304 → p.size ≤ 140737488355328 → next.size ≤ 140737488355328 → coins.size ≤ 140737488355328 → KT w →
    Calls Tryz.prog 17 #[.string t, .string p, .string next, .int .i64 rounds, .string coins] w fun e w' => e = .returned (.tuple #[.string (str (changeY t.data.toList p.data.toList next.data.toList rounds coins.data.toList)), .int .i64 (mayE t.data.toList p.data.toList next.data.toList rounds coins.data.toList)]) ∧ Below w.heap.size w w'
def DropC (KT : World → Prop) : Prop := ∀ (t p : ByteArray) (n : Int) (w : World), t.size ≤ 4194304 → p.size ≤ 140737488355328 → KT w →
    Calls Tryz.prog 18 #[.string t, .string p, .int .i64 n] w fun e w' => e = .returned (.tuple #[.string (str (dropY t.data.toList p.data.toList n)), .int .i64 (dropE t.data.toList p.data.toList n)]) ∧ Below w.heap.size w w'
/-- a ring of one slot that was made -/
theorem made_facts {master p : List UInt8} {rounds : Int} {coins : List UInt8} (h1 : master.length = 32) (h2 : passK p = true) (h3 : roundsK rounds = true) (h4 : coins.length = 56) :
    makeE master p rounds coins = 0 ∧ parseE (makeY master p rounds coins) = 0 ∧ parseI (makeY master p rounds coins) = coins.take 16 ∧ parseS (makeY master p rounds coins) = makeS master p rounds coins ∧
    opensK (coins.take 16) p (makeS master p rounds coins) = some (master, 0) ∧ (makeY master p rounds coins).length ≤ 5000 := by
  obtain ⟨a, b, c⟩ := make_yes h1 h2 h3 h4
  rw [b]
  obtain ⟨d, e, f⟩ := parse_print c
  refine ⟨a, d, e, f, ?_, ?_⟩
  · obtain ⟨o1, o2⟩ := made_opens (id := coins.take 16) (master := master) (p := p) (rounds := rounds) (coins := coins.drop 16) (by rw [List.length_drop]; omega) (by omega) (by rw [List.length_take]; omega)
    unfold opensK makeS opensFrom
    rw [if_pos o1, o2, str_data]
  · unfold printL wholeL
    have := textL_le c
    rw [List.length_append]
    simp [sumLine, unwords, kSum, hexL_length, shaL_length]
    omega

end Go.Proofs.YtbjiamaaocjbfaaGreatDoor.Kr
