import Derived.Test.YtengclnahppmhaaGreatDoorAeZ
import Derived.Test.YtengclnahppmhaaGreatDoorPolM
import Derived.Test.YtengclnahppmhaaGreatDoorBaseM
import Derived.Test.YtengclnahppmhaaGreatDoorChZ2
import Derived.Test.YtengclnahppmhaaGreatDoorMacM
import Derived.Test.YtengclnahppmhaaGreatDoorChZ3
namespace Go.Proofs.YtengclnahppmhaaGreatDoor.Ae
open Go.RowKit Go.Lib Go.Deep
open Pol (Nb ns nsL)

/-- the zeros behind a text -/
theorem filling_any (s : ByteArray) (hs : s.size ≤ 9223372036854775807) (w : World) :
    Calls Tryz.prog 124 #[.string s] w fun e w' => e = .returned (.string (str (fillZ s.size))) ∧ w = w' := by
  obtain ⟨m, hm⟩ : ∃ m : Nat, s.size % 16 = m := ⟨_, rfl⟩
  have htm : (s.size : Int).tmod 16 = (m : Int) := by rw [Int.tmod_eq_emod_of_nonneg (by omega)]; omega
  have hwm : IntKind.i64.wrap (m : Int) = (m : Int) := by rw [IntKind.wrap_i64]; omega
  have hws : IntKind.i64.wrap (16 - (m : Int)) = 16 - (m : Int) := by rw [IntKind.wrap_i64]; omega
  obtain ⟨f, hf⟩ : ∃ f : Nat, fillN s.size = f := ⟨_, rfl⟩
  have hf' : (16 - m) % 16 = f := by rw [← hf, fillN, hm]
  have htf : (16 - (m : Int)).tmod 16 = (f : Int) := by rw [Int.tmod_eq_emod_of_nonneg (by omega)]; omega
  have hwf : IntKind.i64.wrap (f : Int) = (f : Int) := by rw [IntKind.wrap_i64]; omega
  have hsl : ∀ W, (Instr.slice 9 (.string { data := #[0, 0, 0, 0, 0, 0, 0, 0, 0, 0, 0, 0, 0, 0, 0, 0] }) none (some (.int .i64 (f : Int))) none).run Tryz.prog W = .ok (.string (str (fillZ s.size))) W := fun W => by
    have h := slice_take (P := Tryz.prog) W 9 Tryz.underlying9 (List.replicate 16 0) f (by rw [List.length_replicate]; omega)
    rw [List.take_replicate, show min f 16 = f by omega] at h
    rw [fillZ, hf]
    exact h
  clear hm hf hf'
  go_enter Tryz.func124, Tryz.ntmps124
  go_wp2
  go_ret
  exact ⟨rfl, rfl⟩

/-- a length's bytes so far -/
def lenC (n k : Nat) : List Nat := (List.range 8).map fun j => if j < k then n / 256 ^ j % 256 else 0
theorem lenC_length (n k : Nat) : (lenC n k).length = 8 := by simp [lenC]
theorem lenC_at (n k j : Nat) (hj : j < 8) : (lenC n k).getD j 0 = if j < k then n / 256 ^ j % 256 else 0 := by
  simp [lenC, List.getD_eq_getElem?_getD, hj]
theorem lenC_set (n k : Nat) : (lenC n k).set k (n / 256 ^ k % 256) = lenC n (k + 1) := by
  apply List.ext_getElem (by simp [lenC])
  intro j h1 h2
  rw [List.getElem_set]
  simp only [lenC, List.getElem_map, List.getElem_range]
  split
  · next h => subst h; simp
  · next h => 
    by_cases hj : j < k
    · rw [if_pos hj, if_pos (by omega)]
    · rw [if_neg hj, if_neg (by omega)]
theorem le8_at (n j : Nat) (hj : j < 8) : ((le8 n)[j]'(by rw [le8, leN_length]; exact hj)).toNat = n / 256 ^ j % 256 := by
  have h : j = 0 ∨ j = 1 ∨ j = 2 ∨ j = 3 ∨ j = 4 ∨ j = 5 ∨ j = 6 ∨ j = 7 := by omega
  rcases h with rfl | rfl | rfl | rfl | rfl | rfl | rfl | rfl <;> rfl

theorem shr8 (u m : Nat) : (u : Int) / 2 ^ (8 * m) = ((u / 256 ^ m : Nat) : Int) := by
  rw [Int.natCast_ediv, Int.natCast_pow, Int.pow_mul]
  rfl

set_option maxRecDepth 20000 in
theorem lengthOf_any (s : ByteArray) (hs : s.size ≤ 4611686018427387904) (w : World) :
    Calls Tryz.prog 125 #[.string s] w fun e w' => e = .returned (.string (str (le8 s.size))) ∧ Below w.heap.size w w' := by
  obtain ⟨n, hn⟩ : ∃ n, s.size = n := ⟨_, rfl⟩
  rw [hn] at hs ⊢
  have hzero : ns .u8 (lenC n 0) = #[.int .u8 0, .int .u8 0, .int .u8 0, .int .u8 0, .int .u8 0, .int .u8 0, .int .u8 0, .int .u8 0] := rfl
  have HS0 : Hid (Nb .u8 192 (w.alloc (.cells (ns .u8 (lenC n 0)) 192)) w.heap.size (lenC n 0) ∧ Below w.heap.size w (w.alloc (.cells (ns .u8 (lenC n 0)) 192))) := ⟨Nb.new _ _ _ _, (Below.refl _ _).alloc (Nat.le_refl _) _⟩
  rw [hzero] at HS0
  clear hzero
  go_enter Tryz.func125, Tryz.ntmps125
  go_wp2
  go_loopg [5] 8 (fun gk i wr => ∃ k : Nat, k + gk = 8 ∧ i = .int .i64 (k : Int) ∧ Nb .u8 192 wr w.heap.size (lenC n k) ∧ Below w.heap.size w wr)
  case atStart => exact ⟨0, by omega, rfl, HS0.out⟩
  case round =>
    clear HS0
    obtain ⟨k, hk, rfl, hN, hbel⟩ := hrel
    have HK : Hid (k + gk = 8) := hk
    have hk' : k ≤ 8 := by omega
    clear hk
    by_cases hlt : k < 8
    · have hltI : (k : Int) < 8 := by omega
      have c0 := hN.cell k (by rw [lenC_length]; exact hlt)
      have f0 := hN.frozen k
      have hset := lenC_set n k
      have HR : Hid (Nb .u8 192 (wr.setCell ⟨w.heap.size, k, none⟩ (.int .u8 ((n / 256 ^ k % 256 : Nat) : Int))) w.heap.size (lenC n (k + 1)) ∧ Below w.heap.size w (wr.setCell ⟨w.heap.size, k, none⟩ (.int .u8 ((n / 256 ^ k % 256 : Nat) : Int)))) := by
        rw [← hset]
        exact ⟨hN.put k _, hbel.setCell (Nat.le_refl _) _⟩
      have hshr := shr8 n k
      have hql : n / 256 ^ k ≤ 4611686018427387904 := Nat.le_trans (Nat.div_le_self _ _) hs
      clear hset hN hbel
      generalize (lenC n k).getD k 0 = z at c0
      revert HR hshr hql
      generalize n / 256 ^ k = q
      intro HR hshr hql
      have hw8 : IntKind.i64.wrap (8 * (k : Int)) = 8 * (k : Int) := by rw [IntKind.wrap_i64]; omega
      have hwq : IntKind.i64.wrap (q : Int) = (q : Int) := by rw [IntKind.wrap_i64]; omega
      have hcv : (q : Int) % 256 = ((q % 256 : Nat) : Int) := by omega
      have hcw : IntKind.u8.wrap (q : Int) = ((q % 256 : Nat) : Int) := by rw [IntKind.wrap_u8]; omega
      generalize q % 256 = r at *
      go_wp2
      go_roundg (gk - 1)
      case measure => have := HK.out; omega
      case rel => exact ⟨k + 1, by have := HK.out; omega, by go_num, HR.out⟩
    · obtain rfl : k = 8 := by omega
      have hcv := run_convert_bytes_back (P := Tryz.prog) wr 96 9 5 ⟨w.heap.size, 0, none⟩ 8 (le8 n) Tryz.underlying96 Tryz.underlying5 Tryz.underlying9 (fun j hj => by
        have hj8 : j < 8 := by rw [le8, leN_length] at hj; exact hj
        rw [Addr.add_lit, Nat.zero_add, hN.cell j (by rw [lenC_length]; omega), lenC_at _ _ _ hj8, if_pos hj8, le8_at n j hj8])
      rw [show (le8 n).length = 8 from leN_length n 8] at hcv
      clear hN
      go_wp2
      go_ret
      exact ⟨rfl, hbel⟩

end Go.Proofs.YtengclnahppmhaaGreatDoor.Ae

namespace Go.Proofs.YtengclnahppmhaaGreatDoor.Ae
open Go.RowKit Go.Lib Go.Deep
open Cha (CTabs)

theorem sizeLock : (Tryz.prog.info? 134).map (·.size) = some 2 := by kernel_rfl

set_option maxRecDepth 20000 in
theorem lockOf_no (key nonce : ByteArray) (_hk : key.size ≤ 9223372036854775807) (_hn : nonce.size ≤ 9223372036854775807) (h : ¬ (key.size = 32 ∧ (nonce.size = 12 ∨ nonce.size = 24))) (w : World) :
    Calls Tryz.prog 100 #[.string key, .string nonce] w fun e w' => e = .returned (.tuple #[.agg #[.string { data := #[] }, .string { data := #[] }], .int .i64 (askN key nonce)]) ∧ Below w.heap.size w w' := by
  unfold askN
  by_cases h1 : key.size = 32
  · have i1 : (key.size : Int) = 32 := by omega
    have i2 : ¬ (nonce.size : Int) = 12 := by omega
    have i3 : ¬ (nonce.size : Int) = 24 := by omega
    rw [if_neg (by omega), if_pos (by omega)]
    go_enter Tryz.func100, Tryz.ntmps100
    go_wp2
    refine bodyPost_ret (Pol.results_cell_tmp rfl _ _ w.heap.size 134 _ (0, 0) _ rfl (heap_new _ _) Tryz.underlying134 rfl sizeLock) rfl ?_
    exact ⟨rfl, (Below.refl _ _).alloc (Nat.le_refl _) _⟩
  · have i1 : ¬ (key.size : Int) = 32 := by omega
    rw [if_pos (by omega)]
    go_enter Tryz.func100, Tryz.ntmps100
    go_wp2
    refine bodyPost_ret (Pol.results_cell_tmp rfl _ _ w.heap.size 134 _ (0, 0) _ rfl (heap_new _ _) Tryz.underlying134 rfl sizeLock) rfl ?_
    exact ⟨rfl, (Below.refl _ _).alloc (Nat.le_refl _) _⟩
set_option maxRecDepth 20000 in
theorem lockOf_12 (key nonce : ByteArray) (hk : key.size = 32) (hn : nonce.size = 12) (w : World) :
    Calls Tryz.prog 100 #[.string key, .string nonce] w fun e w' => e = .returned (.tuple #[.agg #[.string key, .string nonce], .int .i64 0]) ∧ Below w.heap.size w w' := by
  have i1 : (key.size : Int) = 32 := by omega
  have i2 : (nonce.size : Int) = 12 := by omega
  go_enter Tryz.func100, Tryz.ntmps100
  go_wp2
  refine bodyPost_ret (Pol.results_cell_tmp rfl _ _ w.heap.size 134 _ (0, 0) _ rfl (heap_new _ _) Tryz.underlying134 rfl sizeLock) rfl ?_
  exact ⟨rfl, (Below.refl _ _).alloc (Nat.le_refl _) _⟩
set_option maxRecDepth 20000 in
theorem lockOf_24 (key nonce : ByteArray) (hk : key.size = 32) (hn : nonce.size = 24) (w : World) (hT : ATabs w) :
    Calls Tryz.prog 100 #[.string key, .string nonce] w fun e w' => e = .returned (.tuple #[.agg #[.string (str (Cha.hchL key.data.toList (nonce.data.toList.take 16))), .string (str ([0, 0, 0, 0] ++ nonce.data.toList.drop 16))], .int .i64 0]) ∧ Below w.heap.size w w' := by
  have i1 : (key.size : Int) = 32 := by omega
  have i2 : (nonce.size : Int) = 24 := by omega
  have hl : nonce.data.toList.length = 24 := by rw [← size_eq]; exact hn
  have hb0 : Below w.heap.size w (w.alloc (.cells #[.string { data := #[] }, .string { data := #[] }] 134)) := (Below.refl _ _).alloc (Nat.le_refl _) _
  have hh := fun W (k1 : CTabs W) k2 => Cha.hch_yes key (nonce.extract 0 16) hk (by simp; omega) W k1 k2
  rw [show (nonce.extract 0 16).data.toList = nonce.data.toList.take 16 by rw [extract_data, List.drop_zero]] at hh
  have hcat : ({ data := #[0, 0, 0, 0] } : ByteArray) ++ nonce.extract 16 24 = str ([0, 0, 0, 0] ++ nonce.data.toList.drop 16) := by
    rw [← str_of (({ data := #[0, 0, 0, 0] } : ByteArray) ++ _), ByteArray.data_append, Array.toList_append, extract_data, List.take_of_length_le (by rw [List.length_drop]; omega)]
  generalize str (Cha.hchL key.data.toList (nonce.data.toList.take 16)) = yk at hh ⊢
  generalize str ([0, 0, 0, 0] ++ nonce.data.toList.drop 16) = yn at hcat ⊢
  go_enter Tryz.func100, Tryz.ntmps100
  go_wp2_with fail
  refine (hh _ (hT.below hb0).c (hT.below hb0).s).mono ?_
  rintro e w1 ⟨rfl, hb1⟩
  have hA : w1.heap[w.heap.size]? = some (.cells #[.string { data := #[] }, .string { data := #[] }] 134 (0, 0)) := (hb1.block _ (by simp)).trans (heap_new _ _)
  have c0 : w1.cell? ⟨w.heap.size, 0, none⟩ = some (.string { data := #[] }) := (cell_of_heap hA).trans rfl
  have c1 : w1.cell? ⟨w.heap.size, 1, none⟩ = some (.string { data := #[] }) := (cell_of_heap hA).trans rfl
  have f0 : w1.frozen? ⟨w.heap.size, 0, none⟩ = false := frozen_of_heap hA
  have f1 : w1.frozen? ⟨w.heap.size, 1, none⟩ = false := frozen_of_heap hA
  go_wp2
  have e0 := heap_setCell_same w1 _ 0 _ _ (.string yk) hA
  have e1 : ((w1.setCell ⟨w.heap.size, 0, none⟩ (.string yk)).setCell ⟨w.heap.size, 1, none⟩ (.string yn)).heap[w.heap.size]? = some (.cells #[.string yk, .string yn] 134 (0, 0)) := heap_setCell_same _ _ 1 _ _ (.string yn) e0
  refine bodyPost_ret (Pol.results_cell_tmp rfl _ _ w.heap.size 134 _ (0, 0) _ rfl e1 Tryz.underlying134 rfl sizeLock) rfl ?_
  exact ⟨rfl, ((hb0.trans (hb1.mono (by simp))).setCell (Nat.le_refl _) _).setCell (Nat.le_refl _) _⟩

end Go.Proofs.YtengclnahppmhaaGreatDoor.Ae

namespace Go.Proofs.YtengclnahppmhaaGreatDoor.Ae
open Go.RowKit Go.Lib Go.Deep

/-- texts, one behind the other -/
def cat (ss : List ByteArray) : List UInt8 := (ss.map fun s => s.data.toList).flatten
theorem cat_take (ss : List ByteArray) (k : Nat) (s : ByteArray) (h : ss[k]? = some s) : cat (ss.take (k + 1)) = cat (ss.take k) ++ s.data.toList := by
  unfold cat
  rw [List.take_add_one, h]
  simp

set_option maxRecDepth 20000 in
set_option maxHeartbeats 1000000 in
theorem handOn_any {w : World} {p r s : Nat} {l : List UInt8} (hM : Pol.Mac w p r s l) (hr : r < 1361129467683753853853498429727072845824) (ss : List ByteArray) (b off cap : Nat) (hbp : b ≠ p) (hbw : b < w.heap.size)
    (hc : ∀ i x, ss[i]? = some x → w.cell? ⟨b, off + i, none⟩ = some (.string x)) (hlen : ss.length ≤ 1000000) (hz : ∀ x ∈ ss, x.size ≤ 9223372036854775807) :
    Calls Tryz.prog 122 #[.func (.func 123) #[.pointer (some ⟨p, 0, none⟩)] #[], .slice (some ⟨b, off, none⟩) ss.length cap] w fun e w' => e = .returned (.int .i64 0) ∧ Pol.Mac w' p r s (l ++ cat ss) ∧ Only [p] w w' := by
  obtain ⟨len, hl⟩ : ∃ len, ss.length = len := ⟨_, rfl⟩
  rw [hl]
  have HC : Hid (∀ i x, ss[i]? = some x → w.cell? ⟨b, off + i, none⟩ = some (.string x)) := hc
  have HZ : Hid (∀ x ∈ ss, x.size ≤ 9223372036854775807) := hz
  have HM : Hid (Pol.Mac w p r s l) := hM
  have HL : Hid (ss.length = len) := hl
  clear hc hz hM
  rw [hl] at hlen
  clear hl
  go_enter Tryz.func122, Tryz.ntmps122
  go_wp2
  go_loopg [10] len (fun gk i wr => ∃ k : Nat, k + gk = len ∧ i = .int .i64 (k : Int) ∧ Pol.Mac wr p r s (l ++ cat (ss.take k)) ∧ Only [p] w wr)
  case atStart => exact ⟨0, by omega, rfl, by rw [List.take_zero, show cat [] = [] from rfl, List.append_nil]; exact HM.out, Only.refl _ _⟩
  case round =>
    obtain ⟨k, hk, rfl, hM, ho⟩ := hrel
    have HK : Hid (k + gk = len) := hk
    have hk' : k ≤ len := by omega
    clear hk
    by_cases hlt : k < len
    · obtain ⟨x, hx⟩ : ∃ x, ss[k]? = some x := ⟨_, List.getElem?_eq_getElem (by rw [HL.out]; exact hlt)⟩
      have hltI : (k : Int) < (len : Int) := by omega
      have hcell : wr.cell? ⟨b, off + k, none⟩ = some (.string x) := by
        have e := ho.block b hbw (by simp; omega)
        refine Eq.trans ?_ (HC.out k x hx)
        unfold World.cell?
        rw [e]
      have hwr := Pol.write_any hM hr x (HZ.out x (List.mem_of_getElem? hx))
      rw [List.append_assoc, ← cat_take ss k x hx] at hwr
      clear hx hM
      go_wp2_with (go_at_call 123; refine hwr.mono ?_; rintro e w2 ⟨rfl, hM2, ho2⟩)
      go_roundg (gk - 1)
      case measure => have := HK.out; omega
      case rel => exact ⟨k + 1, by have := HK.out; omega, by go_num, hM2, ho.trans ho2⟩
    · obtain rfl : k = len := by omega
      have hltI : ¬ (k : Int) < (k : Int) := by omega
      have HM2 : Hid (Pol.Mac wr p r s (l ++ cat ss)) := by
        rw [List.take_of_length_le (by rw [HL.out]; omega)] at hM
        exact hM
      clear hM
      go_wp2
      go_ret
      exact ⟨rfl, HM2.out, ho⟩

end Go.Proofs.YtengclnahppmhaaGreatDoor.Ae

namespace Go.Proofs.YtengclnahppmhaaGreatDoor.Ae
open Go.RowKit Go.Lib Go.Deep
open Cha (CTabs)

set_option maxRecDepth 20000 in
theorem turned_any (yk yn text : ByteArray) (hk : yk.size = 32) (hn : yn.size = 12) (ht : text.size ≤ 4194304) (w : World) (hT : ATabs w) :
    Calls Tryz.prog 101 #[.agg #[.string yk, .string yn], .string text] w fun e w' => e = .returned (.tuple #[.string (str (Cha.overL yk.data.toList 1 yn.data.toList text.data.toList)), .int .i64 0]) ∧ Below w.heap.size w w' := by
  have hb0 : Below w.heap.size w (w.alloc (.cells #[.string yk, .string yn] 134)) := (Below.refl _ _).alloc (Nat.le_refl _) _
  have hT1 := hT.below hb0
  have hx := fun W (k1 : ATabs W) => Cha.xor_yes yk yn text 1 hk hn (by omega) (by omega) (by omega) W k1.c k1.s
  generalize str (Cha.overL yk.data.toList 1 yn.data.toList text.data.toList) = Y at hx ⊢
  go_enter Tryz.func101, Tryz.ntmps101
  go_wp2_with fail
  refine (hx _ hT1).mono ?_
  rintro e w1 ⟨rfl, hb1⟩
  go_wp2
  go_ret2
  exact ⟨rfl, hb0.trans (hb1.mono (by simp))⟩

set_option maxRecDepth 20000 in
set_option maxHeartbeats 1000000 in
theorem atag_any (yk yn aad c : ByteArray) (hk : yk.size = 32) (hn : yn.size = 12) (ha : aad.size ≤ 4194304) (hc : c.size ≤ 4194304) (w : World) (hT : ATabs w) :
    Calls Tryz.prog 102 #[.agg #[.string yk, .string yn], .string aad, .string c] w fun e w' => e = .returned (.tuple #[.string (str (tagA yk.data.toList yn.data.toList aad.data.toList c.data.toList)), .int .i64 0]) ∧ Below w.heap.size w w' := by
  have hla : aad.data.toList.length = aad.size := (size_eq aad).symm
  have hlc : c.data.toList.length = c.size := (size_eq c).symm
  have hb0 : Below w.heap.size w (w.alloc (.cells #[.string yk, .string yn] 134)) := (Below.refl _ _).alloc (Nat.le_refl _) _
  have hT1 := hT.below hb0
  have HTT : Hid (∀ W, Below w.heap.size w W → ATabs W) := fun W h => hT.below h
  have hbl := Cha.block_yes yk yn 0 hk hn (by omega) _ hT1.c hT1.s
  have hsl : ∀ W, (Instr.slice 9 (.string (str (Cha.blockL yk.data.toList 0 yn.data.toList))) none (some (.int .i64 32)) none).run Tryz.prog W = .ok (.string (str ((Cha.blockL yk.data.toList 0 yn.data.toList).take 32))) W := fun W => slice_take W 9 Tryz.underlying9 _ 32 (by rw [Cha.blockL_length]; omega)
  have hsz : (str (Cha.blockL yk.data.toList 0 yn.data.toList)).size = 64 := by rw [str_size, Cha.blockL_length]
  have hkl : ((Cha.blockL yk.data.toList 0 yn.data.toList).take 32).length = 32 := by rw [List.length_take, Cha.blockL_length]; rfl
  have hnw := fun W (k1 : ATabs W) => Pol.new_yes (str ((Cha.blockL yk.data.toList 0 yn.data.toList).take 32)) (by rw [str_size, hkl]) W k1.k (by have := k1.s; omega)
  rw [str_data] at hnw
  have hr := Pol.rOf_lt ((Cha.blockL yk.data.toList 0 yn.data.toList).take 32) (by omega)
  have hs := Pol.sOf_lt ((Cha.blockL yk.data.toList 0 yn.data.toList).take 32) hkl
  have HL : Hid (tagA yk.data.toList yn.data.toList aad.data.toList c.data.toList = Pol.bytL 16 (Pol.tagN (Pol.rOf ((Cha.blockL yk.data.toList 0 yn.data.toList).take 32)) (Pol.sOf ((Cha.blockL yk.data.toList 0 yn.data.toList).take 32)) ([] ++ cat [aad, str (fillZ aad.size), c, str (fillZ c.size), str (le8 aad.size), str (le8 c.size)]))) := by
    show _ = _
    rw [List.nil_append]
    unfold tagA Pol.tagL
    congr 2
    simp [cat, macL, str_data, hla, hlc]
  have hz1 := fun W => filling_any aad (by omega) W
  have hz2 := fun W => filling_any c (by omega) W
  have he1 := fun W => lengthOf_any aad (by omega) W
  have he2 := fun W => lengthOf_any c (by omega) W
  have hs6 : (str (fillZ aad.size)).size ≤ 16 ∧ (str (fillZ c.size)).size ≤ 16 ∧ (str (le8 aad.size)).size ≤ 8 ∧ (str (le8 c.size)).size ≤ 8 := by
    refine ⟨?_, ?_, ?_, ?_⟩
    · rw [str_size, fillZ_length]; have := fillN_lt aad.size; omega
    · rw [str_size, fillZ_length]; have := fillN_lt c.size; omega
    · rw [str_size]; exact Nat.le_of_eq (leN_length _ _)
    · rw [str_size]; exact Nat.le_of_eq (leN_length _ _)
  rw [HL.out]
  clear HL hla hlc hT hT1
  generalize Pol.rOf ((Cha.blockL yk.data.toList 0 yn.data.toList).take 32) = r at hnw hr ⊢
  generalize Pol.sOf ((Cha.blockL yk.data.toList 0 yn.data.toList).take 32) = s at hnw hs ⊢
  generalize str ((Cha.blockL yk.data.toList 0 yn.data.toList).take 32) = yk2 at hsl hnw
  generalize str (Cha.blockL yk.data.toList 0 yn.data.toList) = yb at hbl hsl hsz
  generalize str (fillZ aad.size) = y1 at hz1 hs6 ⊢
  generalize str (fillZ c.size) = y2 at hz2 hs6 ⊢
  generalize str (le8 aad.size) = y3 at he1 hs6 ⊢
  generalize str (le8 c.size) = y4 at he2 hs6 ⊢
  clear hkl
  go_enter Tryz.func102, Tryz.ntmps102
  go_wp2_with fail
  refine hbl.mono ?_
  rintro e w1 ⟨rfl, hb1'⟩
  have hb1 : Below w.heap.size w w1 := hb0.trans (hb1'.mono (by simp))
  clear hb0 hb1' hbl
  have hnw1 := hnw w1 (HTT.out w1 hb1)
  go_wp2_with fail
  refine hnw1.mono ?_
  rintro e w2 ⟨⟨p, rfl, hp, hM⟩, hb2'⟩
  have hb2 := hb1.trans (hb2'.mono hb1.size)
  have hpw : w.heap.size ≤ p := by have := hb1.size; omega
  clear hnw1 hnw hb2'
  go_wp2_with fail
  refine (hz1 w2).mono ?_
  rintro e w2' ⟨rfl, rfl⟩
  go_wp2_with fail
  refine (hz2 w2).mono ?_
  rintro e w2' ⟨rfl, rfl⟩
  go_wp2_with fail
  refine (he1 w2).mono ?_
  rintro e w3 ⟨rfl, hb3'⟩
  have hM3 : Pol.Mac w3 p r s [] := hM.kept (hb3'.block p hM.lt)
  have hb3 := hb2.trans (hb3'.mono hb2.size)
  clear hM hb3' hb2
  go_wp2_with fail
  refine (he2 w3).mono ?_
  rintro e w4 ⟨rfl, hb4'⟩
  have hM4 : Pol.Mac w4 p r s [] := hM3.kept (hb4'.block p hM3.lt)
  have hb4 := hb3.trans (hb4'.mono hb3.size)
  clear hM3 hb4' hb3 hz1 hz2 he1 he2
  have hb5 := hb4.alloc hb4.size (.cells #[.string aad, .string y1, .string c, .string y2, .string y3, .string y4] 9)
  have hM5 : Pol.Mac (w4.alloc (.cells #[.string aad, .string y1, .string c, .string y2, .string y3, .string y4] 9)) p r s [] := hM4.kept (Below.heap_alloc _ _ _ hM4.lt)
  have hpl := hM4.lt
  have hho := handOn_any hM5 (by omega) [aad, y1, c, y2, y3, y4] w4.heap.size 0 6 (by omega) (by simp) (fun i x hx => by
      rw [Nat.zero_add]
      refine (cell_of_heap (heap_new _ _)).trans ?_
      have h6 : i = 0 ∨ i = 1 ∨ i = 2 ∨ i = 3 ∨ i = 4 ∨ i = 5 := by have := (List.getElem?_eq_some_iff.1 hx).1; simp at this; omega
      rcases h6 with rfl | rfl | rfl | rfl | rfl | rfl <;> simp at hx <;> subst hx <;> rfl) (by simp) (fun x hx => by
      simp at hx
      rcases hx with rfl | rfl | rfl | rfl | rfl | rfl <;> omega)
  clear hM4 hM5 hb4 hpl
  change Calls _ _ #[_, .slice _ 6 6] _ _ at hho
  go_wp2_with fail
  refine hho.mono ?_
  rintro e w6 ⟨rfl, hM6, ho6⟩
  have hb6 : Below w.heap.size w w6 := hb5.trans (ho6.below hb5.size (by simp; omega))
  have hsm := Pol.sum_any hM6 (by omega) hs
  clear hho hM6 ho6 hb5
  go_wp2_with fail
  refine hsm.mono ?_
  rintro e w7 ⟨rfl, hb7⟩
  have hb := hb6.trans (hb7.mono hb6.size)
  clear hsm hb7 hb6
  go_wp2
  go_ret2
  exact ⟨rfl, hb⟩

end Go.Proofs.YtengclnahppmhaaGreatDoor.Ae

namespace Go.Proofs.YtengclnahppmhaaGreatDoor.Ae
open Go.RowKit Go.Lib Go.Deep

/-- a key and a nonce of either length -/
theorem lockOf_yes (key nonce : ByteArray) (hk : key.size = 32) (hn : nonce.size = 12 ∨ nonce.size = 24) (w : World) (hT : ATabs w) :
    ∃ yk yn : ByteArray, yk.size = 32 ∧ yn.size = 12 ∧ keyL key.data.toList nonce.data.toList = yk.data.toList ∧ nonL nonce.data.toList = yn.data.toList ∧
      Calls Tryz.prog 100 #[.string key, .string nonce] w fun e w' => e = .returned (.tuple #[.agg #[.string yk, .string yn], .int .i64 0]) ∧ Below w.heap.size w w' := by
  have hl : nonce.data.toList.length = nonce.size := (size_eq nonce).symm
  have hlk : key.data.toList.length = key.size := (size_eq key).symm
  refine ⟨str (keyL key.data.toList nonce.data.toList), str (nonL nonce.data.toList), by rw [str_size, keyL_length _ _ (by omega)], by rw [str_size, nonL_length _ (by omega)], by rw [str_data], by rw [str_data], ?_⟩
  rcases hn with hn | hn
  · have h := lockOf_12 key nonce hk hn w
    rw [keyL, nonL, if_pos (by omega), if_pos (by omega), str_of, str_of]
    exact h
  · have h := lockOf_24 key nonce hk hn w hT
    rw [keyL, nonL, if_neg (by omega), if_neg (by omega)]
    exact h

end Go.Proofs.YtengclnahppmhaaGreatDoor.Ae
