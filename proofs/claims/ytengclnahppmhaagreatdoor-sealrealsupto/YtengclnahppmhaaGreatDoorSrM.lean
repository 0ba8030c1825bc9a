import Derived.Test.YtengclnahppmhaaGreatDoorSeB
import Derived.Deep.RegionHeldLaw
import Derived.Laws.BitsAll
namespace Go.Proofs.YtengclnahppmhaaGreatDoor.Sr
open Go.RowKit Go.Lib Go.Deep

theorem num_any (n : Int) (w : World) : Calls Tryz.prog 7 #[.int .i64 n] w fun e w' => e = .returned (.int .i64 n) ∧ w' = w := by
  go_enter Tryz.func7, Tryz.ntmps7
  go_wp2
  go_ret
  exact ⟨rfl, rfl⟩
theorem mod_any (n m : Int) (_hn : -9223372036854775808 ≤ n ∧ n ≤ 9223372036854775807) (hm : 1 ≤ m ∧ m ≤ 4611686018427387904) (w : World) : Calls Tryz.prog 55 #[.int .i64 n, .int .i64 m] w fun e w' => e = .returned (.int .i64 (n % m)) ∧ w' = w := by
  have h0 : m ≠ 0 := by omega
  have h1 : -m < n.tmod m ∧ n.tmod m < m := ⟨Int.lt_tmod_of_pos n (by omega), Int.tmod_lt_of_pos n (by omega)⟩
  have h2 : IntKind.i64.wrap (n.tmod m) = n.tmod m := by rw [IntKind.wrap_i64]; omega
  have h3 : IntKind.i64.wrap (n.tmod m + m) = n.tmod m + m := by rw [IntKind.wrap_i64]; omega
  have h4 : (n.tmod m + m).tmod m = n % m := by
    rw [Int.tmod_eq_emod_of_nonneg (by omega), Int.add_emod_right]
    have := Int.tmod_add_mul_tdiv n m
    rw [← this, Int.add_mul_emod_self_left]
    simp [this]
  have h5 : IntKind.i64.wrap (n % m) = n % m := by
    have := Int.emod_nonneg n h0
    have := Int.emod_lt_of_pos n (show (0:Int) < m by omega)
    rw [IntKind.wrap_i64]; omega
  go_enter Tryz.func55, Tryz.ntmps55
  go_wp2
  go_ret
  exact ⟨rfl, rfl⟩

/-- a call of the script -/
structure Stp where
  call : Int
  n : Int
  name : ByteArray
  text : ByteArray
  coins : ByteArray
  use : Int
  at_ : Int
  by_ : Int
def stpA (o : Stp) : Array Value := #[.int .i64 o.call, .int .i64 o.n, .string o.name, .string o.text, .string o.coins, .int .i64 o.use, .int .i64 o.at_, .int .i64 o.by_]
def w64 (x : Int) : Prop := -9223372036854775808 ≤ x ∧ x ≤ 9223372036854775807

end Go.Proofs.YtengclnahppmhaaGreatDoor.Sr

namespace Go.Proofs.YtengclnahppmhaaGreatDoor.Sr
open Go.RowKit Go.Lib Go.Deep

theorem bdN (w : World) (n : Nat) : Below w.heap.size w (w.drewN n) := ⟨rfl, rfl, rfl, Nat.le_refl _, fun _ _ => rfl⟩
theorem ne_empty {s : ByteArray} (h : s.size ≠ 0) : s.toList.isEmpty = false := by
  rw [toList_data]
  cases hs : s.data.toList with
  | nil =>
    exfalso
    apply h
    have : s.data.toList.length = 0 := by rw [hs]; rfl
    rw [size_eq]
    exact this
  | cons x l => rfl
theorem wp_merge {P : Program} {c : Code} {Q : Exit → Act → World → Prop} {a : Act} {w : World} {A : Act} {W : World} (h1 : Code.wp P c (fun e a' w' => match e with | .normal => a' = A ∧ w' = W | _ => False) a w) (h2 : Q .normal A W) : Code.wp P c Q a w :=
  Code.wp_mono (fun e a w h => by
    cases e with
    | normal => obtain ⟨rfl, rfl⟩ := h; exact h2
    | _ => exact h.elim) h1
/-- one byte of a text turned -/
theorem turn_facts (S : ByteArray) (kx X : Nat) (hkx : kx < S.size) (hX : X < 256) (hS : S.size ≤ 140737488355328) : ∃ (y zn : Nat) (yz s1 s2 : ByteArray), y < 256 ∧ zn < 256 ∧ s2.size = S.size ∧
    (∀ W, (Instr.index 9 (.string S) (.int .i64 (kx : Int))).run Tryz.prog W = .ok (.int .u8 (y : Int)) W) ∧ bits .xor .u8 (y : Int) (X : Int) = (zn : Int) ∧
    Hid (∀ W : World, (convert 96 9 (.slice (some ⟨W.heap.size, 0, none⟩) 1 1)).run Tryz.prog (W.alloc (.cells #[.int .u8 (zn : Int)] 5)) = .ok (.string yz) (W.alloc (.cells #[.int .u8 (zn : Int)] 5))) ∧
    (∀ W, (Op.stringOp .add (S.extract 0 kx) yz).run Tryz.prog W = .ok (.string s1) W) ∧ (∀ W, (Op.stringOp .add s1 (S.extract (kx + 1) S.size)).run Tryz.prog W = .ok (.string s2) W) := by
  obtain ⟨y, hy⟩ : ∃ y, S.data.toList[kx]? = some y := ⟨_, List.getElem?_eq_getElem (by rw [Array.length_toList]; exact hkx)⟩
  have hyzs : (str [UInt8.ofNat (y.toNat ^^^ X)]).size = 1 := by rw [str_size]; rfl
  have hz256 : y.toNat ^^^ X < 256 := Nat.xor_lt_two_pow (n := 8) y.toNat_lt (by omega)
  have hs1z : (S.extract 0 kx ++ str [UInt8.ofNat (y.toNat ^^^ X)]).size = kx + 1 := by rw [ByteArray.size_append, hyzs, ByteArray.size_extract]; omega
  refine ⟨y.toNat, y.toNat ^^^ X, str [UInt8.ofNat (y.toNat ^^^ X)], S.extract 0 kx ++ str [UInt8.ofNat (y.toNat ^^^ X)], S.extract 0 kx ++ str [UInt8.ofNat (y.toNat ^^^ X)] ++ S.extract (kx + 1) S.size, y.toNat_lt, hz256, ?_, fun W => index_at (P := Tryz.prog) W 9 S .i64 kx y Tryz.underlying9 hy, u8_xor_nat y.toNat X y.toNat_lt hX, fun W => ?_, fun W => run_string_add_sum (P := Tryz.prog) (w := W) _ _ (by rw [hyzs, ByteArray.size_extract]; omega), fun W => run_string_add_sum (P := Tryz.prog) (w := W) _ _ (by rw [hs1z, ByteArray.size_extract]; omega)⟩
  · rw [ByteArray.size_append, hs1z, ByteArray.size_extract]; omega
  · generalize y.toNat ^^^ X = zn at *
    refine run_convert_bytes_back (P := Tryz.prog) _ 96 9 5 ⟨W.heap.size, 0, none⟩ 1 [UInt8.ofNat zn] Tryz.underlying96 Tryz.underlying5 Tryz.underlying9 (fun j hj => ?_)
    obtain rfl : j = 0 := by simp at hj; omega
    have h := cells_new W #[.int .u8 (zn : Int)] 5 0 (.int .u8 (zn : Int)) rfl
    rw [h]
    simp
    omega

set_option maxRecDepth 20000 in
set_option maxHeartbeats 4000000 in
theorem text_any (o : Stp) (a : Option Addr) (n cap : Nat) (w : World) (hu : w64 o.use) (ha : w64 o.at_) (hb : w64 o.by_) (hc : o.coins.size ≤ 140737488355328) (hn : n ≤ 4294967296)
    (hS : ∀ i : Nat, i < n → ∃ (bb off : Nat) (s : ByteArray), a = some ⟨bb, off, none⟩ ∧ s.size ≤ 140737488355328 ∧ ∀ W, Below w.heap.size w W → W.cell? ⟨bb, off + i, none⟩ = some (.string s)) :
    Calls Tryz.prog 31 #[.agg (stpA o), .slice a n cap] w fun e w' => ∃ c, e = .returned (.string c) ∧ c.size ≤ 140737488355328 ∧ Below w.heap.size w w' := by
  obtain ⟨oc, on, onm, ot, oco, ou, oa, ob⟩ := o
  unfold stpA
  dsimp only at *
  unfold w64 at *
  obtain ⟨W0, hW0⟩ : ∃ W, w.alloc (.cells #[.int .i64 oc, .int .i64 on, .string onm, .string ot, .string oco, .int .i64 ou, .int .i64 oa, .int .i64 ob] 64) = W := ⟨_, rfl⟩
  have hq0 : W0.heap[w.heap.size]? = some (.cells #[.int .i64 oc, .int .i64 on, .string onm, .string ot, .string oco, .int .i64 ou, .int .i64 oa, .int .i64 ob] 64 (0, 0)) := by rw [← hW0]; exact heap_new _ _
  have HB0 : Hid (Below w.heap.size w W0) := by rw [← hW0]; exact (Below.refl _ _).alloc (Nat.le_refl _) _
  have HC : Hid (∀ W, Below W0.heap.size W0 W → W.cell? ⟨w.heap.size, 4, none⟩ = some (.string oco) ∧ W.cell? ⟨w.heap.size, 5, none⟩ = some (.int .i64 ou) ∧ W.cell? ⟨w.heap.size, 6, none⟩ = some (.int .i64 oa) ∧ W.cell? ⟨w.heap.size, 7, none⟩ = some (.int .i64 ob)) := fun W h => by
    have hh := (h.block _ (heap_lt hq0)).trans hq0
    exact ⟨(cell_of_heap hh).trans rfl, (cell_of_heap hh).trans rfl, (cell_of_heap hh).trans rfl, (cell_of_heap hh).trans rfl⟩
  obtain ⟨z4, z5, z6, z7⟩ := HC.out W0 (Below.refl _ _)
  clear hq0
  obtain ⟨X, hX⟩ : ∃ X : Nat, ob % 256 = (X : Int) := ⟨(ob % 256).toNat, by omega⟩
  have hX2 : X < 256 := by omega
  have hmb := fun W => mod_any ob 256 hb (by omega) W
  rw [hX] at hmb
  have hXu : IntKind.u8.wrap (X : Int) = (X : Int) := by rw [IntKind.wrap_u8]; omega
  clear hX hb
  by_cases h1 : 1 ≤ ou ∧ 0 < n
  · obtain ⟨h1a, h1b⟩ := h1
    have h1c : (0 : Int) < (n : Int) := by omega
    obtain ⟨ix, hix⟩ : ∃ ix : Nat, ou % (n : Int) = (ix : Int) := ⟨(ou % (n : Int)).toNat, by have := Int.emod_nonneg ou (show (n : Int) ≠ 0 by omega); omega⟩
    have hixn : ix < n := by have := Int.emod_lt_of_pos ou (show (0 : Int) < (n : Int) by omega); omega
    have hixI : (ix : Int) < (n : Int) := by omega
    have hmu := fun W => mod_any ou (n : Int) hu (by omega) W
    rw [hix] at hmu
    obtain ⟨bb, off, s, rfl, hsz, hcell⟩ := hS ix hixn
    clear hS hix hu
    by_cases h2 : 1 ≤ oa
    · by_cases h3 : s.size = 0
      · obtain rfl : s = { data := #[] } := ByteArray.ext (Array.eq_empty_of_size_eq_zero h3)
        go_enter Tryz.func31, Tryz.ntmps31
        go_wp2_with fail
        refine (hmu _).mono ?_
        rintro e w1 ⟨rfl, hw1⟩
        obtain rfl := hw1.symm
        have xs := hcell _ HB0.out
        go_wp2
        go_ret
        exact ⟨_, rfl, Nat.zero_le _, HB0.out⟩
      · have hne := ne_empty h3
        have hoa : wrap64 (oa - 1) = oa - 1 := by unfold wrap64; omega
        obtain ⟨kx, hkx⟩ : ∃ kx : Nat, (oa - 1) % (s.size : Int) = (kx : Int) := ⟨((oa - 1) % (s.size : Int)).toNat, by have := Int.emod_nonneg (oa - 1) (show (s.size : Int) ≠ 0 by omega); omega⟩
        have hkxn : kx < s.size := by have := Int.emod_lt_of_pos (oa - 1) (show (0 : Int) < (s.size : Int) by omega); omega
        have hma := fun W => mod_any (oa - 1) (s.size : Int) (by omega) (by omega) W
        rw [hkx] at hma
        obtain ⟨y, zn, yz, s1, s2, hy, hzn, hs2, hidx, hxor, HCV, hcat1, hcat2⟩ := turn_facts s kx X hkxn hX2 (by omega)
        have q1 : (0 : Int) ≤ (kx : Int) ∧ (kx : Int) ≤ (s.size : Int) := by omega
        have q2 : IntKind.i64.wrap ((kx : Int) + 1) = ((kx + 1 : Nat) : Int) := by rw [IntKind.wrap_i64]; omega
        have q3 : (0 : Int) ≤ ((kx + 1 : Nat) : Int) ∧ ((kx + 1 : Nat) : Int) ≤ (s.size : Int) := by omega
        have hs2z : s2.size ≤ 140737488355328 := by omega
        have HS2 : Hid (s2.size ≤ 140737488355328) := hs2z
        clear hkx hs2 hs2z
        go_enter Tryz.func31, Tryz.ntmps31
        go_wp2_with fail
        refine (hmu _).mono ?_
        rintro e w1 ⟨rfl, hw1⟩
        obtain rfl := hw1.symm
        have xs := hcell _ HB0.out
        go_wp2_with fail
        refine (hma _).mono ?_
        rintro e w2 ⟨rfl, hw2⟩
        obtain rfl := hw2.symm
        have hcv0 := HCV.out W0
        have hcv1 : (convert 96 9 (.slice (some ⟨W0.heap.size, 0, none⟩) 1 1)).run Tryz.prog (W0.alloc (.cells #[.int .u8 (zn : Int)] 5)).drew = .ok (.string yz) (W0.alloc (.cells #[.int .u8 (zn : Int)] 5)).drew := HCV.out W0.drew
        have HBA : Hid (Below W0.heap.size W0 (W0.alloc (.cells #[.int .u8 (zn : Int)] 5)).drew) := ((Below.refl _ _).alloc (Nat.le_refl _) _).drew
        go_wp2_with fail
        apply wp_merge
        · go_region_held_law (fun W => W.cell? ⟨w.heap.size, 7, none⟩ = some (.int .i64 ob)) (first | exact (HC.out _ (bdN _ 1)).2.2.2 | exact (HC.out _ HBA.out).2.2.2 | go_keep) (first | (go_at_call 55; refine (hmb _).mono ?_; rintro e w8 ⟨rfl, rfl⟩))
          all_goals exact ⟨rfl, rfl⟩
        refine with_world (R := fun W => Exit.then _ _ _ _ W) (Q := fun W => Below w.heap.size w W) _ (HB0.out.trans (HBA.out.mono HB0.out.size)) ?_
        intro w9 hb9
        go_wp2
        go_ret
        exact ⟨_, rfl, HS2.out, hb9⟩
    · go_enter Tryz.func31, Tryz.ntmps31
      go_wp2_with fail
      refine (hmu _).mono ?_
      rintro e w1 ⟨rfl, hw1⟩
      obtain rfl := hw1.symm
      have xs := hcell _ HB0.out
      go_wp2
      go_ret
      exact ⟨_, rfl, (by omega), HB0.out⟩
  · clear hS hu
    by_cases h1a : 1 ≤ ou
    · have h1b : ¬ (0 : Int) < (n : Int) := by omega
      by_cases h2 : 1 ≤ oa
      · by_cases h3 : oco.size = 0
        · obtain rfl : oco = { data := #[] } := ByteArray.ext (Array.eq_empty_of_size_eq_zero h3)
          go_enter Tryz.func31, Tryz.ntmps31
          go_wp2
          go_ret
          exact ⟨_, rfl, Nat.zero_le _, HB0.out⟩
        · have hne := ne_empty h3
          have hoa : wrap64 (oa - 1) = oa - 1 := by unfold wrap64; omega
          obtain ⟨kx, hkx⟩ : ∃ kx : Nat, (oa - 1) % (oco.size : Int) = (kx : Int) := ⟨((oa - 1) % (oco.size : Int)).toNat, by have := Int.emod_nonneg (oa - 1) (show (oco.size : Int) ≠ 0 by omega); omega⟩
          have hkxn : kx < oco.size := by have := Int.emod_lt_of_pos (oa - 1) (show (0 : Int) < (oco.size : Int) by omega); omega
          have hma := fun W => mod_any (oa - 1) (oco.size : Int) (by omega) (by omega) W
          rw [hkx] at hma
          obtain ⟨y, zn, yz, s1, s2, hy, hzn, hs2, hidx, hxor, HCV, hcat1, hcat2⟩ := turn_facts oco kx X hkxn hX2 (by omega)
          have q1 : (0 : Int) ≤ (kx : Int) ∧ (kx : Int) ≤ (oco.size : Int) := by omega
          have q2 : IntKind.i64.wrap ((kx : Int) + 1) = ((kx + 1 : Nat) : Int) := by rw [IntKind.wrap_i64]; omega
          have q3 : (0 : Int) ≤ ((kx + 1 : Nat) : Int) ∧ ((kx + 1 : Nat) : Int) ≤ (oco.size : Int) := by omega
          have hs2z : s2.size ≤ 140737488355328 := by omega
          have HS2 : Hid (s2.size ≤ 140737488355328) := hs2z
          clear hkx hs2 hs2z
          go_enter Tryz.func31, Tryz.ntmps31
          go_wp2_with fail
          refine (hma _).mono ?_
          rintro e w2 ⟨rfl, hw2⟩
          obtain rfl := hw2.symm
          have hcv0 := HCV.out W0
          have hcv1 : (convert 96 9 (.slice (some ⟨W0.heap.size, 0, none⟩) 1 1)).run Tryz.prog (W0.alloc (.cells #[.int .u8 (zn : Int)] 5)).drew = .ok (.string yz) (W0.alloc (.cells #[.int .u8 (zn : Int)] 5)).drew := HCV.out W0.drew
          have HBA : Hid (Below W0.heap.size W0 (W0.alloc (.cells #[.int .u8 (zn : Int)] 5)).drew) := ((Below.refl _ _).alloc (Nat.le_refl _) _).drew
          go_wp2_with fail
          apply wp_merge
          · go_region_held_law (fun W => W.cell? ⟨w.heap.size, 7, none⟩ = some (.int .i64 ob)) (first | exact (HC.out _ (bdN _ 1)).2.2.2 | exact (HC.out _ HBA.out).2.2.2 | go_keep) (first | (go_at_call 55; refine (hmb _).mono ?_; rintro e w8 ⟨rfl, rfl⟩))
            all_goals exact ⟨rfl, rfl⟩
          refine with_world (R := fun W => Exit.then _ _ _ _ W) (Q := fun W => Below w.heap.size w W) _ (HB0.out.trans (HBA.out.mono HB0.out.size)) ?_
          intro w9 hb9
          go_wp2
          go_ret
          exact ⟨_, rfl, HS2.out, hb9⟩
      · go_enter Tryz.func31, Tryz.ntmps31
        go_wp2
        go_ret
        exact ⟨_, rfl, (by omega), HB0.out⟩
    · clear h1
      by_cases h2 : 1 ≤ oa
      · by_cases h3 : oco.size = 0
        · obtain rfl : oco = { data := #[] } := ByteArray.ext (Array.eq_empty_of_size_eq_zero h3)
          go_enter Tryz.func31, Tryz.ntmps31
          go_wp2
          go_ret
          exact ⟨_, rfl, Nat.zero_le _, HB0.out⟩
        · have hne := ne_empty h3
          have hoa : wrap64 (oa - 1) = oa - 1 := by unfold wrap64; omega
          obtain ⟨kx, hkx⟩ : ∃ kx : Nat, (oa - 1) % (oco.size : Int) = (kx : Int) := ⟨((oa - 1) % (oco.size : Int)).toNat, by have := Int.emod_nonneg (oa - 1) (show (oco.size : Int) ≠ 0 by omega); omega⟩
          have hkxn : kx < oco.size := by have := Int.emod_lt_of_pos (oa - 1) (show (0 : Int) < (oco.size : Int) by omega); omega
          have hma := fun W => mod_any (oa - 1) (oco.size : Int) (by omega) (by omega) W
          rw [hkx] at hma
          obtain ⟨y, zn, yz, s1, s2, hy, hzn, hs2, hidx, hxor, HCV, hcat1, hcat2⟩ := turn_facts oco kx X hkxn hX2 (by omega)
          have q1 : (0 : Int) ≤ (kx : Int) ∧ (kx : Int) ≤ (oco.size : Int) := by omega
          have q2 : IntKind.i64.wrap ((kx : Int) + 1) = ((kx + 1 : Nat) : Int) := by rw [IntKind.wrap_i64]; omega
          have q3 : (0 : Int) ≤ ((kx + 1 : Nat) : Int) ∧ ((kx + 1 : Nat) : Int) ≤ (oco.size : Int) := by omega
          have hs2z : s2.size ≤ 140737488355328 := by omega
          have HS2 : Hid (s2.size ≤ 140737488355328) := hs2z
          clear hkx hs2 hs2z
          go_enter Tryz.func31, Tryz.ntmps31
          go_wp2_with fail
          refine (hma _).mono ?_
          rintro e w2 ⟨rfl, hw2⟩
          obtain rfl := hw2.symm
          have hcv0 := HCV.out W0
          have hcv1 : (convert 96 9 (.slice (some ⟨W0.heap.size, 0, none⟩) 1 1)).run Tryz.prog (W0.alloc (.cells #[.int .u8 (zn : Int)] 5)).drew = .ok (.string yz) (W0.alloc (.cells #[.int .u8 (zn : Int)] 5)).drew := HCV.out W0.drew
          have HBA : Hid (Below W0.heap.size W0 (W0.alloc (.cells #[.int .u8 (zn : Int)] 5)).drew) := ((Below.refl _ _).alloc (Nat.le_refl _) _).drew
          go_wp2_with fail
          apply wp_merge
          · go_region_held_law (fun W => W.cell? ⟨w.heap.size, 7, none⟩ = some (.int .i64 ob)) (first | exact (HC.out _ (bdN _ 1)).2.2.2 | exact (HC.out _ HBA.out).2.2.2 | go_keep) (first | (go_at_call 55; refine (hmb _).mono ?_; rintro e w8 ⟨rfl, rfl⟩))
            all_goals exact ⟨rfl, rfl⟩
          refine with_world (R := fun W => Exit.then _ _ _ _ W) (Q := fun W => Below w.heap.size w W) _ (HB0.out.trans (HBA.out.mono HB0.out.size)) ?_
          intro w9 hb9
          go_wp2
          go_ret
          exact ⟨_, rfl, HS2.out, hb9⟩
      · go_enter Tryz.func31, Tryz.ntmps31
        go_wp2
        go_ret
        exact ⟨_, rfl, (by omega), HB0.out⟩
end Go.Proofs.YtengclnahppmhaaGreatDoor.Sr
