import Derived.Test.YtjcmpfnndjlpkabDoorChaN
import Derived.Test.YtjcmpfnndjlpkabDoorChaO
namespace Go.Proofs.YtjcmpfnndjlpkabDoor
open Go.RowKit Go.Lib Go.Deep

theorem slice_head {P : Program} (W : World) (t : TypeId) (ht : P.underlying t = some .string) (l a : List UInt8) (n : Nat) (hn : n ≤ l.length) (h : l.take n = a) : (Instr.slice t (.string (str l)) none (some (.int .i64 (n : Int))) none).run P W = .ok (.string (str a)) W := by
  rw [run_slice_string_h (P := P) W t (str l) ht .i64 (n : Int) (by omega) (by rw [str_size]; omega), Int.toNat_natCast]
  congr 2
  rw [← str_of ((str l).extract 0 n), extract_data, str_data, List.drop_zero, Nat.sub_zero, h]
theorem slice_tail {P : Program} (W : World) (t : TypeId) (ht : P.underlying t = some .string) (l a : List UInt8) (n : Nat) (hn : n ≤ l.length) (h : l.drop n = a) : (Instr.slice t (.string (str l)) (some (.int .i64 (n : Int))) none none).run P W = .ok (.string (str a)) W := by
  rw [run_slice_string_l (P := P) W t (str l) ht .i64 (n : Int) (by omega) (by rw [str_size]; omega), Int.toNat_natCast]
  congr 2
  rw [← str_of ((str l).extract n (str l).size), extract_data, str_data, str_size, List.take_of_length_le (by rw [List.length_drop]; omega), h]

set_option maxRecDepth 20000 in
set_option maxHeartbeats 2000000 in
theorem known_any (w : World) (hT : CTabs w) (h3 : 3 ≤ w.heap.size) :
    Calls Tryd.prog 7 #[] w fun e w' => e = .returned (.bool true) ∧ Below w.heap.size w w' := by
  have hq := Quarter_yes ⟨286331153, 16909060, 2609737539, 19088743⟩ ⟨by decide, by decide, by decide, by decide⟩ w
  rw [known_quarter] at hq
  have hrise := fun W => rising_any 32 (by omega) W
  have hbl := fun W hT h3 => block_yes (str (riseL 32)) ⟨#[0, 0, 0, 9, 0, 0, 0, 74, 0, 0, 0, 0]⟩ 1 (by rw [str_size]; simp [riseL]) rfl (by omega) W hT h3
  have hhc := fun W hT h3 => hch_yes (str (riseL 32)) ⟨#[0, 0, 0, 9, 0, 0, 0, 74, 0, 0, 0, 0, 49, 65, 89, 39]⟩ (by rw [str_size]; simp [riseL]) rfl W hT h3
  rw [str_data] at hbl hhc
  have hs1 : ∀ W, (Instr.slice 9 (.string (str (blockL (riseL 32) 1 [0, 0, 0, 9, 0, 0, 0, 74, 0, 0, 0, 0]))) none (some (.int .i64 4)) none).run Tryd.prog W = .ok (.string { data := #[16, 241, 231, 228] }) W := fun W => slice_head W 9 Tryd.underlying9 _ _ 4 (by rw [blockL_length]; omega) known_block.1
  have hs2 : ∀ W, (Instr.slice 9 (.string (str (blockL (riseL 32) 1 [0, 0, 0, 9, 0, 0, 0, 74, 0, 0, 0, 0]))) (some (.int .i64 60)) none none).run Tryd.prog W = .ok (.string { data := #[162, 80, 60, 78] }) W := fun W => slice_tail W 9 Tryd.underlying9 _ _ 60 (by rw [blockL_length]; omega) known_block.2
  have hs3 : ∀ W, (Instr.slice 9 (.string (str (hchL (riseL 32) [0, 0, 0, 9, 0, 0, 0, 74, 0, 0, 0, 0, 49, 65, 89, 39]))) none (some (.int .i64 4)) none).run Tryd.prog W = .ok (.string { data := #[130, 65, 59, 66] }) W := fun W => slice_head W 9 Tryd.underlying9 _ _ 4 (by rw [hchL_length]; omega) known_hash.1
  have hs4 : ∀ W, (Instr.slice 9 (.string (str (hchL (riseL 32) [0, 0, 0, 9, 0, 0, 0, 74, 0, 0, 0, 0, 49, 65, 89, 39]))) (some (.int .i64 28)) none none).run Tryd.prog W = .ok (.string { data := #[38, 211, 236, 220] }) W := fun W => slice_tail W 9 Tryd.underlying9 _ _ 28 (by rw [hchL_length]; omega) known_hash.2
  have hz1 : (str (blockL (riseL 32) 1 [0, 0, 0, 9, 0, 0, 0, 74, 0, 0, 0, 0])).size = 64 := by rw [str_size, blockL_length]
  have hz2 : (str (hchL (riseL 32) [0, 0, 0, 9, 0, 0, 0, 74, 0, 0, 0, 0, 49, 65, 89, 39])).size = 32 := by rw [str_size, hchL_length]
  revert hbl hhc hrise hs1 hs2 hs3 hs4 hz1 hz2
  generalize hY1 : str (blockL (riseL 32) 1 [0, 0, 0, 9, 0, 0, 0, 74, 0, 0, 0, 0]) = yb
  generalize hY2 : str (hchL (riseL 32) [0, 0, 0, 9, 0, 0, 0, 74, 0, 0, 0, 0, 49, 65, 89, 39]) = yh
  generalize str (riseL 32) = yk
  intro hrise hbl hhc hs1 hs2 hs3 hs4 hz1 hz2
  have hbl' : ∀ W, CTabs W → 3 ≤ W.heap.size → Calls Tryd.prog 13 #[.string yk, .int .i64 1, .string { data := #[0, 0, 0, 9, 0, 0, 0, 74, 0, 0, 0, 0] }] W fun e w' => e = .returned (.tuple #[.string yb, .int .i64 0]) ∧ Below W.heap.size W w' := fun W hT h3 => by
    have h := hbl W hT h3
    exact h
  have hhc' : ∀ W, CTabs W → 3 ≤ W.heap.size → Calls Tryd.prog 19 #[.string yk, .string { data := #[0, 0, 0, 9, 0, 0, 0, 74, 0, 0, 0, 0, 49, 65, 89, 39] }] W fun e w' => e = .returned (.tuple #[.string yh, .int .i64 0]) ∧ Below W.heap.size W w' := fun W hT h3 => by
    have h := hhc W hT h3
    exact h
  clear hbl hhc hY1 hY2
  go_enter Tryd.func7, Tryd.ntmps7
  go_wp2_with fail
  refine hq.mono ?_
  rintro e w1 ⟨rfl, rfl⟩
  go_wp2_with fail
  refine (num_any 0 w).mono ?_
  rintro e w1 ⟨rfl, rfl⟩
  go_wp2_with fail
  refine (hrise w).mono ?_
  rintro e w1 ⟨rfl, hb1⟩
  have z1 := hb1.size
  have h1 := hbl' w1 (hT.below hb1 h3) (by omega)
  go_wp2_with fail
  refine h1.mono ?_
  rintro e w2 ⟨rfl, hb2'⟩
  have hb2 := hb1.trans (hb2'.mono z1)
  clear hb1 hb2' h1 hq
  have z2 := hb2.size
  go_wp2_with fail
  refine (hrise w2).mono ?_
  rintro e w3 ⟨rfl, hb3'⟩
  have hb3 := hb2.trans (hb3'.mono z2)
  clear hb3' hb2
  have z3 := hb3.size
  have h1 := hhc' w3 (hT.below hb3 h3) (by omega)
  go_wp2_with fail
  refine h1.mono ?_
  rintro e w4 ⟨rfl, hb4'⟩
  have hb4 := hb3.trans (hb4'.mono z3)
  clear hb4' hb3 h1
  go_wp2_with (go_at_call 11; refine (num_any 0 _).mono ?_; rintro e w5 ⟨rfl, rfl⟩)
  go_ret
  exact ⟨rfl, hb4⟩

end Go.Proofs.YtjcmpfnndjlpkabDoor
