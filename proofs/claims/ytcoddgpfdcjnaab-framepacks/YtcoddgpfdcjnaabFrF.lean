import Derived.Test.YtcoddgpfdcjnaabFrE
import Derived.Test.YtcoddgpfdcjnaabFrB
import Derived.Deep.RegionHeldLaw
namespace Go.Proofs.Ytcoddgpfdcjnaab.Fr
open Go.RowKit Go.Lib Go.Deep

theorem str_app (a b : List UInt8) : str a ++ str b = str (a ++ b) := by
  apply ByteArray.ext
  apply Array.ext'
  rw [ByteArray.data_append, Array.toList_append, str_data, str_data, str_data]
theorem hd_cells (k n : Nat) (hk : k < 256) (hn : n ≤ 1048576) : (#[.int .u8 (k : Int), .int .u8 ((n / 16777216 : Nat) : Int), .int .u8 ((n / 65536 : Nat) : Int), .int .u8 ((n / 256 % 256 : Nat) : Int), .int .u8 ((n % 256 : Nat) : Int)] : Array Value) = (Lib.byteCells (hdL k n)).toArray := by
  unfold hdL Lib.byteCells
  simp only [List.map_cons, List.map_nil]
  rw [ofNat_toNat _ hk, ofNat_toNat _ (by omega), ofNat_toNat _ (by omega), ofNat_toNat _ (by omega), ofNat_toNat _ (by omega)]
theorem bdN (w : World) (n : Nat) : Below w.heap.size w (w.drewN n) := ⟨rfl, rfl, rfl, Nat.le_refl _, fun _ _ => rfl⟩
set_option maxHeartbeats 1000000 in
set_option maxRecDepth 20000 in
theorem pack_any (k : Int) (b : ByteArray) (z : Int) (hb : b.size ≤ 140737488351232) (w : World) : Calls Try.prog 6 #[.int .i64 k, .string b, .int .i64 z] w fun e w' => e = .returned (.tuple #[.string (packY k b z), .int .i64 (packE k b z)]) ∧ Below w.heap.size w w' := by
  have hk := isKind_any k
  by_cases h1 : 1 ≤ k ∧ k ≤ 255
  · rw [decide_eq_true h1] at hk
    by_cases h2 : 1048576 < z
    · have e1 : packE k b z = 3 := by unfold packE; rw [if_neg (by omega), if_pos h2]
      have e2 : packY k b z = { data := #[] } := if_neg (by rw [e1]; decide)
      rw [e1, e2]
      clear e1 e2
      go_enter Try.func6, Try.ntmps6
      go_wp2_with fail
      refine (hk _).mono ?_
      rintro e w' ⟨rfl, rfl⟩
      go_wp2
      go_ret2
      exact ⟨rfl, Below.refl _ _⟩
    · by_cases h3 : z < 5 + (b.size : Int)
      · have e1 : packE k b z = 90 := by unfold packE; rw [if_neg (by omega), if_neg h2, if_pos h3]
        have e2 : packY k b z = { data := #[] } := if_neg (by rw [e1]; decide)
        rw [e1, e2]
        clear e1 e2
        go_enter Try.func6, Try.ntmps6
        go_wp2_with fail
        refine (hk _).mono ?_
        rintro e w' ⟨rfl, rfl⟩
        go_wp2
        go_ret2
        exact ⟨rfl, Below.refl _ _⟩
      · obtain ⟨K, rfl⟩ : ∃ K : Nat, k = (K : Int) := ⟨k.toNat, by omega⟩
        obtain ⟨Z, rfl⟩ : ∃ Z : Nat, z = (Z : Int) := ⟨z.toNat, by omega⟩
        have hbl : b.data.toList.length = b.size := (size_eq b).symm
        have e1 : packE (K : Int) b (Z : Int) = 0 := packE_of ⟨by omega, by omega, by omega, by omega⟩
        have e2 : packY (K : Int) b (Z : Int) = str (frL K b.data.toList Z) := by unfold packY; rw [if_pos e1]; simp
        rw [e1, e2]
        clear e1 e2
        have h1' : K < 256 := by omega
        have h2' : Z ≤ 1048576 := by omega
        have h3' : 5 + b.size ≤ Z := by omega
        have h4' : (5 + (b.size : Int)) ≤ (Z : Int) := by omega
        have hh := headOf_any K b.size (by omega) (by omega)
        obtain ⟨y1, y2, y3, y4, HY, hh⟩ : ∃ y1 y2 y3 y4 : Nat, Hid (y1 = b.size / 16777216 ∧ y2 = b.size / 65536 ∧ y3 = b.size / 256 % 256 ∧ y4 = b.size % 256) ∧ ∀ w, Calls Try.prog 14 #[.int .i64 (K : Int), .int .i64 (b.size : Int)] w fun e w' => e = .returned (.agg #[.int .u8 (K : Int), .int .u8 (y1 : Int), .int .u8 (y2 : Int), .int .u8 (y3 : Int), .int .u8 (y4 : Int)]) ∧ Below w.heap.size w w' :=
          ⟨_, _, _, _, ⟨rfl, rfl, rfl, rfl⟩, hh⟩
        have hr := repeat_any (Z - 5 - b.size) (by omega)
        go_enter Try.func6, Try.ntmps6
        go_wp2_with fail
        refine (hk _).mono ?_
        rintro e w' ⟨rfl, rfl⟩
        go_wp2_with fail
        refine (hh _).mono ?_
        rintro e w1 ⟨rfl, hb1⟩
        obtain ⟨hS, HS⟩ : ∃ hS, hS = str (hdL K b.size) := ⟨_, rfl⟩
        have hSz : hS.size = 5 := by rw [HS, str_size]; rfl
        go_wp2_with fail
        obtain ⟨W0, hW0⟩ : ∃ W0, w1.alloc (.cells #[.int .u8 (K : Int), .int .u8 (y1 : Int), .int .u8 (y2 : Int), .int .u8 (y3 : Int), .int .u8 (y4 : Int)] 38) = W0 := ⟨_, rfl⟩
        have hrow : W0.heap[w1.heap.size]? = some (.cells #[.int .u8 (K : Int), .int .u8 (y1 : Int), .int .u8 (y2 : Int), .int .u8 (y3 : Int), .int .u8 (y4 : Int)] 38 (0, 0)) := by rw [← hW0]; exact heap_new w1 _
        have HB : Hid (Below w'.heap.size w' W0) := by rw [← hW0]; exact hb1.alloc hb1.size _
        have hlt := heap_lt hrow
        have HX : Hid (∀ W, Below W0.heap.size W0 W → (convert 40 9 (.slice (some ⟨w1.heap.size, 0, none⟩) 5 5)).run Try.prog W = .ok (.string hS) W) := fun W hW => by
          have hr2 := (hW.block _ hlt).trans hrow
          obtain ⟨q1, q2, q3, q4⟩ := HY.out
          have := run_convert_bytes_back (P := Try.prog) W 40 9 5 ⟨w1.heap.size, 0, none⟩ 5 (hdL K b.size) Try.underlying40 Try.underlying5 Try.underlying9 (fun j hj => by
            rw [Addr.add_lit, Nat.zero_add, cell_of_heap hr2, q1, q2, q3, q4, hd_cells K b.size (by omega) (by omega)]
            simp [Lib.byteCells, hj])
          rw [HS]
          exact this
        rw [hW0]
        have K1 : Hid (∀ W, Below W0.heap.size W0 W → Calls Try.prog 15 #[.string { data := #[0] }, .int .i64 ((Z - 5 - b.size : Nat) : Int)] W fun e w2 => e = .returned (.string (str (List.replicate (Z - 5 - b.size) 0))) ∧ Below W0.heap.size W0 w2) := fun W hW => by
          refine (hr W).mono ?_
          rintro e w2 ⟨rfl, h⟩
          exact ⟨rfl, hW.trans (h.mono hW.size)⟩
        obtain ⟨zS, hzS⟩ : ∃ zS, str (List.replicate (Z - 5 - b.size) 0) = zS := ⟨_, rfl⟩
        have hzz : zS.size = Z - 5 - b.size := by rw [← hzS, str_size, List.length_replicate]
        have hw : ((Z - 5 - b.size : Nat) : Int) = IntKind.i64.wrap (IntKind.i64.wrap ((Z : Int) - 5) - (b.size : Int)) := by rw [IntKind.wrap_i64, IntKind.wrap_i64]; omega
        rw [hzS, hw] at K1
        clear hw
        obtain ⟨s1, hs1⟩ : ∃ s1, hS ++ b = s1 := ⟨_, rfl⟩
        have hs1z : s1.size = 5 + b.size := by rw [← hs1, ByteArray.size_append, hSz]
        have hcat1 : ∀ W, (Op.stringOp .add hS b).run Try.prog W = .ok (.string s1) W := fun W => by
          rw [run_string_add_sum (P := Try.prog) (w := W) _ _ (by omega), hs1]
        obtain ⟨s2, hs2⟩ : ∃ s2, s1 ++ zS = s2 := ⟨_, rfl⟩
        have hcat2 : ∀ W, (Op.stringOp .add s1 zS).run Try.prog W = .ok (.string s2) W := fun W => by
          rw [run_string_add_sum (P := Try.prog) (w := W) _ _ (by omega), hs2]
        have HE : Hid (s2 = str (frL K b.data.toList Z)) := by
          show _ = _
          rw [← hs2, ← hs1, HS, ← hzS, ← str_of b, str_app, str_app, str_data, str_size, hbl]
          unfold frL
          rw [hbl]
        clear hs1 hs2 HS hzS hrow hW0 hr hh HY hb1
        go_region_held_law (fun W => (convert 40 9 (.slice (some ⟨w1.heap.size, 0, none⟩) 5 5)).run Try.prog W = .ok (.string hS) W) (first | exact HX.out _ (bdN _ 1) | exact HX.out _ hb6 | go_keep) (first | (go_at_call 15; refine (K1.out _ (bdN _ 1)).mono ?_; rintro e w6 ⟨rfl, hb6⟩))
        all_goals
          go_wp2
          go_ret2
          exact ⟨by rw [← HE.out]; rfl, HB.out.trans (hb6.mono HB.out.size)⟩
  · rw [decide_eq_false h1] at hk
    have e1 : packE k b z = 92 := by unfold packE; rw [if_pos (by omega)]
    have e2 : packY k b z = { data := #[] } := if_neg (by rw [e1]; decide)
    rw [e1, e2]
    clear e1 e2
    go_enter Try.func6, Try.ntmps6
    go_wp2_with fail
    refine (hk _).mono ?_
    rintro e w' ⟨rfl, rfl⟩
    go_wp2
    go_ret2
    exact ⟨rfl, Below.refl _ _⟩
end Go.Proofs.Ytcoddgpfdcjnaab.Fr
