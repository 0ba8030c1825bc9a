import Derived.Test.YthmjjpaengackaaPhC
import Derived.Shelf.SlMaps.Clone
import Derived.Lib.SliceRun
namespace Go.Proofs.Ythmjjpaengackaa.Po
open Go.RowKit Go.Lib Go.Deep

theorem sizeRg : (Try.prog.info? 72).map (·.size) = some 3 := by kernel_rfl
set_option maxRecDepth 20000 in
set_option maxHeartbeats 2000000 in
theorem mcloneI_any (w : World) (b : Nat) (es : Array MapEntry) (clock : Nat) (hb : w.heap[b]? = some (.map es clock)) : Calls Try.prog 55 #[.map (some b)] w fun e w' => e = .returned (.map (some w.heap.size)) ∧ w' = w.alloc (.map es clock) := by
  have hq := fun w => run_eql_map_nil_sl (P := Try.prog) w 69 _ _ (some b) Try.underlying69
  go_enter Try.func55, Try.ntmps55
  go_wp2
  rw [run_callFunc_extern Try.func72 (by kernel_rfl) (by kernel_rfl) (by kernel_rfl) (e := Extern.MapsClone.clone) (by kernel_rfl), run_maps_clone_sl w 69 hb]
  simp only [Result.andThen]
  rw [Oper.upon_value]
  go_wp2
  rw [run_typeAssert_map_sl _ 69 20 _ _ _ Try.underlying69]
  simp only [Result.andThen]
  rw [Oper.upon_value]
  go_wp2
  go_ret
  exact ⟨rfl, rfl⟩
set_option maxRecDepth 20000 in
set_option maxHeartbeats 2000000 in
theorem mcloneS_any (w : World) (b : Nat) (es : Array MapEntry) (clock : Nat) (hb : w.heap[b]? = some (.map es clock)) : Calls Try.prog 56 #[.map (some b)] w fun e w' => e = .returned (.map (some w.heap.size)) ∧ w' = w.alloc (.map es clock) := by
  have hq := fun w => run_eql_map_nil_sl (P := Try.prog) w 70 _ _ (some b) Try.underlying70
  go_enter Try.func56, Try.ntmps56
  go_wp2
  rw [run_callFunc_extern Try.func72 (by kernel_rfl) (by kernel_rfl) (by kernel_rfl) (e := Extern.MapsClone.clone) (by kernel_rfl), run_maps_clone_sl w 70 hb]
  simp only [Result.andThen]
  rw [Oper.upon_value]
  go_wp2
  rw [run_typeAssert_map_sl _ 70 20 _ _ _ Try.underlying70]
  simp only [Result.andThen]
  rw [Oper.upon_value]
  go_wp2
  go_ret
  exact ⟨rfl, rfl⟩
theorem rwsC_one (l : List (Ob × Bool)) : ∀ u ∈ rwsC l, u.oneCell' = true := fun u hu => by
  unfold rwsC at hu
  obtain ⟨o, _, hu⟩ := List.mem_flatMap.1 hu
  simp only [rwC, List.mem_cons, List.not_mem_nil, or_false] at hu
  rcases hu with rfl | rfl | rfl | rfl | rfl <;> rfl
set_option maxRecDepth 20000 in
set_option maxHeartbeats 2000000 in
theorem rclone_any (w : World) (g n c : Nat) (xs : List Value) (hs : See w 5 (.slice (some ⟨g, 0, none⟩) n c) n xs) (hn : n ≤ 65600) : Calls Try.prog 54 #[.slice (some ⟨g, 0, none⟩) n c] w fun e w' => ∃ v, e = .returned v ∧ w'.ownsRow w.heap.size 76 5 v n xs ∧ Below w.heap.size w w' := by
  obtain ⟨W, hW, hb, k0⟩ := one_new w #[] 76
  have ho : W.ownsRow w.heap.size 76 5 (.slice (some ⟨w.heap.size, 0, none⟩) 0 0) 0 [] := ⟨rfl, .inr ⟨w.heap.size, 0, #[], rfl, Nat.le_refl _, k0, Nat.le_refl _, by unfold maxLen; omega, rfl, rfl⟩⟩
  have hsW := hs.below hb
  have HBW : Hid (Below w.heap.size w W) := hb
  have hq : ∀ (w : World) (a : Option Addr) (n c n' c' : Nat), (binOp .eql 68 (.slice a n c) (.slice none n' c')).run Try.prog w = .ok (.bool a.isNone) w := fun w a n c n' c' => Lib.run_eql_slice_nil w _ _ a n c n' c' Try.underlying68
  clear hs hb k0
  go_enter Try.func54, Try.ntmps54
  go_wp2_with (at_builtin; refine wpList_app rfl _ _ 68 76 rfl _ 5 56 Try.underlying68 infoRow rfl (by decide) w.heap.size _ _ 0 n [] xs rfl ho rfl hsW (by unfold maxLen; omega) (by omega) HBW.out.size ?_; intro v' w' hown' hg'; have HO : Hid _ := hown'; have HG : Hid _ := hg'; clear hown' hg')
  go_ret
  refine ⟨_, rfl, ?_, HBW.out.trans (grown_base HG.out HBW.out.size ho)⟩
  have := HO.out
  rw [Nat.zero_add] at this
  exact this
end Go.Proofs.Ythmjjpaengackaa.Po
