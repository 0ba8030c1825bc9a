import Derived.Test.YtebhmebldemndaaDoorRf4B
import Derived.Deep.Cut
namespace Go.Proofs.YtebhmebldemndaaDoor.Cha
open Go.RowKit Go.Lib Go.Deep

theorem con_owned (w : World) : (w.alloc (.cells (i64s con4) 3)).ownsRow w.heap.size 3 1 (.slice (some ⟨w.heap.size, 0, none⟩) 4 4) 4 (i64L con4) :=
  ⟨rfl, .inr ⟨w.heap.size, 4, i64s con4, rfl, Nat.le_refl _, heap_new _ _, Nat.le_refl _, by unfold maxLen; omega, rfl, rfl⟩⟩

set_option maxRecDepth 20000 in
set_option maxHeartbeats 1000000 in
theorem start_any (key : ByteArray) (hk : key.size = 32) (fs : List Nat) (hf : fs.length = 4) (g4 cap4 : Nat) (w : World) (hg4 : g4 < w.heap.size) (hr4 : w.rangeAt g4 0 (i64L fs)) :
    Calls Tryd.prog 66 #[.string key, .slice (some ⟨g4, 0, none⟩) 4 cap4] w fun e w' => ∃ v, e = .returned v ∧ w'.ownsRow w.heap.size 3 1 v 16 (i64L (con4 ++ wordsL key.data.toList 8 ++ fs)) ∧ Below w.heap.size w w' := by
  obtain ⟨i0, hi, hz0, hz1, hz2⟩ := info_parts info3
  have hA := con_owned w
  have hbA : Below w.heap.size w (w.alloc (.cells (i64s con4) 3)) := (Below.refl _ _).alloc (Nat.le_refl _) _
  have hwo := wordsOf_any key 8 hk (by omega) (w.alloc (.cells (i64s con4) 3))
  have hlw : (i64L (wordsL key.data.toList 8)).length = 8 := by rw [i64L_length, wordsL_length]
  have hlf : (i64L fs).length = 4 := by rw [i64L_length, hf]
  have HE : Hid (i64L (con4 ++ wordsL key.data.toList 8 ++ fs) = (i64L con4 ++ i64L (wordsL key.data.toList 8)) ++ i64L fs) := by show _ = _; rw [i64L_append, i64L_append]
  have ho1 := i64L_one (wordsL key.data.toList 8)
  have ho2 := i64L_one fs
  revert hwo hlw HE ho1
  generalize wordsL key.data.toList 8 = ws
  intro hwo hlw HE ho1
  go_enter Tryd.func66, Tryd.ntmps66
  go_wp2_with fail
  refine hwo.mono ?_
  rintro e w2 ⟨v2, rfl, hown2, hb2'⟩
  have hb2 := hbA.trans (hb2'.mono hbA.size)
  have hA2 := owns_kept hA (fun k hk => hb2'.block k hk)
  obtain ⟨g2, cap2, rfl, hg2, hc2, hcm2, hl2, hr2⟩ := owns_range hown2 (by omega)
  have hml1 : 4 + 8 ≤ maxLen := by unfold maxLen; omega
  have hml2 : 4 + 8 + 4 ≤ maxLen := by unfold maxLen; omega
  have z2 := hb2.size
  go_upto_region 3 with (at_builtin; refine wpList_append_own _ rfl _ _ 98 rfl w.heap.size 3 i0 (.int .i64 0) 1 8 Tryd.underlying98 hi hz0 hz1 hz2 rfl (by decide) _ _ _ rfl hA2 ⟨g2, 0, none⟩ 8 cap2 (i64L ws) rfl hlw (cells_range hr2) ho1 hml1 (by omega) z2 ?_; intro v3 w3 hown3 hgrow3 _)
  have hb3 : Below w.heap.size w w3 := hb2.trans (grown_below hgrow3 z2 hA2)
  clear hA hA2 hown2 hb2 hb2' hgrow3 hr2 hwo
  have z3 := hb3.size
  have hr3 := range_kept hr4 (hb3.block g4 hg4)
  go_wp2_with (at_builtin; refine wpList_append_own _ rfl _ _ 98 rfl w.heap.size 3 i0 (.int .i64 0) 1 8 Tryd.underlying98 hi hz0 hz1 hz2 rfl (by decide) _ _ _ rfl hown3 ⟨g4, 0, none⟩ 4 cap4 (i64L fs) rfl hlf (cells_range hr3) ho2 hml2 (by omega) z3 ?_; intro v4 w4 hown4 hgrow4 _)
  have hb4 : Below w.heap.size w w4 := hb3.trans (grown_below hgrow4 z3 hown3)
  go_ret
  rw [HE.out]
  exact ⟨_, rfl, hown4, hb4⟩

end Go.Proofs.YtebhmebldemndaaDoor.Cha
