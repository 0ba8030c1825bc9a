import Derived.Test.YtjinhaallkgagaaRows
import Derived.Test.YtjinhaallkgagaaSplitB
import Derived.Test.YtjinhaallkgagaaNewProof
import Derived.WalkKit
import Derived.ProofKit
import Derived.OpenShut
import Derived.ShutString
namespace Go.Proofs.Ytjinhaallkgagaa.tapeSplit
open Go.ChangeShapes Go.WideShapes Go.ChangeAt Go.RowKit
open Go.ChangeMaps (open_string shut_string)
set_option linter.unusedVariables false

theorem own : ownKnob Try.prog.godebug = none := by kernel_rfl

theorem walk_big (a0 : ByteArray) (a b : Int) (w : World) (w0 : a0.size ≤ maxLen) (h : 67108864 < a0.size) :
    Calls Try.prog 5 #[.string a0, .int .i64 a, .int .i64 b] w fun e w' => e = .returned (.bool true) ∧ Below w.heap.size w w' := by
  have w0' := w0
  unfold maxLen at w0'
  have h1 : (67108864 : Int) < (a0.size : Int) := by omega
  go_enter Try.func5, Try.ntmps5
  go_wp2_with (go_at_call 3; refine (tapeNew.walk a0 w0 _).mono ?_; rintro e w' ⟨rfl, hb⟩)
  go_ret
  exact ⟨rfl, hb⟩

theorem walk (a0 : ByteArray) (a b : Int) (w : World) (w0 : a0.size ≤ maxLen) :
    Calls Try.prog 5 #[.string a0, .int .i64 a, .int .i64 b] w fun e w' => e = .returned (.bool true) ∧ Below w.heap.size w w' := by
  by_cases h : a0.size ≤ 67108864
  · by_cases o0 : a < 0
    · by_cases c1 : 3 ≤ (a0.size : Int)
      · exact split_fits_out0 a0 a b w h o0 c1
      · by_cases c2 : 1 ≤ (a0.size : Int)
        · exact split_mid_out0 a0 a b w h o0 c2 (by omega)
        · exact split_dry_out0 a0 a b w h o0 (by omega)
    · by_cases o1 : b < 0
      · by_cases c1 : 3 ≤ (a0.size : Int)
        · exact split_fits_out1 a0 a b w h o0 o1 c1
        · by_cases c2 : 1 ≤ (a0.size : Int)
          · exact split_mid_out1 a0 a b w h o0 o1 c2 (by omega)
          · exact split_dry_out1 a0 a b w h o0 o1 (by omega)
      · by_cases o2 : (67108864 : Int) < a
        · by_cases c1 : 3 ≤ (a0.size : Int)
          · exact split_fits_out2 a0 a b w h o0 o1 o2 c1
          · by_cases c2 : 1 ≤ (a0.size : Int)
            · exact split_mid_out2 a0 a b w h o0 o1 o2 c2 (by omega)
            · exact split_dry_out2 a0 a b w h o0 o1 o2 (by omega)
        · by_cases o3 : (67108864 : Int) < b
          · by_cases c1 : 3 ≤ (a0.size : Int)
            · exact split_fits_out3 a0 a b w h o0 o1 o2 o3 c1
            · by_cases c2 : 1 ≤ (a0.size : Int)
              · exact split_mid_out3 a0 a b w h o0 o1 o2 o3 c2 (by omega)
              · exact split_dry_out3 a0 a b w h o0 o1 o2 o3 (by omega)
          · by_cases c1 : a + b ≤ (a0.size : Int)
            · exact split_fits a0 a b w h (by omega) (by omega) c1
            · by_cases c2 : a ≤ (a0.size : Int)
              · exact split_mid a0 a b w h (by omega) (by omega) c2 (by omega) (by omega)
              · by_cases c3 : b = 0
                · subst c3
                  exact split_dry0 a0 a w h (by omega) (by omega) (by omega)
                · exact split_dry a0 a b w h (by omega) (by omega) (by omega) (by omega) (by omega)
  · exact walk_big a0 a b w w0 (by omega)

set_option maxRecDepth 100000 in
theorem lifted (os : Os) (started : os.Started) (H : Type) (enc : TypeId × Value → H) :
    ReturnsInHanded {} Try.checked os 5 .any (Rows.tapeSplitSpec.pre6 enc Try.prog Try.f5 Rows.tapeSplitRow.domain false) (Rows.tapeSplitSpec.post enc Try.prog Try.f5 false true false false) := by
  refine returnsInHanded_of_change (C := Try.checked) own started (by kernel_rfl) Try.func5
    (ChangeSpec.witness6 (enc := enc) (C := Try.checked) false ⟨#[], #[.string ByteArray.empty, .int .i64 0, .int .i64 0], []⟩ 8 (by kernel_rfl) (by kernel_rfl) (by kernel_rfl) (by kernel_rfl)) ?_
  intro W base args ds gs before hval0 hW hcnd _
  have hval : ∀ (j : Nat) t v, Try.f5.params[j]? = some t → args[j]? = some v → Value.okWide Try.prog W .any base t v := hval0
  have hW' := hW
  obtain ⟨p, q, hA0, hV, rfl, hfz, hnd⟩ := hW
  have hA : DataW.TrodAll enc Try.prog W 0 (fun _ => true) true Try.f5.params.toList args.toList ds p := hA0
  rw [Try.params5] at hA hval
  obtain ⟨v0, vs0, d0, ds0, p0, q0, hargs, rfl, rfl, h0, r0⟩ := trodAll_cons hA
  obtain ⟨v1, vs1, d1, ds1, p1, q1, rfl, rfl, rfl, h1, r1⟩ := trodAll_cons r0
  obtain ⟨v2, vs2, d2, ds2, p2, q2, rfl, rfl, rfl, h2, r2⟩ := trodAll_cons r1
  obtain ⟨rfl, rfl, rfl⟩ := trodAll_nil r2
  obtain rfl : args = #[v0, v1, v2] := by cases args; simp_all
  obtain ⟨rfl, rfl⟩ := trodVars_none hV
  obtain ⟨a0, rfl, rfl, rfl, w0⟩ := open_string Try.underlying9 (hval 0 9 v0 rfl rfl) h0
  obtain ⟨a1, rfl, rfl, rfl, w1⟩ := open_int Try.underlying3 (hval 1 3 v1 rfl rfl) h1
  obtain ⟨a2, rfl, rfl, rfl, w2⟩ := open_int Try.underlying3 (hval 2 3 v2 rfl rfl) h2
  clear hA0 hval0
  simp only [List.append_nil] at hW'
  refine (walk a0 a1 a2 W w0).mono fun e W' ⟨he, bel⟩ => ?_
  subst he
  exact ⟨_, rfl, _, _, _, [], [], [], hW', trodAll_mk1 (shut_bool Try.underlying4 _), (trodAll_cons_mk (shut_string Try.underlying9 w0) (trodAll_cons_mk (shut_int Try.underlying3 w1) (trodAll_cons_mk (shut_int Try.underlying3 w2) trodAll_mk0))), rfl, bel.frame _, fun h => by cases h⟩

theorem over : Rows.tapeSplitRow.holds Try.pinned (OpenSpec.ofChange Rows.tapeSplitSpec) :=
  OpenClaim.holds_of_wide 5 Try.f5 rfl rfl rfl rfl rfl rfl rfl ⟨rfl, rfl, rfl, rfl, rfl⟩ rfl rfl rfl rfl rfl (by kernel_rfl) Try.func5 (by kernel_rfl)
    (of_decide_eq_true (by kernel_rfl)) (by unfold Func.isWrapper; first | (rw [if_pos (by decide +kernel)]; kernel_rfl) | (rw [if_neg (by decide +kernel)]; exact ⟨rfl, rfl⟩))
    (fun os started H enc _ => lifted os started H enc)

theorem proved : Rows.TapeSplitSaid :=
  over
end Go.Proofs.Ytjinhaallkgagaa.tapeSplit
namespace Go.Proofs.Ytjinhaallkgagaa
theorem tapeSplit_holds : Rows.TapeSplitSaid := tapeSplit.proved
end Go.Proofs.Ytjinhaallkgagaa
