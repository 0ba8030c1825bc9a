import Derived.Test.YtbjiamaaocjbfaaDoorTabsR
import Derived.Test.YtbjiamaaocjbfaaDoorLwB
import Derived.Test.YtbjiamaaocjbfaaDoorScrR
import Derived.ShutString
import Derived.Carry
namespace Go.Proofs.YtbjiamaaocjbfaaDoor.keyringPrints
open Go.ChangeShapes Go.WideShapes Go.ChangeAt Go.RowKit
open Go.ChangeMaps (open_string shut_string)

theorem own : ownKnob Tryd.prog.godebug = none := by kernel_rfl

theorem laidOut : laidOutB Tryd.prog = true := by kernel_rfl

set_option maxRecDepth 20000 in
theorem contract (H : Type) (enc : TypeId × Value → H) (W : World) (base : Nat) (args : Array Value) (ds gs : List (DataW H)) (before : List MemPlace)
    (hval : ∀ (j : Nat) t v, Tryd.f3.params[j]? = some t → args[j]? = some v → Value.okWide Tryd.prog W .any base t v)
    (hW : DataW.Whole enc Tryd.prog Tryd.f3.params.toList Rows.keyringPrintsSpec.vars false W args.toList ds gs before) (hsz : (DataW.weightsEach Tryd.prog (Tryd.f3.params.toList ++ (OpenSpec.ofChange Rows.keyringPrintsSpec).bare.plain.varTypes Tryd.prog) (ds ++ gs)).all (· ≤ reachBytes) = true)
    (hL : laidMetH Tryd.prog Rows.keyringPrintsRow.laid W) (hS : W.ShapedOpen Tryd.prog) :
    Calls Tryd.prog 3 args W fun e W' => ∃ v, e = .returned v ∧ Rows.keyringPrintsSpec.post enc Tryd.prog Tryd.f3 false true false false W args v W' := by
  have hW' := hW
  obtain ⟨p, q, hA0, hV, rfl, hfz, hnd⟩ := hW
  have hA : DataW.TrodAll enc Tryd.prog W 0 (fun _ => true) true Tryd.f3.params.toList args.toList ds p := hA0
  rw [Tryd.params3] at hA hval
  obtain ⟨v0, vs0, d0, ds0, p0, q0, hargs, rfl, rfl, h0, r0⟩ := trodAll_cons hA
  obtain ⟨rfl, rfl, rfl⟩ := trodAll_nil r0
  obtain rfl : args = #[v0] := by cases args; simp_all
  obtain ⟨rfl, rfl⟩ := trodVars_none hV
  have k0 := h0
  have lt0 : ∀ x ∈ p0, x.block < W.heap.size := by obtain ⟨m, hm⟩ := k0; exact DataW.trod_lt m _ _ _ hm
  obtain ⟨id0, a0, len0, cap0, ss0, rfl, hS0, hl0, hi0, hw0⟩ := Kl.ring_of (hval 0 24 v0 rfl rfl) h0
  have zi0 : id0.length ≤ 140737488351232 := Kl.sized_ring hsz (j := 0) (by rw [Tryd.params3]; rfl) rfl hi0
  have zn0 : len0 * 40 ≤ 140737488351232 := by
    rcases hw0 with h | ⟨m, h1, h2⟩
    · omega
    · have := Kl.sized_ring hsz (j := 0) (by rw [Tryd.params3]; rfl) rfl h2
      omega
  clear hsz
  clear hA0
  refine (Kl.prints_walk id0 a0 len0 cap0 ss0 hl0 W hS0 (by omega) (by omega) ((Kp.rt_of_laid hL (by kernel_rfl) (by kernel_rfl))).1.1 ((Kp.rt_of_laid hL (by kernel_rfl) (by kernel_rfl))).1.2 ((Kp.rt_of_laid hL (by kernel_rfl) (by kernel_rfl))).2 (four_le hS)).mono fun e W' ⟨he, bel⟩ => ?_
  subst he
  exact ⟨_, rfl, _, _, _, [], _, [], hW', trodAll_mk1 (shut_bool Tryd.underlying4 _), (trodAll_cons_mk (Below.trod laidOut (by kernel_rfl) (of_decide_eq_true (by kernel_rfl)) k0 bel lt0) trodAll_mk0), rfl, bel.frame _, fun h => by cases h⟩

theorem laid_met (os : Os) : laidMet Tryd.prog Rows.keyringPrintsRow.laid (({ World.holding Tryd.prog os ⟨#[], #[], []⟩ with heap := ((((((((World.holding Tryd.prog os ⟨#[], #[], []⟩).heap).modify 0 (lay (u32s first.list))).modify 1 (lay (u32s kk))).modify 2 (lay (i64s kk))).modify 4 (lay (i64s pows))).modify 3 (lay Kp.pow10V)).modify 5 (lay (Kp.bytes8 Kp.dB32))).modify 6 (lay (Kp.bytes8 Kp.dB64)) } : World).forCall (fun _ _ => 0) ⟨#[], #[.agg #[.string .empty, .slice none 0 0]], []⟩).memory :=
  laidMet_of_run' 8 (by kernel_rfl) (by kernel_rfl)
theorem reads (os : Os) {H : Type} (enc : TypeId × Value → H) : ∃ places, DataW.whole enc Tryd.prog (({ World.holding Tryd.prog os ⟨#[], #[], []⟩ with heap := ((((((((World.holding Tryd.prog os ⟨#[], #[], []⟩).heap).modify 0 (lay (u32s first.list))).modify 1 (lay (u32s kk))).modify 2 (lay (i64s kk))).modify 4 (lay (i64s pows))).modify 3 (lay Kp.pow10V)).modify 5 (lay (Kp.bytes8 Kp.dB32))).modify 6 (lay (Kp.bytes8 Kp.dB64)) } : World).forCall (fun _ _ => 0) ⟨#[], #[.agg #[.string .empty, .slice none 0 0]], []⟩).memory Tryd.f3.params.toList Rows.keyringPrintsSpec.vars false (#[.agg #[.string .empty, .slice none 0 0]] : Array Value).toList 8 = some ([.agg [.lit (.string []), .nil]], [], places) :=
  ⟨[], by kernel_rfl⟩

set_option maxRecDepth 100000 in
theorem lifted (os : Os) (started : os.Started) (H : Type) (enc : TypeId × Value → H) (F : Stop.Interp) :
    ReturnsInHanded {} Tryd.checked os 3 .any ((OpenSpec.ofChange Rows.keyringPrintsSpec).preRow enc Tryd.prog Tryd.f3 Rows.keyringPrintsRow.domain false Rows.keyringPrintsRow.laid) (((OpenSpec.ofChange Rows.keyringPrintsSpec).at F).post enc Tryd.prog Tryd.f3 false true false false) := by
  obtain ⟨places, hx⟩ := reads os enc
  refine returnsInHanded_of_row (C := Tryd.checked) (s := OpenSpec.ofChange Rows.keyringPrintsSpec) own started (by kernel_rfl) Tryd.func3
    (witness_row_at (enc := enc) (C := Tryd.checked) false ({ World.holding Tryd.prog os ⟨#[], #[], []⟩ with heap := ((((((((World.holding Tryd.prog os ⟨#[], #[], []⟩).heap).modify 0 (lay (u32s first.list))).modify 1 (lay (u32s kk))).modify 2 (lay (i64s kk))).modify 4 (lay (i64s pows))).modify 3 (lay Kp.pow10V)).modify 5 (lay (Kp.bytes8 Kp.dB32))).modify 6 (lay (Kp.bytes8 Kp.dB64)) } : World) #[.agg #[.string .empty, .slice none 0 0]] rfl (by kernel_rfl) (by kernel_rfl) (by kernel_rfl)
      (OpenSpec.preRow_of_cond 8 hx (by kernel_rfl) (fun k hk => by cases hk) (by kernel_rfl) (laid_met os))) ?_
  intro W base args ds gs before hval hW _ _ hsz hL hS _
  exact contract H enc W base args ds gs before hval hW hsz hL hS

theorem said : Rows.KeyringPrintsSaid :=
  OpenClaim.holds_of_cond 3 Tryd.f3 rfl rfl rfl rfl rfl rfl rfl ⟨rfl, rfl, rfl, rfl, rfl⟩ rfl rfl rfl rfl rfl (by kernel_rfl) Tryd.func3 (by kernel_rfl)
    (of_decide_eq_true (by kernel_rfl)) (by unfold Func.isWrapper; first | (rw [if_pos (by decide +kernel)]; kernel_rfl) | (rw [if_neg (by decide +kernel)]; exact ⟨rfl, rfl⟩))
    (fun os started H enc _ F => by rw [OpenClaim.pre_eq_preRow]; exact lifted os started H enc F)

theorem plain (f : FuncId) (fn : Func) (hf : Tryd.pinned.checked.prog.funcNamed Rows.keyringPrintsRow.func = some f) (hfn : Tryd.pinned.checked.prog.funcs[f]? = some fn) :
    true = Tryd.pinned.checked.prog.looks [] ∧ ∀ (j : Nat) t, fn.params[j]? = some t → Tryd.pinned.checked.prog.wantsStandIn t = false := by
  obtain rfl : f = 3 := Option.some.inj ((show Tryd.prog.funcNamed Rows.keyringPrintsRow.func = some 3 by kernel_rfl).symm.trans hf) |>.symm
  obtain rfl : fn = Tryd.f3 := (Option.some.inj (Tryd.func3.symm.trans hfn)).symm
  refine ⟨by kernel_rfl, fun j t ht => ?_⟩
  rw [Tryd.params3] at ht
  obtain rfl : t = 24 := by simpa using Array.mem_of_getElem? ht
  exact (show Tryd.prog.wantsStandIn 24 = false by kernel_rfl)

theorem card : Rows.KeyringPrintsCardSaid :=
  Claim7.holds_tied_plain_at .later [] _ _ _ _ said (fun _ h => by cases h) (by kernel_rfl) (fun _ h => by cases h) keyringPrints_row_tie rfl ⟨rfl, rfl⟩ (by kernel_rfl) rfl plain (by kernel_rfl)
end Go.Proofs.YtbjiamaaocjbfaaDoor.keyringPrints
namespace Go.Proofs.YtbjiamaaocjbfaaDoor
theorem keyringPrints_holds : Rows.KeyringPrintsCardSaid := keyringPrints.card
end Go.Proofs.YtbjiamaaocjbfaaDoor
