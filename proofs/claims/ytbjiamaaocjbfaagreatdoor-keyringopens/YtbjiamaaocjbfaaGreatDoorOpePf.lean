import Derived.Test.YtbjiamaaocjbfaaGreatDoorTbM
import Derived.Test.YtbjiamaaocjbfaaGreatDoorLfF
import Derived.ShutString
import Derived.Carry
namespace Go.Proofs.YtbjiamaaocjbfaaGreatDoor.keyringOpens
open Go.ChangeShapes Go.WideShapes Go.ChangeAt Go.RowKit
open Go.ChangeMaps (open_string shut_string)

theorem own : ownKnob Tryz.prog.godebug = none := by kernel_rfl

theorem laidOut : laidOutB Tryz.prog = true := by kernel_rfl

set_option maxRecDepth 20000 in
theorem contract (H : Type) (enc : TypeId × Value → H) (W : World) (base : Nat) (args : Array Value) (ds gs : List (DataW H)) (before : List MemPlace)
    (hval : ∀ (j : Nat) t v, Tryz.f6.params[j]? = some t → args[j]? = some v → Value.okWide Tryz.prog W .any base t v)
    (hW : DataW.Whole enc Tryz.prog Tryz.f6.params.toList Rows.keyringOpensSpec.vars false W args.toList ds gs before) (hsz : (DataW.weightsEach Tryz.prog (Tryz.f6.params.toList ++ (OpenSpec.ofChange Rows.keyringOpensSpec).bare.plain.varTypes Tryz.prog) (ds ++ gs)).all (· ≤ reachBytes) = true)
    (hL : laidMetH Tryz.prog Rows.keyringOpensRow.laid W) (hS : W.ShapedOpen Tryz.prog) :
    Calls Tryz.prog 6 args W fun e W' => ∃ v, e = .returned v ∧ Rows.keyringOpensSpec.post enc Tryz.prog Tryz.f6 false true false false W args v W' := by
  have hW' := hW
  obtain ⟨p, q, hA0, hV, rfl, hfz, hnd⟩ := hW
  have hA : DataW.TrodAll enc Tryz.prog W 0 (fun _ => true) true Tryz.f6.params.toList args.toList ds p := hA0
  rw [Tryz.params6] at hA hval
  obtain ⟨v0, vs0, d0, ds0, p0, q0, hargs, rfl, rfl, h0, r0⟩ := trodAll_cons hA
  obtain ⟨v1, vs1, d1, ds1, p1, q1, rfl, rfl, rfl, h1, r1⟩ := trodAll_cons r0
  obtain ⟨v2, vs2, d2, ds2, p2, q2, rfl, rfl, rfl, h2, r2⟩ := trodAll_cons r1
  obtain ⟨v3, vs3, d3, ds3, p3, q3, rfl, rfl, rfl, h3, r3⟩ := trodAll_cons r2
  obtain ⟨rfl, rfl, rfl⟩ := trodAll_nil r3
  obtain rfl : args = #[v0, v1, v2, v3] := by cases args; simp_all
  obtain ⟨rfl, rfl⟩ := trodVars_none hV
  obtain ⟨s0, rfl, rfl, rfl, hm0⟩ := open_string Tryz.underlying9 (hval 0 9 v0 rfl rfl) h0
  obtain ⟨s1, rfl, rfl, rfl, hm1⟩ := open_string Tryz.underlying9 (hval 1 9 v1 rfl rfl) h1
  obtain ⟨s2, rfl, rfl, rfl, hm2⟩ := open_string Tryz.underlying9 (hval 2 9 v2 rfl rfl) h2
  obtain ⟨a3, len3, cap3, rfl⟩ := okWide_slice Tryz.underlying46 (hval 3 46 v3 rfl rfl)
  have k3 := h3
  have lt3 : ∀ x ∈ p3, x.block < W.heap.size := by obtain ⟨m, hm⟩ := k3; exact DataW.trod_lt m _ _ _ hm
  obtain ⟨K3, A3, N3, R3, X3, C3, hops3, htop3, hwt3⟩ := Kp.turns_of h3
  have z0 : s0.size ≤ 140737488351232 := sized_str hsz (j := 0) (t := 9) (by rw [Tryz.params6]; rfl) rfl
  have z1 : s1.size ≤ 140737488351232 := sized_str hsz (j := 1) (t := 9) (by rw [Tryz.params6]; rfl) rfl
  have z2 : s2.size ≤ 140737488351232 := sized_str hsz (j := 2) (t := 9) (by rw [Tryz.params6]; rfl) rfl
  have zx3 : ∀ i, i < len3 → (X3 i).size ≤ 140737488355328 := fun i hi => Kp.sized_turns hsz (j := 3) (by rw [Tryz.params6]; rfl) rfl (hwt3 i hi).1
  have zc3 : ∀ i, i < len3 → (C3 i).size ≤ 140737488355328 := fun i hi => Kp.sized_turns hsz (j := 3) (by rw [Tryz.params6]; rfl) rfl (hwt3 i hi).2
  clear hsz
  clear hA0
  refine (Kp.opens_walk s0 s1 s2 a3 len3 cap3 K3 A3 N3 R3 X3 C3 W z0 z1 z2 zx3 zc3 hops3 htop3 (Kp.kt_of_laid hL (by kernel_rfl) (by kernel_rfl) (by kernel_rfl) (by kernel_rfl) (by kernel_rfl) hS)).mono fun e W' ⟨he, bel⟩ => ?_
  subst he
  exact ⟨_, rfl, _, _, _, [], _, [], hW', trodAll_mk1 (shut_bool Tryz.underlying4 _), (trodAll_cons_mk (shut_string Tryz.underlying9 hm0) (trodAll_cons_mk (shut_string Tryz.underlying9 hm1) (trodAll_cons_mk (shut_string Tryz.underlying9 hm2) (trodAll_cons_mk (Below.trod laidOut (by kernel_rfl) (of_decide_eq_true (by kernel_rfl)) k3 bel lt3) trodAll_mk0)))), rfl, bel.frame _, fun h => by cases h⟩

theorem laid_met (os : Os) : laidMet Tryz.prog Rows.keyringOpensRow.laid (({ World.holding Tryz.prog os ⟨#[], #[], []⟩ with heap := (((((((((World.holding Tryz.prog os ⟨#[], #[], []⟩).heap).modify 2 (Cha.lay (Pol.ns .u8 (Pol.nat8 Pol.keptL)))).modify 4 (Cha.lay (Cha.u32s Cha.con4))).modify 5 (Cha.lay (Cha.i64s Cha.plc))).modify 0 (lay (u32s first.list))).modify 1 (lay (u32s kk))).modify 3 (lay Kp.pow10V)).modify 7 (lay (Kp.bytes8 Kp.dB32))).modify 8 (lay (Kp.bytes8 Kp.dB64)) } : World).forCall (fun _ _ => 0) ⟨#[], #[.string .empty, .string .empty, .string .empty, .slice none 0 0], []⟩).memory :=
  laidMet_of_run' 8 (by kernel_rfl) (by kernel_rfl)
theorem reads (os : Os) {H : Type} (enc : TypeId × Value → H) : ∃ places, DataW.whole enc Tryz.prog (({ World.holding Tryz.prog os ⟨#[], #[], []⟩ with heap := (((((((((World.holding Tryz.prog os ⟨#[], #[], []⟩).heap).modify 2 (Cha.lay (Pol.ns .u8 (Pol.nat8 Pol.keptL)))).modify 4 (Cha.lay (Cha.u32s Cha.con4))).modify 5 (Cha.lay (Cha.i64s Cha.plc))).modify 0 (lay (u32s first.list))).modify 1 (lay (u32s kk))).modify 3 (lay Kp.pow10V)).modify 7 (lay (Kp.bytes8 Kp.dB32))).modify 8 (lay (Kp.bytes8 Kp.dB64)) } : World).forCall (fun _ _ => 0) ⟨#[], #[.string .empty, .string .empty, .string .empty, .slice none 0 0], []⟩).memory Tryz.f6.params.toList Rows.keyringOpensSpec.vars false (#[.string .empty, .string .empty, .string .empty, .slice none 0 0] : Array Value).toList 8 = some ([.lit (.string []), .lit (.string []), .lit (.string []), .nil], [], places) :=
  ⟨[], by kernel_rfl⟩

set_option maxRecDepth 100000 in
theorem lifted (os : Os) (started : os.Started) (H : Type) (enc : TypeId × Value → H) (F : Stop.Interp) :
    ReturnsInHanded {} Tryz.checked os 6 .any ((OpenSpec.ofChange Rows.keyringOpensSpec).preRow enc Tryz.prog Tryz.f6 Rows.keyringOpensRow.domain false Rows.keyringOpensRow.laid) (((OpenSpec.ofChange Rows.keyringOpensSpec).at F).post enc Tryz.prog Tryz.f6 false true false false) := by
  obtain ⟨places, hx⟩ := reads os enc
  refine returnsInHanded_of_row (C := Tryz.checked) (s := OpenSpec.ofChange Rows.keyringOpensSpec) own started (by kernel_rfl) Tryz.func6
    (witness_row_at (enc := enc) (C := Tryz.checked) false ({ World.holding Tryz.prog os ⟨#[], #[], []⟩ with heap := (((((((((World.holding Tryz.prog os ⟨#[], #[], []⟩).heap).modify 2 (Cha.lay (Pol.ns .u8 (Pol.nat8 Pol.keptL)))).modify 4 (Cha.lay (Cha.u32s Cha.con4))).modify 5 (Cha.lay (Cha.i64s Cha.plc))).modify 0 (lay (u32s first.list))).modify 1 (lay (u32s kk))).modify 3 (lay Kp.pow10V)).modify 7 (lay (Kp.bytes8 Kp.dB32))).modify 8 (lay (Kp.bytes8 Kp.dB64)) } : World) #[.string .empty, .string .empty, .string .empty, .slice none 0 0] rfl (by kernel_rfl) (by kernel_rfl) (by kernel_rfl)
      (OpenSpec.preRow_of_cond 8 hx (by kernel_rfl) (fun k hk => by cases hk) (by kernel_rfl) (laid_met os))) ?_
  intro W base args ds gs before hval hW _ _ hsz hL hS _
  exact contract H enc W base args ds gs before hval hW hsz hL hS

theorem said : Rows.KeyringOpensSaid :=
  OpenClaim.holds_of_cond 6 Tryz.f6 rfl rfl rfl rfl rfl rfl rfl ⟨rfl, rfl, rfl, rfl, rfl⟩ rfl rfl rfl rfl rfl (by kernel_rfl) Tryz.func6 (by kernel_rfl)
    (of_decide_eq_true (by kernel_rfl)) (by unfold Func.isWrapper; first | (rw [if_pos (by decide +kernel)]; kernel_rfl) | (rw [if_neg (by decide +kernel)]; exact ⟨rfl, rfl⟩))
    (fun os started H enc _ F => by rw [OpenClaim.pre_eq_preRow]; exact lifted os started H enc F)

theorem plain (f : FuncId) (fn : Func) (hf : Tryz.pinned.checked.prog.funcNamed Rows.keyringOpensRow.func = some f) (hfn : Tryz.pinned.checked.prog.funcs[f]? = some fn) :
    true = Tryz.pinned.checked.prog.looks [] ∧ ∀ (j : Nat) t, fn.params[j]? = some t → Tryz.pinned.checked.prog.wantsStandIn t = false := by
  obtain rfl : f = 6 := Option.some.inj ((show Tryz.prog.funcNamed Rows.keyringOpensRow.func = some 6 by kernel_rfl).symm.trans hf) |>.symm
  obtain rfl : fn = Tryz.f6 := (Option.some.inj (Tryz.func6.symm.trans hfn)).symm
  refine ⟨by kernel_rfl, fun j t ht => ?_⟩
  rw [Tryz.params6] at ht
  have hm := Array.mem_of_getElem? ht
  simp only [List.mem_toArray, List.mem_cons, List.not_mem_nil, or_false] at hm
  rcases hm with rfl | rfl | rfl | rfl
  · exact (show Tryz.prog.wantsStandIn 9 = false by kernel_rfl)
  · exact (show Tryz.prog.wantsStandIn 9 = false by kernel_rfl)
  · exact (show Tryz.prog.wantsStandIn 9 = false by kernel_rfl)
  · exact (show Tryz.prog.wantsStandIn 46 = false by kernel_rfl)

theorem card : Rows.KeyringOpensCardSaid :=
  Claim7.holds_tied_plain_at .later [] _ _ _ _ said (fun _ h => by cases h) (by kernel_rfl) (fun _ h => by cases h) keyringOpens_row_tie rfl ⟨rfl, rfl⟩ (by kernel_rfl) rfl plain (by kernel_rfl)
end Go.Proofs.YtbjiamaaocjbfaaGreatDoor.keyringOpens
namespace Go.Proofs.YtbjiamaaocjbfaaGreatDoor
theorem keyringOpens_holds : Rows.KeyringOpensCardSaid := keyringOpens.card
end Go.Proofs.YtbjiamaaocjbfaaGreatDoor
