import Derived.Test.YtlmopjbfagijeaaGreatDoorZdM
import Derived.LaidEql
import Derived.Stop.Asserts
import Derived.RowKitTokens
import Derived.Test.YtlmopjbfagijeaaGreatDoorZkM
import Derived.Test.YtlmopjbfagijeaaGreatDoorYgM
namespace Go.Proofs.YtlmopjbfagijeaaGreatDoor.Sc
open Go.RowKit Go.Extern.Stop Go.Stop Go.Extern

set_option maxRecDepth 20000 in
/-- errors.As(nil, target) -/
theorem as_nil (t : Value) (w : World) :
    Calls Tryz.prog 47 #[.nilIface, t] w fun e w' => e = .returned (.bool false) ∧ w' = w := by
  go_enter Tryz.func47, Tryz.ntmps47
  go_wp2
  go_ret
  exact ⟨rfl, rfl⟩
/-- the handle of a type -/
def hndl (t : Nat) : Value := .pointer (some ⟨15, t, none⟩)
def rvl (t : Nat) (a : Addr) (fl : Int) : Value := .agg #[hndl t, .pointer (some a), .int .u64 fl]
def rty (t : Nat) : Value := .iface 181 (.agg #[hndl t])
theorem as_valueOfPP (t : Addr) (w : World) : (ReflectliteValue.unpack (.iface 103 (.pointer (some t)))).run Tryz.prog w
    = .ok (rvl 103 ⟨w.heap.size, 0, none⟩ 150) (w.alloc (.cells #[.pointer (some t)] 103)) := by kernel_rfl
theorem as_typePP (a : Addr) (w : World) : (ReflectliteValue.methodAny (ReflectliteValue.valueError "reflectlite.Value.Type" 0) (fun t _ _ _ => ReflectliteType.toType t) #[rvl 103 a 150]).run Tryz.prog w
    = .ok (rty 103) w := by kernel_rfl
theorem as_methodKind (h : Value) (w : World) : (Go.method 389 181 (.agg #[h]) "Kind").run Tryz.prog w = .ok (206, h) w := by kernel_rfl
theorem as_kindPP (w : World) : ((ReflectliteType.abiMethod fun t => (fun a : Nat => Value.int IntKind.u8 (a : Int)) <$> Rtype.kind t) #[hndl 103]).run Tryz.prog w = .ok (.int .u8 22) w := by kernel_rfl
theorem as_kindP (w : World) : ((ReflectliteType.abiMethod fun t => (fun a : Nat => Value.int IntKind.u8 (a : Int)) <$> Rtype.kind t) #[hndl 86]).run Tryz.prog w = .ok (.int .u8 22) w := by kernel_rfl
theorem as_rlm (z : Sem Value) (f : TypeId → Addr → Nat → Nat → Sem Value) (v : Value) :
    ReflectliteValue.method z f #[v] = (do match ← ReflectliteValue.parts v with | none => z | some (t, a, fl) => f t a fl (fl % 32)) := rfl
theorem as_partsPP (a : Addr) (w : World) : (ReflectliteValue.parts (rvl 103 a 150)).run Tryz.prog w = .ok (some (103, a, 150)) w := by kernel_rfl
theorem as_isNilPP (a p : Addr) (W : World) (ha : W.cell? a = some (.pointer (some p))) :
    (ReflectliteValue.method (ReflectliteValue.valueError "reflectlite.Value.IsNil" 0) ReflectliteValue.isNil #[rvl 103 a 150]).run Tryz.prog W = .ok (.bool false) W := by
  rw [as_rlm]
  simp only [Sem.run_bind, as_partsPP, Result.andThen]
  simp [ReflectliteValue.isNil, loadVar, isAgg, underlying, Tryz.underlying103, ha, Result.andThen]
theorem as_methodElem (h : Value) (w : World) : (Go.method 389 181 (.agg #[h]) "Elem").run Tryz.prog w = .ok (216, .agg #[h]) w := by kernel_rfl
theorem as_methodImplements (h : Value) (w : World) : (Go.method 389 181 (.agg #[h]) "Implements").run Tryz.prog w = .ok (217, .agg #[h]) w := by kernel_rfl
theorem as_methodAssignableTo (h : Value) (w : World) : (Go.method 389 181 (.agg #[h]) "AssignableTo").run Tryz.prog w = .ok (214, .agg #[h]) w := by kernel_rfl
theorem as_elemPP (w : World) : (ReflectliteType.method ReflectliteType.elem #[.agg #[hndl 103]]).run Tryz.prog w = .ok (rty 86) w := by kernel_rfl
theorem as_implementsP (w : World) : (ReflectliteType.relation "Implements" ReflectliteType.implements_ #[.agg #[hndl 86], rty 47]).run Tryz.prog w = .ok (.bool true) w := by kernel_rfl
theorem as_typeOfP (v : Value) (w : World) : (ReflectliteType.typeOf #[.iface 86 v]).run Tryz.prog w = .ok (rty 86) w := by kernel_rfl
theorem as_assignableP (w : World) : (ReflectliteType.relation "AssignableTo" ReflectliteType.assignableTo #[.agg #[hndl 86], rty 86]).run Tryz.prog w = .ok (.bool true) w := by kernel_rfl
theorem as_valueOfP (e : Addr) (w : World) : (ReflectliteValue.unpack (.iface 86 (.pointer (some e)))).run Tryz.prog w
    = .ok (rvl 86 ⟨w.heap.size, 0, none⟩ 150) (w.alloc (.cells #[.pointer (some e)] 86)) := by kernel_rfl
theorem as_elemOfPP (w : World) : (Rtype.elem? 103).run Tryz.prog w = .ok (some 86) w := by kernel_rfl
theorem as_mkP (p : Addr) (w : World) : (ReflectliteValue.mk 86 p ReflectliteValue.flagAddr).run Tryz.prog w = .ok (rvl 86 p 406) w := by kernel_rfl
theorem as_elemVPP (a p : Addr) (W : World) (ha : W.cell? a = some (.pointer (some p))) :
    (ReflectliteValue.method (ReflectliteValue.valueError "reflectlite.Value.Elem" 0) ReflectliteValue.elem #[rvl 103 a 150]).run Tryz.prog W
      = .ok (rvl 86 p 406) W := by
  rw [as_rlm]
  simp only [Sem.run_bind, as_partsPP, Result.andThen]
  simp [ReflectliteValue.elem, loadVar, isAgg, underlying, Tryz.underlying103, ha, Result.andThen, as_elemOfPP, as_mkP]
theorem as_rls (v x : Value) : ReflectliteValue.set #[v, x] = (do
    let (some (dst, a, fl), some (src, b, _)) := (← ReflectliteValue.parts v, ← ReflectliteValue.parts x)
      | unsupported (.noEntry "extern/(internal/reflectlite.Value).Set.zeroValue")
    if fl / ReflectliteValue.flagAddr % 2 == 0 then unsupported (.noEntry "extern/(internal/reflectlite.Value).Set.unaddressable")
    let val ← loadVar src b
    if ← Rtype.directlyAssignable dst src then storeVar dst a val
    else if ← Rtype.implements dst src then
      if (← Rtype.kind src) == 20 then
        match val with
        | .nilIface => unsupported (.noEntry "extern/reflectlite: a nil value of one interface type handed on as a value of another")
        | _ => storeVar dst a val
      else storeVar dst a (.iface src val)
    else panicString ("reflectlite.Set: value of type " ++ (← Rtype.spelt src) ++ " is not assignable to type " ++ (← Rtype.spelt dst))
    pure (.tuple #[])) := rfl
theorem as_partsPa (a : Addr) (w : World) : (ReflectliteValue.parts (rvl 86 a 406)).run Tryz.prog w = .ok (some (86, a, 406)) w := by kernel_rfl
theorem as_partsP (a : Addr) (w : World) : (ReflectliteValue.parts (rvl 86 a 150)).run Tryz.prog w = .ok (some (86, a, 150)) w := by kernel_rfl
theorem as_directP (w : World) : (Rtype.directlyAssignable 86 86).run Tryz.prog w = .ok true w := by kernel_rfl
theorem as_sizeP (w : World) : (sizeOf 86).run Tryz.prog w = .ok 1 w := by kernel_rfl
theorem as_setP (ta b e : Addr) (old : Value) (W : World) (hb : W.cell? b = some (.pointer (some e))) (ht : W.cell? ta = some old) (hf : W.frozen? ta = false) :
    (ReflectliteValue.set #[rvl 86 ta 406, rvl 86 b 150]).run Tryz.prog W
      = .ok (.tuple #[]) (W.setCell ta (.pointer (some e))) := by
  rw [as_rls]
  simp only [Sem.run_bind, as_partsPa, as_partsP, Result.andThen]
  simp [ReflectliteValue.flagAddr, loadVar, isAgg, underlying, Tryz.underlying86, hb, Result.andThen, as_directP, storeVar, Value.cells, storeCells, Addr.add]
  rw [run_store Tryz.prog W ta _ _ (by rfl)]
  simp [ht, hf]
/-- a pointer was stored, and else new blocks alone -/
def SetTo (w : World) (t e : Addr) (w' : World) : Prop := ∃ U, Below w.heap.size w U ∧ w' = U.setCell t (.pointer (some e))
set_option maxRecDepth 20000 in
set_option maxHeartbeats 4000000 in
theorem as_in (e t a : Addr) (old : Value) (w : World) (ha : w.cell? a = some (.pointer (some t))) (ht0 : w.cell? t = some old) (hf0 : w.frozen? t = false) :
    Calls Tryz.prog 96 #[.iface 86 (.pointer (some e)), .iface 103 (.pointer (some t)), rvl 103 a 150, rty 86] w fun ev w' => ev = .returned (.bool true) ∧ SetTo w t e w' := by
  have h10 := @run_callFunc_extern Tryz.prog 128 _ ReflectliteType.typeOf Tryz.func128 (by kernel_rfl) (by kernel_rfl) (by kernel_rfl) (by kernel_rfl)
  have h35 := @run_callFunc_extern Tryz.prog 214 _ (ReflectliteType.relation "AssignableTo" ReflectliteType.assignableTo) Tryz.func214 (by kernel_rfl) (by kernel_rfl) (by kernel_rfl) (by kernel_rfl)
  have h6 := @run_callFunc_extern Tryz.prog 93 _ (fun args => ReflectliteValue.unpack (args.getD 0 (.tuple #[]))) Tryz.func93 (by kernel_rfl) (by kernel_rfl) (by kernel_rfl) (by kernel_rfl)
  have h11 := @run_callFunc_extern Tryz.prog 129 _ (ReflectliteValue.method (ReflectliteValue.valueError "reflectlite.Value.Elem" 0) ReflectliteValue.elem) Tryz.func129 (by kernel_rfl) (by kernel_rfl) (by kernel_rfl) (by kernel_rfl)
  have h12 := @run_callFunc_extern Tryz.prog 130 _ ReflectliteValue.set Tryz.func130 (by kernel_rfl) (by kernel_rfl) (by kernel_rfl) (by kernel_rfl)
  have tO := as_typeOfP
  have mA := as_methodAssignableTo
  have a25 := as_assignableP
  obtain ⟨W1, hW1⟩ : ∃ W1, w.alloc (.cells #[hndl 103, .pointer (some a), .int .u64 150] 143) = W1 := ⟨_, rfl⟩
  have hz1 : W1.heap.size = w.heap.size + 1 := by rw [← hW1]; simp
  have hb1 : Below w.heap.size w W1 := by rw [← hW1]; exact (Below.refl _ _).alloc (Nat.le_refl _) _
  obtain ⟨W2, hW2⟩ : ∃ W2, W1.alloc (.cells #[.pointer (some e)] 86) = W2 := ⟨_, rfl⟩
  have hb2 : Below W1.heap.size W1 W2 := by rw [← hW2]; exact (Below.refl _ _).alloc (Nat.le_refl _) _
  have hta : a.block < w.heap.size := Lib.lt_of_cell ha
  have htl : t.block < w.heap.size := Lib.lt_of_cell ht0
  have el := as_elemVPP a t W1 ((hb1.cell hta).trans ha)
  have st := as_setP t ⟨W1.heap.size, 0, none⟩ e old W2 (by rw [← hW2, World.cell?_alloc_at _ _ _ _ rfl]; rfl) ((hb2.cell (by omega)).trans ((hb1.cell htl).trans ht0))
    (by rw [World.frozen?_of_block (hb2.block _ (by omega)), World.frozen?_of_block (hb1.block _ htl)]; exact hf0)
  have v25 := as_valueOfP e W1
  rw [hW2, hz1] at v25
  rw [hz1] at st
  have l0 : W1.cell? ⟨w.heap.size, 0, none⟩ = some (hndl 103) := by rw [← hW1, World.cell?_alloc_at _ _ _ _ rfl]; rfl
  have l1 : W1.cell? ⟨w.heap.size, 1, none⟩ = some (.pointer (some a)) := by rw [← hW1, World.cell?_alloc_at _ _ _ _ rfl]; rfl
  have l2 : W1.cell? ⟨w.heap.size, 2, none⟩ = some (.int .u64 150) := by rw [← hW1, World.cell?_alloc_at _ _ _ _ rfl]; rfl
  have HB : Hid (Below w.heap.size w W2) := hb1.trans (hb2.mono hb1.size)
  have HW : Hid (Unit → _ = W1) := fun _ => hW1
  clear hW1 hW2 hb1 hb2
  unfold rvl rty hndl at *
  go_enter Tryz.func96, Tryz.ntmps96
  go_wp2
  rw [HW.out ()]
  clear HW
  refine wp_loop_rounds 1 ?_
  rw [rounds_succ]
  go_wp2
  go_ret
  exact ⟨rfl, W2, HB.out, rfl⟩
end Go.Proofs.YtlmopjbfagijeaaGreatDoor.Sc

namespace Go.Proofs.YtlmopjbfagijeaaGreatDoor.Sc
open Go.RowKit Go.Extern.Stop Go.Stop Go.Extern

set_option maxRecDepth 20000 in
set_option maxHeartbeats 4000000 in
theorem as_hit (e t : Addr) (old : Value) (w : World) (hg : w.cell? ⟨1, 0, none⟩ = some (rty 47)) (ht0 : w.cell? t = some old) (hf0 : w.frozen? t = false) :
    Calls Tryz.prog 47 #[.iface 86 (.pointer (some e)), .iface 103 (.pointer (some t))] w fun ev w' => ev = .returned (.bool true) ∧ SetTo w t e w' := by
  have h6 := @run_callFunc_extern Tryz.prog 93 _ (fun args => ReflectliteValue.unpack (args.getD 0 (.tuple #[]))) Tryz.func93 (by kernel_rfl) (by kernel_rfl) (by kernel_rfl) (by kernel_rfl)
  have h7 := @run_callFunc_extern Tryz.prog 94 _ (ReflectliteValue.methodAny (ReflectliteValue.valueError "reflectlite.Value.Type" 0) (fun t _ _ _ => ReflectliteType.toType t)) Tryz.func94 (by kernel_rfl) (by kernel_rfl) (by kernel_rfl) (by kernel_rfl)
  have h8 := @run_callFunc_extern Tryz.prog 95 _ (ReflectliteValue.method (ReflectliteValue.valueError "reflectlite.Value.IsNil" 0) ReflectliteValue.isNil) Tryz.func95 (by kernel_rfl) (by kernel_rfl) (by kernel_rfl) (by kernel_rfl)
  have h27 := @run_callFunc_extern Tryz.prog 206 _ (ReflectliteType.abiMethod fun t => do pure (.int .u8 (← Rtype.kind t))) Tryz.func206 (by kernel_rfl) (by kernel_rfl) (by kernel_rfl) (by kernel_rfl)
  have h37 := @run_callFunc_extern Tryz.prog 216 _ (ReflectliteType.method ReflectliteType.elem) Tryz.func216 (by kernel_rfl) (by kernel_rfl) (by kernel_rfl) (by kernel_rfl)
  have h38 := @run_callFunc_extern Tryz.prog 217 _ (ReflectliteType.relation "Implements" ReflectliteType.implements_) Tryz.func217 (by kernel_rfl) (by kernel_rfl) (by kernel_rfl) (by kernel_rfl)
  obtain ⟨W1, hW1⟩ : ∃ W1, w.alloc (.cells #[.pointer (some t)] 103) = W1 := ⟨_, rfl⟩
  have hz1 : W1.heap.size = w.heap.size + 1 := by rw [← hW1]; simp
  have hb1 : Below w.heap.size w W1 := by rw [← hW1]; exact (Below.refl _ _).alloc (Nat.le_refl _) _
  obtain ⟨W2, hW2⟩ : ∃ W2, W1.alloc (.cells #[hndl 103, .pointer (some ⟨w.heap.size, 0, none⟩), .int .u64 150] 143) = W2 := ⟨_, rfl⟩
  have hb2 : Below W1.heap.size W1 W2 := by rw [← hW2]; exact (Below.refl _ _).alloc (Nat.le_refl _) _
  have htl : t.block < w.heap.size := Lib.lt_of_cell ht0
  have f6 := as_valueOfPP t w
  rw [hW1] at f6
  have a1 : W1.cell? ⟨w.heap.size, 0, none⟩ = some (.pointer (some t)) := by rw [← hW1, World.cell?_alloc_at _ _ _ _ rfl]; rfl
  have a2 : W2.cell? ⟨w.heap.size, 0, none⟩ = some (.pointer (some t)) := (hb2.cell (by show w.heap.size < _; omega)).trans a1
  have n8 := as_isNilPP ⟨w.heap.size, 0, none⟩ t W2 a2
  have hgl := Lib.lt_of_cell hg
  have g2 : W2.cell? ⟨1, 0, none⟩ = some (rty 47) := (hb2.cell (by rw [hz1]; exact Nat.lt_succ_of_lt hgl)).trans ((hb1.cell hgl).trans hg)
  have hin := as_in e t ⟨w.heap.size, 0, none⟩ old W2 a2 ((hb2.cell (by show _ < _; omega)).trans ((hb1.cell htl).trans ht0)) (by rw [World.frozen?_of_block (hb2.block _ (by omega)), World.frozen?_of_block (hb1.block _ htl)]; exact hf0)
  have l0 : W2.cell? ⟨W1.heap.size, 0, none⟩ = some (hndl 103) := by rw [← hW2, World.cell?_alloc_at _ _ _ _ rfl]; rfl
  have l1 : W2.cell? ⟨W1.heap.size, 1, none⟩ = some (.pointer (some ⟨w.heap.size, 0, none⟩)) := by rw [← hW2, World.cell?_alloc_at _ _ _ _ rfl]; rfl
  have l2 : W2.cell? ⟨W1.heap.size, 2, none⟩ = some (.int .u64 150) := by rw [← hW2, World.cell?_alloc_at _ _ _ _ rfl]; rfl
  rw [hz1] at l0 l1 l2
  have HB : Hid (Below w.heap.size w W2) := hb1.trans (hb2.mono hb1.size)
  have HW2 : Hid (Unit → _ = W2) := fun _ => hW2
  have f7 := as_typePP
  have mK := as_methodKind
  have mE := as_methodElem
  have mI := as_methodImplements
  have k27 := as_kindPP
  have k25 := as_kindP
  have e27 := as_elemPP
  have i25 := as_implementsP
  clear hW1 hW2 hb1 hb2 a1 a2 hg
  unfold rvl rty hndl at *
  go_enter Tryz.func47, Tryz.ntmps47
  go_upto_region 7 with fail
  rw [HW2.out ()]
  clear HW2 f6
  have HIN : Hid (Calls _ _ _ W2 _) := hin
  clear hin
  go_wp2_with fail
  trace_state
  refine HIN.out.mono ?_
  rintro ev w3 ⟨rfl, hs⟩
  have HS : Hid (SetTo W2 t e w3) := hs
  clear hs
  go_wp2
  go_ret
  obtain ⟨U, hb, he⟩ := HS.out
  exact ⟨rfl, U, HB.out.trans (hb.mono HB.out.size), he⟩
end Go.Proofs.YtlmopjbfagijeaaGreatDoor.Sc

namespace Go.Proofs.YtlmopjbfagijeaaGreatDoor.Sc
open Go.RowKit Go.Lib Go.Deep

/-- an error's text -/
def leL (line code : Int) : List UInt8 := [108, 105, 110, 101, 32] ++ itoa line ++ [58, 32, 99, 111, 100, 101, 32] ++ itoa code
/-- the tables, with what errors.As reads and the sentinel -/
structure GlE (B : Nat) (w : World) : Prop where
  gl : GlB B w
  ety : w.cell? ⟨1, 0, none⟩ = some (rty 47)
  ref : ∃ a, w.cell? ⟨0, 0, none⟩ = some (.iface 252 (.pointer (some a)))
  b0 : 1 < B
  b1 : 0 < B
theorem GlE.to {B : Nat} {w w' : World} (h : GlE B w) (hb : Below B w w') : GlE B w' := by
  obtain ⟨gl, ety, ⟨a, ref⟩, b0, b1⟩ := h
  exact ⟨gl.to hb, (hb.cell (p := ⟨1, 0, none⟩) b0).trans ety, ⟨a, (hb.cell (p := ⟨0, 0, none⟩) b1).trans ref⟩, b0, b1⟩
set_option maxRecDepth 20000 in
set_option maxHeartbeats 1000000 in
theorem lineErr_any (g : Nat) (line code : Int) (hl : I64 line) (hc : I64 code) (w : World) (hg : w.heap[g]? = some (.cells #[.int .i64 line, .int .i64 code] 88 (0, 0))) (hi : ITab w) :
    Calls Tryz.prog 48 #[.pointer (some ⟨g, 0, none⟩)] w fun e w' => e = .returned (.string (str (leL line code))) ∧ Below w.heap.size w w' := by
  have c0 : w.cell? ⟨g, 0, none⟩ = some (.int .i64 line) := by rw [Lib.cell_of_heap hg]; rfl
  have hbd := bd1 w
  have h1 := itoa_any line hl w.drew (hi.below hbd hi.lt)
  have HI : Hid (∀ w1, Below w.heap.size w w1 → Calls Tryz.prog 87 #[.int .i64 code] w1 fun e w' => e = .returned (.string (str (itoa code))) ∧ Below w1.heap.size w1 w') := fun w1 hb => itoa_any code hc w1 (hi.below hb hi.lt)
  have HG : Hid (∀ w1, Below w.heap.size w w1 → w1.cell? ⟨g, 0, none⟩ = some (.int .i64 line) ∧ w1.cell? ⟨g, 1, none⟩ = some (.int .i64 code)) := fun w1 hb => by
    rw [Lib.cell_of_heap ((hb.block _ (heap_lt hg)).trans hg), Lib.cell_of_heap ((hb.block _ (heap_lt hg)).trans hg)]
    exact ⟨rfl, rfl⟩
  have c1 := (HG.out w (Below.refl _ _)).2
  have z1 := itoa_len line hl.1 hl.2
  have z2 := itoa_len code hc.1 hc.2
  obtain ⟨s1, hs1⟩ : ∃ s, str (itoa line) = s := ⟨_, rfl⟩
  obtain ⟨s2, hs2⟩ : ∃ s, str (itoa code) = s := ⟨_, rfl⟩
  have e1 : s1.size ≤ 20 := by rw [← hs1, str_size]; exact z1
  have e2 : s2.size ≤ 20 := by rw [← hs2, str_size]; exact z2
  obtain ⟨a1, ha1⟩ : ∃ a, ({ data := #[108, 105, 110, 101, 32] } : ByteArray) ++ s1 = a := ⟨_, rfl⟩
  obtain ⟨a2, ha2⟩ : ∃ a, a1 ++ ({ data := #[58, 32, 99, 111, 100, 101, 32] } : ByteArray) = a := ⟨_, rfl⟩
  obtain ⟨a3, ha3⟩ : ∃ a, a2 ++ s2 = a := ⟨_, rfl⟩
  have q0 : ({ data := #[108, 105, 110, 101, 32] } : ByteArray).size = 5 := rfl
  have q7 : ({ data := #[58, 32, 99, 111, 100, 101, 32] } : ByteArray).size = 7 := rfl
  have f1 : a1.size ≤ 25 := by rw [← ha1, ByteArray.size_append]; omega
  have f2 : a2.size ≤ 32 := by rw [← ha2, ByteArray.size_append]; omega
  have n1 : ¬ 9223372036854775807 < 5 + s1.size := by omega
  have n2 : ¬ 9223372036854775807 < a1.size + 7 := by omega
  have n3 : ¬ 9223372036854775807 < a2.size + s2.size := by omega
  have HE : Hid (a3 = str (leL line code)) := by
    show _ = _
    rw [← ha3, ← ha2, ← ha1, ← hs1, ← hs2]
    apply ByteArray.ext
    apply Array.toList_inj.1
    simp [str, leL, ByteArray.data_append]
  rw [hs1] at h1
  rw [hs2] at HI
  clear hg hi hl hc z1 z2 hs1 hs2 e1 e2 f1 f2
  go_enter Tryz.func48, Tryz.ntmps48
  go_wp2_with fail
  go_region_held_law (fun U => U.cell? ⟨g, 0, none⟩ = some (.int .i64 line) ∧ U.cell? ⟨g, 1, none⟩ = some (.int .i64 code)) (first | exact HG.out _ hbd | exact HG.out _ hb0x | exact HG.out _ hb1x | go_keep) (first | (go_at_call 87; refine h1.mono ?_; rintro e u0 ⟨rfl, hb0⟩; clear h1; have hb0x := hbd.trans (hb0.mono hbd.size); have h2 := HI.out u0 hb0x) | (go_at_call 87; refine h2.mono ?_; rintro e u1 ⟨rfl, hb1⟩; clear h2; have hb1x := hb0x.trans (hb1.mono hb0x.size)))
  all_goals
    have HB : Hid (Below w.heap.size w u1) := hb1x
    clear hb0x hb1x hb0 hb1 c0 c1
    go_wp2
    go_ret
    rw [HE.out]
    exact ⟨rfl, HB.out⟩
set_option maxRecDepth 20000 in
theorem unwrap_any (p : Value) (t : TypeId) (v : Value) (w : World) (h : w.cell? ⟨0, 0, none⟩ = some (.iface t v)) :
    Calls Tryz.prog 49 #[p] w fun e w' => e = .returned (.iface t v) ∧ w' = w := by
  go_enter Tryz.func49, Tryz.ntmps49
  go_wp2_with fail
  go_ret
  exact ⟨rfl, rfl⟩
set_option maxRecDepth 20000 in
theorem said_nil (w : World) :
    Calls Tryz.prog 21 #[.nilIface] w fun e w' => e = .returned (.tuple #[.int .i64 0, .int .i64 0, .bool true]) ∧ w' = w := by
  go_enter Tryz.func21, Tryz.ntmps21
  go_wp2_with fail
  go_ret3
  exact ⟨rfl, rfl⟩
theorem infoES : ∃ i, Tryz.prog.info? 252 = some i ∧ i.comparable = true := by
  have h : (Tryz.prog.info? 252).map (·.comparable) = some true := by kernel_rfl
  cases e : Tryz.prog.info? 252 with
  | none => rw [e] at h; cases h
  | some i => rw [e] at h; exact ⟨i, rfl, by simpa using h⟩
theorem infoEs : ∃ i, Tryz.prog.info? 254 = some i := by
  have h : (Tryz.prog.info? 254).isSome = true := by kernel_rfl
  exact Option.isSome_iff_exists.1 h
set_option maxRecDepth 20000 in
set_option maxHeartbeats 2000000 in
theorem said_err (B g : Nat) (line code : Int) (hl : I64 line) (hc : 0 < code ∧ code < 1000) (w : World) (hg : w.heap[g]? = some (.cells #[.int .i64 line, .int .i64 code] 88 (0, 0))) (hG : GlE B w) :
    Calls Tryz.prog 21 #[.iface 86 (.pointer (some ⟨g, 0, none⟩))] w fun e w' => e = .returned (.tuple #[.int .i64 line, .int .i64 code, .bool true]) ∧ Below w.heap.size w w' := by
  have hci : I64 code := ⟨by omega, by omega⟩
  obtain ⟨W, hW⟩ : ∃ W, w.alloc (.cells #[.pointer none] 86) = W := ⟨_, rfl⟩
  have hbW : Below w.heap.size w W := by rw [← hW]; exact (Below.refl _ _).alloc (Nat.le_refl _) _
  have hle : W.heap[w.heap.size]? = some (.cells #[.pointer none] 86 (0, 0)) := by rw [← hW]; exact heap_alloc_new _ _
  have hGW : GlE B W := hG.to (hbW.mono hG.gl.le)
  have has := as_hit ⟨g, 0, none⟩ ⟨w.heap.size, 0, none⟩ (.pointer none) W hGW.ety (by rw [Lib.cell_of_heap hle]; rfl) (Lib.frozen_of_heap hle 0)
  have hlt : g < w.heap.size := heap_lt hg
  have HAL : Hid (∀ w3, SetTo W ⟨w.heap.size, 0, none⟩ ⟨g, 0, none⟩ w3 → Below w.heap.size w w3 ∧ ∀ U, Below w3.heap.size w3 U → U.cell? ⟨w.heap.size, 0, none⟩ = some (.pointer (some ⟨g, 0, none⟩)) ∧ U.cell? ⟨g, 0, none⟩ = some (.int .i64 line) ∧ U.cell? ⟨g, 1, none⟩ = some (.int .i64 code)) := by
    show ∀ w3, _
    rintro w3 ⟨U, hU, rfl⟩
    have hUw : Below w.heap.size w U := hbW.trans (hU.mono hbW.size)
    have hS : Below w.heap.size w (U.setCell ⟨w.heap.size, 0, none⟩ (.pointer (some ⟨g, 0, none⟩))) := hUw.setCell (Nat.le_refl _) _
    have hlU := (hU.block _ (heap_lt hle)).trans hle
    have hlS := heap_setCell_fr U w.heap.size 0 _ _ _ (.pointer (some ⟨g, 0, none⟩)) hlU
    refine ⟨hS, fun X hX => ?_⟩
    have h1 := (hX.block _ (heap_lt hlS)).trans hlS
    have hgS := (hS.block _ hlt).trans hg
    have h2 := (hX.block _ (heap_lt hgS)).trans hgS
    rw [Lib.cell_of_heap h1, Lib.cell_of_heap h2, Lib.cell_of_heap h2]
    exact ⟨rfl, rfl, rfl⟩
  have HGE : Hid (∀ U, Below w.heap.size w U → GlE B U) := fun U hU => hG.to (hU.mono hG.gl.le)
  have HHG : Hid (∀ U, Below w.heap.size w U → U.heap[g]? = some (.cells #[.int .i64 line, .int .i64 code] 88 (0, 0))) := fun U hU => (hU.block _ hlt).trans hg
  have HL : Hid (I64 line ∧ I64 code ∧ 0 < code ∧ code < 1000) := ⟨hl, hci, hc⟩
  obtain ⟨i252, hi252, hcomp⟩ := infoES
  obtain ⟨j254, hj254⟩ := infoEs
  obtain ⟨ra, hra⟩ := hG.ref
  have HREF : Hid (∀ U, Below w.heap.size w U → U.cell? ⟨0, 0, none⟩ = some (.iface 252 (.pointer (some ra)))) := fun U hU => (hU.cell (p := ⟨0, 0, none⟩) (Lib.lt_of_cell (a := ⟨0, 0, none⟩) hra)).trans hra
  have heq : ∀ U : World, (binOp .eql 47 (.iface 252 (.pointer (some ra))) (.iface 252 (.pointer (some ra)))).run Tryz.prog U = .ok (.bool true) U := fun U => run_eql_iface_ptr_same U ra Tryz.underlying47 Tryz.underlying252 hi252 hcomp hj254
  have HEQ : Hid (∀ U : World, (binOp .eql 47 (.iface 252 (.pointer (some ra))) (.iface 252 (.pointer (some ra)))).run Tryz.prog U = .ok (.bool true) U) := heq
  have HAS : Hid (Calls Tryz.prog _ _ W _) := has
  clear has hGW hle hbW hg hG hl hc hci hra heq hi252 hcomp hj254 hlt
  go_enter Tryz.func21, Tryz.ntmps21
  go_wp2_with fail
  refine HAS.out.mono ?_
  rintro ev w3 ⟨rfl, hs⟩
  obtain ⟨hb3, hf3⟩ := HAL.out w3 hs
  have HF3 : Hid (∀ U, Below w3.heap.size w3 U → U.cell? ⟨w.heap.size, 0, none⟩ = some (.pointer (some ⟨g, 0, none⟩)) ∧ U.cell? ⟨g, 0, none⟩ = some (.int .i64 line) ∧ U.cell? ⟨g, 1, none⟩ = some (.int .i64 code)) := hf3
  have HB3 : Hid (Below w.heap.size w w3) := hb3
  obtain ⟨c0, c1, c2⟩ := hf3 w3 (Below.refl _ _)
  clear HAS HAL hs hb3 hf3 hW
  obtain ⟨s1, hs1⟩ : ∃ s, str (itoa line) = s := ⟨_, rfl⟩
  obtain ⟨s2, hs2⟩ : ∃ s, str (itoa code) = s := ⟨_, rfl⟩
  have e1 : s1.size ≤ 20 := by rw [← hs1, str_size]; exact itoa_len line HL.out.1.1 HL.out.1.2
  have e2 : s2.size ≤ 20 := by rw [← hs2, str_size]; exact itoa_len code HL.out.2.1.1 HL.out.2.1.2
  obtain ⟨a1, ha1⟩ : ∃ a, ({ data := #[108, 105, 110, 101, 32] } : ByteArray) ++ s1 = a := ⟨_, rfl⟩
  obtain ⟨a2, ha2⟩ : ∃ a, a1 ++ ({ data := #[58, 32, 99, 111, 100, 101, 32] } : ByteArray) = a := ⟨_, rfl⟩
  obtain ⟨a3, ha3⟩ : ∃ a, a2 ++ s2 = a := ⟨_, rfl⟩
  have q0 : ({ data := #[108, 105, 110, 101, 32] } : ByteArray).size = 5 := rfl
  have q7 : ({ data := #[58, 32, 99, 111, 100, 101, 32] } : ByteArray).size = 7 := rfl
  have f1 : a1.size ≤ 25 := by rw [← ha1, ByteArray.size_append]; omega
  have f2 : a2.size ≤ 32 := by rw [← ha2, ByteArray.size_append]; omega
  have n1 : ¬ 9223372036854775807 < 5 + s1.size := by omega
  have n2 : ¬ 9223372036854775807 < a1.size + 7 := by omega
  have n3 : ¬ 9223372036854775807 < a2.size + s2.size := by omega
  have HE : Hid (a3 = str (leL line code)) := by
    show _ = _
    rw [← ha3, ← ha2, ← ha1, ← hs1, ← hs2]
    apply ByteArray.ext
    apply Array.toList_inj.1
    simp [str, leL, ByteArray.data_append]
  have hbd := bd1 w3
  have HN : Hid (∀ (n : Int) (U : World), I64 n → Below w3.heap.size w3 U → Calls Tryz.prog 42 #[.int .i64 n] U fun e w' => e = .returned (.string (str (itoa n))) ∧ Below U.heap.size U w') := fun n U hn hU => rNumber_any n hn U (HGE.out U (HB3.out.trans (hU.mono HB3.out.size))).gl.it
  have h1 := HN.out line w3.drew HL.out.1 hbd
  rw [hs1] at h1
  have HS2 : Hid (str (itoa code) = s2) := hs2
  clear hs1 hs2 e1 e2 f1 f2
  go_wp2_with fail
  go_region_held_law (fun U => U.cell? ⟨w.heap.size, 0, none⟩ = some (.pointer (some ⟨g, 0, none⟩)) ∧ U.cell? ⟨g, 0, none⟩ = some (.int .i64 line) ∧ U.cell? ⟨g, 1, none⟩ = some (.int .i64 code)) (first | exact HF3.out _ hbd | exact HF3.out _ hb0x | exact HF3.out _ hb2x | go_keep) (first | (go_at_call 42; refine h1.mono ?_; rintro e u0 ⟨rfl, hb0⟩; clear h1; have hb0x := hbd.trans (hb0.mono hbd.size); have h2 := HN.out code u0 HL.out.2.1 hb0x; rw [HS2.out] at h2) | (go_at_call 12; refine (num_any code ⟨Int.le_of_lt HL.out.2.2.1, HL.out.2.2.2⟩ _).mono ?_; rintro e u1 ⟨rfl, hu1⟩; rw [hu1]; clear hu1) | (go_at_call 42; refine h2.mono ?_; rintro e u2 ⟨rfl, hb2⟩; clear h2; have hb2x := hb0x.trans (hb2.mono hb0x.size)))
  all_goals
    have HB6 : Hid (Below w3.heap.size w3 u2) := hb2x
    clear hb0 hb2 hb0x hb2x hbd HN HS2 n1 n2 n3 q0 q7 ha1 ha2 ha3 c0 c1 c2
    obtain ⟨c0, c1, c2⟩ := HF3.out u2 HB6.out
    have HF7 : Hid (∀ U, Below u2.heap.size u2 U → U.cell? ⟨w.heap.size, 0, none⟩ = some (.pointer (some ⟨g, 0, none⟩)) ∧ U.cell? ⟨g, 0, none⟩ = some (.int .i64 line) ∧ U.cell? ⟨g, 1, none⟩ = some (.int .i64 code) ∧ U.cell? ⟨0, 0, none⟩ = some (.iface 252 (.pointer (some ra)))) := fun U hU => by
      have h := HF3.out U (HB6.out.trans (hU.mono HB6.out.size))
      exact ⟨h.1, h.2.1, h.2.2, HREF.out U (HB3.out.trans ((HB6.out.trans (hU.mono HB6.out.size)).mono HB3.out.size))⟩
    have HLE : Hid (∀ U, Below u2.heap.size u2 U → Calls Tryz.prog 48 #[.pointer (some ⟨g, 0, none⟩)] U fun e w' => e = .returned (.string a3) ∧ Below U.heap.size U w') := fun U hU => by
      have hbU := HB3.out.trans ((HB6.out.trans (hU.mono HB6.out.size)).mono HB3.out.size)
      rw [HE.out]
      exact lineErr_any g line code HL.out.1 HL.out.2.1 U (HHG.out U hbU) (HGE.out U hbU).gl.it
    have hbd := bd1 u2
    have h3 := HLE.out u2.drew hbd
    have heq := HEQ.out
    have mErr : ∀ W : World, (Go.method 389 86 (.pointer (some ⟨g, 0, none⟩)) "Error").run Tryz.prog W = .ok (48, .pointer (some ⟨g, 0, none⟩)) W := fun W => by kernel_rfl
    have hcn : (code != 0) = true := by
      have := HL.out.2.2.1
      simp
      omega
    obtain ⟨-, -, -, c3⟩ := HF7.out u2 (Below.refl _ _)
    clear HE HREF HHG HGE
    go_wp2_with fail
    go_region_held_law (fun U => U.cell? ⟨w.heap.size, 0, none⟩ = some (.pointer (some ⟨g, 0, none⟩)) ∧ U.cell? ⟨g, 0, none⟩ = some (.int .i64 line) ∧ U.cell? ⟨g, 1, none⟩ = some (.int .i64 code) ∧ U.cell? ⟨0, 0, none⟩ = some (.iface 252 (.pointer (some ra)))) (first | exact HF7.out _ hbd | exact HF7.out _ hb3x | exact HF7.out _ hb4x | go_keep) (first | (go_at_call 12; refine (num_any code ⟨Int.le_of_lt HL.out.2.2.1, HL.out.2.2.2⟩ _).mono ?_; rintro e u3 ⟨rfl, hu3⟩; rw [hu3]; clear hu3) | (go_at_call 48; refine h3.mono ?_; rintro e u4 ⟨rfl, hb3⟩; clear h3; have hb3x := hbd.trans (hb3.mono hbd.size); have h4 := HLE.out u4 hb3x) | (go_at_call 48; refine h4.mono ?_; rintro e u5 ⟨rfl, hb4⟩; clear h4; have hb4x := hb3x.trans (hb4.mono hb3x.size)) | (go_at_call 49; refine (unwrap_any _ _ _ _ (HF7.out _ hb4x).2.2.2).mono ?_; rintro e u6 ⟨rfl, hu6⟩; rw [hu6]; clear hu6))
    all_goals
      have HB7 : Hid (Below w.heap.size w u5) := HB3.out.trans ((HB6.out.trans (hb4x.mono HB6.out.size)).mono HB3.out.size)
      clear hb3x hb4x hb3 hb4 hbd HLE HF7 heq mErr c0 c1 c2 c3
      go_wp2
      go_ret3
      exact ⟨rfl, HB7.out⟩
end Go.Proofs.YtlmopjbfagijeaaGreatDoor.Sc
