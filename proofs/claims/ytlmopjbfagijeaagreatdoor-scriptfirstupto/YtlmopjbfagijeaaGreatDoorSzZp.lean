import Derived.Test.YtlmopjbfagijeaaGreatDoorYaM
import Derived.Test.YtlmopjbfagijeaaGreatDoorZbM
import Derived.MakeChecks
namespace Go.Proofs.YtlmopjbfagijeaaGreatDoor.Sc
open Go.ChangeShapes Go.WideShapes Go.ChangeAt Go.RowKit

def nSyn : String := (Rows.scriptActsRow.named[3]?).getD default
def nRng : String := (Rows.scriptActsRow.named[4]?).getD default
theorem gSyn : Tryz.prog.globalNamed nSyn = some 4 := by kernel_rfl
theorem gRng : Tryz.prog.globalNamed nRng = some 5 := by kernel_rfl
theorem gSynT : (Tryz.prog.globals[4]?).map (·.type) = some 47 := by kernel_rfl
theorem gRngT : (Tryz.prog.globals[5]?).map (·.type) = some 47 := by kernel_rfl
set_option maxRecDepth 20000 in
theorem iface_cell {w : World} {t : TypeId} {fuel : Nat} {cs : List Value} {ms : Array (String × TypeId)} {n : String} {d : DataW Unit} {p : List MemPlace} (ht : Tryz.prog.underlying t = some (.interface ms))
    (h : DataW.trod (fun _ => ()) Tryz.prog w 0 (fun _ => true) false fuel t cs = some (.iface n d, p)) : ∃ u v, cs = [.iface u v] := by
  cases fuel with
  | zero => simp [DataW.trod] at h
  | succ fuel =>
    rcases cs with _ | ⟨c, _ | ⟨c2, r⟩⟩
    · simp [DataW.trod, ht] at h
    · cases c
      case iface u v => exact ⟨u, v, rfl⟩
      all_goals (exfalso; simp [DataW.trod, ht] at h)
    · simp [DataW.trod, ht] at h
theorem iface_of_laid {W : World} {n name : String} {g : Nat} {t : TypeId} {ms : Array (String × TypeId)} {d : DataW Unit} (hg : Tryz.prog.globalNamed n = some g) (hty : (Tryz.prog.globals[g]?).map (·.type) = some t) (ht : Tryz.prog.underlying t = some (.interface ms))
    (hh : ([(n, DataW.iface name d)].all fun x => x.2.handleName?.isNone) = true) (h : laidMetH Tryz.prog [(n, .iface name d)] W) : ∃ u v, W.cell? ⟨g, 0, none⟩ = some (.iface u v) := by
  rw [Go.MakeChecks.laidMetH_plain _ _ _ hh] at h
  obtain ⟨ps, ⟨g', t', cs, fuel, p, q, hg', ht', hvar, hd, _, _⟩, _⟩ := h
  obtain rfl := Option.some.inj (hg.symm.trans hg')
  obtain rfl := Option.some.inj (hty.symm.trans ht')
  obtain ⟨u, v, hcs⟩ := iface_cell ht hd
  refine ⟨u, v, ?_⟩
  rw [World.var?_cell hg hvar 0, ← Array.getElem?_toList, hcs]
  rfl
theorem etab_of_laid {W : World} (h1 : laidMetH Tryz.prog [(nSyn, Rows.laid_strconv_ErrSyntax)] W) (h2 : laidMetH Tryz.prog [(nRng, Rows.laid_strconv_ErrRange)] W) : ETab W :=
  ⟨iface_of_laid gSyn gSynT Tryz.underlying47 (by kernel_rfl) h1, iface_of_laid gRng gRngT Tryz.underlying47 (by kernel_rfl) h2⟩
theorem glb_of_laid {W : World} {l : List (String × DataW Unit)} (hL : laidMetH Tryz.prog l W) (e0 : (l.filter fun x => x.1 == nPow) = [(nPow, Rows.laid_internal_strconv_uint64pow10)]) (e1 : (l.filter fun x => x.1 == nSyn) = [(nSyn, Rows.laid_strconv_ErrSyntax)]) (e2 : (l.filter fun x => x.1 == nRng) = [(nRng, Rows.laid_strconv_ErrRange)]) : GlB W.heap.size W := by
  have a0 := hL.filter fun x => x.1 == nPow
  have a1 := hL.filter fun x => x.1 == nSyn
  have a2 := hL.filter fun x => x.1 == nRng
  rw [e0] at a0
  rw [e1] at a1
  rw [e2] at a2
  have hi := itab_of_laid a0
  have he := etab_of_laid a1 a2
  obtain ⟨⟨t, p, h1⟩, t2, p2, h2⟩ := he
  exact ⟨hi, ⟨⟨t, p, h1⟩, t2, p2, h2⟩, hi.lt, Lib.lt_of_cell (a := ⟨4, 0, none⟩) h1, Lib.lt_of_cell (a := ⟨5, 0, none⟩) h2, Nat.le_refl _⟩
def utf1 : Array Value := (Go.Pinned.utf8FirstZ.map fun (n : Nat) => Value.int .u8 (n : Int)).toArray
def utfA : Array Value := (([128, 191, 160, 191, 128, 159, 144, 191, 128, 143] : List Nat).map fun (n : Nat) => Value.int .u8 (n : Int)).toArray ++ (List.replicate 22 (Value.int .u8 0)).toArray
end Go.Proofs.YtlmopjbfagijeaaGreatDoor.Sc
