import Derived.Test.YtlmopjbfagijeaaGreatDoorZmM
import Derived.Test.YtlmopjbfagijeaaGreatDoorSzZp
import Derived.LaidHandle
namespace Go.Proofs.YtlmopjbfagijeaaGreatDoor.Sc
open Go.ChangeShapes Go.WideShapes Go.ChangeAt Go.RowKit

def nEty : String := (Rows.scriptFirstRow.named[9]?).getD default
def nRef : String := (Rows.scriptFirstRow.named[8]?).getD default
theorem gEty : Tryz.prog.globalNamed nEty = some 1 := by kernel_rfl
theorem gRef : Tryz.prog.globalNamed nRef = some 0 := by kernel_rfl
theorem gRefT : (Tryz.prog.globals[0]?).map (·.type) = some 47 := by kernel_rfl
theorem cutRt : (Tryz.prog.cutTypes.find? (·.1 == "internal/reflectlite.rtype")).map (·.2) = some 181 := by kernel_rfl
theorem oneErr : ((List.range 289).filter fun t => Tryz.prog.rowNamed t [101, 114, 114, 111, 114]) = [47] := by kernel_rfl
theorem typesN : Tryz.prog.types.size = 289 := by kernel_rfl
theorem starES : "*" ++ "errors.errorString" = "*errors.errorString" := by decide
theorem rowES (u : TypeId) (h : Tryz.prog.typeName? 3 u = some "*errors.errorString") : u = 252 :=
  typeName_ptr_named (nm := "errors.errorString") (by rw [starES]; kernel_rfl) (by kernel_rfl) (by decide) u (by rw [starES]; exact h)
theorem cellsES : Tryz.prog.cellsOf 254 = 1 := by kernel_rfl
theorem cells9_ : Tryz.prog.cellsOf 9 = 1 := by kernel_rfl
theorem ety_of_laid {W : World} (h : laidMetH Tryz.prog [(nEty, Rows.laid_errors_errorType)] W) : W.cell? ⟨1, 0, none⟩ = some (rty 47) := by
  have h' : laidMet Tryz.prog [] W ∧ handlesMet Tryz.prog [(nEty, Rows.laid_errors_errorType)] W := h
  obtain ⟨name, u, ty, e1, e2, e3, e4, e5⟩ := h'.2 _ (List.mem_singleton.2 rfl)
  have en : name = [101, 114, 114, 111, 114] := (Option.some.inj e1).symm
  subst en
  obtain rfl := Option.some.inj (cutRt.symm.trans e2)
  have hm : ty ∈ (List.range 289).filter fun t => Tryz.prog.rowNamed t [101, 114, 114, 111, 114] := List.mem_filter.2 ⟨List.mem_range.2 (by rw [← typesN]; exact e3), e4⟩
  rw [oneErr] at hm
  obtain rfl := List.mem_singleton.1 hm
  have hh : typeHandle Tryz.prog 47 = hndl 47 := by kernel_rfl
  rw [hh] at e5
  rw [World.var?_cell gEty e5 0]
  rfl
set_option maxRecDepth 20000 in
theorem ref_of_laid {W : World} (h : laidMetH Tryz.prog [(nRef, Rows.laid_casket_script_Refused)] W) : ∃ a, W.cell? ⟨0, 0, none⟩ = some (.iface 252 (.pointer (some a))) := by
  rw [Go.MakeChecks.laidMetH_plain _ _ _ (by kernel_rfl)] at h
  obtain ⟨ps, ⟨g', t', cs, fuel, p, q, hg', ht', hvar, hd, _, hps⟩, -, hok⟩ := h
  obtain rfl := Option.some.inj (gRef.symm.trans hg')
  obtain rfl := Option.some.inj (gRefT.symm.trans ht')
  have hcell : ∀ x, cs.toList = [x] → W.cell? ⟨0, 0, none⟩ = some x := fun x hx => by
    rw [World.var?_cell gRef hvar 0, ← Array.getElem?_toList, hx]
    rfl
  obtain ⟨a, s, hcs, -⟩ := errorString_of_trod Tryz.underlying47 rowES Tryz.underlying252 Tryz.underlying254 rfl rfl Tryz.underlying9 cellsES cells9_ hd (fun u v hx => by
    have hsz : cs.size = 1 := by rw [← Array.length_toList, hx]; rfl
    have hm : MemPlace.cell 0 0 ∈ ps := by
      rw [hps, hsz]
      exact List.mem_append_left _ (List.mem_append_left _ (List.mem_map.2 ⟨0, List.mem_range.2 (by decide), rfl⟩))
    exact (hok _ _ hm).2 u v (hcell _ hx))
  exact ⟨a, hcell _ hcs⟩
theorem gle_of_laid {W : World} {l : List (String × DataW Unit)} (hL : laidMetH Tryz.prog l W) (hg : GlB W.heap.size W) (e0 : (l.filter fun x => x.1 == nEty) = [(nEty, Rows.laid_errors_errorType)]) (e1 : (l.filter fun x => x.1 == nRef) = [(nRef, Rows.laid_casket_script_Refused)]) : GlE W.heap.size W := by
  have a0 := hL.filter fun x => x.1 == nEty
  have a1 := hL.filter fun x => x.1 == nRef
  rw [e0] at a0
  rw [e1] at a1
  have h0 := ety_of_laid a0
  obtain ⟨a, h1⟩ := ref_of_laid a1
  exact ⟨hg, h0, ⟨a, h1⟩, Lib.lt_of_cell (a := ⟨1, 0, none⟩) h0, Lib.lt_of_cell (a := ⟨0, 0, none⟩) h1⟩
end Go.Proofs.YtlmopjbfagijeaaGreatDoor.Sc
