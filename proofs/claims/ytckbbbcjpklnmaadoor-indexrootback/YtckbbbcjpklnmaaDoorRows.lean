/-
  NARROWER THAN 'FOR EVERY INPUT', by the rows' own cells (each row's printed sentence says how): IndexChecks: laid · IndexRootBack: laid · IndexRoots: laid · IndexEncodes: laid · IndexCut: laid · IndexBack: laid.
  DERIVED. THE GIVEN ROWS OF THIS SEAT. 6 by the template 'for every input the law returns true; each argument reads behind the call as it read before'; 0 by the template 'total and deterministic' (their statements: YtckbbbcjpklnmaaDoorTotals.lean).
  GIVEN WITH THE SEED: the statements are not yours to turn. If you find one false, say at which input.
  Laid BY PROGRAM, IN A SANDBOX (cutbox-rows.mjs): the forced cells as the released guide's own fill.sh prints them over the translation f1ecc4f6e024d2f0… (all of the seat's roots in one cut). By AI agents, Wed Nov 11 2026. No macro, syntax, notation, axiom, sorry.
-/
import Derived.Test.YtckbbbcjpklnmaaDoorChecked
import GoSem.Claim
import GoSem.ClaimJoined
import GoSem.ClaimMapViews
import Derived.JoinedTies
import Derived.KernelRfl
namespace Go.Proofs.YtckbbbcjpklnmaaDoor
/- THE CELL 'sum', in the pinned program and in every row, IS THE sha256 OF THE DUMP (.gsa) THAT YtckbbbcjpklnmaaDoorProg.lean LOADS. Nothing in Lean hashes anything: it is a label: what it is worth is what the hold of that sum in a sandbox is worth. -/
noncomputable def Tryd.pinned : Pinned := { name := "ytckbbbcjpklnmaadoor", sum := "f1ecc4f6e024d2f03a3c6034adb788ee5d3620233320a183c23d01f4f695e826", checked := Tryd.checked }
namespace Rows
def none {H : Type} : Left H := { results := [], args := [] }

/- WHAT THE LISTED PACKAGE-LEVEL VARIABLES READ AS WHEN THE CALL BEGINS. Each datum BY PROGRAM (the guide's laid-datum.mjs) off the statement by which the dump's own 'gosem.cut.vars' lays the variable. In a bare row this is a premise. The card (YtckbbbcjpklnmaaDoorCards.lean) ties it to the program's text. -/
def laid_casket_index_rowSizes {H : Type} : DataW H := .agg [.lit (.int .i64 36), .lit (.int .i64 40), .lit (.int .i64 40), .lit (.int .i64 4)]

/-- 'casketlaw14.IndexChecks': WHATEVER THE INPUT: true; the input reads as it did. -/
def indexChecksSpec : ChangeSpec := { name := "indexChecks", fn := fun _ => fun
  | [d] => { results := [.lit (.bool true)], args := [d] }
  | _ => none }
def indexChecksRow : OpenClaim := { program := "ytckbbbcjpklnmaadoor", sum := "f1ecc4f6e024d2f03a3c6034adb788ee5d3620233320a183c23d01f4f695e826", func := "casket/casketlaw14.IndexChecks", spec := "indexChecks", named := ["casket/index.rowSizes"], apart := false, laid := [("casket/index.rowSizes", laid_casket_index_rowSizes)] }
def IndexChecksSaid : Prop := indexChecksRow.holds Tryd.pinned (OpenSpec.ofChange indexChecksSpec)

/-- ITS FALSE NEIGHBOUR: 'it returns false'. Refute it at one input. -/
def indexChecksWrong : ChangeSpec := { name := "indexChecks", fn := fun _ => fun
  | [d] => { results := [.lit (.bool false)], args := [d] }
  | _ => none }
def IndexChecksWrongFalsely : Prop := indexChecksRow.holds Tryd.pinned (OpenSpec.ofChange indexChecksWrong)

/-- 'casketlaw14.IndexRootBack': WHATEVER THE INPUT: true; the input reads as it did. -/
def indexRootBackSpec : ChangeSpec := { name := "indexRootBack", fn := fun _ => fun
  | [d1, d2, d3, d4, d5] => { results := [.lit (.bool true)], args := [d1, d2, d3, d4, d5] }
  | _ => none }
def indexRootBackRow : OpenClaim := { program := "ytckbbbcjpklnmaadoor", sum := "f1ecc4f6e024d2f03a3c6034adb788ee5d3620233320a183c23d01f4f695e826", func := "casket/casketlaw14.IndexRootBack", spec := "indexRootBack", unfollowed := true, recurses := true, named := ["casket/index.rowSizes"], apart := false, laid := [("casket/index.rowSizes", laid_casket_index_rowSizes)] }
def IndexRootBackSaid : Prop := indexRootBackRow.holds Tryd.pinned (OpenSpec.ofChange indexRootBackSpec)

/-- ITS FALSE NEIGHBOUR: 'it returns false'. Refute it at one input. -/
def indexRootBackWrong : ChangeSpec := { name := "indexRootBack", fn := fun _ => fun
  | [d1, d2, d3, d4, d5] => { results := [.lit (.bool false)], args := [d1, d2, d3, d4, d5] }
  | _ => none }
def IndexRootBackWrongFalsely : Prop := indexRootBackRow.holds Tryd.pinned (OpenSpec.ofChange indexRootBackWrong)

/-- 'casketlaw14.IndexRoots': WHATEVER THE INPUT: true; the input reads as it did. -/
def indexRootsSpec : ChangeSpec := { name := "indexRoots", fn := fun _ => fun
  | [d1, d2, d3] => { results := [.lit (.bool true)], args := [d1, d2, d3] }
  | _ => none }
def indexRootsRow : OpenClaim := { program := "ytckbbbcjpklnmaadoor", sum := "f1ecc4f6e024d2f03a3c6034adb788ee5d3620233320a183c23d01f4f695e826", func := "casket/casketlaw14.IndexRoots", spec := "indexRoots", unfollowed := true, recurses := true, named := ["casket/index.rowSizes"], apart := false, laid := [("casket/index.rowSizes", laid_casket_index_rowSizes)] }
def IndexRootsSaid : Prop := indexRootsRow.holds Tryd.pinned (OpenSpec.ofChange indexRootsSpec)

/-- ITS FALSE NEIGHBOUR: 'it returns false'. Refute it at one input. -/
def indexRootsWrong : ChangeSpec := { name := "indexRoots", fn := fun _ => fun
  | [d1, d2, d3] => { results := [.lit (.bool false)], args := [d1, d2, d3] }
  | _ => none }
def IndexRootsWrongFalsely : Prop := indexRootsRow.holds Tryd.pinned (OpenSpec.ofChange indexRootsWrong)

/-- 'casketlaw14.IndexEncodes': WHATEVER THE INPUT: true; the input reads as it did. -/
def indexEncodesSpec : ChangeSpec := { name := "indexEncodes", fn := fun _ => fun
  | [d1, d2, d3] => { results := [.lit (.bool true)], args := [d1, d2, d3] }
  | _ => none }
def indexEncodesRow : OpenClaim := { program := "ytckbbbcjpklnmaadoor", sum := "f1ecc4f6e024d2f03a3c6034adb788ee5d3620233320a183c23d01f4f695e826", func := "casket/casketlaw14.IndexEncodes", spec := "indexEncodes", unfollowed := true, recurses := true, named := ["casket/index.rowSizes"], apart := false, laid := [("casket/index.rowSizes", laid_casket_index_rowSizes)] }
def IndexEncodesSaid : Prop := indexEncodesRow.holds Tryd.pinned (OpenSpec.ofChange indexEncodesSpec)

/-- ITS FALSE NEIGHBOUR: 'it returns false'. Refute it at one input. -/
def indexEncodesWrong : ChangeSpec := { name := "indexEncodes", fn := fun _ => fun
  | [d1, d2, d3] => { results := [.lit (.bool false)], args := [d1, d2, d3] }
  | _ => none }
def IndexEncodesWrongFalsely : Prop := indexEncodesRow.holds Tryd.pinned (OpenSpec.ofChange indexEncodesWrong)

/-- 'casketlaw14.IndexCut': WHATEVER THE INPUT: true; the input reads as it did. -/
def indexCutSpec : ChangeSpec := { name := "indexCut", fn := fun _ => fun
  | [d1, d2, d3, d4] => { results := [.lit (.bool true)], args := [d1, d2, d3, d4] }
  | _ => none }
def indexCutRow : OpenClaim := { program := "ytckbbbcjpklnmaadoor", sum := "f1ecc4f6e024d2f03a3c6034adb788ee5d3620233320a183c23d01f4f695e826", func := "casket/casketlaw14.IndexCut", spec := "indexCut", inPlace := ["internal/abi.NoEscape", "internal/bytealg.MakeNoZero"], unfollowed := true, recurses := true, named := ["casket/index.rowSizes"], apart := false, laid := [("casket/index.rowSizes", laid_casket_index_rowSizes)] }
def IndexCutSaid : Prop := indexCutRow.holds Tryd.pinned (OpenSpec.ofChange indexCutSpec)

/-- ITS FALSE NEIGHBOUR: 'it returns false'. Refute it at one input. -/
def indexCutWrong : ChangeSpec := { name := "indexCut", fn := fun _ => fun
  | [d1, d2, d3, d4] => { results := [.lit (.bool false)], args := [d1, d2, d3, d4] }
  | _ => none }
def IndexCutWrongFalsely : Prop := indexCutRow.holds Tryd.pinned (OpenSpec.ofChange indexCutWrong)

/-- 'casketlaw14.IndexBack': WHATEVER THE INPUT: true; the input reads as it did. -/
def indexBackSpec : ChangeSpec := { name := "indexBack", fn := fun _ => fun
  | [d1, d2, d3] => { results := [.lit (.bool true)], args := [d1, d2, d3] }
  | _ => none }
def indexBackRow : OpenClaim := { program := "ytckbbbcjpklnmaadoor", sum := "f1ecc4f6e024d2f03a3c6034adb788ee5d3620233320a183c23d01f4f695e826", func := "casket/casketlaw14.IndexBack", spec := "indexBack", inPlace := ["internal/abi.NoEscape", "internal/bytealg.MakeNoZero"], unfollowed := true, recurses := true, named := ["casket/index.rowSizes"], apart := false, laid := [("casket/index.rowSizes", laid_casket_index_rowSizes)] }
def IndexBackSaid : Prop := indexBackRow.holds Tryd.pinned (OpenSpec.ofChange indexBackSpec)

/-- ITS FALSE NEIGHBOUR: 'it returns false'. Refute it at one input. -/
def indexBackWrong : ChangeSpec := { name := "indexBack", fn := fun _ => fun
  | [d1, d2, d3] => { results := [.lit (.bool false)], args := [d1, d2, d3] }
  | _ => none }
def IndexBackWrongFalsely : Prop := indexBackRow.holds Tryd.pinned (OpenSpec.ofChange indexBackWrong)

/- THE SECOND FORM. 'bulk': how many values and letters a reading holds, each counted each time it is reached (what is shared counts as often as it is met; a slice's spare places count too). A statement '..UptoSaid' is the law's where the arguments, and the package variables that the reading takes, are together of bulk at most 1048576: NARROWER than '..Said'. Prove '..Said' where nothing that the law and all that it calls make is longer than what came in: it says more and counts as full. Else prove '..UptoSaid'. A law counts once. -/
mutual
def uptoBulk {H : Type} : DataW H → Nat
  | .lit (.string bytes) => bytes.length + 1
  | .lit _ => 1
  | .nil => 1
  | .ptr d => uptoBulk d + 1
  | .slice elems spare => uptoBulkAll elems + uptoBulkAll spare + 1
  | .agg parts => uptoBulkAll parts + 1
  | .iface _ d => uptoBulk d + 1
  | .map entries => uptoBulkEntries entries + 1
  | .held _ => 1
def uptoBulkAll {H : Type} : List (DataW H) → Nat
  | [] => 0
  | d :: r => uptoBulk d + uptoBulkAll r
def uptoBulkEntries {H : Type} : List (Lit × DataW H) → Nat
  | [] => 0
  | x :: r => uptoBulkEntry x + uptoBulkEntries r
def uptoBulkEntry {H : Type} : Lit × DataW H → Nat
  | (.string bytes, d) => bytes.length + uptoBulk d + 1
  | (_, d) => uptoBulk d + 1
 end
def uptoSmall : (H : Type) → List (DataW H) → Bool := fun _ ds => decide (uptoBulkAll ds ≤ 1048576)
def OpenSpec.upto (s : _root_.Go.ChangeSpec) : _root_.Go.OpenSpec := { _root_.Go.OpenSpec.ofChange s with cond := some uptoSmall }

/-- 'casketlaw14.IndexChecks', WHERE WHAT IT READS IS OF BULK AT MOST 1048576: true; the input reads as it did. -/
def indexChecksUptoRow : OpenClaim := { program := "ytckbbbcjpklnmaadoor", sum := "f1ecc4f6e024d2f03a3c6034adb788ee5d3620233320a183c23d01f4f695e826", func := "casket/casketlaw14.IndexChecks", spec := "indexChecks", named := ["casket/index.rowSizes"], apart := false, laid := [("casket/index.rowSizes", laid_casket_index_rowSizes)], narrowed := true }
def IndexChecksUptoSaid : Prop := indexChecksUptoRow.holds Tryd.pinned (OpenSpec.upto indexChecksSpec)

/-- 'casketlaw14.IndexRootBack', WHERE WHAT IT READS IS OF BULK AT MOST 1048576: true; the input reads as it did. -/
def indexRootBackUptoRow : OpenClaim := { program := "ytckbbbcjpklnmaadoor", sum := "f1ecc4f6e024d2f03a3c6034adb788ee5d3620233320a183c23d01f4f695e826", func := "casket/casketlaw14.IndexRootBack", spec := "indexRootBack", unfollowed := true, recurses := true, named := ["casket/index.rowSizes"], apart := false, laid := [("casket/index.rowSizes", laid_casket_index_rowSizes)], narrowed := true }
def IndexRootBackUptoSaid : Prop := indexRootBackUptoRow.holds Tryd.pinned (OpenSpec.upto indexRootBackSpec)

/-- 'casketlaw14.IndexRoots', WHERE WHAT IT READS IS OF BULK AT MOST 1048576: true; the input reads as it did. -/
def indexRootsUptoRow : OpenClaim := { program := "ytckbbbcjpklnmaadoor", sum := "f1ecc4f6e024d2f03a3c6034adb788ee5d3620233320a183c23d01f4f695e826", func := "casket/casketlaw14.IndexRoots", spec := "indexRoots", unfollowed := true, recurses := true, named := ["casket/index.rowSizes"], apart := false, laid := [("casket/index.rowSizes", laid_casket_index_rowSizes)], narrowed := true }
def IndexRootsUptoSaid : Prop := indexRootsUptoRow.holds Tryd.pinned (OpenSpec.upto indexRootsSpec)

/-- 'casketlaw14.IndexEncodes', WHERE WHAT IT READS IS OF BULK AT MOST 1048576: true; the input reads as it did. -/
def indexEncodesUptoRow : OpenClaim := { program := "ytckbbbcjpklnmaadoor", sum := "f1ecc4f6e024d2f03a3c6034adb788ee5d3620233320a183c23d01f4f695e826", func := "casket/casketlaw14.IndexEncodes", spec := "indexEncodes", unfollowed := true, recurses := true, named := ["casket/index.rowSizes"], apart := false, laid := [("casket/index.rowSizes", laid_casket_index_rowSizes)], narrowed := true }
def IndexEncodesUptoSaid : Prop := indexEncodesUptoRow.holds Tryd.pinned (OpenSpec.upto indexEncodesSpec)

/-- 'casketlaw14.IndexCut', WHERE WHAT IT READS IS OF BULK AT MOST 1048576: true; the input reads as it did. -/
def indexCutUptoRow : OpenClaim := { program := "ytckbbbcjpklnmaadoor", sum := "f1ecc4f6e024d2f03a3c6034adb788ee5d3620233320a183c23d01f4f695e826", func := "casket/casketlaw14.IndexCut", spec := "indexCut", inPlace := ["internal/abi.NoEscape", "internal/bytealg.MakeNoZero"], unfollowed := true, recurses := true, named := ["casket/index.rowSizes"], apart := false, laid := [("casket/index.rowSizes", laid_casket_index_rowSizes)], narrowed := true }
def IndexCutUptoSaid : Prop := indexCutUptoRow.holds Tryd.pinned (OpenSpec.upto indexCutSpec)

/-- 'casketlaw14.IndexBack', WHERE WHAT IT READS IS OF BULK AT MOST 1048576: true; the input reads as it did. -/
def indexBackUptoRow : OpenClaim := { program := "ytckbbbcjpklnmaadoor", sum := "f1ecc4f6e024d2f03a3c6034adb788ee5d3620233320a183c23d01f4f695e826", func := "casket/casketlaw14.IndexBack", spec := "indexBack", inPlace := ["internal/abi.NoEscape", "internal/bytealg.MakeNoZero"], unfollowed := true, recurses := true, named := ["casket/index.rowSizes"], apart := false, laid := [("casket/index.rowSizes", laid_casket_index_rowSizes)], narrowed := true }
def IndexBackUptoSaid : Prop := indexBackUptoRow.holds Tryd.pinned (OpenSpec.upto indexBackSpec)

end Rows
end Go.Proofs.YtckbbbcjpklnmaaDoor
