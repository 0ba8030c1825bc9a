/-
  NARROWER THAN 'FOR EVERY INPUT', by the rows' own cells (each row's printed sentence says how): PolyTags: laid · PolyRuns: laid.
  DERIVED. THE GIVEN ROWS OF THIS SEAT. 2 by the template 'for every input the law returns true; each argument reads behind the call as it read before'; 0 by the template 'total and deterministic' (their statements: YtggfeppphhigdabDoorTotals.lean).
  GIVEN WITH THE SEED: the statements are not yours to turn. If you find one false, say at which input.
  Laid BY PROGRAM, IN A SANDBOX (cutbox-rows.mjs): the forced cells as the released guide's own fill.sh prints them over the translation 4daf68453dfa66f1… (all of the seat's roots in one cut). By AI agents, Wed Nov 11 2026. No macro, syntax, notation, axiom, sorry.
-/
import Derived.Test.YtggfeppphhigdabDoorChecked
import GoSem.Claim
import GoSem.ClaimJoined
import GoSem.ClaimMapViews
import Derived.JoinedTies
import Derived.KernelRfl
namespace Go.Proofs.YtggfeppphhigdabDoor
/- THE CELL 'sum', in the pinned program and in every row, IS THE sha256 OF THE DUMP (.gsa) THAT YtggfeppphhigdabDoorProg.lean LOADS. Nothing in Lean hashes anything: it is a label: what it is worth is what the hold of that sum in a sandbox is worth. -/
noncomputable def Tryd.pinned : Pinned := { name := "ytggfeppphhigdabdoor", sum := "4daf68453dfa66f196c223a88348b4a522e2b5b85497a1f5b69a883857d55bac", checked := Tryd.checked }
namespace Rows
def none {H : Type} : Left H := { results := [], args := [] }

/- WHAT THE LISTED PACKAGE-LEVEL VARIABLES READ AS WHEN THE CALL BEGINS. Each datum BY PROGRAM (the guide's laid-datum.mjs) off the statement by which the dump's own 'gosem.cut.vars' lays the variable. In a bare row this is a premise. The card (YtggfeppphhigdabDoorCards.lean) ties it to the program's text. -/
def laid_casket_poly_kept {H : Type} : DataW H := .agg [.lit (.int .u8 255), .lit (.int .u8 255), .lit (.int .u8 255), .lit (.int .u8 15), .lit (.int .u8 252), .lit (.int .u8 255), .lit (.int .u8 255), .lit (.int .u8 15), .lit (.int .u8 252), .lit (.int .u8 255), .lit (.int .u8 255), .lit (.int .u8 15), .lit (.int .u8 252), .lit (.int .u8 255), .lit (.int .u8 255), .lit (.int .u8 15)]

/-- 'casketlaw5.PolyTags': WHATEVER THE INPUT: true; the input reads as it did. -/
def polyTagsSpec : ChangeSpec := { name := "polyTags", fn := fun _ => fun
  | [d1, d2] => { results := [.lit (.bool true)], args := [d1, d2] }
  | _ => none }
def polyTagsRow : OpenClaim := { program := "ytggfeppphhigdabdoor", sum := "4daf68453dfa66f196c223a88348b4a522e2b5b85497a1f5b69a883857d55bac", func := "casket/casketlaw5.PolyTags", spec := "polyTags", named := ["casket/poly.kept"], apart := false, laid := [("casket/poly.kept", laid_casket_poly_kept)] }
def PolyTagsSaid : Prop := polyTagsRow.holds Tryd.pinned (OpenSpec.ofChange polyTagsSpec)

/-- ITS FALSE NEIGHBOUR: 'it returns false'. Refute it at one input. -/
def polyTagsWrong : ChangeSpec := { name := "polyTags", fn := fun _ => fun
  | [d1, d2] => { results := [.lit (.bool false)], args := [d1, d2] }
  | _ => none }
def PolyTagsWrongFalsely : Prop := polyTagsRow.holds Tryd.pinned (OpenSpec.ofChange polyTagsWrong)

/-- 'casketlaw5.PolyRuns': WHATEVER THE INPUT: true; the input reads as it did. -/
def polyRunsSpec : ChangeSpec := { name := "polyRuns", fn := fun _ => fun
  | [d1, d2, d3] => { results := [.lit (.bool true)], args := [d1, d2, d3] }
  | _ => none }
def polyRunsRow : OpenClaim := { program := "ytggfeppphhigdabdoor", sum := "4daf68453dfa66f196c223a88348b4a522e2b5b85497a1f5b69a883857d55bac", func := "casket/casketlaw5.PolyRuns", spec := "polyRuns", named := ["casket/poly.kept"], apart := false, laid := [("casket/poly.kept", laid_casket_poly_kept)] }
def PolyRunsSaid : Prop := polyRunsRow.holds Tryd.pinned (OpenSpec.ofChange polyRunsSpec)

/-- ITS FALSE NEIGHBOUR: 'it returns false'. Refute it at one input. -/
def polyRunsWrong : ChangeSpec := { name := "polyRuns", fn := fun _ => fun
  | [d1, d2, d3] => { results := [.lit (.bool false)], args := [d1, d2, d3] }
  | _ => none }
def PolyRunsWrongFalsely : Prop := polyRunsRow.holds Tryd.pinned (OpenSpec.ofChange polyRunsWrong)

/- THE SECOND FORM. 'bulk': how many values and letters a reading holds, each counted each time it is reached (what is shared counts as often as it is met; a slice's spare places count too). A statement '..UptoSaid' is the law's where the arguments, and the package variables that the reading takes, are together of bulk at most 1048576: NARROWER than '..Said'. Prove '..Said' where nothing that the law and all that it calls make is longer than what came in: it says more and counts as full. Else prove '..UptoSaid'. A law counts once. -/
mutual
def uptoBulk {H : Type} : DataW H → Nat
  | .lit (.string bytes) => bytes.length + 1
  | .lit _ => 1
  | .nil => 1
  | .ptr d => uptoBulk d + 1
  | .slice elems spare => uptoBulkAll elems + uptoBulkAll spare + 1
  | .agg parts => uptoBulkAll parts + 1
  | .iface _ d => uptoBulk d + 1
  | .map entries => uptoBulkEntries entries + 1
  | .held _ => 1
def uptoBulkAll {H : Type} : List (DataW H) → Nat
  | [] => 0
  | d :: r => uptoBulk d + uptoBulkAll r
def uptoBulkEntries {H : Type} : List (Lit × DataW H) → Nat
  | [] => 0
  | x :: r => uptoBulkEntry x + uptoBulkEntries r
def uptoBulkEntry {H : Type} : Lit × DataW H → Nat
  | (.string bytes, d) => bytes.length + uptoBulk d + 1
  | (_, d) => uptoBulk d + 1
 end
def uptoSmall : (H : Type) → List (DataW H) → Bool := fun _ ds => decide (uptoBulkAll ds ≤ 1048576)
def OpenSpec.upto (s : _root_.Go.ChangeSpec) : _root_.Go.OpenSpec := { _root_.Go.OpenSpec.ofChange s with cond := some uptoSmall }

/-- 'casketlaw5.PolyTags', WHERE WHAT IT READS IS OF BULK AT MOST 1048576: true; the input reads as it did. -/
def polyTagsUptoRow : OpenClaim := { program := "ytggfeppphhigdabdoor", sum := "4daf68453dfa66f196c223a88348b4a522e2b5b85497a1f5b69a883857d55bac", func := "casket/casketlaw5.PolyTags", spec := "polyTags", named := ["casket/poly.kept"], apart := false, laid := [("casket/poly.kept", laid_casket_poly_kept)], narrowed := true }
def PolyTagsUptoSaid : Prop := polyTagsUptoRow.holds Tryd.pinned (OpenSpec.upto polyTagsSpec)

/-- 'casketlaw5.PolyRuns', WHERE WHAT IT READS IS OF BULK AT MOST 1048576: true; the input reads as it did. -/
def polyRunsUptoRow : OpenClaim := { program := "ytggfeppphhigdabdoor", sum := "4daf68453dfa66f196c223a88348b4a522e2b5b85497a1f5b69a883857d55bac", func := "casket/casketlaw5.PolyRuns", spec := "polyRuns", named := ["casket/poly.kept"], apart := false, laid := [("casket/poly.kept", laid_casket_poly_kept)], narrowed := true }
def PolyRunsUptoSaid : Prop := polyRunsUptoRow.holds Tryd.pinned (OpenSpec.upto polyRunsSpec)

end Rows
end Go.Proofs.YtggfeppphhigdabDoor
