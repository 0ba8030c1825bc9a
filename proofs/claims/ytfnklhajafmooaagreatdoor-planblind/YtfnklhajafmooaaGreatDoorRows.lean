/-
  NARROWER THAN 'FOR EVERY INPUT', by the rows' own cells (each row's printed sentence says how): PlanQueue: laid · PlanShape: laid · PlanBlind: laid · PlanSteps: laid.
  DERIVED. THE GIVEN ROWS OF THIS SEAT. 4 by the template 'for every input the law returns true; each argument reads behind the call as it read before'; 0 by the template 'total and deterministic' (their statements: YtfnklhajafmooaaGreatDoorTotals.lean).
  GIVEN WITH THE SEED: the statements are not yours to turn. If you find one false, say at which input.
  Laid BY PROGRAM, IN A SANDBOX (cutbox-rows.mjs): the forced cells as the released guide's own fill.sh prints them over the translation 2e0ca9b43584c17a… (all of the seat's roots in one cut). By AI agents, Wed Nov 11 2026. No macro, syntax, notation, axiom, sorry.
-/
import Derived.Test.YtfnklhajafmooaaGreatDoorChecked
import GoSem.PinnedTables
import GoSem.Claim
import GoSem.ClaimJoined
import GoSem.ClaimMapViews
import Derived.JoinedTies
import Derived.KernelRfl
namespace Go.Proofs.YtfnklhajafmooaaGreatDoor
/- THE CELL 'sum', in the pinned program and in every row, IS THE sha256 OF THE DUMP (.gsa) THAT YtfnklhajafmooaaGreatDoorProg.lean LOADS. Nothing in Lean hashes anything: it is a label: what it is worth is what the hold of that sum in a sandbox is worth. -/
noncomputable def Tryz.pinned : Pinned := { name := "ytfnklhajafmooaagreatdoor", sum := "2e0ca9b43584c17aac275959d304158eb0fcf0542fcd8aecee82156ee82dec98", checked := Tryz.checked }
namespace Rows
def none {H : Type} : Left H := { results := [], args := [] }

/- WHAT THE LISTED PACKAGE-LEVEL VARIABLES READ AS WHEN THE CALL BEGINS. Each datum BY PROGRAM (the guide's laid-datum.mjs) off the statement by which the dump's own 'gosem.cut.vars' lays the variable. In a bare row this is a premise. The card (YtfnklhajafmooaaGreatDoorCards.lean) ties it to the program's text. -/
def laid_unicode_utf8_acceptRanges {H : Type} : DataW H := .agg [.agg [.lit (.int .u8 128), .lit (.int .u8 191)], .agg [.lit (.int .u8 160), .lit (.int .u8 191)], .agg [.lit (.int .u8 128), .lit (.int .u8 159)], .agg [.lit (.int .u8 144), .lit (.int .u8 191)], .agg [.lit (.int .u8 128), .lit (.int .u8 143)], .agg [.lit (.int .u8 0), .lit (.int .u8 0)], .agg [.lit (.int .u8 0), .lit (.int .u8 0)], .agg [.lit (.int .u8 0), .lit (.int .u8 0)], .agg [.lit (.int .u8 0), .lit (.int .u8 0)], .agg [.lit (.int .u8 0), .lit (.int .u8 0)], .agg [.lit (.int .u8 0), .lit (.int .u8 0)], .agg [.lit (.int .u8 0), .lit (.int .u8 0)], .agg [.lit (.int .u8 0), .lit (.int .u8 0)], .agg [.lit (.int .u8 0), .lit (.int .u8 0)], .agg [.lit (.int .u8 0), .lit (.int .u8 0)], .agg [.lit (.int .u8 0), .lit (.int .u8 0)]]
def laid_casket_index_rowSizes {H : Type} : DataW H := .agg [.lit (.int .i64 36), .lit (.int .i64 40), .lit (.int .i64 40), .lit (.int .i64 4)]
/-- One of Go's own tables, pinned by name: the form's constant. -/
def laid_unicode_utf8_first : DataW Unit := Go.Pinned.utf8First

/-- 'casketlaw15.PlanQueue': WHATEVER THE INPUT: true; the input reads as it did. -/
def planQueueSpec : ChangeSpec := { name := "planQueue", fn := fun _ => fun
  | [d1, d2] => { results := [.lit (.bool true)], args := [d1, d2] }
  | _ => none }
def planQueueRow : OpenClaim := { program := "ytfnklhajafmooaagreatdoor", sum := "2e0ca9b43584c17aac275959d304158eb0fcf0542fcd8aecee82156ee82dec98", func := "casket/casketlaw15.PlanQueue", spec := "planQueue", inPlace := ["internal/bytealg.CountString", "internal/bytealg.IndexByteString", "internal/bytealg.IndexString"], unfollowed := true, recurses := true, named := ["casket/index.rowSizes", "unicode/utf8.first", "unicode/utf8.acceptRanges", "internal/bytealg.MaxLen"], apart := false, laid := [("unicode/utf8.acceptRanges", laid_unicode_utf8_acceptRanges), ("casket/index.rowSizes", laid_casket_index_rowSizes), ("unicode/utf8.first", laid_unicode_utf8_first)] }
def PlanQueueSaid : Prop := planQueueRow.holds Tryz.pinned (OpenSpec.ofChange planQueueSpec)

/-- ITS FALSE NEIGHBOUR: 'it returns false'. Refute it at one input. -/
def planQueueWrong : ChangeSpec := { name := "planQueue", fn := fun _ => fun
  | [d1, d2] => { results := [.lit (.bool false)], args := [d1, d2] }
  | _ => none }
def PlanQueueWrongFalsely : Prop := planQueueRow.holds Tryz.pinned (OpenSpec.ofChange planQueueWrong)

/-- 'casketlaw15.PlanShape': WHATEVER THE INPUT: true; the input reads as it did. -/
def planShapeSpec : ChangeSpec := { name := "planShape", fn := fun _ => fun
  | [d1, d2] => { results := [.lit (.bool true)], args := [d1, d2] }
  | _ => none }
def planShapeRow : OpenClaim := { program := "ytfnklhajafmooaagreatdoor", sum := "2e0ca9b43584c17aac275959d304158eb0fcf0542fcd8aecee82156ee82dec98", func := "casket/casketlaw15.PlanShape", spec := "planShape", inPlace := ["internal/bytealg.CountString", "internal/bytealg.IndexByteString", "internal/bytealg.IndexString"], unfollowed := true, recurses := true, named := ["casket/index.rowSizes", "unicode/utf8.first", "unicode/utf8.acceptRanges", "internal/bytealg.MaxLen"], apart := false, laid := [("unicode/utf8.acceptRanges", laid_unicode_utf8_acceptRanges), ("casket/index.rowSizes", laid_casket_index_rowSizes), ("unicode/utf8.first", laid_unicode_utf8_first)] }
def PlanShapeSaid : Prop := planShapeRow.holds Tryz.pinned (OpenSpec.ofChange planShapeSpec)

/-- ITS FALSE NEIGHBOUR: 'it returns false'. Refute it at one input. -/
def planShapeWrong : ChangeSpec := { name := "planShape", fn := fun _ => fun
  | [d1, d2] => { results := [.lit (.bool false)], args := [d1, d2] }
  | _ => none }
def PlanShapeWrongFalsely : Prop := planShapeRow.holds Tryz.pinned (OpenSpec.ofChange planShapeWrong)

/-- 'casketlaw15.PlanBlind': WHATEVER THE INPUT: true; the input reads as it did. -/
def planBlindSpec : ChangeSpec := { name := "planBlind", fn := fun _ => fun
  | [d1, d2, d3] => { results := [.lit (.bool true)], args := [d1, d2, d3] }
  | _ => none }
def planBlindRow : OpenClaim := { program := "ytfnklhajafmooaagreatdoor", sum := "2e0ca9b43584c17aac275959d304158eb0fcf0542fcd8aecee82156ee82dec98", func := "casket/casketlaw15.PlanBlind", spec := "planBlind", inPlace := ["internal/bytealg.CountString", "internal/bytealg.IndexByteString", "internal/bytealg.IndexString"], unfollowed := true, recurses := true, named := ["casket/index.rowSizes", "unicode/utf8.first", "unicode/utf8.acceptRanges", "internal/bytealg.MaxLen"], apart := false, laid := [("unicode/utf8.acceptRanges", laid_unicode_utf8_acceptRanges), ("casket/index.rowSizes", laid_casket_index_rowSizes), ("unicode/utf8.first", laid_unicode_utf8_first)] }
def PlanBlindSaid : Prop := planBlindRow.holds Tryz.pinned (OpenSpec.ofChange planBlindSpec)

/-- ITS FALSE NEIGHBOUR: 'it returns false'. Refute it at one input. -/
def planBlindWrong : ChangeSpec := { name := "planBlind", fn := fun _ => fun
  | [d1, d2, d3] => { results := [.lit (.bool false)], args := [d1, d2, d3] }
  | _ => none }
def PlanBlindWrongFalsely : Prop := planBlindRow.holds Tryz.pinned (OpenSpec.ofChange planBlindWrong)

/-- 'casketlaw15.PlanSteps': WHATEVER THE INPUT: true; the input reads as it did. -/
def planStepsSpec : ChangeSpec := { name := "planSteps", fn := fun _ => fun
  | [d1, d2] => { results := [.lit (.bool true)], args := [d1, d2] }
  | _ => none }
def planStepsRow : OpenClaim := { program := "ytfnklhajafmooaagreatdoor", sum := "2e0ca9b43584c17aac275959d304158eb0fcf0542fcd8aecee82156ee82dec98", func := "casket/casketlaw15.PlanSteps", spec := "planSteps", inPlace := ["internal/bytealg.CountString", "internal/bytealg.IndexByteString", "internal/bytealg.IndexString", "maps.clone"], unfollowed := true, recurses := true, named := ["casket/index.rowSizes", "unicode/utf8.first", "unicode/utf8.acceptRanges", "internal/bytealg.MaxLen"], apart := false, laid := [("unicode/utf8.acceptRanges", laid_unicode_utf8_acceptRanges), ("casket/index.rowSizes", laid_casket_index_rowSizes), ("unicode/utf8.first", laid_unicode_utf8_first)] }
def PlanStepsSaid : Prop := planStepsRow.holds Tryz.pinned (OpenSpec.ofChange planStepsSpec)

/-- ITS FALSE NEIGHBOUR: 'it returns false'. Refute it at one input. -/
def planStepsWrong : ChangeSpec := { name := "planSteps", fn := fun _ => fun
  | [d1, d2] => { results := [.lit (.bool false)], args := [d1, d2] }
  | _ => none }
def PlanStepsWrongFalsely : Prop := planStepsRow.holds Tryz.pinned (OpenSpec.ofChange planStepsWrong)

/- THE SECOND FORM. 'bulk': how many values and letters a reading holds, each counted each time it is reached (what is shared counts as often as it is met; a slice's spare places count too). A statement '..UptoSaid' is the law's where the arguments, and the package variables that the reading takes, are together of bulk at most 1048576: NARROWER than '..Said'. Prove '..Said' where nothing that the law and all that it calls make is longer than what came in: it says more and counts as full. Else prove '..UptoSaid'. A law counts once. -/
mutual
def uptoBulk {H : Type} : DataW H → Nat
  | .lit (.string bytes) => bytes.length + 1
  | .lit _ => 1
  | .nil => 1
  | .ptr d => uptoBulk d + 1
  | .slice elems spare => uptoBulkAll elems + uptoBulkAll spare + 1
  | .agg parts => uptoBulkAll parts + 1
  | .iface _ d => uptoBulk d + 1
  | .map entries => uptoBulkEntries entries + 1
  | .held _ => 1
def uptoBulkAll {H : Type} : List (DataW H) → Nat
  | [] => 0
  | d :: r => uptoBulk d + uptoBulkAll r
def uptoBulkEntries {H : Type} : List (Lit × DataW H) → Nat
  | [] => 0
  | x :: r => uptoBulkEntry x + uptoBulkEntries r
def uptoBulkEntry {H : Type} : Lit × DataW H → Nat
  | (.string bytes, d) => bytes.length + uptoBulk d + 1
  | (_, d) => uptoBulk d + 1
 end
def uptoSmall : (H : Type) → List (DataW H) → Bool := fun _ ds => decide (uptoBulkAll ds ≤ 1048576)
def OpenSpec.upto (s : _root_.Go.ChangeSpec) : _root_.Go.OpenSpec := { _root_.Go.OpenSpec.ofChange s with cond := some uptoSmall }

/-- 'casketlaw15.PlanQueue', WHERE WHAT IT READS IS OF BULK AT MOST 1048576: true; the input reads as it did. -/
def planQueueUptoRow : OpenClaim := { program := "ytfnklhajafmooaagreatdoor", sum := "2e0ca9b43584c17aac275959d304158eb0fcf0542fcd8aecee82156ee82dec98", func := "casket/casketlaw15.PlanQueue", spec := "planQueue", inPlace := ["internal/bytealg.CountString", "internal/bytealg.IndexByteString", "internal/bytealg.IndexString"], unfollowed := true, recurses := true, named := ["casket/index.rowSizes", "unicode/utf8.first", "unicode/utf8.acceptRanges", "internal/bytealg.MaxLen"], apart := false, laid := [("unicode/utf8.acceptRanges", laid_unicode_utf8_acceptRanges), ("casket/index.rowSizes", laid_casket_index_rowSizes), ("unicode/utf8.first", laid_unicode_utf8_first)], narrowed := true }
def PlanQueueUptoSaid : Prop := planQueueUptoRow.holds Tryz.pinned (OpenSpec.upto planQueueSpec)

/-- 'casketlaw15.PlanShape', WHERE WHAT IT READS IS OF BULK AT MOST 1048576: true; the input reads as it did. -/
def planShapeUptoRow : OpenClaim := { program := "ytfnklhajafmooaagreatdoor", sum := "2e0ca9b43584c17aac275959d304158eb0fcf0542fcd8aecee82156ee82dec98", func := "casket/casketlaw15.PlanShape", spec := "planShape", inPlace := ["internal/bytealg.CountString", "internal/bytealg.IndexByteString", "internal/bytealg.IndexString"], unfollowed := true, recurses := true, named := ["casket/index.rowSizes", "unicode/utf8.first", "unicode/utf8.acceptRanges", "internal/bytealg.MaxLen"], apart := false, laid := [("unicode/utf8.acceptRanges", laid_unicode_utf8_acceptRanges), ("casket/index.rowSizes", laid_casket_index_rowSizes), ("unicode/utf8.first", laid_unicode_utf8_first)], narrowed := true }
def PlanShapeUptoSaid : Prop := planShapeUptoRow.holds Tryz.pinned (OpenSpec.upto planShapeSpec)

/-- 'casketlaw15.PlanBlind', WHERE WHAT IT READS IS OF BULK AT MOST 1048576: true; the input reads as it did. -/
def planBlindUptoRow : OpenClaim := { program := "ytfnklhajafmooaagreatdoor", sum := "2e0ca9b43584c17aac275959d304158eb0fcf0542fcd8aecee82156ee82dec98", func := "casket/casketlaw15.PlanBlind", spec := "planBlind", inPlace := ["internal/bytealg.CountString", "internal/bytealg.IndexByteString", "internal/bytealg.IndexString"], unfollowed := true, recurses := true, named := ["casket/index.rowSizes", "unicode/utf8.first", "unicode/utf8.acceptRanges", "internal/bytealg.MaxLen"], apart := false, laid := [("unicode/utf8.acceptRanges", laid_unicode_utf8_acceptRanges), ("casket/index.rowSizes", laid_casket_index_rowSizes), ("unicode/utf8.first", laid_unicode_utf8_first)], narrowed := true }
def PlanBlindUptoSaid : Prop := planBlindUptoRow.holds Tryz.pinned (OpenSpec.upto planBlindSpec)

/-- 'casketlaw15.PlanSteps', WHERE WHAT IT READS IS OF BULK AT MOST 1048576: true; the input reads as it did. -/
def planStepsUptoRow : OpenClaim := { program := "ytfnklhajafmooaagreatdoor", sum := "2e0ca9b43584c17aac275959d304158eb0fcf0542fcd8aecee82156ee82dec98", func := "casket/casketlaw15.PlanSteps", spec := "planSteps", inPlace := ["internal/bytealg.CountString", "internal/bytealg.IndexByteString", "internal/bytealg.IndexString", "maps.clone"], unfollowed := true, recurses := true, named := ["casket/index.rowSizes", "unicode/utf8.first", "unicode/utf8.acceptRanges", "internal/bytealg.MaxLen"], apart := false, laid := [("unicode/utf8.acceptRanges", laid_unicode_utf8_acceptRanges), ("casket/index.rowSizes", laid_casket_index_rowSizes), ("unicode/utf8.first", laid_unicode_utf8_first)], narrowed := true }
def PlanStepsUptoSaid : Prop := planStepsUptoRow.holds Tryz.pinned (OpenSpec.upto planStepsSpec)

end Rows
end Go.Proofs.YtfnklhajafmooaaGreatDoor
