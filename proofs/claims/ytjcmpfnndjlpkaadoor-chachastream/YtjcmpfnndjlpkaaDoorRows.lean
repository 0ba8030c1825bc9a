/-
  NARROWER THAN 'FOR EVERY INPUT', by the rows' own cells (each row's printed sentence says how): ChachaKnown: laid · ChachaHashes: laid · ChachaLongIsShort: laid · ChachaEnds: laid · ChachaStream: laid.
  DERIVED. THE GIVEN ROWS OF THIS SEAT. 5 by the template 'for every input the law returns true; each argument reads behind the call as it read before'; 0 by the template 'total and deterministic' (their statements: YtjcmpfnndjlpkaaDoorTotals.lean).
  GIVEN WITH THE SEED: the statements are not yours to turn. If you find one false, say at which input.
  Laid BY PROGRAM, IN A SANDBOX (cutbox-rows.mjs): the forced cells as the released guide's own fill.sh prints them over the translation fffcf59b5f335cfd… (all of the seat's roots in one cut). By AI agents, Wed Nov 11 2026. No macro, syntax, notation, axiom, sorry.
-/
import Derived.Test.YtjcmpfnndjlpkaaDoorChecked
import GoSem.Claim
import GoSem.ClaimJoined
import GoSem.ClaimMapViews
import Derived.JoinedTies
import Derived.KernelRfl
namespace Go.Proofs.YtjcmpfnndjlpkaaDoor
/- THE CELL 'sum', in the pinned program and in every row, IS THE sha256 OF THE DUMP (.gsa) THAT YtjcmpfnndjlpkaaDoorProg.lean LOADS. Nothing in Lean hashes anything: it is a label: what it is worth is what the hold of that sum in a sandbox is worth. -/
noncomputable def Tryd.pinned : Pinned := { name := "ytjcmpfnndjlpkaadoor", sum := "fffcf59b5f335cfdf2a862373fa2b1f18bbb3c54b07f0605c3679d7c6ad14442", checked := Tryd.checked }
namespace Rows
def none {H : Type} : Left H := { results := [], args := [] }

/- WHAT THE LISTED PACKAGE-LEVEL VARIABLES READ AS WHEN THE CALL BEGINS. Each datum BY PROGRAM (the guide's laid-datum.mjs) off the statement by which the dump's own 'gosem.cut.vars' lays the variable. In a bare row this is a premise. The card (YtjcmpfnndjlpkaaDoorCards.lean) ties it to the program's text. -/
def laid_casket_chacha_firstWords {H : Type} : DataW H := .agg [.lit (.int .u32 1634760805), .lit (.int .u32 857760878), .lit (.int .u32 2036477234), .lit (.int .u32 1797285236)]
def laid_casket_chacha_doubleRound {H : Type} : DataW H := .agg [.agg [.lit (.int .i64 0), .lit (.int .i64 4), .lit (.int .i64 8), .lit (.int .i64 12)], .agg [.lit (.int .i64 1), .lit (.int .i64 5), .lit (.int .i64 9), .lit (.int .i64 13)], .agg [.lit (.int .i64 2), .lit (.int .i64 6), .lit (.int .i64 10), .lit (.int .i64 14)], .agg [.lit (.int .i64 3), .lit (.int .i64 7), .lit (.int .i64 11), .lit (.int .i64 15)], .agg [.lit (.int .i64 0), .lit (.int .i64 5), .lit (.int .i64 10), .lit (.int .i64 15)], .agg [.lit (.int .i64 1), .lit (.int .i64 6), .lit (.int .i64 11), .lit (.int .i64 12)], .agg [.lit (.int .i64 2), .lit (.int .i64 7), .lit (.int .i64 8), .lit (.int .i64 13)], .agg [.lit (.int .i64 3), .lit (.int .i64 4), .lit (.int .i64 9), .lit (.int .i64 14)]]
def laid_casket_casketref4_places {H : Type} : DataW H := .agg [.lit (.int .i64 0), .lit (.int .i64 4), .lit (.int .i64 8), .lit (.int .i64 12), .lit (.int .i64 1), .lit (.int .i64 5), .lit (.int .i64 9), .lit (.int .i64 13), .lit (.int .i64 2), .lit (.int .i64 6), .lit (.int .i64 10), .lit (.int .i64 14), .lit (.int .i64 3), .lit (.int .i64 7), .lit (.int .i64 11), .lit (.int .i64 15), .lit (.int .i64 0), .lit (.int .i64 5), .lit (.int .i64 10), .lit (.int .i64 15), .lit (.int .i64 1), .lit (.int .i64 6), .lit (.int .i64 11), .lit (.int .i64 12), .lit (.int .i64 2), .lit (.int .i64 7), .lit (.int .i64 8), .lit (.int .i64 13), .lit (.int .i64 3), .lit (.int .i64 4), .lit (.int .i64 9), .lit (.int .i64 14)]

/-- 'casketlaw4.ChachaKnown': WHATEVER THE INPUT: true; the input reads as it did. -/
def chachaKnownSpec : ChangeSpec := { name := "chachaKnown", fn := fun _ => fun
  | [] => { results := [.lit (.bool true)], args := [] }
  | _ => none }
def chachaKnownRow : OpenClaim := { program := "ytjcmpfnndjlpkaadoor", sum := "fffcf59b5f335cfdf2a862373fa2b1f18bbb3c54b07f0605c3679d7c6ad14442", func := "casket/casketlaw4.ChachaKnown", spec := "chachaKnown", named := ["casket/chacha.firstWords", "casket/chacha.doubleRound"], apart := false, laid := [("casket/chacha.firstWords", laid_casket_chacha_firstWords), ("casket/chacha.doubleRound", laid_casket_chacha_doubleRound)] }
def ChachaKnownSaid : Prop := chachaKnownRow.holds Tryd.pinned (OpenSpec.ofChange chachaKnownSpec)

/-- ITS FALSE NEIGHBOUR: 'it returns false'. Refute it at one input. -/
def chachaKnownWrong : ChangeSpec := { name := "chachaKnown", fn := fun _ => fun
  | [] => { results := [.lit (.bool false)], args := [] }
  | _ => none }
def ChachaKnownWrongFalsely : Prop := chachaKnownRow.holds Tryd.pinned (OpenSpec.ofChange chachaKnownWrong)

/-- 'casketlaw4.ChachaHashes': WHATEVER THE INPUT: true; the input reads as it did. -/
def chachaHashesSpec : ChangeSpec := { name := "chachaHashes", fn := fun _ => fun
  | [d1, d2] => { results := [.lit (.bool true)], args := [d1, d2] }
  | _ => none }
def chachaHashesRow : OpenClaim := { program := "ytjcmpfnndjlpkaadoor", sum := "fffcf59b5f335cfdf2a862373fa2b1f18bbb3c54b07f0605c3679d7c6ad14442", func := "casket/casketlaw4.ChachaHashes", spec := "chachaHashes", named := ["casket/chacha.firstWords", "casket/chacha.doubleRound", "casket/casketref4.places"], apart := false, laid := [("casket/casketref4.places", laid_casket_casketref4_places), ("casket/chacha.firstWords", laid_casket_chacha_firstWords), ("casket/chacha.doubleRound", laid_casket_chacha_doubleRound)] }
def ChachaHashesSaid : Prop := chachaHashesRow.holds Tryd.pinned (OpenSpec.ofChange chachaHashesSpec)

/-- ITS FALSE NEIGHBOUR: 'it returns false'. Refute it at one input. -/
def chachaHashesWrong : ChangeSpec := { name := "chachaHashes", fn := fun _ => fun
  | [d1, d2] => { results := [.lit (.bool false)], args := [d1, d2] }
  | _ => none }
def ChachaHashesWrongFalsely : Prop := chachaHashesRow.holds Tryd.pinned (OpenSpec.ofChange chachaHashesWrong)

/-- 'casketlaw4.ChachaLongIsShort': WHATEVER THE INPUT: true; the input reads as it did. -/
def chachaLongIsShortSpec : ChangeSpec := { name := "chachaLongIsShort", fn := fun _ => fun
  | [d1, d2, d3, d4] => { results := [.lit (.bool true)], args := [d1, d2, d3, d4] }
  | _ => none }
def chachaLongIsShortRow : OpenClaim := { program := "ytjcmpfnndjlpkaadoor", sum := "fffcf59b5f335cfdf2a862373fa2b1f18bbb3c54b07f0605c3679d7c6ad14442", func := "casket/casketlaw4.ChachaLongIsShort", spec := "chachaLongIsShort", named := ["casket/chacha.firstWords", "casket/chacha.doubleRound"], apart := false, laid := [("casket/chacha.firstWords", laid_casket_chacha_firstWords), ("casket/chacha.doubleRound", laid_casket_chacha_doubleRound)] }
def ChachaLongIsShortSaid : Prop := chachaLongIsShortRow.holds Tryd.pinned (OpenSpec.ofChange chachaLongIsShortSpec)

/-- ITS FALSE NEIGHBOUR: 'it returns false'. Refute it at one input. -/
def chachaLongIsShortWrong : ChangeSpec := { name := "chachaLongIsShort", fn := fun _ => fun
  | [d1, d2, d3, d4] => { results := [.lit (.bool false)], args := [d1, d2, d3, d4] }
  | _ => none }
def ChachaLongIsShortWrongFalsely : Prop := chachaLongIsShortRow.holds Tryd.pinned (OpenSpec.ofChange chachaLongIsShortWrong)

/-- 'casketlaw4.ChachaEnds': WHATEVER THE INPUT: true; the input reads as it did. -/
def chachaEndsSpec : ChangeSpec := { name := "chachaEnds", fn := fun _ => fun
  | [d1, d2, d3] => { results := [.lit (.bool true)], args := [d1, d2, d3] }
  | _ => none }
def chachaEndsRow : OpenClaim := { program := "ytjcmpfnndjlpkaadoor", sum := "fffcf59b5f335cfdf2a862373fa2b1f18bbb3c54b07f0605c3679d7c6ad14442", func := "casket/casketlaw4.ChachaEnds", spec := "chachaEnds", named := ["casket/chacha.firstWords", "casket/chacha.doubleRound"], apart := false, laid := [("casket/chacha.firstWords", laid_casket_chacha_firstWords), ("casket/chacha.doubleRound", laid_casket_chacha_doubleRound)] }
def ChachaEndsSaid : Prop := chachaEndsRow.holds Tryd.pinned (OpenSpec.ofChange chachaEndsSpec)

/-- ITS FALSE NEIGHBOUR: 'it returns false'. Refute it at one input. -/
def chachaEndsWrong : ChangeSpec := { name := "chachaEnds", fn := fun _ => fun
  | [d1, d2, d3] => { results := [.lit (.bool false)], args := [d1, d2, d3] }
  | _ => none }
def ChachaEndsWrongFalsely : Prop := chachaEndsRow.holds Tryd.pinned (OpenSpec.ofChange chachaEndsWrong)

/-- 'casketlaw4.ChachaStream': WHATEVER THE INPUT: true; the input reads as it did. -/
def chachaStreamSpec : ChangeSpec := { name := "chachaStream", fn := fun _ => fun
  | [d1, d2, d3, d4] => { results := [.lit (.bool true)], args := [d1, d2, d3, d4] }
  | _ => none }
def chachaStreamRow : OpenClaim := { program := "ytjcmpfnndjlpkaadoor", sum := "fffcf59b5f335cfdf2a862373fa2b1f18bbb3c54b07f0605c3679d7c6ad14442", func := "casket/casketlaw4.ChachaStream", spec := "chachaStream", named := ["casket/chacha.firstWords", "casket/chacha.doubleRound"], apart := false, laid := [("casket/chacha.firstWords", laid_casket_chacha_firstWords), ("casket/chacha.doubleRound", laid_casket_chacha_doubleRound)] }
def ChachaStreamSaid : Prop := chachaStreamRow.holds Tryd.pinned (OpenSpec.ofChange chachaStreamSpec)

/-- ITS FALSE NEIGHBOUR: 'it returns false'. Refute it at one input. -/
def chachaStreamWrong : ChangeSpec := { name := "chachaStream", fn := fun _ => fun
  | [d1, d2, d3, d4] => { results := [.lit (.bool false)], args := [d1, d2, d3, d4] }
  | _ => none }
def ChachaStreamWrongFalsely : Prop := chachaStreamRow.holds Tryd.pinned (OpenSpec.ofChange chachaStreamWrong)

/- THE SECOND FORM. 'bulk': how many values and letters a reading holds, each counted each time it is reached (what is shared counts as often as it is met; a slice's spare places count too). A statement '..UptoSaid' is the law's where the arguments, and the package variables that the reading takes, are together of bulk at most 1048576: NARROWER than '..Said'. Prove '..Said' where nothing that the law and all that it calls make is longer than what came in: it says more and counts as full. Else prove '..UptoSaid'. A law counts once. -/
mutual
def uptoBulk {H : Type} : DataW H → Nat
  | .lit (.string bytes) => bytes.length + 1
  | .lit _ => 1
  | .nil => 1
  | .ptr d => uptoBulk d + 1
  | .slice elems spare => uptoBulkAll elems + uptoBulkAll spare + 1
  | .agg parts => uptoBulkAll parts + 1
  | .iface _ d => uptoBulk d + 1
  | .map entries => uptoBulkEntries entries + 1
  | .held _ => 1
def uptoBulkAll {H : Type} : List (DataW H) → Nat
  | [] => 0
  | d :: r => uptoBulk d + uptoBulkAll r
def uptoBulkEntries {H : Type} : List (Lit × DataW H) → Nat
  | [] => 0
  | x :: r => uptoBulkEntry x + uptoBulkEntries r
def uptoBulkEntry {H : Type} : Lit × DataW H → Nat
  | (.string bytes, d) => bytes.length + uptoBulk d + 1
  | (_, d) => uptoBulk d + 1
 end
def uptoSmall : (H : Type) → List (DataW H) → Bool := fun _ ds => decide (uptoBulkAll ds ≤ 1048576)
def OpenSpec.upto (s : _root_.Go.ChangeSpec) : _root_.Go.OpenSpec := { _root_.Go.OpenSpec.ofChange s with cond := some uptoSmall }

/-- 'casketlaw4.ChachaKnown', WHERE WHAT IT READS IS OF BULK AT MOST 1048576: true; the input reads as it did. -/
def chachaKnownUptoRow : OpenClaim := { program := "ytjcmpfnndjlpkaadoor", sum := "fffcf59b5f335cfdf2a862373fa2b1f18bbb3c54b07f0605c3679d7c6ad14442", func := "casket/casketlaw4.ChachaKnown", spec := "chachaKnown", named := ["casket/chacha.firstWords", "casket/chacha.doubleRound"], apart := false, laid := [("casket/chacha.firstWords", laid_casket_chacha_firstWords), ("casket/chacha.doubleRound", laid_casket_chacha_doubleRound)], narrowed := true }
def ChachaKnownUptoSaid : Prop := chachaKnownUptoRow.holds Tryd.pinned (OpenSpec.upto chachaKnownSpec)

/-- 'casketlaw4.ChachaHashes', WHERE WHAT IT READS IS OF BULK AT MOST 1048576: true; the input reads as it did. -/
def chachaHashesUptoRow : OpenClaim := { program := "ytjcmpfnndjlpkaadoor", sum := "fffcf59b5f335cfdf2a862373fa2b1f18bbb3c54b07f0605c3679d7c6ad14442", func := "casket/casketlaw4.ChachaHashes", spec := "chachaHashes", named := ["casket/chacha.firstWords", "casket/chacha.doubleRound", "casket/casketref4.places"], apart := false, laid := [("casket/casketref4.places", laid_casket_casketref4_places), ("casket/chacha.firstWords", laid_casket_chacha_firstWords), ("casket/chacha.doubleRound", laid_casket_chacha_doubleRound)], narrowed := true }
def ChachaHashesUptoSaid : Prop := chachaHashesUptoRow.holds Tryd.pinned (OpenSpec.upto chachaHashesSpec)

/-- 'casketlaw4.ChachaLongIsShort', WHERE WHAT IT READS IS OF BULK AT MOST 1048576: true; the input reads as it did. -/
def chachaLongIsShortUptoRow : OpenClaim := { program := "ytjcmpfnndjlpkaadoor", sum := "fffcf59b5f335cfdf2a862373fa2b1f18bbb3c54b07f0605c3679d7c6ad14442", func := "casket/casketlaw4.ChachaLongIsShort", spec := "chachaLongIsShort", named := ["casket/chacha.firstWords", "casket/chacha.doubleRound"], apart := false, laid := [("casket/chacha.firstWords", laid_casket_chacha_firstWords), ("casket/chacha.doubleRound", laid_casket_chacha_doubleRound)], narrowed := true }
def ChachaLongIsShortUptoSaid : Prop := chachaLongIsShortUptoRow.holds Tryd.pinned (OpenSpec.upto chachaLongIsShortSpec)

/-- 'casketlaw4.ChachaEnds', WHERE WHAT IT READS IS OF BULK AT MOST 1048576: true; the input reads as it did. -/
def chachaEndsUptoRow : OpenClaim := { program := "ytjcmpfnndjlpkaadoor", sum := "fffcf59b5f335cfdf2a862373fa2b1f18bbb3c54b07f0605c3679d7c6ad14442", func := "casket/casketlaw4.ChachaEnds", spec := "chachaEnds", named := ["casket/chacha.firstWords", "casket/chacha.doubleRound"], apart := false, laid := [("casket/chacha.firstWords", laid_casket_chacha_firstWords), ("casket/chacha.doubleRound", laid_casket_chacha_doubleRound)], narrowed := true }
def ChachaEndsUptoSaid : Prop := chachaEndsUptoRow.holds Tryd.pinned (OpenSpec.upto chachaEndsSpec)

/-- 'casketlaw4.ChachaStream', WHERE WHAT IT READS IS OF BULK AT MOST 1048576: true; the input reads as it did. -/
def chachaStreamUptoRow : OpenClaim := { program := "ytjcmpfnndjlpkaadoor", sum := "fffcf59b5f335cfdf2a862373fa2b1f18bbb3c54b07f0605c3679d7c6ad14442", func := "casket/casketlaw4.ChachaStream", spec := "chachaStream", named := ["casket/chacha.firstWords", "casket/chacha.doubleRound"], apart := false, laid := [("casket/chacha.firstWords", laid_casket_chacha_firstWords), ("casket/chacha.doubleRound", laid_casket_chacha_doubleRound)], narrowed := true }
def ChachaStreamUptoSaid : Prop := chachaStreamUptoRow.holds Tryd.pinned (OpenSpec.upto chachaStreamSpec)

end Rows
end Go.Proofs.YtjcmpfnndjlpkaaDoor
