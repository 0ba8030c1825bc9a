/-
  NARROWER THAN 'FOR EVERY INPUT', by the rows' own cells (each row's printed sentence says how): ChachaBack: laid · ChachaBlocks: laid · ChachaXors: laid · ChachaLongs: laid.
  DERIVED. THE GIVEN ROWS OF THIS SEAT. 4 by the template 'for every input the law returns true; each argument reads behind the call as it read before'; 0 by the template 'total and deterministic' (their statements: YtjcmpfnndjlpkabDoorTotals.lean).
  GIVEN WITH THE SEED: the statements are not yours to turn. If you find one false, say at which input.
  Laid BY PROGRAM, IN A SANDBOX (cutbox-rows.mjs): the forced cells as the released guide's own fill.sh prints them over the translation 1aa7e7ead7c5e66c… (all of the seat's roots in one cut). By AI agents, Wed Nov 11 2026. No macro, syntax, notation, axiom, sorry.
-/
import Derived.Test.YtjcmpfnndjlpkabDoorChecked
import GoSem.Claim
import GoSem.ClaimJoined
import GoSem.ClaimMapViews
import Derived.JoinedTies
import Derived.KernelRfl
namespace Go.Proofs.YtjcmpfnndjlpkabDoor
/- THE CELL 'sum', in the pinned program and in every row, IS THE sha256 OF THE DUMP (.gsa) THAT YtjcmpfnndjlpkabDoorProg.lean LOADS. Nothing in Lean hashes anything: it is a label: what it is worth is what the hold of that sum in a sandbox is worth. -/
noncomputable def Tryd.pinned : Pinned := { name := "ytjcmpfnndjlpkabdoor", sum := "1aa7e7ead7c5e66c93237beace34a1c97da435a3104c6b2b91664906b17320db", checked := Tryd.checked }
namespace Rows
def none {H : Type} : Left H := { results := [], args := [] }

/- WHAT THE LISTED PACKAGE-LEVEL VARIABLES READ AS WHEN THE CALL BEGINS. Each datum BY PROGRAM (the guide's laid-datum.mjs) off the statement by which the dump's own 'gosem.cut.vars' lays the variable. In a bare row this is a premise. The card (YtjcmpfnndjlpkabDoorCards.lean) ties it to the program's text. -/
def laid_casket_chacha_firstWords {H : Type} : DataW H := .agg [.lit (.int .u32 1634760805), .lit (.int .u32 857760878), .lit (.int .u32 2036477234), .lit (.int .u32 1797285236)]
def laid_casket_chacha_doubleRound {H : Type} : DataW H := .agg [.agg [.lit (.int .i64 0), .lit (.int .i64 4), .lit (.int .i64 8), .lit (.int .i64 12)], .agg [.lit (.int .i64 1), .lit (.int .i64 5), .lit (.int .i64 9), .lit (.int .i64 13)], .agg [.lit (.int .i64 2), .lit (.int .i64 6), .lit (.int .i64 10), .lit (.int .i64 14)], .agg [.lit (.int .i64 3), .lit (.int .i64 7), .lit (.int .i64 11), .lit (.int .i64 15)], .agg [.lit (.int .i64 0), .lit (.int .i64 5), .lit (.int .i64 10), .lit (.int .i64 15)], .agg [.lit (.int .i64 1), .lit (.int .i64 6), .lit (.int .i64 11), .lit (.int .i64 12)], .agg [.lit (.int .i64 2), .lit (.int .i64 7), .lit (.int .i64 8), .lit (.int .i64 13)], .agg [.lit (.int .i64 3), .lit (.int .i64 4), .lit (.int .i64 9), .lit (.int .i64 14)]]
def laid_casket_casketref4_places {H : Type} : DataW H := .agg [.lit (.int .i64 0), .lit (.int .i64 4), .lit (.int .i64 8), .lit (.int .i64 12), .lit (.int .i64 1), .lit (.int .i64 5), .lit (.int .i64 9), .lit (.int .i64 13), .lit (.int .i64 2), .lit (.int .i64 6), .lit (.int .i64 10), .lit (.int .i64 14), .lit (.int .i64 3), .lit (.int .i64 7), .lit (.int .i64 11), .lit (.int .i64 15), .lit (.int .i64 0), .lit (.int .i64 5), .lit (.int .i64 10), .lit (.int .i64 15), .lit (.int .i64 1), .lit (.int .i64 6), .lit (.int .i64 11), .lit (.int .i64 12), .lit (.int .i64 2), .lit (.int .i64 7), .lit (.int .i64 8), .lit (.int .i64 13), .lit (.int .i64 3), .lit (.int .i64 4), .lit (.int .i64 9), .lit (.int .i64 14)]

/-- 'casketlaw4.ChachaBack': WHATEVER THE INPUT: true; the input reads as it did. -/
def chachaBackSpec : ChangeSpec := { name := "chachaBack", fn := fun _ => fun
  | [d1, d2, d3, d4, d5] => { results := [.lit (.bool true)], args := [d1, d2, d3, d4, d5] }
  | _ => none }
def chachaBackRow : OpenClaim := { program := "ytjcmpfnndjlpkabdoor", sum := "1aa7e7ead7c5e66c93237beace34a1c97da435a3104c6b2b91664906b17320db", func := "casket/casketlaw4.ChachaBack", spec := "chachaBack", named := ["casket/chacha.firstWords", "casket/chacha.doubleRound"], apart := false, laid := [("casket/chacha.firstWords", laid_casket_chacha_firstWords), ("casket/chacha.doubleRound", laid_casket_chacha_doubleRound)] }
def ChachaBackSaid : Prop := chachaBackRow.holds Tryd.pinned (OpenSpec.ofChange chachaBackSpec)

/-- ITS FALSE NEIGHBOUR: 'it returns false'. Refute it at one input. -/
def chachaBackWrong : ChangeSpec := { name := "chachaBack", fn := fun _ => fun
  | [d1, d2, d3, d4, d5] => { results := [.lit (.bool false)], args := [d1, d2, d3, d4, d5] }
  | _ => none }
def ChachaBackWrongFalsely : Prop := chachaBackRow.holds Tryd.pinned (OpenSpec.ofChange chachaBackWrong)

/-- 'casketlaw4.ChachaBlocks': WHATEVER THE INPUT: true; the input reads as it did. -/
def chachaBlocksSpec : ChangeSpec := { name := "chachaBlocks", fn := fun _ => fun
  | [d1, d2, d3] => { results := [.lit (.bool true)], args := [d1, d2, d3] }
  | _ => none }
def chachaBlocksRow : OpenClaim := { program := "ytjcmpfnndjlpkabdoor", sum := "1aa7e7ead7c5e66c93237beace34a1c97da435a3104c6b2b91664906b17320db", func := "casket/casketlaw4.ChachaBlocks", spec := "chachaBlocks", named := ["casket/chacha.firstWords", "casket/chacha.doubleRound", "casket/casketref4.places"], apart := false, laid := [("casket/casketref4.places", laid_casket_casketref4_places), ("casket/chacha.firstWords", laid_casket_chacha_firstWords), ("casket/chacha.doubleRound", laid_casket_chacha_doubleRound)] }
def ChachaBlocksSaid : Prop := chachaBlocksRow.holds Tryd.pinned (OpenSpec.ofChange chachaBlocksSpec)

/-- ITS FALSE NEIGHBOUR: 'it returns false'. Refute it at one input. -/
def chachaBlocksWrong : ChangeSpec := { name := "chachaBlocks", fn := fun _ => fun
  | [d1, d2, d3] => { results := [.lit (.bool false)], args := [d1, d2, d3] }
  | _ => none }
def ChachaBlocksWrongFalsely : Prop := chachaBlocksRow.holds Tryd.pinned (OpenSpec.ofChange chachaBlocksWrong)

/-- 'casketlaw4.ChachaXors': WHATEVER THE INPUT: true; the input reads as it did. -/
def chachaXorsSpec : ChangeSpec := { name := "chachaXors", fn := fun _ => fun
  | [d1, d2, d3, d4] => { results := [.lit (.bool true)], args := [d1, d2, d3, d4] }
  | _ => none }
def chachaXorsRow : OpenClaim := { program := "ytjcmpfnndjlpkabdoor", sum := "1aa7e7ead7c5e66c93237beace34a1c97da435a3104c6b2b91664906b17320db", func := "casket/casketlaw4.ChachaXors", spec := "chachaXors", named := ["casket/chacha.firstWords", "casket/chacha.doubleRound", "casket/casketref4.places"], apart := false, laid := [("casket/casketref4.places", laid_casket_casketref4_places), ("casket/chacha.firstWords", laid_casket_chacha_firstWords), ("casket/chacha.doubleRound", laid_casket_chacha_doubleRound)] }
def ChachaXorsSaid : Prop := chachaXorsRow.holds Tryd.pinned (OpenSpec.ofChange chachaXorsSpec)

/-- ITS FALSE NEIGHBOUR: 'it returns false'. Refute it at one input. -/
def chachaXorsWrong : ChangeSpec := { name := "chachaXors", fn := fun _ => fun
  | [d1, d2, d3, d4] => { results := [.lit (.bool false)], args := [d1, d2, d3, d4] }
  | _ => none }
def ChachaXorsWrongFalsely : Prop := chachaXorsRow.holds Tryd.pinned (OpenSpec.ofChange chachaXorsWrong)

/-- 'casketlaw4.ChachaLongs': WHATEVER THE INPUT: true; the input reads as it did. -/
def chachaLongsSpec : ChangeSpec := { name := "chachaLongs", fn := fun _ => fun
  | [d1, d2, d3, d4] => { results := [.lit (.bool true)], args := [d1, d2, d3, d4] }
  | _ => none }
def chachaLongsRow : OpenClaim := { program := "ytjcmpfnndjlpkabdoor", sum := "1aa7e7ead7c5e66c93237beace34a1c97da435a3104c6b2b91664906b17320db", func := "casket/casketlaw4.ChachaLongs", spec := "chachaLongs", named := ["casket/chacha.firstWords", "casket/chacha.doubleRound", "casket/casketref4.places"], apart := false, laid := [("casket/casketref4.places", laid_casket_casketref4_places), ("casket/chacha.firstWords", laid_casket_chacha_firstWords), ("casket/chacha.doubleRound", laid_casket_chacha_doubleRound)] }
def ChachaLongsSaid : Prop := chachaLongsRow.holds Tryd.pinned (OpenSpec.ofChange chachaLongsSpec)

/-- ITS FALSE NEIGHBOUR: 'it returns false'. Refute it at one input. -/
def chachaLongsWrong : ChangeSpec := { name := "chachaLongs", fn := fun _ => fun
  | [d1, d2, d3, d4] => { results := [.lit (.bool false)], args := [d1, d2, d3, d4] }
  | _ => none }
def ChachaLongsWrongFalsely : Prop := chachaLongsRow.holds Tryd.pinned (OpenSpec.ofChange chachaLongsWrong)

/- THE SECOND FORM. 'bulk': how many values and letters a reading holds, each counted each time it is reached (what is shared counts as often as it is met; a slice's spare places count too). A statement '..UptoSaid' is the law's where the arguments, and the package variables that the reading takes, are together of bulk at most 1048576: NARROWER than '..Said'. Prove '..Said' where nothing that the law and all that it calls make is longer than what came in: it says more and counts as full. Else prove '..UptoSaid'. A law counts once. -/
mutual
def uptoBulk {H : Type} : DataW H → Nat
  | .lit (.string bytes) => bytes.length + 1
  | .lit _ => 1
  | .nil => 1
  | .ptr d => uptoBulk d + 1
  | .slice elems spare => uptoBulkAll elems + uptoBulkAll spare + 1
  | .agg parts => uptoBulkAll parts + 1
  | .iface _ d => uptoBulk d + 1
  | .map entries => uptoBulkEntries entries + 1
  | .held _ => 1
def uptoBulkAll {H : Type} : List (DataW H) → Nat
  | [] => 0
  | d :: r => uptoBulk d + uptoBulkAll r
def uptoBulkEntries {H : Type} : List (Lit × DataW H) → Nat
  | [] => 0
  | x :: r => uptoBulkEntry x + uptoBulkEntries r
def uptoBulkEntry {H : Type} : Lit × DataW H → Nat
  | (.string bytes, d) => bytes.length + uptoBulk d + 1
  | (_, d) => uptoBulk d + 1
 end
def uptoSmall : (H : Type) → List (DataW H) → Bool := fun _ ds => decide (uptoBulkAll ds ≤ 1048576)
def OpenSpec.upto (s : _root_.Go.ChangeSpec) : _root_.Go.OpenSpec := { _root_.Go.OpenSpec.ofChange s with cond := some uptoSmall }

/-- 'casketlaw4.ChachaBack', WHERE WHAT IT READS IS OF BULK AT MOST 1048576: true; the input reads as it did. -/
def chachaBackUptoRow : OpenClaim := { program := "ytjcmpfnndjlpkabdoor", sum := "1aa7e7ead7c5e66c93237beace34a1c97da435a3104c6b2b91664906b17320db", func := "casket/casketlaw4.ChachaBack", spec := "chachaBack", named := ["casket/chacha.firstWords", "casket/chacha.doubleRound"], apart := false, laid := [("casket/chacha.firstWords", laid_casket_chacha_firstWords), ("casket/chacha.doubleRound", laid_casket_chacha_doubleRound)], narrowed := true }
def ChachaBackUptoSaid : Prop := chachaBackUptoRow.holds Tryd.pinned (OpenSpec.upto chachaBackSpec)

/-- 'casketlaw4.ChachaBlocks', WHERE WHAT IT READS IS OF BULK AT MOST 1048576: true; the input reads as it did. -/
def chachaBlocksUptoRow : OpenClaim := { program := "ytjcmpfnndjlpkabdoor", sum := "1aa7e7ead7c5e66c93237beace34a1c97da435a3104c6b2b91664906b17320db", func := "casket/casketlaw4.ChachaBlocks", spec := "chachaBlocks", named := ["casket/chacha.firstWords", "casket/chacha.doubleRound", "casket/casketref4.places"], apart := false, laid := [("casket/casketref4.places", laid_casket_casketref4_places), ("casket/chacha.firstWords", laid_casket_chacha_firstWords), ("casket/chacha.doubleRound", laid_casket_chacha_doubleRound)], narrowed := true }
def ChachaBlocksUptoSaid : Prop := chachaBlocksUptoRow.holds Tryd.pinned (OpenSpec.upto chachaBlocksSpec)

/-- 'casketlaw4.ChachaXors', WHERE WHAT IT READS IS OF BULK AT MOST 1048576: true; the input reads as it did. -/
def chachaXorsUptoRow : OpenClaim := { program := "ytjcmpfnndjlpkabdoor", sum := "1aa7e7ead7c5e66c93237beace34a1c97da435a3104c6b2b91664906b17320db", func := "casket/casketlaw4.ChachaXors", spec := "chachaXors", named := ["casket/chacha.firstWords", "casket/chacha.doubleRound", "casket/casketref4.places"], apart := false, laid := [("casket/casketref4.places", laid_casket_casketref4_places), ("casket/chacha.firstWords", laid_casket_chacha_firstWords), ("casket/chacha.doubleRound", laid_casket_chacha_doubleRound)], narrowed := true }
def ChachaXorsUptoSaid : Prop := chachaXorsUptoRow.holds Tryd.pinned (OpenSpec.upto chachaXorsSpec)

/-- 'casketlaw4.ChachaLongs', WHERE WHAT IT READS IS OF BULK AT MOST 1048576: true; the input reads as it did. -/
def chachaLongsUptoRow : OpenClaim := { program := "ytjcmpfnndjlpkabdoor", sum := "1aa7e7ead7c5e66c93237beace34a1c97da435a3104c6b2b91664906b17320db", func := "casket/casketlaw4.ChachaLongs", spec := "chachaLongs", named := ["casket/chacha.firstWords", "casket/chacha.doubleRound", "casket/casketref4.places"], apart := false, laid := [("casket/casketref4.places", laid_casket_casketref4_places), ("casket/chacha.firstWords", laid_casket_chacha_firstWords), ("casket/chacha.doubleRound", laid_casket_chacha_doubleRound)], narrowed := true }
def ChachaLongsUptoSaid : Prop := chachaLongsUptoRow.holds Tryd.pinned (OpenSpec.upto chachaLongsSpec)

end Rows
end Go.Proofs.YtjcmpfnndjlpkabDoor
