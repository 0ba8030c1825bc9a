/-
  NARROWER THAN 'FOR EVERY INPUT', by the rows' own cells (each row's printed sentence says how): PolyPieces: laid · PolyClamps: laid · PolyKnown: laid · PolyAdds: laid · PolyOne: laid.
  DERIVED. THE GIVEN ROWS OF THIS SEAT. 5 by the template 'for every input the law returns true; each argument reads behind the call as it read before'; 0 by the template 'total and deterministic' (their statements: YtggfeppphhigdaaDoorTotals.lean).
  GIVEN WITH THE SEED: the statements are not yours to turn. If you find one false, say at which input.
  Laid BY PROGRAM, IN A SANDBOX (cutbox-rows.mjs): the forced cells as the released guide's own fill.sh prints them over the translation 4ca7099a60d0c780… (all of the seat's roots in one cut). By AI agents, Wed Nov 11 2026. No macro, syntax, notation, axiom, sorry.
-/
import Derived.Test.YtggfeppphhigdaaDoorChecked
import GoSem.Claim
import GoSem.ClaimJoined
import GoSem.ClaimMapViews
import Derived.JoinedTies
import Derived.KernelRfl
namespace Go.Proofs.YtggfeppphhigdaaDoor
/- THE CELL 'sum', in the pinned program and in every row, IS THE sha256 OF THE DUMP (.gsa) THAT YtggfeppphhigdaaDoorProg.lean LOADS. Nothing in Lean hashes anything: it is a label: what it is worth is what the hold of that sum in a sandbox is worth. -/
noncomputable def Tryd.pinned : Pinned := { name := "ytggfeppphhigdaadoor", sum := "4ca7099a60d0c780496ffc3665adf62845614f577d31eaaebb03d0ab864aff8a", checked := Tryd.checked }
namespace Rows
def none {H : Type} : Left H := { results := [], args := [] }

/- WHAT THE LISTED PACKAGE-LEVEL VARIABLES READ AS WHEN THE CALL BEGINS. Each datum BY PROGRAM (the guide's laid-datum.mjs) off the statement by which the dump's own 'gosem.cut.vars' lays the variable. In a bare row this is a premise. The card (YtggfeppphhigdaaDoorCards.lean) ties it to the program's text. -/
def laid_casket_poly_kept {H : Type} : DataW H := .agg [.lit (.int .u8 255), .lit (.int .u8 255), .lit (.int .u8 255), .lit (.int .u8 15), .lit (.int .u8 252), .lit (.int .u8 255), .lit (.int .u8 255), .lit (.int .u8 15), .lit (.int .u8 252), .lit (.int .u8 255), .lit (.int .u8 255), .lit (.int .u8 15), .lit (.int .u8 252), .lit (.int .u8 255), .lit (.int .u8 255), .lit (.int .u8 15)]

/-- 'casketlaw5.PolyPieces': WHATEVER THE INPUT: true; the input reads as it did. -/
def polyPiecesSpec : ChangeSpec := { name := "polyPieces", fn := fun _ => fun
  | [d1, d2, d3] => { results := [.lit (.bool true)], args := [d1, d2, d3] }
  | _ => none }
def polyPiecesRow : OpenClaim := { program := "ytggfeppphhigdaadoor", sum := "4ca7099a60d0c780496ffc3665adf62845614f577d31eaaebb03d0ab864aff8a", func := "casket/casketlaw5.PolyPieces", spec := "polyPieces", named := ["casket/poly.kept"], apart := false, laid := [("casket/poly.kept", laid_casket_poly_kept)] }
def PolyPiecesSaid : Prop := polyPiecesRow.holds Tryd.pinned (OpenSpec.ofChange polyPiecesSpec)

/-- ITS FALSE NEIGHBOUR: 'it returns false'. Refute it at one input. -/
def polyPiecesWrong : ChangeSpec := { name := "polyPieces", fn := fun _ => fun
  | [d1, d2, d3] => { results := [.lit (.bool false)], args := [d1, d2, d3] }
  | _ => none }
def PolyPiecesWrongFalsely : Prop := polyPiecesRow.holds Tryd.pinned (OpenSpec.ofChange polyPiecesWrong)

/-- 'casketlaw5.PolyClamps': WHATEVER THE INPUT: true; the input reads as it did. -/
def polyClampsSpec : ChangeSpec := { name := "polyClamps", fn := fun _ => fun
  | [d1, d2, d3] => { results := [.lit (.bool true)], args := [d1, d2, d3] }
  | _ => none }
def polyClampsRow : OpenClaim := { program := "ytggfeppphhigdaadoor", sum := "4ca7099a60d0c780496ffc3665adf62845614f577d31eaaebb03d0ab864aff8a", func := "casket/casketlaw5.PolyClamps", spec := "polyClamps", named := ["casket/poly.kept"], apart := false, laid := [("casket/poly.kept", laid_casket_poly_kept)] }
def PolyClampsSaid : Prop := polyClampsRow.holds Tryd.pinned (OpenSpec.ofChange polyClampsSpec)

/-- ITS FALSE NEIGHBOUR: 'it returns false'. Refute it at one input. -/
def polyClampsWrong : ChangeSpec := { name := "polyClamps", fn := fun _ => fun
  | [d1, d2, d3] => { results := [.lit (.bool false)], args := [d1, d2, d3] }
  | _ => none }
def PolyClampsWrongFalsely : Prop := polyClampsRow.holds Tryd.pinned (OpenSpec.ofChange polyClampsWrong)

/-- 'casketlaw5.PolyKnown': WHATEVER THE INPUT: true; the input reads as it did. -/
def polyKnownSpec : ChangeSpec := { name := "polyKnown", fn := fun _ => fun
  | [] => { results := [.lit (.bool true)], args := [] }
  | _ => none }
def polyKnownRow : OpenClaim := { program := "ytggfeppphhigdaadoor", sum := "4ca7099a60d0c780496ffc3665adf62845614f577d31eaaebb03d0ab864aff8a", func := "casket/casketlaw5.PolyKnown", spec := "polyKnown", named := ["casket/poly.kept"], apart := false, laid := [("casket/poly.kept", laid_casket_poly_kept)] }
def PolyKnownSaid : Prop := polyKnownRow.holds Tryd.pinned (OpenSpec.ofChange polyKnownSpec)

/-- ITS FALSE NEIGHBOUR: 'it returns false'. Refute it at one input. -/
def polyKnownWrong : ChangeSpec := { name := "polyKnown", fn := fun _ => fun
  | [] => { results := [.lit (.bool false)], args := [] }
  | _ => none }
def PolyKnownWrongFalsely : Prop := polyKnownRow.holds Tryd.pinned (OpenSpec.ofChange polyKnownWrong)

/-- 'casketlaw5.PolyAdds': WHATEVER THE INPUT: true; the input reads as it did. -/
def polyAddsSpec : ChangeSpec := { name := "polyAdds", fn := fun _ => fun
  | [d1, d2] => { results := [.lit (.bool true)], args := [d1, d2] }
  | _ => none }
def polyAddsRow : OpenClaim := { program := "ytggfeppphhigdaadoor", sum := "4ca7099a60d0c780496ffc3665adf62845614f577d31eaaebb03d0ab864aff8a", func := "casket/casketlaw5.PolyAdds", spec := "polyAdds", named := ["casket/poly.kept"], apart := false, laid := [("casket/poly.kept", laid_casket_poly_kept)] }
def PolyAddsSaid : Prop := polyAddsRow.holds Tryd.pinned (OpenSpec.ofChange polyAddsSpec)

/-- ITS FALSE NEIGHBOUR: 'it returns false'. Refute it at one input. -/
def polyAddsWrong : ChangeSpec := { name := "polyAdds", fn := fun _ => fun
  | [d1, d2] => { results := [.lit (.bool false)], args := [d1, d2] }
  | _ => none }
def PolyAddsWrongFalsely : Prop := polyAddsRow.holds Tryd.pinned (OpenSpec.ofChange polyAddsWrong)

/-- 'casketlaw5.PolyOne': WHATEVER THE INPUT: true; the input reads as it did. -/
def polyOneSpec : ChangeSpec := { name := "polyOne", fn := fun _ => fun
  | [d1, d2] => { results := [.lit (.bool true)], args := [d1, d2] }
  | _ => none }
def polyOneRow : OpenClaim := { program := "ytggfeppphhigdaadoor", sum := "4ca7099a60d0c780496ffc3665adf62845614f577d31eaaebb03d0ab864aff8a", func := "casket/casketlaw5.PolyOne", spec := "polyOne", named := ["casket/poly.kept"], apart := false, laid := [("casket/poly.kept", laid_casket_poly_kept)] }
def PolyOneSaid : Prop := polyOneRow.holds Tryd.pinned (OpenSpec.ofChange polyOneSpec)

/-- ITS FALSE NEIGHBOUR: 'it returns false'. Refute it at one input. -/
def polyOneWrong : ChangeSpec := { name := "polyOne", fn := fun _ => fun
  | [d1, d2] => { results := [.lit (.bool false)], args := [d1, d2] }
  | _ => none }
def PolyOneWrongFalsely : Prop := polyOneRow.holds Tryd.pinned (OpenSpec.ofChange polyOneWrong)

/- THE SECOND FORM. 'bulk': how many values and letters a reading holds, each counted each time it is reached (what is shared counts as often as it is met; a slice's spare places count too). A statement '..UptoSaid' is the law's where the arguments, and the package variables that the reading takes, are together of bulk at most 1048576: NARROWER than '..Said'. Prove '..Said' where nothing that the law and all that it calls make is longer than what came in: it says more and counts as full. Else prove '..UptoSaid'. A law counts once. -/
mutual
def uptoBulk {H : Type} : DataW H → Nat
  | .lit (.string bytes) => bytes.length + 1
  | .lit _ => 1
  | .nil => 1
  | .ptr d => uptoBulk d + 1
  | .slice elems spare => uptoBulkAll elems + uptoBulkAll spare + 1
  | .agg parts => uptoBulkAll parts + 1
  | .iface _ d => uptoBulk d + 1
  | .map entries => uptoBulkEntries entries + 1
  | .held _ => 1
def uptoBulkAll {H : Type} : List (DataW H) → Nat
  | [] => 0
  | d :: r => uptoBulk d + uptoBulkAll r
def uptoBulkEntries {H : Type} : List (Lit × DataW H) → Nat
  | [] => 0
  | x :: r => uptoBulkEntry x + uptoBulkEntries r
def uptoBulkEntry {H : Type} : Lit × DataW H → Nat
  | (.string bytes, d) => bytes.length + uptoBulk d + 1
  | (_, d) => uptoBulk d + 1
 end
def uptoSmall : (H : Type) → List (DataW H) → Bool := fun _ ds => decide (uptoBulkAll ds ≤ 1048576)
def OpenSpec.upto (s : _root_.Go.ChangeSpec) : _root_.Go.OpenSpec := { _root_.Go.OpenSpec.ofChange s with cond := some uptoSmall }

/-- 'casketlaw5.PolyPieces', WHERE WHAT IT READS IS OF BULK AT MOST 1048576: true; the input reads as it did. -/
def polyPiecesUptoRow : OpenClaim := { program := "ytggfeppphhigdaadoor", sum := "4ca7099a60d0c780496ffc3665adf62845614f577d31eaaebb03d0ab864aff8a", func := "casket/casketlaw5.PolyPieces", spec := "polyPieces", named := ["casket/poly.kept"], apart := false, laid := [("casket/poly.kept", laid_casket_poly_kept)], narrowed := true }
def PolyPiecesUptoSaid : Prop := polyPiecesUptoRow.holds Tryd.pinned (OpenSpec.upto polyPiecesSpec)

/-- 'casketlaw5.PolyClamps', WHERE WHAT IT READS IS OF BULK AT MOST 1048576: true; the input reads as it did. -/
def polyClampsUptoRow : OpenClaim := { program := "ytggfeppphhigdaadoor", sum := "4ca7099a60d0c780496ffc3665adf62845614f577d31eaaebb03d0ab864aff8a", func := "casket/casketlaw5.PolyClamps", spec := "polyClamps", named := ["casket/poly.kept"], apart := false, laid := [("casket/poly.kept", laid_casket_poly_kept)], narrowed := true }
def PolyClampsUptoSaid : Prop := polyClampsUptoRow.holds Tryd.pinned (OpenSpec.upto polyClampsSpec)

/-- 'casketlaw5.PolyKnown', WHERE WHAT IT READS IS OF BULK AT MOST 1048576: true; the input reads as it did. -/
def polyKnownUptoRow : OpenClaim := { program := "ytggfeppphhigdaadoor", sum := "4ca7099a60d0c780496ffc3665adf62845614f577d31eaaebb03d0ab864aff8a", func := "casket/casketlaw5.PolyKnown", spec := "polyKnown", named := ["casket/poly.kept"], apart := false, laid := [("casket/poly.kept", laid_casket_poly_kept)], narrowed := true }
def PolyKnownUptoSaid : Prop := polyKnownUptoRow.holds Tryd.pinned (OpenSpec.upto polyKnownSpec)

/-- 'casketlaw5.PolyAdds', WHERE WHAT IT READS IS OF BULK AT MOST 1048576: true; the input reads as it did. -/
def polyAddsUptoRow : OpenClaim := { program := "ytggfeppphhigdaadoor", sum := "4ca7099a60d0c780496ffc3665adf62845614f577d31eaaebb03d0ab864aff8a", func := "casket/casketlaw5.PolyAdds", spec := "polyAdds", named := ["casket/poly.kept"], apart := false, laid := [("casket/poly.kept", laid_casket_poly_kept)], narrowed := true }
def PolyAddsUptoSaid : Prop := polyAddsUptoRow.holds Tryd.pinned (OpenSpec.upto polyAddsSpec)

/-- 'casketlaw5.PolyOne', WHERE WHAT IT READS IS OF BULK AT MOST 1048576: true; the input reads as it did. -/
def polyOneUptoRow : OpenClaim := { program := "ytggfeppphhigdaadoor", sum := "4ca7099a60d0c780496ffc3665adf62845614f577d31eaaebb03d0ab864aff8a", func := "casket/casketlaw5.PolyOne", spec := "polyOne", named := ["casket/poly.kept"], apart := false, laid := [("casket/poly.kept", laid_casket_poly_kept)], narrowed := true }
def PolyOneUptoSaid : Prop := polyOneUptoRow.holds Tryd.pinned (OpenSpec.upto polyOneSpec)

end Rows
end Go.Proofs.YtggfeppphhigdaaDoor
