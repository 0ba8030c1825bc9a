/-
  NARROWER THAN 'FOR EVERY INPUT', by the rows' own cells (each row's printed sentence says how): AeadLong: laid · AeadKnown: laid · AeadBack: laid · AeadOnly: laid · AeadBuilt: laid · AeadSeals: laid.
  DERIVED. THE GIVEN ROWS OF THIS SEAT. 6 by the template 'for every input the law returns true; each argument reads behind the call as it read before'; 0 by the template 'total and deterministic' (their statements: YtebhmebldemndaaDoorTotals.lean).
  GIVEN WITH THE SEED: the statements are not yours to turn. If you find one false, say at which input.
  Laid BY PROGRAM, IN A SANDBOX (cutbox-rows.mjs): the forced cells as the released guide's own fill.sh prints them over the translation 372f5669cd3d43c6… (all of the seat's roots in one cut). By AI agents, Wed Nov 11 2026. No macro, syntax, notation, axiom, sorry.
-/
import Derived.Test.YtebhmebldemndaaDoorChecked
import GoSem.Claim
import GoSem.ClaimJoined
import GoSem.ClaimMapViews
import Derived.JoinedTies
import Derived.KernelRfl
namespace Go.Proofs.YtebhmebldemndaaDoor
/- THE CELL 'sum', in the pinned program and in every row, IS THE sha256 OF THE DUMP (.gsa) THAT YtebhmebldemndaaDoorProg.lean LOADS. Nothing in Lean hashes anything: it is a label: what it is worth is what the hold of that sum in a sandbox is worth. -/
noncomputable def Tryd.pinned : Pinned := { name := "ytebhmebldemndaadoor", sum := "372f5669cd3d43c674f57fe3da1a83a6d3fa5152bb543670ac4b76656ca81f7c", checked := Tryd.checked }
namespace Rows
def none {H : Type} : Left H := { results := [], args := [] }

/- WHAT THE LISTED PACKAGE-LEVEL VARIABLES READ AS WHEN THE CALL BEGINS. Each datum BY PROGRAM (the guide's laid-datum.mjs) off the statement by which the dump's own 'gosem.cut.vars' lays the variable. In a bare row this is a premise. The card (YtebhmebldemndaaDoorCards.lean) ties it to the program's text. -/
def laid_casket_poly_kept {H : Type} : DataW H := .agg [.lit (.int .u8 255), .lit (.int .u8 255), .lit (.int .u8 255), .lit (.int .u8 15), .lit (.int .u8 252), .lit (.int .u8 255), .lit (.int .u8 255), .lit (.int .u8 15), .lit (.int .u8 252), .lit (.int .u8 255), .lit (.int .u8 255), .lit (.int .u8 15), .lit (.int .u8 252), .lit (.int .u8 255), .lit (.int .u8 255), .lit (.int .u8 15)]
def laid_casket_chacha_firstWords {H : Type} : DataW H := .agg [.lit (.int .u32 1634760805), .lit (.int .u32 857760878), .lit (.int .u32 2036477234), .lit (.int .u32 1797285236)]
def laid_casket_chacha_doubleRound {H : Type} : DataW H := .agg [.agg [.lit (.int .i64 0), .lit (.int .i64 4), .lit (.int .i64 8), .lit (.int .i64 12)], .agg [.lit (.int .i64 1), .lit (.int .i64 5), .lit (.int .i64 9), .lit (.int .i64 13)], .agg [.lit (.int .i64 2), .lit (.int .i64 6), .lit (.int .i64 10), .lit (.int .i64 14)], .agg [.lit (.int .i64 3), .lit (.int .i64 7), .lit (.int .i64 11), .lit (.int .i64 15)], .agg [.lit (.int .i64 0), .lit (.int .i64 5), .lit (.int .i64 10), .lit (.int .i64 15)], .agg [.lit (.int .i64 1), .lit (.int .i64 6), .lit (.int .i64 11), .lit (.int .i64 12)], .agg [.lit (.int .i64 2), .lit (.int .i64 7), .lit (.int .i64 8), .lit (.int .i64 13)], .agg [.lit (.int .i64 3), .lit (.int .i64 4), .lit (.int .i64 9), .lit (.int .i64 14)]]
def laid_casket_casketref4_places {H : Type} : DataW H := .agg [.lit (.int .i64 0), .lit (.int .i64 4), .lit (.int .i64 8), .lit (.int .i64 12), .lit (.int .i64 1), .lit (.int .i64 5), .lit (.int .i64 9), .lit (.int .i64 13), .lit (.int .i64 2), .lit (.int .i64 6), .lit (.int .i64 10), .lit (.int .i64 14), .lit (.int .i64 3), .lit (.int .i64 7), .lit (.int .i64 11), .lit (.int .i64 15), .lit (.int .i64 0), .lit (.int .i64 5), .lit (.int .i64 10), .lit (.int .i64 15), .lit (.int .i64 1), .lit (.int .i64 6), .lit (.int .i64 11), .lit (.int .i64 12), .lit (.int .i64 2), .lit (.int .i64 7), .lit (.int .i64 8), .lit (.int .i64 13), .lit (.int .i64 3), .lit (.int .i64 4), .lit (.int .i64 9), .lit (.int .i64 14)]

/-- 'casketlaw6.AeadLong': WHATEVER THE INPUT: true; the input reads as it did. -/
def aeadLongSpec : ChangeSpec := { name := "aeadLong", fn := fun _ => fun
  | [d1, d2, d3, d4] => { results := [.lit (.bool true)], args := [d1, d2, d3, d4] }
  | _ => none }
def aeadLongRow : OpenClaim := { program := "ytebhmebldemndaadoor", sum := "372f5669cd3d43c674f57fe3da1a83a6d3fa5152bb543670ac4b76656ca81f7c", func := "casket/casketlaw6.AeadLong", spec := "aeadLong", unfollowed := true, recurses := true, named := ["casket/chacha.firstWords", "casket/chacha.doubleRound", "casket/poly.kept"], apart := false, laid := [("casket/poly.kept", laid_casket_poly_kept), ("casket/chacha.firstWords", laid_casket_chacha_firstWords), ("casket/chacha.doubleRound", laid_casket_chacha_doubleRound)] }
def AeadLongSaid : Prop := aeadLongRow.holds Tryd.pinned (OpenSpec.ofChange aeadLongSpec)

/-- ITS FALSE NEIGHBOUR: 'it returns false'. Refute it at one input. -/
def aeadLongWrong : ChangeSpec := { name := "aeadLong", fn := fun _ => fun
  | [d1, d2, d3, d4] => { results := [.lit (.bool false)], args := [d1, d2, d3, d4] }
  | _ => none }
def AeadLongWrongFalsely : Prop := aeadLongRow.holds Tryd.pinned (OpenSpec.ofChange aeadLongWrong)

/-- 'casketlaw6.AeadKnown': WHATEVER THE INPUT: true; the input reads as it did. -/
def aeadKnownSpec : ChangeSpec := { name := "aeadKnown", fn := fun _ => fun
  | [] => { results := [.lit (.bool true)], args := [] }
  | _ => none }
def aeadKnownRow : OpenClaim := { program := "ytebhmebldemndaadoor", sum := "372f5669cd3d43c674f57fe3da1a83a6d3fa5152bb543670ac4b76656ca81f7c", func := "casket/casketlaw6.AeadKnown", spec := "aeadKnown", unfollowed := true, recurses := true, named := ["casket/chacha.firstWords", "casket/chacha.doubleRound", "casket/poly.kept"], apart := false, laid := [("casket/poly.kept", laid_casket_poly_kept), ("casket/chacha.firstWords", laid_casket_chacha_firstWords), ("casket/chacha.doubleRound", laid_casket_chacha_doubleRound)] }
def AeadKnownSaid : Prop := aeadKnownRow.holds Tryd.pinned (OpenSpec.ofChange aeadKnownSpec)

/-- ITS FALSE NEIGHBOUR: 'it returns false'. Refute it at one input. -/
def aeadKnownWrong : ChangeSpec := { name := "aeadKnown", fn := fun _ => fun
  | [] => { results := [.lit (.bool false)], args := [] }
  | _ => none }
def AeadKnownWrongFalsely : Prop := aeadKnownRow.holds Tryd.pinned (OpenSpec.ofChange aeadKnownWrong)

/-- 'casketlaw6.AeadBack': WHATEVER THE INPUT: true; the input reads as it did. -/
def aeadBackSpec : ChangeSpec := { name := "aeadBack", fn := fun _ => fun
  | [d1, d2, d3, d4, d5, d6] => { results := [.lit (.bool true)], args := [d1, d2, d3, d4, d5, d6] }
  | _ => none }
def aeadBackRow : OpenClaim := { program := "ytebhmebldemndaadoor", sum := "372f5669cd3d43c674f57fe3da1a83a6d3fa5152bb543670ac4b76656ca81f7c", func := "casket/casketlaw6.AeadBack", spec := "aeadBack", unfollowed := true, recurses := true, named := ["casket/chacha.firstWords", "casket/chacha.doubleRound", "casket/poly.kept"], apart := false, laid := [("casket/poly.kept", laid_casket_poly_kept), ("casket/chacha.firstWords", laid_casket_chacha_firstWords), ("casket/chacha.doubleRound", laid_casket_chacha_doubleRound)] }
def AeadBackSaid : Prop := aeadBackRow.holds Tryd.pinned (OpenSpec.ofChange aeadBackSpec)

/-- ITS FALSE NEIGHBOUR: 'it returns false'. Refute it at one input. -/
def aeadBackWrong : ChangeSpec := { name := "aeadBack", fn := fun _ => fun
  | [d1, d2, d3, d4, d5, d6] => { results := [.lit (.bool false)], args := [d1, d2, d3, d4, d5, d6] }
  | _ => none }
def AeadBackWrongFalsely : Prop := aeadBackRow.holds Tryd.pinned (OpenSpec.ofChange aeadBackWrong)

/-- 'casketlaw6.AeadOnly': WHATEVER THE INPUT: true; the input reads as it did. -/
def aeadOnlySpec : ChangeSpec := { name := "aeadOnly", fn := fun _ => fun
  | [d1, d2, d3, d4, d5, d6] => { results := [.lit (.bool true)], args := [d1, d2, d3, d4, d5, d6] }
  | _ => none }
def aeadOnlyRow : OpenClaim := { program := "ytebhmebldemndaadoor", sum := "372f5669cd3d43c674f57fe3da1a83a6d3fa5152bb543670ac4b76656ca81f7c", func := "casket/casketlaw6.AeadOnly", spec := "aeadOnly", unfollowed := true, recurses := true, named := ["casket/chacha.firstWords", "casket/chacha.doubleRound", "casket/poly.kept"], apart := false, laid := [("casket/poly.kept", laid_casket_poly_kept), ("casket/chacha.firstWords", laid_casket_chacha_firstWords), ("casket/chacha.doubleRound", laid_casket_chacha_doubleRound)] }
def AeadOnlySaid : Prop := aeadOnlyRow.holds Tryd.pinned (OpenSpec.ofChange aeadOnlySpec)

/-- ITS FALSE NEIGHBOUR: 'it returns false'. Refute it at one input. -/
def aeadOnlyWrong : ChangeSpec := { name := "aeadOnly", fn := fun _ => fun
  | [d1, d2, d3, d4, d5, d6] => { results := [.lit (.bool false)], args := [d1, d2, d3, d4, d5, d6] }
  | _ => none }
def AeadOnlyWrongFalsely : Prop := aeadOnlyRow.holds Tryd.pinned (OpenSpec.ofChange aeadOnlyWrong)

/-- 'casketlaw6.AeadBuilt': WHATEVER THE INPUT: true; the input reads as it did. -/
def aeadBuiltSpec : ChangeSpec := { name := "aeadBuilt", fn := fun _ => fun
  | [d1, d2, d3, d4] => { results := [.lit (.bool true)], args := [d1, d2, d3, d4] }
  | _ => none }
def aeadBuiltRow : OpenClaim := { program := "ytebhmebldemndaadoor", sum := "372f5669cd3d43c674f57fe3da1a83a6d3fa5152bb543670ac4b76656ca81f7c", func := "casket/casketlaw6.AeadBuilt", spec := "aeadBuilt", unfollowed := true, recurses := true, named := ["casket/chacha.firstWords", "casket/chacha.doubleRound", "casket/poly.kept"], apart := false, laid := [("casket/poly.kept", laid_casket_poly_kept), ("casket/chacha.firstWords", laid_casket_chacha_firstWords), ("casket/chacha.doubleRound", laid_casket_chacha_doubleRound)] }
def AeadBuiltSaid : Prop := aeadBuiltRow.holds Tryd.pinned (OpenSpec.ofChange aeadBuiltSpec)

/-- ITS FALSE NEIGHBOUR: 'it returns false'. Refute it at one input. -/
def aeadBuiltWrong : ChangeSpec := { name := "aeadBuilt", fn := fun _ => fun
  | [d1, d2, d3, d4] => { results := [.lit (.bool false)], args := [d1, d2, d3, d4] }
  | _ => none }
def AeadBuiltWrongFalsely : Prop := aeadBuiltRow.holds Tryd.pinned (OpenSpec.ofChange aeadBuiltWrong)

/-- 'casketlaw6.AeadSeals': WHATEVER THE INPUT: true; the input reads as it did. -/
def aeadSealsSpec : ChangeSpec := { name := "aeadSeals", fn := fun _ => fun
  | [d1, d2, d3, d4] => { results := [.lit (.bool true)], args := [d1, d2, d3, d4] }
  | _ => none }
def aeadSealsRow : OpenClaim := { program := "ytebhmebldemndaadoor", sum := "372f5669cd3d43c674f57fe3da1a83a6d3fa5152bb543670ac4b76656ca81f7c", func := "casket/casketlaw6.AeadSeals", spec := "aeadSeals", unfollowed := true, recurses := true, named := ["casket/chacha.firstWords", "casket/chacha.doubleRound", "casket/poly.kept", "casket/casketref4.places"], apart := false, laid := [("casket/casketref4.places", laid_casket_casketref4_places), ("casket/poly.kept", laid_casket_poly_kept), ("casket/chacha.firstWords", laid_casket_chacha_firstWords), ("casket/chacha.doubleRound", laid_casket_chacha_doubleRound)] }
def AeadSealsSaid : Prop := aeadSealsRow.holds Tryd.pinned (OpenSpec.ofChange aeadSealsSpec)

/-- ITS FALSE NEIGHBOUR: 'it returns false'. Refute it at one input. -/
def aeadSealsWrong : ChangeSpec := { name := "aeadSeals", fn := fun _ => fun
  | [d1, d2, d3, d4] => { results := [.lit (.bool false)], args := [d1, d2, d3, d4] }
  | _ => none }
def AeadSealsWrongFalsely : Prop := aeadSealsRow.holds Tryd.pinned (OpenSpec.ofChange aeadSealsWrong)

/- THE SECOND FORM. 'bulk': how many values and letters a reading holds, each counted each time it is reached (what is shared counts as often as it is met; a slice's spare places count too). A statement '..UptoSaid' is the law's where the arguments, and the package variables that the reading takes, are together of bulk at most 1048576: NARROWER than '..Said'. Prove '..Said' where nothing that the law and all that it calls make is longer than what came in: it says more and counts as full. Else prove '..UptoSaid'. A law counts once. -/
mutual
def uptoBulk {H : Type} : DataW H → Nat
  | .lit (.string bytes) => bytes.length + 1
  | .lit _ => 1
  | .nil => 1
  | .ptr d => uptoBulk d + 1
  | .slice elems spare => uptoBulkAll elems + uptoBulkAll spare + 1
  | .agg parts => uptoBulkAll parts + 1
  | .iface _ d => uptoBulk d + 1
  | .map entries => uptoBulkEntries entries + 1
  | .held _ => 1
def uptoBulkAll {H : Type} : List (DataW H) → Nat
  | [] => 0
  | d :: r => uptoBulk d + uptoBulkAll r
def uptoBulkEntries {H : Type} : List (Lit × DataW H) → Nat
  | [] => 0
  | x :: r => uptoBulkEntry x + uptoBulkEntries r
def uptoBulkEntry {H : Type} : Lit × DataW H → Nat
  | (.string bytes, d) => bytes.length + uptoBulk d + 1
  | (_, d) => uptoBulk d + 1
 end
def uptoSmall : (H : Type) → List (DataW H) → Bool := fun _ ds => decide (uptoBulkAll ds ≤ 1048576)
def OpenSpec.upto (s : _root_.Go.ChangeSpec) : _root_.Go.OpenSpec := { _root_.Go.OpenSpec.ofChange s with cond := some uptoSmall }

/-- 'casketlaw6.AeadLong', WHERE WHAT IT READS IS OF BULK AT MOST 1048576: true; the input reads as it did. -/
def aeadLongUptoRow : OpenClaim := { program := "ytebhmebldemndaadoor", sum := "372f5669cd3d43c674f57fe3da1a83a6d3fa5152bb543670ac4b76656ca81f7c", func := "casket/casketlaw6.AeadLong", spec := "aeadLong", unfollowed := true, recurses := true, named := ["casket/chacha.firstWords", "casket/chacha.doubleRound", "casket/poly.kept"], apart := false, laid := [("casket/poly.kept", laid_casket_poly_kept), ("casket/chacha.firstWords", laid_casket_chacha_firstWords), ("casket/chacha.doubleRound", laid_casket_chacha_doubleRound)], narrowed := true }
def AeadLongUptoSaid : Prop := aeadLongUptoRow.holds Tryd.pinned (OpenSpec.upto aeadLongSpec)

/-- 'casketlaw6.AeadKnown', WHERE WHAT IT READS IS OF BULK AT MOST 1048576: true; the input reads as it did. -/
def aeadKnownUptoRow : OpenClaim := { program := "ytebhmebldemndaadoor", sum := "372f5669cd3d43c674f57fe3da1a83a6d3fa5152bb543670ac4b76656ca81f7c", func := "casket/casketlaw6.AeadKnown", spec := "aeadKnown", unfollowed := true, recurses := true, named := ["casket/chacha.firstWords", "casket/chacha.doubleRound", "casket/poly.kept"], apart := false, laid := [("casket/poly.kept", laid_casket_poly_kept), ("casket/chacha.firstWords", laid_casket_chacha_firstWords), ("casket/chacha.doubleRound", laid_casket_chacha_doubleRound)], narrowed := true }
def AeadKnownUptoSaid : Prop := aeadKnownUptoRow.holds Tryd.pinned (OpenSpec.upto aeadKnownSpec)

/-- 'casketlaw6.AeadBack', WHERE WHAT IT READS IS OF BULK AT MOST 1048576: true; the input reads as it did. -/
def aeadBackUptoRow : OpenClaim := { program := "ytebhmebldemndaadoor", sum := "372f5669cd3d43c674f57fe3da1a83a6d3fa5152bb543670ac4b76656ca81f7c", func := "casket/casketlaw6.AeadBack", spec := "aeadBack", unfollowed := true, recurses := true, named := ["casket/chacha.firstWords", "casket/chacha.doubleRound", "casket/poly.kept"], apart := false, laid := [("casket/poly.kept", laid_casket_poly_kept), ("casket/chacha.firstWords", laid_casket_chacha_firstWords), ("casket/chacha.doubleRound", laid_casket_chacha_doubleRound)], narrowed := true }
def AeadBackUptoSaid : Prop := aeadBackUptoRow.holds Tryd.pinned (OpenSpec.upto aeadBackSpec)

/-- 'casketlaw6.AeadOnly', WHERE WHAT IT READS IS OF BULK AT MOST 1048576: true; the input reads as it did. -/
def aeadOnlyUptoRow : OpenClaim := { program := "ytebhmebldemndaadoor", sum := "372f5669cd3d43c674f57fe3da1a83a6d3fa5152bb543670ac4b76656ca81f7c", func := "casket/casketlaw6.AeadOnly", spec := "aeadOnly", unfollowed := true, recurses := true, named := ["casket/chacha.firstWords", "casket/chacha.doubleRound", "casket/poly.kept"], apart := false, laid := [("casket/poly.kept", laid_casket_poly_kept), ("casket/chacha.firstWords", laid_casket_chacha_firstWords), ("casket/chacha.doubleRound", laid_casket_chacha_doubleRound)], narrowed := true }
def AeadOnlyUptoSaid : Prop := aeadOnlyUptoRow.holds Tryd.pinned (OpenSpec.upto aeadOnlySpec)

/-- 'casketlaw6.AeadBuilt', WHERE WHAT IT READS IS OF BULK AT MOST 1048576: true; the input reads as it did. -/
def aeadBuiltUptoRow : OpenClaim := { program := "ytebhmebldemndaadoor", sum := "372f5669cd3d43c674f57fe3da1a83a6d3fa5152bb543670ac4b76656ca81f7c", func := "casket/casketlaw6.AeadBuilt", spec := "aeadBuilt", unfollowed := true, recurses := true, named := ["casket/chacha.firstWords", "casket/chacha.doubleRound", "casket/poly.kept"], apart := false, laid := [("casket/poly.kept", laid_casket_poly_kept), ("casket/chacha.firstWords", laid_casket_chacha_firstWords), ("casket/chacha.doubleRound", laid_casket_chacha_doubleRound)], narrowed := true }
def AeadBuiltUptoSaid : Prop := aeadBuiltUptoRow.holds Tryd.pinned (OpenSpec.upto aeadBuiltSpec)

/-- 'casketlaw6.AeadSeals', WHERE WHAT IT READS IS OF BULK AT MOST 1048576: true; the input reads as it did. -/
def aeadSealsUptoRow : OpenClaim := { program := "ytebhmebldemndaadoor", sum := "372f5669cd3d43c674f57fe3da1a83a6d3fa5152bb543670ac4b76656ca81f7c", func := "casket/casketlaw6.AeadSeals", spec := "aeadSeals", unfollowed := true, recurses := true, named := ["casket/chacha.firstWords", "casket/chacha.doubleRound", "casket/poly.kept", "casket/casketref4.places"], apart := false, laid := [("casket/casketref4.places", laid_casket_casketref4_places), ("casket/poly.kept", laid_casket_poly_kept), ("casket/chacha.firstWords", laid_casket_chacha_firstWords), ("casket/chacha.doubleRound", laid_casket_chacha_doubleRound)], narrowed := true }
def AeadSealsUptoSaid : Prop := aeadSealsUptoRow.holds Tryd.pinned (OpenSpec.upto aeadSealsSpec)

end Rows
end Go.Proofs.YtebhmebldemndaaDoor
