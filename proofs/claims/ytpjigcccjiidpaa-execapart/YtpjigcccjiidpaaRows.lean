/-
  No cell of these rows narrows 'for every input' (looked for: loops, veiled, ifaces, maps, wideKeys, modest, calm, conditions, laid).
  DERIVED. THE GIVEN ROWS OF THIS SEAT. 4 by the template 'for every input the law returns true; each argument reads behind the call as it read before'; 0 by the template 'total and deterministic' (their statements: YtpjigcccjiidpaaTotals.lean).
  GIVEN WITH THE SEED: the statements are not yours to turn. If you find one false, say at which input.
  Laid BY PROGRAM, IN A SANDBOX (cutbox-rows.mjs): the forced cells as the released guide's own fill.sh prints them over the translation 548c067f58f089ea… (all of the seat's roots in one cut). By AI agents, Wed Nov 11 2026. No macro, syntax, notation, axiom, sorry.
-/
import Derived.Test.YtpjigcccjiidpaaChecked
import GoSem.Claim
import GoSem.ClaimJoined
import GoSem.ClaimMapViews
import Derived.JoinedTies
import Derived.KernelRfl
namespace Go.Proofs.Ytpjigcccjiidpaa
/- THE CELL 'sum', in the pinned program and in every row, IS THE sha256 OF THE DUMP (.gsa) THAT YtpjigcccjiidpaaProg.lean LOADS. Nothing in Lean hashes anything: it is a label: what it is worth is what the hold of that sum in a sandbox is worth. -/
noncomputable def Try.pinned : Pinned := { name := "ytpjigcccjiidpaa", sum := "548c067f58f089eac8fa33c2ed7d9712acd1e0455146eac77eed8eb755252593", checked := Try.checked }
namespace Rows
def none {H : Type} : Left H := { results := [], args := [] }

/-- 'casketlaw16.ExecLives': WHATEVER THE INPUT: true; the input reads as it did. -/
def execLivesSpec : ChangeSpec := { name := "execLives", fn := fun _ => fun
  | [d1, d2, d3, d4] => { results := [.lit (.bool true)], args := [d1, d2, d3, d4] }
  | _ => none }
def execLivesRow : OpenClaim := { program := "ytpjigcccjiidpaa", sum := "548c067f58f089eac8fa33c2ed7d9712acd1e0455146eac77eed8eb755252593", func := "casket/casketlaw16.ExecLives", spec := "execLives", unfollowed := true, recurses := true, apart := false }
def ExecLivesSaid : Prop := execLivesRow.holds Try.pinned (OpenSpec.ofChange execLivesSpec)

/-- ITS FALSE NEIGHBOUR: 'it returns false'. Refute it at one input. -/
def execLivesWrong : ChangeSpec := { name := "execLives", fn := fun _ => fun
  | [d1, d2, d3, d4] => { results := [.lit (.bool false)], args := [d1, d2, d3, d4] }
  | _ => none }
def ExecLivesWrongFalsely : Prop := execLivesRow.holds Try.pinned (OpenSpec.ofChange execLivesWrong)

/-- 'casketlaw16.ExecApart': WHATEVER THE INPUT: true; the input reads as it did. -/
def execApartSpec : ChangeSpec := { name := "execApart", fn := fun _ => fun
  | [d1, d2, d3, d4] => { results := [.lit (.bool true)], args := [d1, d2, d3, d4] }
  | _ => none }
def execApartRow : OpenClaim := { program := "ytpjigcccjiidpaa", sum := "548c067f58f089eac8fa33c2ed7d9712acd1e0455146eac77eed8eb755252593", func := "casket/casketlaw16.ExecApart", spec := "execApart", unfollowed := true, recurses := true, apart := false }
def ExecApartSaid : Prop := execApartRow.holds Try.pinned (OpenSpec.ofChange execApartSpec)

/-- ITS FALSE NEIGHBOUR: 'it returns false'. Refute it at one input. -/
def execApartWrong : ChangeSpec := { name := "execApart", fn := fun _ => fun
  | [d1, d2, d3, d4] => { results := [.lit (.bool false)], args := [d1, d2, d3, d4] }
  | _ => none }
def ExecApartWrongFalsely : Prop := execApartRow.holds Try.pinned (OpenSpec.ofChange execApartWrong)

/-- 'casketlaw16.ExecSplits': WHATEVER THE INPUT: true; the input reads as it did. -/
def execSplitsSpec : ChangeSpec := { name := "execSplits", fn := fun _ => fun
  | [d1, d2, d3] => { results := [.lit (.bool true)], args := [d1, d2, d3] }
  | _ => none }
def execSplitsRow : OpenClaim := { program := "ytpjigcccjiidpaa", sum := "548c067f58f089eac8fa33c2ed7d9712acd1e0455146eac77eed8eb755252593", func := "casket/casketlaw16.ExecSplits", spec := "execSplits", unfollowed := true, recurses := true, apart := false }
def ExecSplitsSaid : Prop := execSplitsRow.holds Try.pinned (OpenSpec.ofChange execSplitsSpec)

/-- ITS FALSE NEIGHBOUR: 'it returns false'. Refute it at one input. -/
def execSplitsWrong : ChangeSpec := { name := "execSplits", fn := fun _ => fun
  | [d1, d2, d3] => { results := [.lit (.bool false)], args := [d1, d2, d3] }
  | _ => none }
def ExecSplitsWrongFalsely : Prop := execSplitsRow.holds Try.pinned (OpenSpec.ofChange execSplitsWrong)

/-- 'casketlaw16.ExecBytes': WHATEVER THE INPUT: true; the input reads as it did. -/
def execBytesSpec : ChangeSpec := { name := "execBytes", fn := fun _ => fun
  | [d1, d2, d3, d4] => { results := [.lit (.bool true)], args := [d1, d2, d3, d4] }
  | _ => none }
def execBytesRow : OpenClaim := { program := "ytpjigcccjiidpaa", sum := "548c067f58f089eac8fa33c2ed7d9712acd1e0455146eac77eed8eb755252593", func := "casket/casketlaw16.ExecBytes", spec := "execBytes", unfollowed := true, recurses := true, apart := false }
def ExecBytesSaid : Prop := execBytesRow.holds Try.pinned (OpenSpec.ofChange execBytesSpec)

/-- ITS FALSE NEIGHBOUR: 'it returns false'. Refute it at one input. -/
def execBytesWrong : ChangeSpec := { name := "execBytes", fn := fun _ => fun
  | [d1, d2, d3, d4] => { results := [.lit (.bool false)], args := [d1, d2, d3, d4] }
  | _ => none }
def ExecBytesWrongFalsely : Prop := execBytesRow.holds Try.pinned (OpenSpec.ofChange execBytesWrong)

/- THE SECOND FORM. 'bulk': how many values and letters a reading holds, each counted each time it is reached (what is shared counts as often as it is met; a slice's spare places count too). A statement '..UptoSaid' is the law's where the arguments, and the package variables that the reading takes, are together of bulk at most 1048576: NARROWER than '..Said'. Prove '..Said' where nothing that the law and all that it calls make is longer than what came in: it says more and counts as full. Else prove '..UptoSaid'. A law counts once. -/
mutual
def uptoBulk {H : Type} : DataW H → Nat
  | .lit (.string bytes) => bytes.length + 1
  | .lit _ => 1
  | .nil => 1
  | .ptr d => uptoBulk d + 1
  | .slice elems spare => uptoBulkAll elems + uptoBulkAll spare + 1
  | .agg parts => uptoBulkAll parts + 1
  | .iface _ d => uptoBulk d + 1
  | .map entries => uptoBulkEntries entries + 1
  | .held _ => 1
def uptoBulkAll {H : Type} : List (DataW H) → Nat
  | [] => 0
  | d :: r => uptoBulk d + uptoBulkAll r
def uptoBulkEntries {H : Type} : List (Lit × DataW H) → Nat
  | [] => 0
  | x :: r => uptoBulkEntry x + uptoBulkEntries r
def uptoBulkEntry {H : Type} : Lit × DataW H → Nat
  | (.string bytes, d) => bytes.length + uptoBulk d + 1
  | (_, d) => uptoBulk d + 1
 end
def uptoSmall : (H : Type) → List (DataW H) → Bool := fun _ ds => decide (uptoBulkAll ds ≤ 1048576)
def OpenSpec.upto (s : _root_.Go.ChangeSpec) : _root_.Go.OpenSpec := { _root_.Go.OpenSpec.ofChange s with cond := some uptoSmall }

/-- 'casketlaw16.ExecLives', WHERE WHAT IT READS IS OF BULK AT MOST 1048576: true; the input reads as it did. -/
def execLivesUptoRow : OpenClaim := { program := "ytpjigcccjiidpaa", sum := "548c067f58f089eac8fa33c2ed7d9712acd1e0455146eac77eed8eb755252593", func := "casket/casketlaw16.ExecLives", spec := "execLives", unfollowed := true, recurses := true, apart := false, narrowed := true }
def ExecLivesUptoSaid : Prop := execLivesUptoRow.holds Try.pinned (OpenSpec.upto execLivesSpec)

/-- 'casketlaw16.ExecApart', WHERE WHAT IT READS IS OF BULK AT MOST 1048576: true; the input reads as it did. -/
def execApartUptoRow : OpenClaim := { program := "ytpjigcccjiidpaa", sum := "548c067f58f089eac8fa33c2ed7d9712acd1e0455146eac77eed8eb755252593", func := "casket/casketlaw16.ExecApart", spec := "execApart", unfollowed := true, recurses := true, apart := false, narrowed := true }
def ExecApartUptoSaid : Prop := execApartUptoRow.holds Try.pinned (OpenSpec.upto execApartSpec)

/-- 'casketlaw16.ExecSplits', WHERE WHAT IT READS IS OF BULK AT MOST 1048576: true; the input reads as it did. -/
def execSplitsUptoRow : OpenClaim := { program := "ytpjigcccjiidpaa", sum := "548c067f58f089eac8fa33c2ed7d9712acd1e0455146eac77eed8eb755252593", func := "casket/casketlaw16.ExecSplits", spec := "execSplits", unfollowed := true, recurses := true, apart := false, narrowed := true }
def ExecSplitsUptoSaid : Prop := execSplitsUptoRow.holds Try.pinned (OpenSpec.upto execSplitsSpec)

/-- 'casketlaw16.ExecBytes', WHERE WHAT IT READS IS OF BULK AT MOST 1048576: true; the input reads as it did. -/
def execBytesUptoRow : OpenClaim := { program := "ytpjigcccjiidpaa", sum := "548c067f58f089eac8fa33c2ed7d9712acd1e0455146eac77eed8eb755252593", func := "casket/casketlaw16.ExecBytes", spec := "execBytes", unfollowed := true, recurses := true, apart := false, narrowed := true }
def ExecBytesUptoSaid : Prop := execBytesUptoRow.holds Try.pinned (OpenSpec.upto execBytesSpec)

end Rows
end Go.Proofs.Ytpjigcccjiidpaa
