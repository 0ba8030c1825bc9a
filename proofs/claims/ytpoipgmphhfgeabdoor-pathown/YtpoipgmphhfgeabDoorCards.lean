/-
  DERIVED. GIVEN WITH THE SEED: THE CARDS: each row of YtpoipgmphhfgeabDoorRows.lean that lists a variable, with what it lists TIED to the program's text (the seventh form; the later family's looks); each row that meets fmt, with fmt's text TOLD by the authors' own Lean function (tested against real Go, not proved from fmt's source: count such statements apart). THE CARD IS WHAT COUNTS. Prove the row's statement (the work); the ties are given (YtpoipgmphhfgeabDoorTie.lean); close each card by the builder's one call (the guide's Derived/Test/ToyasCard.lean, 'card_holds'). Laid BY PROGRAM, IN A SANDBOX (cutbox-door.mjs). By AI agents, Wed Nov 11 2026. No macro, syntax, notation, axiom, sorry.
-/
import Derived.Test.YtpoipgmphhfgeabDoorRows
import GoSem.ClaimSeven
namespace Go.Proofs.YtpoipgmphhfgeabDoor
namespace Rows

/-- THE TIED CARD OF 'casketlaw11.PathOwn'. -/
def pathOwnCard : Claim7 := { stood := { row := pathOwnRow, standIns := [], harness := (true, "badea0bc124f21a9a7348bd53bf0d02348db8e14cc12cd0fb385db1a6b0bfc72"), looks := false }, kinds := [], alts := [], laidByText := true, laidKinds := [.data, .pinned], laidTests := true, laidLooks := .later }
def PathOwnCardSaid : Prop := Claim7.holds Tryd.pinned (.plain (OpenSpec.ofChange pathOwnSpec)) pathOwnCard

/-- THE TIED CARD OF 'casketlaw11.PathRenames'. -/
def pathRenamesCard : Claim7 := { stood := { row := pathRenamesRow, standIns := [], harness := (true, "badea0bc124f21a9a7348bd53bf0d02348db8e14cc12cd0fb385db1a6b0bfc72"), looks := false }, kinds := [], alts := [], laidByText := true, laidKinds := [.data, .pinned], laidTests := true, laidLooks := .later }
def PathRenamesCardSaid : Prop := Claim7.holds Tryd.pinned (.plain (OpenSpec.ofChange pathRenamesSpec)) pathRenamesCard

/-- THE TIED CARD OF 'casketlaw11.PathMaps'. -/
def pathMapsCard : Claim7 := { stood := { row := pathMapsRow, standIns := [], harness := (true, "badea0bc124f21a9a7348bd53bf0d02348db8e14cc12cd0fb385db1a6b0bfc72"), looks := false }, kinds := [], alts := [], laidByText := true, laidKinds := [.data, .pinned], laidTests := true, laidLooks := .later }
def PathMapsCardSaid : Prop := Claim7.holds Tryd.pinned (.plain (OpenSpec.ofChange pathMapsSpec)) pathMapsCard

/-- THE SECOND FORM's CARD OF 'casketlaw11.PathOwn'. -/
def pathOwnUptoCard : Claim7 := { stood := { row := pathOwnUptoRow, standIns := [], harness := (true, "badea0bc124f21a9a7348bd53bf0d02348db8e14cc12cd0fb385db1a6b0bfc72"), looks := false }, kinds := [], alts := [], laidByText := true, laidKinds := [.data, .pinned], laidTests := true, laidLooks := .later }
def PathOwnUptoCardSaid : Prop := Claim7.holds Tryd.pinned (.plain (OpenSpec.upto pathOwnSpec)) pathOwnUptoCard

/-- THE SECOND FORM's CARD OF 'casketlaw11.PathRenames'. -/
def pathRenamesUptoCard : Claim7 := { stood := { row := pathRenamesUptoRow, standIns := [], harness := (true, "badea0bc124f21a9a7348bd53bf0d02348db8e14cc12cd0fb385db1a6b0bfc72"), looks := false }, kinds := [], alts := [], laidByText := true, laidKinds := [.data, .pinned], laidTests := true, laidLooks := .later }
def PathRenamesUptoCardSaid : Prop := Claim7.holds Tryd.pinned (.plain (OpenSpec.upto pathRenamesSpec)) pathRenamesUptoCard

/-- THE SECOND FORM's CARD OF 'casketlaw11.PathMaps'. -/
def pathMapsUptoCard : Claim7 := { stood := { row := pathMapsUptoRow, standIns := [], harness := (true, "badea0bc124f21a9a7348bd53bf0d02348db8e14cc12cd0fb385db1a6b0bfc72"), looks := false }, kinds := [], alts := [], laidByText := true, laidKinds := [.data, .pinned], laidTests := true, laidLooks := .later }
def PathMapsUptoCardSaid : Prop := Claim7.holds Tryd.pinned (.plain (OpenSpec.upto pathMapsSpec)) pathMapsUptoCard
end Rows
end Go.Proofs.YtpoipgmphhfgeabDoor
