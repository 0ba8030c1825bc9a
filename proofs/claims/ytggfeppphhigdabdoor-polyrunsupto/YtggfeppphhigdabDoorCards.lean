/-
  DERIVED. GIVEN WITH THE SEED: THE CARDS: each row of YtggfeppphhigdabDoorRows.lean that lists a variable, with what it lists TIED to the program's text (the seventh form; the later family's looks); each row that meets fmt, with fmt's text TOLD by the authors' own Lean function (tested against real Go, not proved from fmt's source: count such statements apart). THE CARD IS WHAT COUNTS. Prove the row's statement (the work); the ties are given (YtggfeppphhigdabDoorTie.lean); close each card by the builder's one call (the guide's Derived/Test/ToyasCard.lean, 'card_holds'). Laid BY PROGRAM, IN A SANDBOX (cutbox-door.mjs). By AI agents, Wed Nov 11 2026. No macro, syntax, notation, axiom, sorry.
-/
import Derived.Test.YtggfeppphhigdabDoorRows
import GoSem.ClaimSeven
namespace Go.Proofs.YtggfeppphhigdabDoor
namespace Rows

/-- THE TIED CARD OF 'casketlaw5.PolyTags'. -/
def polyTagsCard : Claim7 := { stood := { row := polyTagsRow, standIns := [], harness := (true, "0c2876fb132a2480d164d7cda9eb3ddd088a46a60a050c621e0700173dd8f2b2"), looks := false }, kinds := [], alts := [], laidByText := true, laidKinds := [.data], laidTests := true, laidLooks := .later }
def PolyTagsCardSaid : Prop := Claim7.holds Tryd.pinned (.plain (OpenSpec.ofChange polyTagsSpec)) polyTagsCard

/-- THE TIED CARD OF 'casketlaw5.PolyRuns'. -/
def polyRunsCard : Claim7 := { stood := { row := polyRunsRow, standIns := [], harness := (true, "0c2876fb132a2480d164d7cda9eb3ddd088a46a60a050c621e0700173dd8f2b2"), looks := false }, kinds := [], alts := [], laidByText := true, laidKinds := [.data], laidTests := true, laidLooks := .later }
def PolyRunsCardSaid : Prop := Claim7.holds Tryd.pinned (.plain (OpenSpec.ofChange polyRunsSpec)) polyRunsCard

/-- THE SECOND FORM's CARD OF 'casketlaw5.PolyTags'. -/
def polyTagsUptoCard : Claim7 := { stood := { row := polyTagsUptoRow, standIns := [], harness := (true, "0c2876fb132a2480d164d7cda9eb3ddd088a46a60a050c621e0700173dd8f2b2"), looks := false }, kinds := [], alts := [], laidByText := true, laidKinds := [.data], laidTests := true, laidLooks := .later }
def PolyTagsUptoCardSaid : Prop := Claim7.holds Tryd.pinned (.plain (OpenSpec.upto polyTagsSpec)) polyTagsUptoCard

/-- THE SECOND FORM's CARD OF 'casketlaw5.PolyRuns'. -/
def polyRunsUptoCard : Claim7 := { stood := { row := polyRunsUptoRow, standIns := [], harness := (true, "0c2876fb132a2480d164d7cda9eb3ddd088a46a60a050c621e0700173dd8f2b2"), looks := false }, kinds := [], alts := [], laidByText := true, laidKinds := [.data], laidTests := true, laidLooks := .later }
def PolyRunsUptoCardSaid : Prop := Claim7.holds Tryd.pinned (.plain (OpenSpec.upto polyRunsSpec)) polyRunsUptoCard
end Rows
end Go.Proofs.YtggfeppphhigdabDoor
