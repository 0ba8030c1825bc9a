/-
  DERIVED. GIVEN WITH THE SEED: THE CARDS: each row of YtckbbbcjpklnmaaDoorRows.lean that lists a variable, with what it lists TIED to the program's text (the seventh form; the later family's looks); each row that meets fmt, with fmt's text TOLD by the authors' own Lean function (tested against real Go, not proved from fmt's source: count such statements apart). THE CARD IS WHAT COUNTS. Prove the row's statement (the work); the ties are given (YtckbbbcjpklnmaaDoorTie.lean); close each card by the builder's one call (the guide's Derived/Test/ToyasCard.lean, 'card_holds'). Laid BY PROGRAM, IN A SANDBOX (cutbox-door.mjs). By AI agents, Wed Nov 11 2026. No macro, syntax, notation, axiom, sorry.
-/
import Derived.Test.YtckbbbcjpklnmaaDoorRows
import GoSem.ClaimSeven
namespace Go.Proofs.YtckbbbcjpklnmaaDoor
namespace Rows

/-- THE TIED CARD OF 'casketlaw14.IndexChecks'. -/
def indexChecksCard : Claim7 := { stood := { row := indexChecksRow, standIns := [], harness := (true, "aa678a2bb798303889e632296be629a9512dd206eec196b19523269493bca79b"), looks := false }, kinds := [], alts := [], laidByText := true, laidKinds := [.data], laidTests := true, laidLooks := .later }
def IndexChecksCardSaid : Prop := Claim7.holds Tryd.pinned (.plain (OpenSpec.ofChange indexChecksSpec)) indexChecksCard

/-- THE TIED CARD OF 'casketlaw14.IndexRootBack'. -/
def indexRootBackCard : Claim7 := { stood := { row := indexRootBackRow, standIns := [], harness := (true, "aa678a2bb798303889e632296be629a9512dd206eec196b19523269493bca79b"), looks := false }, kinds := [], alts := [], laidByText := true, laidKinds := [.data], laidTests := true, laidLooks := .later }
def IndexRootBackCardSaid : Prop := Claim7.holds Tryd.pinned (.plain (OpenSpec.ofChange indexRootBackSpec)) indexRootBackCard

/-- THE TIED CARD OF 'casketlaw14.IndexRoots'. -/
def indexRootsCard : Claim7 := { stood := { row := indexRootsRow, standIns := [], harness := (true, "aa678a2bb798303889e632296be629a9512dd206eec196b19523269493bca79b"), looks := false }, kinds := [], alts := [], laidByText := true, laidKinds := [.data], laidTests := true, laidLooks := .later }
def IndexRootsCardSaid : Prop := Claim7.holds Tryd.pinned (.plain (OpenSpec.ofChange indexRootsSpec)) indexRootsCard

/-- THE TIED CARD OF 'casketlaw14.IndexEncodes'. -/
def indexEncodesCard : Claim7 := { stood := { row := indexEncodesRow, standIns := [], harness := (true, "aa678a2bb798303889e632296be629a9512dd206eec196b19523269493bca79b"), looks := false }, kinds := [], alts := [], laidByText := true, laidKinds := [.data], laidTests := true, laidLooks := .later }
def IndexEncodesCardSaid : Prop := Claim7.holds Tryd.pinned (.plain (OpenSpec.ofChange indexEncodesSpec)) indexEncodesCard

/-- THE TIED CARD OF 'casketlaw14.IndexCut'. -/
def indexCutCard : Claim7 := { stood := { row := indexCutRow, standIns := [], harness := (true, "aa678a2bb798303889e632296be629a9512dd206eec196b19523269493bca79b"), looks := false }, kinds := [], alts := [], laidByText := true, laidKinds := [.data], laidTests := true, laidLooks := .later }
def IndexCutCardSaid : Prop := Claim7.holds Tryd.pinned (.plain (OpenSpec.ofChange indexCutSpec)) indexCutCard

/-- THE TIED CARD OF 'casketlaw14.IndexBack'. -/
def indexBackCard : Claim7 := { stood := { row := indexBackRow, standIns := [], harness := (true, "aa678a2bb798303889e632296be629a9512dd206eec196b19523269493bca79b"), looks := false }, kinds := [], alts := [], laidByText := true, laidKinds := [.data], laidTests := true, laidLooks := .later }
def IndexBackCardSaid : Prop := Claim7.holds Tryd.pinned (.plain (OpenSpec.ofChange indexBackSpec)) indexBackCard

/-- THE SECOND FORM's CARD OF 'casketlaw14.IndexChecks'. -/
def indexChecksUptoCard : Claim7 := { stood := { row := indexChecksUptoRow, standIns := [], harness := (true, "aa678a2bb798303889e632296be629a9512dd206eec196b19523269493bca79b"), looks := false }, kinds := [], alts := [], laidByText := true, laidKinds := [.data], laidTests := true, laidLooks := .later }
def IndexChecksUptoCardSaid : Prop := Claim7.holds Tryd.pinned (.plain (OpenSpec.upto indexChecksSpec)) indexChecksUptoCard

/-- THE SECOND FORM's CARD OF 'casketlaw14.IndexRootBack'. -/
def indexRootBackUptoCard : Claim7 := { stood := { row := indexRootBackUptoRow, standIns := [], harness := (true, "aa678a2bb798303889e632296be629a9512dd206eec196b19523269493bca79b"), looks := false }, kinds := [], alts := [], laidByText := true, laidKinds := [.data], laidTests := true, laidLooks := .later }
def IndexRootBackUptoCardSaid : Prop := Claim7.holds Tryd.pinned (.plain (OpenSpec.upto indexRootBackSpec)) indexRootBackUptoCard

/-- THE SECOND FORM's CARD OF 'casketlaw14.IndexRoots'. -/
def indexRootsUptoCard : Claim7 := { stood := { row := indexRootsUptoRow, standIns := [], harness := (true, "aa678a2bb798303889e632296be629a9512dd206eec196b19523269493bca79b"), looks := false }, kinds := [], alts := [], laidByText := true, laidKinds := [.data], laidTests := true, laidLooks := .later }
def IndexRootsUptoCardSaid : Prop := Claim7.holds Tryd.pinned (.plain (OpenSpec.upto indexRootsSpec)) indexRootsUptoCard

/-- THE SECOND FORM's CARD OF 'casketlaw14.IndexEncodes'. -/
def indexEncodesUptoCard : Claim7 := { stood := { row := indexEncodesUptoRow, standIns := [], harness := (true, "aa678a2bb798303889e632296be629a9512dd206eec196b19523269493bca79b"), looks := false }, kinds := [], alts := [], laidByText := true, laidKinds := [.data], laidTests := true, laidLooks := .later }
def IndexEncodesUptoCardSaid : Prop := Claim7.holds Tryd.pinned (.plain (OpenSpec.upto indexEncodesSpec)) indexEncodesUptoCard

/-- THE SECOND FORM's CARD OF 'casketlaw14.IndexCut'. -/
def indexCutUptoCard : Claim7 := { stood := { row := indexCutUptoRow, standIns := [], harness := (true, "aa678a2bb798303889e632296be629a9512dd206eec196b19523269493bca79b"), looks := false }, kinds := [], alts := [], laidByText := true, laidKinds := [.data], laidTests := true, laidLooks := .later }
def IndexCutUptoCardSaid : Prop := Claim7.holds Tryd.pinned (.plain (OpenSpec.upto indexCutSpec)) indexCutUptoCard

/-- THE SECOND FORM's CARD OF 'casketlaw14.IndexBack'. -/
def indexBackUptoCard : Claim7 := { stood := { row := indexBackUptoRow, standIns := [], harness := (true, "aa678a2bb798303889e632296be629a9512dd206eec196b19523269493bca79b"), looks := false }, kinds := [], alts := [], laidByText := true, laidKinds := [.data], laidTests := true, laidLooks := .later }
def IndexBackUptoCardSaid : Prop := Claim7.holds Tryd.pinned (.plain (OpenSpec.upto indexBackSpec)) indexBackUptoCard
end Rows
end Go.Proofs.YtckbbbcjpklnmaaDoor
