/-
  DERIVED. GIVEN WITH THE SEED: THE CARDS: each row of YtnfddiabhpandaaGreatDoorRows.lean that lists a variable, with what it lists TIED to the program's text (the seventh form; the later family's looks); each row that meets fmt, with fmt's text TOLD by the authors' own Lean function (tested against real Go, not proved from fmt's source: count such statements apart). THE CARD IS WHAT COUNTS. Prove the row's statement (the work); the ties are given (YtnfddiabhpandaaGreatDoorTie.lean); close each card by the builder's one call (the guide's Derived/Test/ToyasCard.lean, 'card_holds'). Laid BY PROGRAM, IN A SANDBOX (cutbox-door.mjs). By AI agents, Wed Nov 11 2026. No macro, syntax, notation, axiom, sorry.
-/
import Derived.Test.YtnfddiabhpandaaGreatDoorRows
import GoSem.ClaimSeven
namespace Go.Proofs.YtnfddiabhpandaaGreatDoor
namespace Rows

/-- THE TIED CARD OF 'casketlaw12.TreeRefuses'. -/
def treeRefusesCard : Claim7 := { stood := { row := treeRefusesRow, standIns := [], harness := (true, "78f4054b73e5ac4ce6ab4008d524b88c9989af1c7ccd4ca1b851a06ad737d704"), looks := true }, kinds := [], alts := [], laidByText := true, laidKinds := [.data, .pinned], laidTests := true, laidLooks := .later }
def TreeRefusesCardSaid : Prop := Claim7.holds Tryz.pinned (.plain (OpenSpec.ofChange treeRefusesSpec)) treeRefusesCard

/-- THE TIED CARD OF 'casketlaw12.TreeNumbers'. -/
def treeNumbersCard : Claim7 := { stood := { row := treeNumbersRow, standIns := [], harness := (true, "78f4054b73e5ac4ce6ab4008d524b88c9989af1c7ccd4ca1b851a06ad737d704"), looks := true }, kinds := [], alts := [], laidByText := true, laidKinds := [.data, .pinned], laidTests := true, laidLooks := .later }
def TreeNumbersCardSaid : Prop := Claim7.holds Tryz.pinned (.plain (OpenSpec.ofChange treeNumbersSpec)) treeNumbersCard

/-- THE TIED CARD OF 'casketlaw12.TreeRenamed'. -/
def treeRenamedCard : Claim7 := { stood := { row := treeRenamedRow, standIns := [], harness := (true, "78f4054b73e5ac4ce6ab4008d524b88c9989af1c7ccd4ca1b851a06ad737d704"), looks := true }, kinds := [], alts := [], laidByText := true, laidKinds := [.data, .pinned], laidTests := true, laidLooks := .later }
def TreeRenamedCardSaid : Prop := Claim7.holds Tryz.pinned (.plain (OpenSpec.ofChange treeRenamedSpec)) treeRenamedCard

/-- THE TIED CARD OF 'casketlaw12.TreeSound'. -/
def treeSoundCard : Claim7 := { stood := { row := treeSoundRow, standIns := [], harness := (true, "78f4054b73e5ac4ce6ab4008d524b88c9989af1c7ccd4ca1b851a06ad737d704"), looks := true }, kinds := [], alts := [], laidByText := true, laidKinds := [.data, .pinned], laidTests := true, laidLooks := .later }
def TreeSoundCardSaid : Prop := Claim7.holds Tryz.pinned (.plain (OpenSpec.ofChange treeSoundSpec)) treeSoundCard

/-- THE TIED CARD OF 'casketlaw12.TreeModel'. -/
def treeModelCard : Claim7 := { stood := { row := treeModelRow, standIns := [], harness := (true, "78f4054b73e5ac4ce6ab4008d524b88c9989af1c7ccd4ca1b851a06ad737d704"), looks := true }, kinds := [], alts := [], laidByText := true, laidKinds := [.data, .pinned], laidTests := true, laidLooks := .later }
def TreeModelCardSaid : Prop := Claim7.holds Tryz.pinned (.plain (OpenSpec.ofChange treeModelSpec)) treeModelCard

/-- THE TIED CARD OF 'casketlaw12.TreeLoads'. -/
def treeLoadsCard : Claim7 := { stood := { row := treeLoadsRow, standIns := [], harness := (true, "78f4054b73e5ac4ce6ab4008d524b88c9989af1c7ccd4ca1b851a06ad737d704"), looks := true }, kinds := [], alts := [], laidByText := true, laidKinds := [.data, .pinned], laidTests := true, laidLooks := .later }
def TreeLoadsCardSaid : Prop := Claim7.holds Tryz.pinned (.plain (OpenSpec.ofChange treeLoadsSpec)) treeLoadsCard

/-- THE SECOND FORM's CARD OF 'casketlaw12.TreeRefuses'. -/
def treeRefusesUptoCard : Claim7 := { stood := { row := treeRefusesUptoRow, standIns := [], harness := (true, "78f4054b73e5ac4ce6ab4008d524b88c9989af1c7ccd4ca1b851a06ad737d704"), looks := true }, kinds := [], alts := [], laidByText := true, laidKinds := [.data, .pinned], laidTests := true, laidLooks := .later }
def TreeRefusesUptoCardSaid : Prop := Claim7.holds Tryz.pinned (.plain (OpenSpec.upto treeRefusesSpec)) treeRefusesUptoCard

/-- THE SECOND FORM's CARD OF 'casketlaw12.TreeNumbers'. -/
def treeNumbersUptoCard : Claim7 := { stood := { row := treeNumbersUptoRow, standIns := [], harness := (true, "78f4054b73e5ac4ce6ab4008d524b88c9989af1c7ccd4ca1b851a06ad737d704"), looks := true }, kinds := [], alts := [], laidByText := true, laidKinds := [.data, .pinned], laidTests := true, laidLooks := .later }
def TreeNumbersUptoCardSaid : Prop := Claim7.holds Tryz.pinned (.plain (OpenSpec.upto treeNumbersSpec)) treeNumbersUptoCard

/-- THE SECOND FORM's CARD OF 'casketlaw12.TreeRenamed'. -/
def treeRenamedUptoCard : Claim7 := { stood := { row := treeRenamedUptoRow, standIns := [], harness := (true, "78f4054b73e5ac4ce6ab4008d524b88c9989af1c7ccd4ca1b851a06ad737d704"), looks := true }, kinds := [], alts := [], laidByText := true, laidKinds := [.data, .pinned], laidTests := true, laidLooks := .later }
def TreeRenamedUptoCardSaid : Prop := Claim7.holds Tryz.pinned (.plain (OpenSpec.upto treeRenamedSpec)) treeRenamedUptoCard

/-- THE SECOND FORM's CARD OF 'casketlaw12.TreeSound'. -/
def treeSoundUptoCard : Claim7 := { stood := { row := treeSoundUptoRow, standIns := [], harness := (true, "78f4054b73e5ac4ce6ab4008d524b88c9989af1c7ccd4ca1b851a06ad737d704"), looks := true }, kinds := [], alts := [], laidByText := true, laidKinds := [.data, .pinned], laidTests := true, laidLooks := .later }
def TreeSoundUptoCardSaid : Prop := Claim7.holds Tryz.pinned (.plain (OpenSpec.upto treeSoundSpec)) treeSoundUptoCard

/-- THE SECOND FORM's CARD OF 'casketlaw12.TreeModel'. -/
def treeModelUptoCard : Claim7 := { stood := { row := treeModelUptoRow, standIns := [], harness := (true, "78f4054b73e5ac4ce6ab4008d524b88c9989af1c7ccd4ca1b851a06ad737d704"), looks := true }, kinds := [], alts := [], laidByText := true, laidKinds := [.data, .pinned], laidTests := true, laidLooks := .later }
def TreeModelUptoCardSaid : Prop := Claim7.holds Tryz.pinned (.plain (OpenSpec.upto treeModelSpec)) treeModelUptoCard

/-- THE SECOND FORM's CARD OF 'casketlaw12.TreeLoads'. -/
def treeLoadsUptoCard : Claim7 := { stood := { row := treeLoadsUptoRow, standIns := [], harness := (true, "78f4054b73e5ac4ce6ab4008d524b88c9989af1c7ccd4ca1b851a06ad737d704"), looks := true }, kinds := [], alts := [], laidByText := true, laidKinds := [.data, .pinned], laidTests := true, laidLooks := .later }
def TreeLoadsUptoCardSaid : Prop := Claim7.holds Tryz.pinned (.plain (OpenSpec.upto treeLoadsSpec)) treeLoadsUptoCard
end Rows
end Go.Proofs.YtnfddiabhpandaaGreatDoor
