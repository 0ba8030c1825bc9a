/-
  DERIVED. GIVEN WITH THE SEED: THE CARDS: each row of YtjjabkimmgcejabDoorRows.lean that lists a variable, with what it lists TIED to the program's text (the seventh form; the later family's looks); each row that meets fmt, with fmt's text TOLD by the authors' own Lean function (tested against real Go, not proved from fmt's source: count such statements apart). THE CARD IS WHAT COUNTS. Prove the row's statement (the work); the ties are given (YtjjabkimmgcejabDoorTie.lean); close each card by the builder's one call (the guide's Derived/Test/ToyasCard.lean, 'card_holds'). Laid BY PROGRAM, IN A SANDBOX (cutbox-door.mjs). By AI agents, Wed Nov 11 2026. No macro, syntax, notation, axiom, sorry.
-/
import Derived.Test.YtjjabkimmgcejabDoorRows
import GoSem.ClaimSeven
namespace Go.Proofs.YtjjabkimmgcejabDoor
namespace Rows

/-- THE TIED CARD OF 'casketlaw3.KdfPasses'. -/
def kdfPassesCard : Claim7 := { stood := { row := kdfPassesRow, standIns := [], harness := (true, "b8754133db4b2a873f8582953dd628fc826509cf9626bcafeb4c478be84ab133"), looks := false }, kinds := [], alts := [], laidByText := true, laidKinds := [.data, .data, .data, .data], laidTests := true, laidLooks := .later }
def KdfPassesCardSaid : Prop := Claim7.holds Tryd.pinned (.plain (OpenSpec.ofChange kdfPassesSpec)) kdfPassesCard

/-- THE TIED CARD OF 'casketlaw3.KdfExpands'. -/
def kdfExpandsCard : Claim7 := { stood := { row := kdfExpandsRow, standIns := [], harness := (true, "b8754133db4b2a873f8582953dd628fc826509cf9626bcafeb4c478be84ab133"), looks := false }, kinds := [], alts := [], laidByText := true, laidKinds := [.data, .data, .data, .data], laidTests := true, laidLooks := .later }
def KdfExpandsCardSaid : Prop := Claim7.holds Tryd.pinned (.plain (OpenSpec.ofChange kdfExpandsSpec)) kdfExpandsCard

/-- THE SECOND FORM's CARD OF 'casketlaw3.KdfPasses'. -/
def kdfPassesUptoCard : Claim7 := { stood := { row := kdfPassesUptoRow, standIns := [], harness := (true, "b8754133db4b2a873f8582953dd628fc826509cf9626bcafeb4c478be84ab133"), looks := false }, kinds := [], alts := [], laidByText := true, laidKinds := [.data, .data, .data, .data], laidTests := true, laidLooks := .later }
def KdfPassesUptoCardSaid : Prop := Claim7.holds Tryd.pinned (.plain (OpenSpec.upto kdfPassesSpec)) kdfPassesUptoCard

/-- THE SECOND FORM's CARD OF 'casketlaw3.KdfExpands'. -/
def kdfExpandsUptoCard : Claim7 := { stood := { row := kdfExpandsUptoRow, standIns := [], harness := (true, "b8754133db4b2a873f8582953dd628fc826509cf9626bcafeb4c478be84ab133"), looks := false }, kinds := [], alts := [], laidByText := true, laidKinds := [.data, .data, .data, .data], laidTests := true, laidLooks := .later }
def KdfExpandsUptoCardSaid : Prop := Claim7.holds Tryd.pinned (.plain (OpenSpec.upto kdfExpandsSpec)) kdfExpandsUptoCard
end Rows
end Go.Proofs.YtjjabkimmgcejabDoor
