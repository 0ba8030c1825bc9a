/-
  DERIVED. GIVEN WITH THE SEED: THE CARDS: each row of YtjcmpfnndjlpkabDoorRows.lean that lists a variable, with what it lists TIED to the program's text (the seventh form; the later family's looks); each row that meets fmt, with fmt's text TOLD by the authors' own Lean function (tested against real Go, not proved from fmt's source: count such statements apart). THE CARD IS WHAT COUNTS. Prove the row's statement (the work); the ties are given (YtjcmpfnndjlpkabDoorTie.lean); close each card by the builder's one call (the guide's Derived/Test/ToyasCard.lean, 'card_holds'). Laid BY PROGRAM, IN A SANDBOX (cutbox-door.mjs). By AI agents, Wed Nov 11 2026. No macro, syntax, notation, axiom, sorry.
-/
import Derived.Test.YtjcmpfnndjlpkabDoorRows
import GoSem.ClaimSeven
namespace Go.Proofs.YtjcmpfnndjlpkabDoor
namespace Rows

/-- THE TIED CARD OF 'casketlaw4.ChachaBack'. -/
def chachaBackCard : Claim7 := { stood := { row := chachaBackRow, standIns := [], harness := (true, "85ea008e8aa6e6e5bad307800ed628d2206019ae67b2385a6cabb28ec356ba84"), looks := false }, kinds := [], alts := [], laidByText := true, laidKinds := [.data, .data], laidTests := true, laidLooks := .later }
def ChachaBackCardSaid : Prop := Claim7.holds Tryd.pinned (.plain (OpenSpec.ofChange chachaBackSpec)) chachaBackCard

/-- THE TIED CARD OF 'casketlaw4.ChachaBlocks'. -/
def chachaBlocksCard : Claim7 := { stood := { row := chachaBlocksRow, standIns := [], harness := (true, "85ea008e8aa6e6e5bad307800ed628d2206019ae67b2385a6cabb28ec356ba84"), looks := false }, kinds := [], alts := [], laidByText := true, laidKinds := [.data, .data, .data], laidTests := true, laidLooks := .later }
def ChachaBlocksCardSaid : Prop := Claim7.holds Tryd.pinned (.plain (OpenSpec.ofChange chachaBlocksSpec)) chachaBlocksCard

/-- THE TIED CARD OF 'casketlaw4.ChachaXors'. -/
def chachaXorsCard : Claim7 := { stood := { row := chachaXorsRow, standIns := [], harness := (true, "85ea008e8aa6e6e5bad307800ed628d2206019ae67b2385a6cabb28ec356ba84"), looks := false }, kinds := [], alts := [], laidByText := true, laidKinds := [.data, .data, .data], laidTests := true, laidLooks := .later }
def ChachaXorsCardSaid : Prop := Claim7.holds Tryd.pinned (.plain (OpenSpec.ofChange chachaXorsSpec)) chachaXorsCard

/-- THE TIED CARD OF 'casketlaw4.ChachaLongs'. -/
def chachaLongsCard : Claim7 := { stood := { row := chachaLongsRow, standIns := [], harness := (true, "85ea008e8aa6e6e5bad307800ed628d2206019ae67b2385a6cabb28ec356ba84"), looks := false }, kinds := [], alts := [], laidByText := true, laidKinds := [.data, .data, .data], laidTests := true, laidLooks := .later }
def ChachaLongsCardSaid : Prop := Claim7.holds Tryd.pinned (.plain (OpenSpec.ofChange chachaLongsSpec)) chachaLongsCard

/-- THE SECOND FORM's CARD OF 'casketlaw4.ChachaBack'. -/
def chachaBackUptoCard : Claim7 := { stood := { row := chachaBackUptoRow, standIns := [], harness := (true, "85ea008e8aa6e6e5bad307800ed628d2206019ae67b2385a6cabb28ec356ba84"), looks := false }, kinds := [], alts := [], laidByText := true, laidKinds := [.data, .data], laidTests := true, laidLooks := .later }
def ChachaBackUptoCardSaid : Prop := Claim7.holds Tryd.pinned (.plain (OpenSpec.upto chachaBackSpec)) chachaBackUptoCard

/-- THE SECOND FORM's CARD OF 'casketlaw4.ChachaBlocks'. -/
def chachaBlocksUptoCard : Claim7 := { stood := { row := chachaBlocksUptoRow, standIns := [], harness := (true, "85ea008e8aa6e6e5bad307800ed628d2206019ae67b2385a6cabb28ec356ba84"), looks := false }, kinds := [], alts := [], laidByText := true, laidKinds := [.data, .data, .data], laidTests := true, laidLooks := .later }
def ChachaBlocksUptoCardSaid : Prop := Claim7.holds Tryd.pinned (.plain (OpenSpec.upto chachaBlocksSpec)) chachaBlocksUptoCard

/-- THE SECOND FORM's CARD OF 'casketlaw4.ChachaXors'. -/
def chachaXorsUptoCard : Claim7 := { stood := { row := chachaXorsUptoRow, standIns := [], harness := (true, "85ea008e8aa6e6e5bad307800ed628d2206019ae67b2385a6cabb28ec356ba84"), looks := false }, kinds := [], alts := [], laidByText := true, laidKinds := [.data, .data, .data], laidTests := true, laidLooks := .later }
def ChachaXorsUptoCardSaid : Prop := Claim7.holds Tryd.pinned (.plain (OpenSpec.upto chachaXorsSpec)) chachaXorsUptoCard

/-- THE SECOND FORM's CARD OF 'casketlaw4.ChachaLongs'. -/
def chachaLongsUptoCard : Claim7 := { stood := { row := chachaLongsUptoRow, standIns := [], harness := (true, "85ea008e8aa6e6e5bad307800ed628d2206019ae67b2385a6cabb28ec356ba84"), looks := false }, kinds := [], alts := [], laidByText := true, laidKinds := [.data, .data, .data], laidTests := true, laidLooks := .later }
def ChachaLongsUptoCardSaid : Prop := Claim7.holds Tryd.pinned (.plain (OpenSpec.upto chachaLongsSpec)) chachaLongsUptoCard
end Rows
end Go.Proofs.YtjcmpfnndjlpkabDoor
