/-
  DERIVED. GIVEN WITH THE SEED: THE CARDS: each row of YtjcmpfnndjlpkaaDoorRows.lean that lists a variable, with what it lists TIED to the program's text (the seventh form; the later family's looks); each row that meets fmt, with fmt's text TOLD by the authors' own Lean function (tested against real Go, not proved from fmt's source: count such statements apart). THE CARD IS WHAT COUNTS. Prove the row's statement (the work); the ties are given (YtjcmpfnndjlpkaaDoorTie.lean); close each card by the builder's one call (the guide's Derived/Test/ToyasCard.lean, 'card_holds'). Laid BY PROGRAM, IN A SANDBOX (cutbox-door.mjs). By AI agents, Wed Nov 11 2026. No macro, syntax, notation, axiom, sorry.
-/
import Derived.Test.YtjcmpfnndjlpkaaDoorRows
import GoSem.ClaimSeven
namespace Go.Proofs.YtjcmpfnndjlpkaaDoor
namespace Rows

/-- THE TIED CARD OF 'casketlaw4.ChachaKnown'. -/
def chachaKnownCard : Claim7 := { stood := { row := chachaKnownRow, standIns := [], harness := (true, "3003804229284a956ec3de7d353807396c81b9028cb3563fafb9db3b29b8ab00"), looks := false }, kinds := [], alts := [], laidByText := true, laidKinds := [.data, .data], laidTests := true, laidLooks := .later }
def ChachaKnownCardSaid : Prop := Claim7.holds Tryd.pinned (.plain (OpenSpec.ofChange chachaKnownSpec)) chachaKnownCard

/-- THE TIED CARD OF 'casketlaw4.ChachaHashes'. -/
def chachaHashesCard : Claim7 := { stood := { row := chachaHashesRow, standIns := [], harness := (true, "3003804229284a956ec3de7d353807396c81b9028cb3563fafb9db3b29b8ab00"), looks := false }, kinds := [], alts := [], laidByText := true, laidKinds := [.data, .data, .data], laidTests := true, laidLooks := .later }
def ChachaHashesCardSaid : Prop := Claim7.holds Tryd.pinned (.plain (OpenSpec.ofChange chachaHashesSpec)) chachaHashesCard

/-- THE TIED CARD OF 'casketlaw4.ChachaLongIsShort'. -/
def chachaLongIsShortCard : Claim7 := { stood := { row := chachaLongIsShortRow, standIns := [], harness := (true, "3003804229284a956ec3de7d353807396c81b9028cb3563fafb9db3b29b8ab00"), looks := false }, kinds := [], alts := [], laidByText := true, laidKinds := [.data, .data], laidTests := true, laidLooks := .later }
def ChachaLongIsShortCardSaid : Prop := Claim7.holds Tryd.pinned (.plain (OpenSpec.ofChange chachaLongIsShortSpec)) chachaLongIsShortCard

/-- THE TIED CARD OF 'casketlaw4.ChachaEnds'. -/
def chachaEndsCard : Claim7 := { stood := { row := chachaEndsRow, standIns := [], harness := (true, "3003804229284a956ec3de7d353807396c81b9028cb3563fafb9db3b29b8ab00"), looks := false }, kinds := [], alts := [], laidByText := true, laidKinds := [.data, .data], laidTests := true, laidLooks := .later }
def ChachaEndsCardSaid : Prop := Claim7.holds Tryd.pinned (.plain (OpenSpec.ofChange chachaEndsSpec)) chachaEndsCard

/-- THE TIED CARD OF 'casketlaw4.ChachaStream'. -/
def chachaStreamCard : Claim7 := { stood := { row := chachaStreamRow, standIns := [], harness := (true, "3003804229284a956ec3de7d353807396c81b9028cb3563fafb9db3b29b8ab00"), looks := false }, kinds := [], alts := [], laidByText := true, laidKinds := [.data, .data], laidTests := true, laidLooks := .later }
def ChachaStreamCardSaid : Prop := Claim7.holds Tryd.pinned (.plain (OpenSpec.ofChange chachaStreamSpec)) chachaStreamCard

/-- THE SECOND FORM's CARD OF 'casketlaw4.ChachaKnown'. -/
def chachaKnownUptoCard : Claim7 := { stood := { row := chachaKnownUptoRow, standIns := [], harness := (true, "3003804229284a956ec3de7d353807396c81b9028cb3563fafb9db3b29b8ab00"), looks := false }, kinds := [], alts := [], laidByText := true, laidKinds := [.data, .data], laidTests := true, laidLooks := .later }
def ChachaKnownUptoCardSaid : Prop := Claim7.holds Tryd.pinned (.plain (OpenSpec.upto chachaKnownSpec)) chachaKnownUptoCard

/-- THE SECOND FORM's CARD OF 'casketlaw4.ChachaHashes'. -/
def chachaHashesUptoCard : Claim7 := { stood := { row := chachaHashesUptoRow, standIns := [], harness := (true, "3003804229284a956ec3de7d353807396c81b9028cb3563fafb9db3b29b8ab00"), looks := false }, kinds := [], alts := [], laidByText := true, laidKinds := [.data, .data, .data], laidTests := true, laidLooks := .later }
def ChachaHashesUptoCardSaid : Prop := Claim7.holds Tryd.pinned (.plain (OpenSpec.upto chachaHashesSpec)) chachaHashesUptoCard

/-- THE SECOND FORM's CARD OF 'casketlaw4.ChachaLongIsShort'. -/
def chachaLongIsShortUptoCard : Claim7 := { stood := { row := chachaLongIsShortUptoRow, standIns := [], harness := (true, "3003804229284a956ec3de7d353807396c81b9028cb3563fafb9db3b29b8ab00"), looks := false }, kinds := [], alts := [], laidByText := true, laidKinds := [.data, .data], laidTests := true, laidLooks := .later }
def ChachaLongIsShortUptoCardSaid : Prop := Claim7.holds Tryd.pinned (.plain (OpenSpec.upto chachaLongIsShortSpec)) chachaLongIsShortUptoCard

/-- THE SECOND FORM's CARD OF 'casketlaw4.ChachaEnds'. -/
def chachaEndsUptoCard : Claim7 := { stood := { row := chachaEndsUptoRow, standIns := [], harness := (true, "3003804229284a956ec3de7d353807396c81b9028cb3563fafb9db3b29b8ab00"), looks := false }, kinds := [], alts := [], laidByText := true, laidKinds := [.data, .data], laidTests := true, laidLooks := .later }
def ChachaEndsUptoCardSaid : Prop := Claim7.holds Tryd.pinned (.plain (OpenSpec.upto chachaEndsSpec)) chachaEndsUptoCard

/-- THE SECOND FORM's CARD OF 'casketlaw4.ChachaStream'. -/
def chachaStreamUptoCard : Claim7 := { stood := { row := chachaStreamUptoRow, standIns := [], harness := (true, "3003804229284a956ec3de7d353807396c81b9028cb3563fafb9db3b29b8ab00"), looks := false }, kinds := [], alts := [], laidByText := true, laidKinds := [.data, .data], laidTests := true, laidLooks := .later }
def ChachaStreamUptoCardSaid : Prop := Claim7.holds Tryd.pinned (.plain (OpenSpec.upto chachaStreamSpec)) chachaStreamUptoCard
end Rows
end Go.Proofs.YtjcmpfnndjlpkaaDoor
