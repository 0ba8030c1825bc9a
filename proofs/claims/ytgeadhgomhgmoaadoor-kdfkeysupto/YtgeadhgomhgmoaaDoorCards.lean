/-
  DERIVED. GIVEN WITH THE SEED: THE CARDS: each row of YtgeadhgomhgmoaaDoorRows.lean that lists a variable, with what it lists TIED to the program's text (the seventh form; the later family's looks); each row that meets fmt, with fmt's text TOLD by the authors' own Lean function (tested against real Go, not proved from fmt's source: count such statements apart). THE CARD IS WHAT COUNTS. Prove the row's statement (the work); the ties are given (YtgeadhgomhgmoaaDoorTie.lean); close each card by the builder's one call (the guide's Derived/Test/ToyasCard.lean, 'card_holds'). Laid BY PROGRAM, IN A SANDBOX (cutbox-door.mjs). By AI agents, Wed Nov 11 2026. No macro, syntax, notation, axiom, sorry.
-/
import Derived.Test.YtgeadhgomhgmoaaDoorRows
import GoSem.ClaimSeven
namespace Go.Proofs.YtgeadhgomhgmoaaDoor
namespace Rows

/-- THE TIED CARD OF 'casketlaw2.ShaStates'. -/
def shaStatesCard : Claim7 := { stood := { row := shaStatesRow, standIns := [], harness := (true, "4b7b4e743656cbfe74ed278673168a1e29669af1352ae210ddd85efae2039de3"), looks := false }, kinds := [], alts := [], laidByText := true, laidKinds := [.data, .data], laidTests := true, laidLooks := .later }
def ShaStatesCardSaid : Prop := Claim7.holds Tryd.pinned (.plain (OpenSpec.ofChange shaStatesSpec)) shaStatesCard

/-- THE TIED CARD OF 'casketlaw2.ShaCuts'. -/
def shaCutsCard : Claim7 := { stood := { row := shaCutsRow, standIns := [], harness := (true, "4b7b4e743656cbfe74ed278673168a1e29669af1352ae210ddd85efae2039de3"), looks := false }, kinds := [], alts := [], laidByText := true, laidKinds := [.data, .data], laidTests := true, laidLooks := .later }
def ShaCutsCardSaid : Prop := Claim7.holds Tryd.pinned (.plain (OpenSpec.ofChange shaCutsSpec)) shaCutsCard

/-- THE TIED CARD OF 'casketlaw2.ShaSums'. -/
def shaSumsCard : Claim7 := { stood := { row := shaSumsRow, standIns := [], harness := (true, "4b7b4e743656cbfe74ed278673168a1e29669af1352ae210ddd85efae2039de3"), looks := false }, kinds := [], alts := [], laidByText := true, laidKinds := [.data, .data, .data, .data], laidTests := true, laidLooks := .later }
def ShaSumsCardSaid : Prop := Claim7.holds Tryd.pinned (.plain (OpenSpec.ofChange shaSumsSpec)) shaSumsCard

/-- THE TIED CARD OF 'casketlaw2.ShaHashers'. -/
def shaHashersCard : Claim7 := { stood := { row := shaHashersRow, standIns := [], harness := (true, "4b7b4e743656cbfe74ed278673168a1e29669af1352ae210ddd85efae2039de3"), looks := false }, kinds := [], alts := [], laidByText := true, laidKinds := [.data, .data, .data, .data], laidTests := true, laidLooks := .later }
def ShaHashersCardSaid : Prop := Claim7.holds Tryd.pinned (.plain (OpenSpec.ofChange shaHashersSpec)) shaHashersCard

/-- THE TIED CARD OF 'casketlaw3.KdfKeys'. -/
def kdfKeysCard : Claim7 := { stood := { row := kdfKeysRow, standIns := [], harness := (true, "4b7b4e743656cbfe74ed278673168a1e29669af1352ae210ddd85efae2039de3"), looks := false }, kinds := [], alts := [], laidByText := true, laidKinds := [.data, .data], laidTests := true, laidLooks := .later }
def KdfKeysCardSaid : Prop := Claim7.holds Tryd.pinned (.plain (OpenSpec.ofChange kdfKeysSpec)) kdfKeysCard

/-- THE TIED CARD OF 'casketlaw3.KdfCuts'. -/
def kdfCutsCard : Claim7 := { stood := { row := kdfCutsRow, standIns := [], harness := (true, "4b7b4e743656cbfe74ed278673168a1e29669af1352ae210ddd85efae2039de3"), looks := false }, kinds := [], alts := [], laidByText := true, laidKinds := [.data, .data], laidTests := true, laidLooks := .later }
def KdfCutsCardSaid : Prop := Claim7.holds Tryd.pinned (.plain (OpenSpec.ofChange kdfCutsSpec)) kdfCutsCard

/-- THE SECOND FORM's CARD OF 'casketlaw2.ShaStates'. -/
def shaStatesUptoCard : Claim7 := { stood := { row := shaStatesUptoRow, standIns := [], harness := (true, "4b7b4e743656cbfe74ed278673168a1e29669af1352ae210ddd85efae2039de3"), looks := false }, kinds := [], alts := [], laidByText := true, laidKinds := [.data, .data], laidTests := true, laidLooks := .later }
def ShaStatesUptoCardSaid : Prop := Claim7.holds Tryd.pinned (.plain (OpenSpec.upto shaStatesSpec)) shaStatesUptoCard

/-- THE SECOND FORM's CARD OF 'casketlaw2.ShaCuts'. -/
def shaCutsUptoCard : Claim7 := { stood := { row := shaCutsUptoRow, standIns := [], harness := (true, "4b7b4e743656cbfe74ed278673168a1e29669af1352ae210ddd85efae2039de3"), looks := false }, kinds := [], alts := [], laidByText := true, laidKinds := [.data, .data], laidTests := true, laidLooks := .later }
def ShaCutsUptoCardSaid : Prop := Claim7.holds Tryd.pinned (.plain (OpenSpec.upto shaCutsSpec)) shaCutsUptoCard

/-- THE SECOND FORM's CARD OF 'casketlaw2.ShaSums'. -/
def shaSumsUptoCard : Claim7 := { stood := { row := shaSumsUptoRow, standIns := [], harness := (true, "4b7b4e743656cbfe74ed278673168a1e29669af1352ae210ddd85efae2039de3"), looks := false }, kinds := [], alts := [], laidByText := true, laidKinds := [.data, .data, .data, .data], laidTests := true, laidLooks := .later }
def ShaSumsUptoCardSaid : Prop := Claim7.holds Tryd.pinned (.plain (OpenSpec.upto shaSumsSpec)) shaSumsUptoCard

/-- THE SECOND FORM's CARD OF 'casketlaw2.ShaHashers'. -/
def shaHashersUptoCard : Claim7 := { stood := { row := shaHashersUptoRow, standIns := [], harness := (true, "4b7b4e743656cbfe74ed278673168a1e29669af1352ae210ddd85efae2039de3"), looks := false }, kinds := [], alts := [], laidByText := true, laidKinds := [.data, .data, .data, .data], laidTests := true, laidLooks := .later }
def ShaHashersUptoCardSaid : Prop := Claim7.holds Tryd.pinned (.plain (OpenSpec.upto shaHashersSpec)) shaHashersUptoCard

/-- THE SECOND FORM's CARD OF 'casketlaw3.KdfKeys'. -/
def kdfKeysUptoCard : Claim7 := { stood := { row := kdfKeysUptoRow, standIns := [], harness := (true, "4b7b4e743656cbfe74ed278673168a1e29669af1352ae210ddd85efae2039de3"), looks := false }, kinds := [], alts := [], laidByText := true, laidKinds := [.data, .data], laidTests := true, laidLooks := .later }
def KdfKeysUptoCardSaid : Prop := Claim7.holds Tryd.pinned (.plain (OpenSpec.upto kdfKeysSpec)) kdfKeysUptoCard

/-- THE SECOND FORM's CARD OF 'casketlaw3.KdfCuts'. -/
def kdfCutsUptoCard : Claim7 := { stood := { row := kdfCutsUptoRow, standIns := [], harness := (true, "4b7b4e743656cbfe74ed278673168a1e29669af1352ae210ddd85efae2039de3"), looks := false }, kinds := [], alts := [], laidByText := true, laidKinds := [.data, .data], laidTests := true, laidLooks := .later }
def KdfCutsUptoCardSaid : Prop := Claim7.holds Tryd.pinned (.plain (OpenSpec.upto kdfCutsSpec)) kdfCutsUptoCard
end Rows
end Go.Proofs.YtgeadhgomhgmoaaDoor
