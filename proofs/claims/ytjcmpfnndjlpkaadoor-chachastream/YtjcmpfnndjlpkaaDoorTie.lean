/-
  DERIVED. GIVEN WITH THE SEED: THE PROGRAM's TIES (one call each: nine closed facts by the kernel) AND EACH ROW's TIE, after the 31st guide's Derived/Test/Toyas{Tie, Card}.lean. No idea stands in it: it is a product of the set-up. Laid BY PROGRAM, IN A SANDBOX (cutbox-door.mjs). By AI agents, Wed Nov 11 2026. No macro, syntax, notation, axiom, sorry.
-/
import Derived.Test.YtjcmpfnndjlpkaaDoorRows
import Derived.LaidByTextLater
import Derived.SevenTiedAt
import Derived.LaidSub
import Derived.LaidOnce
namespace Go.Proofs.YtjcmpfnndjlpkaaDoor
open Go
set_option maxRecDepth 100000
theorem seatTie1 : Tryd.prog.laidByTextLater [("casket/casketref4.places", Rows.laid_casket_casketref4_places), ("casket/chacha.firstWords", Rows.laid_casket_chacha_firstWords), ("casket/chacha.doubleRound", Rows.laid_casket_chacha_doubleRound)] [.data, .data, .data] true :=
  Program.laidByTextLater_by_one 32 8 33 (by kernel_rfl) (by kernel_rfl) (by kernel_rfl) (by kernel_rfl) (by kernel_rfl) (by kernel_rfl) (fun _ _ => by kernel_rfl)
theorem noOwnUnsafe : Tryd.pinned.checked.prog.headLifts.contains "ownunsafe" = false := by kernel_rfl
theorem tie : Tryd.prog.laidByTextLater [("casket/chacha.firstWords", Rows.laid_casket_chacha_firstWords), ("casket/chacha.doubleRound", Rows.laid_casket_chacha_doubleRound)] [.data, .data] true :=
  Program.laidByTextLater.sub seatTie1 ["casket/chacha.firstWords", "casket/chacha.doubleRound"] (by kernel_rfl) (by kernel_rfl)
theorem chachaKnown_row_tie : Rows.chachaKnownRow.laidByTextAt .later Tryd.pinned [.data, .data] true :=
  OpenClaim.laidByTextAt_later rfl rfl tie noOwnUnsafe
theorem chachaLongIsShort_row_tie : Rows.chachaLongIsShortRow.laidByTextAt .later Tryd.pinned [.data, .data] true :=
  OpenClaim.laidByTextAt_later rfl rfl tie noOwnUnsafe
theorem chachaEnds_row_tie : Rows.chachaEndsRow.laidByTextAt .later Tryd.pinned [.data, .data] true :=
  OpenClaim.laidByTextAt_later rfl rfl tie noOwnUnsafe
theorem chachaStream_row_tie : Rows.chachaStreamRow.laidByTextAt .later Tryd.pinned [.data, .data] true :=
  OpenClaim.laidByTextAt_later rfl rfl tie noOwnUnsafe
theorem tie2 : Tryd.prog.laidByTextLater [("casket/casketref4.places", Rows.laid_casket_casketref4_places), ("casket/chacha.firstWords", Rows.laid_casket_chacha_firstWords), ("casket/chacha.doubleRound", Rows.laid_casket_chacha_doubleRound)] [.data, .data, .data] true :=
  Program.laidByTextLater.sub seatTie1 ["casket/casketref4.places", "casket/chacha.firstWords", "casket/chacha.doubleRound"] (by kernel_rfl) (by kernel_rfl)
theorem chachaHashes_row_tie : Rows.chachaHashesRow.laidByTextAt .later Tryd.pinned [.data, .data, .data] true :=
  OpenClaim.laidByTextAt_later rfl rfl tie2 noOwnUnsafe
theorem chachaKnownUpto_row_tie : Rows.chachaKnownUptoRow.laidByTextAt .later Tryd.pinned [.data, .data] true :=
  OpenClaim.laidByTextAt_later rfl rfl tie noOwnUnsafe
theorem chachaHashesUpto_row_tie : Rows.chachaHashesUptoRow.laidByTextAt .later Tryd.pinned [.data, .data, .data] true :=
  OpenClaim.laidByTextAt_later rfl rfl tie2 noOwnUnsafe
theorem chachaLongIsShortUpto_row_tie : Rows.chachaLongIsShortUptoRow.laidByTextAt .later Tryd.pinned [.data, .data] true :=
  OpenClaim.laidByTextAt_later rfl rfl tie noOwnUnsafe
theorem chachaEndsUpto_row_tie : Rows.chachaEndsUptoRow.laidByTextAt .later Tryd.pinned [.data, .data] true :=
  OpenClaim.laidByTextAt_later rfl rfl tie noOwnUnsafe
theorem chachaStreamUpto_row_tie : Rows.chachaStreamUptoRow.laidByTextAt .later Tryd.pinned [.data, .data] true :=
  OpenClaim.laidByTextAt_later rfl rfl tie noOwnUnsafe
end Go.Proofs.YtjcmpfnndjlpkaaDoor
