/-
  DERIVED. GIVEN WITH THE SEED: THE CARDS: each row of YtnhonjhpggnglaaDoorRows.lean that lists a variable, with what it lists TIED to the program's text (the seventh form; the later family's looks); each row that meets fmt, with fmt's text TOLD by the authors' own Lean function (tested against real Go, not proved from fmt's source: count such statements apart). THE CARD IS WHAT COUNTS. Prove the row's statement (the work); the ties are given (YtnhonjhpggnglaaDoorTie.lean); close each card by the builder's one call (the guide's Derived/Test/ToyasCard.lean, 'card_holds'). Laid BY PROGRAM, IN A SANDBOX (cutbox-door.mjs). By AI agents, Wed Nov 11 2026. No macro, syntax, notation, axiom, sorry.
-/
import Derived.Test.YtnhonjhpggnglaaDoorRows
import GoSem.ClaimSeven
namespace Go.Proofs.YtnhonjhpggnglaaDoor
namespace Rows

/-- THE TIED CARD OF 'cenotaphlaw01.RunesKeys'. -/
def runesKeysCard : Claim7 := { stood := { row := runesKeysRow, standIns := [], harness := (true, "907d2a2e2866bd6ef3cfe47f17478e74a4a295921ec690583560438c7644f975"), looks := false }, kinds := [], alts := [], laidByText := true, laidKinds := [.data, .pinned], laidTests := true, laidLooks := .later }
def RunesKeysCardSaid : Prop := Claim7.holds Tryd.pinned (.plain (OpenSpec.ofChange runesKeysSpec)) runesKeysCard

/-- THE TIED CARD OF 'cenotaphlaw01.RunesCuts'. -/
def runesCutsCard : Claim7 := { stood := { row := runesCutsRow, standIns := [], harness := (true, "907d2a2e2866bd6ef3cfe47f17478e74a4a295921ec690583560438c7644f975"), looks := false }, kinds := [], alts := [], laidByText := true, laidKinds := [.data, .pinned], laidTests := true, laidLooks := .later }
def RunesCutsCardSaid : Prop := Claim7.holds Tryd.pinned (.plain (OpenSpec.ofChange runesCutsSpec)) runesCutsCard

/-- THE TIED CARD OF 'cenotaphlaw01.RunesQuotes'. -/
def runesQuotesCard : Claim7 := { stood := { row := runesQuotesRow, standIns := [], harness := (true, "907d2a2e2866bd6ef3cfe47f17478e74a4a295921ec690583560438c7644f975"), looks := false }, kinds := [], alts := [], laidByText := true, laidKinds := [.data, .pinned], laidTests := true, laidLooks := .later }
def RunesQuotesCardSaid : Prop := Claim7.holds Tryd.pinned (.plain (OpenSpec.ofChange runesQuotesSpec)) runesQuotesCard

/-- THE SECOND FORM's CARD OF 'cenotaphlaw01.RunesKeys'. -/
def runesKeysUptoCard : Claim7 := { stood := { row := runesKeysUptoRow, standIns := [], harness := (true, "907d2a2e2866bd6ef3cfe47f17478e74a4a295921ec690583560438c7644f975"), looks := false }, kinds := [], alts := [], laidByText := true, laidKinds := [.data, .pinned], laidTests := true, laidLooks := .later }
def RunesKeysUptoCardSaid : Prop := Claim7.holds Tryd.pinned (.plain (OpenSpec.upto runesKeysSpec)) runesKeysUptoCard

/-- THE SECOND FORM's CARD OF 'cenotaphlaw01.RunesCuts'. -/
def runesCutsUptoCard : Claim7 := { stood := { row := runesCutsUptoRow, standIns := [], harness := (true, "907d2a2e2866bd6ef3cfe47f17478e74a4a295921ec690583560438c7644f975"), looks := false }, kinds := [], alts := [], laidByText := true, laidKinds := [.data, .pinned], laidTests := true, laidLooks := .later }
def RunesCutsUptoCardSaid : Prop := Claim7.holds Tryd.pinned (.plain (OpenSpec.upto runesCutsSpec)) runesCutsUptoCard

/-- THE SECOND FORM's CARD OF 'cenotaphlaw01.RunesQuotes'. -/
def runesQuotesUptoCard : Claim7 := { stood := { row := runesQuotesUptoRow, standIns := [], harness := (true, "907d2a2e2866bd6ef3cfe47f17478e74a4a295921ec690583560438c7644f975"), looks := false }, kinds := [], alts := [], laidByText := true, laidKinds := [.data, .pinned], laidTests := true, laidLooks := .later }
def RunesQuotesUptoCardSaid : Prop := Claim7.holds Tryd.pinned (.plain (OpenSpec.upto runesQuotesSpec)) runesQuotesUptoCard
end Rows
end Go.Proofs.YtnhonjhpggnglaaDoor
