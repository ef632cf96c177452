/-
  DERIVED. GIVEN WITH THE SEED: THE CARDS: each row of YtdckdhbnfakleaaDoorRows.lean that lists a variable, with what it lists TIED to the program's text (the seventh form; the later family's looks); each row that meets fmt, with fmt's text TOLD by the authors' own Lean function (tested against real Go, not proved from fmt's source: count such statements apart). THE CARD IS WHAT COUNTS. Prove the row's statement (the work); the ties are given (YtdckdhbnfakleaaDoorTie.lean); close each card by the builder's one call (the guide's Derived/Test/ToyasCard.lean, 'card_holds'). Laid BY PROGRAM, IN A SANDBOX (cutbox-door.mjs). By AI agents, Wed Nov 11 2026. No macro, syntax, notation, axiom, sorry.
-/
import Derived.Test.YtdckdhbnfakleaaDoorRows
import GoSem.ClaimSeven
namespace Go.Proofs.YtdckdhbnfakleaaDoor
namespace Rows

/-- THE TIED CARD OF 'cenotaphlaw39.FoldTexts'. -/
def foldTextsCard : Claim7 := { stood := { row := foldTextsRow, standIns := [], harness := (true, "28c071b6d8f47faf6a7a8ce73acf75c4494ad800cdd3b2e28f232f37c03372c0"), looks := false }, kinds := [], alts := [], laidByText := true, laidKinds := [.data, .pinned], laidTests := true, laidLooks := .later }
def FoldTextsCardSaid : Prop := Claim7.holds Tryd.pinned (.plain (OpenSpec.ofChange foldTextsSpec)) foldTextsCard

/-- THE TIED CARD OF 'cenotaphlaw39.FoldSorts'. -/
def foldSortsCard : Claim7 := { stood := { row := foldSortsRow, standIns := [], harness := (true, "28c071b6d8f47faf6a7a8ce73acf75c4494ad800cdd3b2e28f232f37c03372c0"), looks := false }, kinds := [], alts := [], laidByText := true, laidKinds := [.data, .pinned], laidTests := true, laidLooks := .later }
def FoldSortsCardSaid : Prop := Claim7.holds Tryd.pinned (.plain (OpenSpec.ofChange foldSortsSpec)) foldSortsCard

/-- THE TIED CARD OF 'cenotaphlaw39.FoldOrder'. -/
def foldOrderCard : Claim7 := { stood := { row := foldOrderRow, standIns := [], harness := (true, "28c071b6d8f47faf6a7a8ce73acf75c4494ad800cdd3b2e28f232f37c03372c0"), looks := false }, kinds := [], alts := [], laidByText := true, laidKinds := [.data, .pinned], laidTests := true, laidLooks := .later }
def FoldOrderCardSaid : Prop := Claim7.holds Tryd.pinned (.plain (OpenSpec.ofChange foldOrderSpec)) foldOrderCard

/-- THE SECOND FORM's CARD OF 'cenotaphlaw39.FoldTexts'. -/
def foldTextsUptoCard : Claim7 := { stood := { row := foldTextsUptoRow, standIns := [], harness := (true, "28c071b6d8f47faf6a7a8ce73acf75c4494ad800cdd3b2e28f232f37c03372c0"), looks := false }, kinds := [], alts := [], laidByText := true, laidKinds := [.data, .pinned], laidTests := true, laidLooks := .later }
def FoldTextsUptoCardSaid : Prop := Claim7.holds Tryd.pinned (.plain (OpenSpec.upto foldTextsSpec)) foldTextsUptoCard

/-- THE SECOND FORM's CARD OF 'cenotaphlaw39.FoldSorts'. -/
def foldSortsUptoCard : Claim7 := { stood := { row := foldSortsUptoRow, standIns := [], harness := (true, "28c071b6d8f47faf6a7a8ce73acf75c4494ad800cdd3b2e28f232f37c03372c0"), looks := false }, kinds := [], alts := [], laidByText := true, laidKinds := [.data, .pinned], laidTests := true, laidLooks := .later }
def FoldSortsUptoCardSaid : Prop := Claim7.holds Tryd.pinned (.plain (OpenSpec.upto foldSortsSpec)) foldSortsUptoCard

/-- THE SECOND FORM's CARD OF 'cenotaphlaw39.FoldOrder'. -/
def foldOrderUptoCard : Claim7 := { stood := { row := foldOrderUptoRow, standIns := [], harness := (true, "28c071b6d8f47faf6a7a8ce73acf75c4494ad800cdd3b2e28f232f37c03372c0"), looks := false }, kinds := [], alts := [], laidByText := true, laidKinds := [.data, .pinned], laidTests := true, laidLooks := .later }
def FoldOrderUptoCardSaid : Prop := Claim7.holds Tryd.pinned (.plain (OpenSpec.upto foldOrderSpec)) foldOrderUptoCard
end Rows
end Go.Proofs.YtdckdhbnfakleaaDoor
