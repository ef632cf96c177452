/-
  DERIVED. GIVEN WITH THE SEED: THE CARDS: each row of YtfnjmboflegaaaaDoorRows.lean that lists a variable, with what it lists TIED to the program's text (the seventh form; the later family's looks); each row that meets fmt, with fmt's text TOLD by the authors' own Lean function (tested against real Go, not proved from fmt's source: count such statements apart). THE CARD IS WHAT COUNTS. Prove the row's statement (the work); the ties are given (YtfnjmboflegaaaaDoorTie.lean); close each card by the builder's one call (the guide's Derived/Test/ToyasCard.lean, 'card_holds'). Laid BY PROGRAM, IN A SANDBOX (cutbox-door.mjs). By AI agents, Wed Nov 11 2026. No macro, syntax, notation, axiom, sorry.
-/
import Derived.Test.YtfnjmboflegaaaaDoorRows
import GoSem.ClaimSeven
namespace Go.Proofs.YtfnjmboflegaaaaDoor
namespace Rows

/-- THE TIED CARD OF 'cenotaphlaw38.GlobMatches'. -/
def globMatchesCard : Claim7 := { stood := { row := globMatchesRow, standIns := [], harness := (true, "88d15e4f8cf4f1e52a6942482f18207082450cda1417f4a18c8046e6029d1632"), looks := false }, kinds := [], alts := [], laidByText := true, laidKinds := [.data, .pinned], laidTests := true, laidLooks := .later }
def GlobMatchesCardSaid : Prop := Claim7.holds Tryd.pinned (.plain (OpenSpec.ofChange globMatchesSpec)) globMatchesCard

/-- THE TIED CARD OF 'cenotaphlaw38.GlobPlain'. -/
def globPlainCard : Claim7 := { stood := { row := globPlainRow, standIns := [], harness := (true, "88d15e4f8cf4f1e52a6942482f18207082450cda1417f4a18c8046e6029d1632"), looks := false }, kinds := [], alts := [], laidByText := true, laidKinds := [.data, .pinned], laidTests := true, laidLooks := .later }
def GlobPlainCardSaid : Prop := Claim7.holds Tryd.pinned (.plain (OpenSpec.ofChange globPlainSpec)) globPlainCard

/-- THE TIED CARD OF 'cenotaphlaw38.GlobBegins'. -/
def globBeginsCard : Claim7 := { stood := { row := globBeginsRow, standIns := [], harness := (true, "88d15e4f8cf4f1e52a6942482f18207082450cda1417f4a18c8046e6029d1632"), looks := false }, kinds := [], alts := [], laidByText := true, laidKinds := [.data, .pinned], laidTests := true, laidLooks := .later }
def GlobBeginsCardSaid : Prop := Claim7.holds Tryd.pinned (.plain (OpenSpec.ofChange globBeginsSpec)) globBeginsCard

/-- THE SECOND FORM's CARD OF 'cenotaphlaw38.GlobMatches'. -/
def globMatchesUptoCard : Claim7 := { stood := { row := globMatchesUptoRow, standIns := [], harness := (true, "88d15e4f8cf4f1e52a6942482f18207082450cda1417f4a18c8046e6029d1632"), looks := false }, kinds := [], alts := [], laidByText := true, laidKinds := [.data, .pinned], laidTests := true, laidLooks := .later }
def GlobMatchesUptoCardSaid : Prop := Claim7.holds Tryd.pinned (.plain (OpenSpec.upto globMatchesSpec)) globMatchesUptoCard

/-- THE SECOND FORM's CARD OF 'cenotaphlaw38.GlobPlain'. -/
def globPlainUptoCard : Claim7 := { stood := { row := globPlainUptoRow, standIns := [], harness := (true, "88d15e4f8cf4f1e52a6942482f18207082450cda1417f4a18c8046e6029d1632"), looks := false }, kinds := [], alts := [], laidByText := true, laidKinds := [.data, .pinned], laidTests := true, laidLooks := .later }
def GlobPlainUptoCardSaid : Prop := Claim7.holds Tryd.pinned (.plain (OpenSpec.upto globPlainSpec)) globPlainUptoCard

/-- THE SECOND FORM's CARD OF 'cenotaphlaw38.GlobBegins'. -/
def globBeginsUptoCard : Claim7 := { stood := { row := globBeginsUptoRow, standIns := [], harness := (true, "88d15e4f8cf4f1e52a6942482f18207082450cda1417f4a18c8046e6029d1632"), looks := false }, kinds := [], alts := [], laidByText := true, laidKinds := [.data, .pinned], laidTests := true, laidLooks := .later }
def GlobBeginsUptoCardSaid : Prop := Claim7.holds Tryd.pinned (.plain (OpenSpec.upto globBeginsSpec)) globBeginsUptoCard
end Rows
end Go.Proofs.YtfnjmboflegaaaaDoor
