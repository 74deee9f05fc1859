/-
  DERIVED. GIVEN WITH THE SEED: THE CARDS: each row of YtopbajkciclabaaDoorRows.lean that lists a variable, with what it lists TIED to the program's text (the seventh form; the later family's looks); each row that meets fmt, with fmt's text TOLD by the authors' own Lean function (tested against real Go, not proved from fmt's source: count such statements apart). THE CARD IS WHAT COUNTS. Prove the row's statement (the work); the ties are given (YtopbajkciclabaaDoorTie.lean); close each card by the builder's one call (the guide's Derived/Test/ToyasCard.lean, 'card_holds'). Laid BY PROGRAM, IN A SANDBOX (cutbox-door.mjs). By AI agents, Wed Nov 11 2026. No macro, syntax, notation, axiom, sorry.
-/
import Derived.Test.YtopbajkciclabaaDoorRows
import GoSem.ClaimSeven
namespace Go.Proofs.YtopbajkciclabaaDoor
namespace Rows

/-- THE TIED CARD OF 'engrosserlaw10.InflateOpens'. -/
def inflateOpensCard : Claim7 := { stood := { row := inflateOpensRow, standIns := [], harness := (true, "2f77e6ae202fc15042308cfe020280744db5366c16b3c18943b7a4550cfa51ed"), looks := false }, kinds := [], alts := [], laidByText := true, laidKinds := [.data], laidTests := true, laidLooks := .later }
def InflateOpensCardSaid : Prop := Claim7.holds Tryd.pinned (.plain (OpenSpec.ofChange inflateOpensSpec)) inflateOpensCard

/-- THE TIED CARD OF 'engrosserlaw10.InflateSymbols'. -/
def inflateSymbolsCard : Claim7 := { stood := { row := inflateSymbolsRow, standIns := [], harness := (true, "2f77e6ae202fc15042308cfe020280744db5366c16b3c18943b7a4550cfa51ed"), looks := false }, kinds := [], alts := [], laidByText := true, laidKinds := [.data], laidTests := true, laidLooks := .later }
def InflateSymbolsCardSaid : Prop := Claim7.holds Tryd.pinned (.plain (OpenSpec.ofChange inflateSymbolsSpec)) inflateSymbolsCard

/-- THE TIED CARD OF 'engrosserlaw10.InflateStored'. -/
def inflateStoredCard : Claim7 := { stood := { row := inflateStoredRow, standIns := [], harness := (true, "2f77e6ae202fc15042308cfe020280744db5366c16b3c18943b7a4550cfa51ed"), looks := false }, kinds := [], alts := [], laidByText := true, laidKinds := [.data], laidTests := true, laidLooks := .later }
def InflateStoredCardSaid : Prop := Claim7.holds Tryd.pinned (.plain (OpenSpec.ofChange inflateStoredSpec)) inflateStoredCard

/-- THE TIED CARD OF 'engrosserlaw10.InflateLimits'. -/
def inflateLimitsCard : Claim7 := { stood := { row := inflateLimitsRow, standIns := [], harness := (true, "2f77e6ae202fc15042308cfe020280744db5366c16b3c18943b7a4550cfa51ed"), looks := false }, kinds := [], alts := [], laidByText := true, laidKinds := [.data], laidTests := true, laidLooks := .later }
def InflateLimitsCardSaid : Prop := Claim7.holds Tryd.pinned (.plain (OpenSpec.ofChange inflateLimitsSpec)) inflateLimitsCard

/-- THE TIED CARD OF 'engrosserlaw10.InflateEnds'. -/
def inflateEndsCard : Claim7 := { stood := { row := inflateEndsRow, standIns := [], harness := (true, "2f77e6ae202fc15042308cfe020280744db5366c16b3c18943b7a4550cfa51ed"), looks := false }, kinds := [], alts := [], laidByText := true, laidKinds := [.data], laidTests := true, laidLooks := .later }
def InflateEndsCardSaid : Prop := Claim7.holds Tryd.pinned (.plain (OpenSpec.ofChange inflateEndsSpec)) inflateEndsCard

/-- THE TIED CARD OF 'engrosserlaw10.InflateFixed'. -/
def inflateFixedCard : Claim7 := { stood := { row := inflateFixedRow, standIns := [], harness := (true, "2f77e6ae202fc15042308cfe020280744db5366c16b3c18943b7a4550cfa51ed"), looks := false }, kinds := [], alts := [], laidByText := true, laidKinds := [.data], laidTests := true, laidLooks := .later }
def InflateFixedCardSaid : Prop := Claim7.holds Tryd.pinned (.plain (OpenSpec.ofChange inflateFixedSpec)) inflateFixedCard

/-- THE SECOND FORM's CARD OF 'engrosserlaw10.InflateOpens'. -/
def inflateOpensUptoCard : Claim7 := { stood := { row := inflateOpensUptoRow, standIns := [], harness := (true, "2f77e6ae202fc15042308cfe020280744db5366c16b3c18943b7a4550cfa51ed"), looks := false }, kinds := [], alts := [], laidByText := true, laidKinds := [.data], laidTests := true, laidLooks := .later }
def InflateOpensUptoCardSaid : Prop := Claim7.holds Tryd.pinned (.plain (OpenSpec.upto inflateOpensSpec)) inflateOpensUptoCard

/-- THE SECOND FORM's CARD OF 'engrosserlaw10.InflateSymbols'. -/
def inflateSymbolsUptoCard : Claim7 := { stood := { row := inflateSymbolsUptoRow, standIns := [], harness := (true, "2f77e6ae202fc15042308cfe020280744db5366c16b3c18943b7a4550cfa51ed"), looks := false }, kinds := [], alts := [], laidByText := true, laidKinds := [.data], laidTests := true, laidLooks := .later }
def InflateSymbolsUptoCardSaid : Prop := Claim7.holds Tryd.pinned (.plain (OpenSpec.upto inflateSymbolsSpec)) inflateSymbolsUptoCard

/-- THE SECOND FORM's CARD OF 'engrosserlaw10.InflateStored'. -/
def inflateStoredUptoCard : Claim7 := { stood := { row := inflateStoredUptoRow, standIns := [], harness := (true, "2f77e6ae202fc15042308cfe020280744db5366c16b3c18943b7a4550cfa51ed"), looks := false }, kinds := [], alts := [], laidByText := true, laidKinds := [.data], laidTests := true, laidLooks := .later }
def InflateStoredUptoCardSaid : Prop := Claim7.holds Tryd.pinned (.plain (OpenSpec.upto inflateStoredSpec)) inflateStoredUptoCard

/-- THE SECOND FORM's CARD OF 'engrosserlaw10.InflateLimits'. -/
def inflateLimitsUptoCard : Claim7 := { stood := { row := inflateLimitsUptoRow, standIns := [], harness := (true, "2f77e6ae202fc15042308cfe020280744db5366c16b3c18943b7a4550cfa51ed"), looks := false }, kinds := [], alts := [], laidByText := true, laidKinds := [.data], laidTests := true, laidLooks := .later }
def InflateLimitsUptoCardSaid : Prop := Claim7.holds Tryd.pinned (.plain (OpenSpec.upto inflateLimitsSpec)) inflateLimitsUptoCard

/-- THE SECOND FORM's CARD OF 'engrosserlaw10.InflateEnds'. -/
def inflateEndsUptoCard : Claim7 := { stood := { row := inflateEndsUptoRow, standIns := [], harness := (true, "2f77e6ae202fc15042308cfe020280744db5366c16b3c18943b7a4550cfa51ed"), looks := false }, kinds := [], alts := [], laidByText := true, laidKinds := [.data], laidTests := true, laidLooks := .later }
def InflateEndsUptoCardSaid : Prop := Claim7.holds Tryd.pinned (.plain (OpenSpec.upto inflateEndsSpec)) inflateEndsUptoCard

/-- THE SECOND FORM's CARD OF 'engrosserlaw10.InflateFixed'. -/
def inflateFixedUptoCard : Claim7 := { stood := { row := inflateFixedUptoRow, standIns := [], harness := (true, "2f77e6ae202fc15042308cfe020280744db5366c16b3c18943b7a4550cfa51ed"), looks := false }, kinds := [], alts := [], laidByText := true, laidKinds := [.data], laidTests := true, laidLooks := .later }
def InflateFixedUptoCardSaid : Prop := Claim7.holds Tryd.pinned (.plain (OpenSpec.upto inflateFixedSpec)) inflateFixedUptoCard
end Rows
end Go.Proofs.YtopbajkciclabaaDoor
