/-
  DERIVED. GIVEN WITH THE SEED: THE CARDS: each row of YtgilnaheedmmfaaDoorRows.lean that lists a variable, with what it lists TIED to the program's text (the seventh form; the later family's looks); each row that meets fmt, with fmt's text TOLD by the authors' own Lean function (tested against real Go, not proved from fmt's source: count such statements apart). THE CARD IS WHAT COUNTS. Prove the row's statement (the work); the ties are given (YtgilnaheedmmfaaDoorTie.lean); close each card by the builder's one call (the guide's Derived/Test/ToyasCard.lean, 'card_holds'). Laid BY PROGRAM, IN A SANDBOX (cutbox-door.mjs). By AI agents, Wed Nov 11 2026. No macro, syntax, notation, axiom, sorry.
-/
import Derived.Test.YtgilnaheedmmfaaDoorRows
import GoSem.ClaimSeven
namespace Go.Proofs.YtgilnaheedmmfaaDoor
namespace Rows

/-- THE TIED CARD OF 'nearbylaw.Entries'. -/
def entriesCard : Claim7 := { stood := { row := entriesRow, standIns := [], harness := (true, "df6ce2039a52c521171f2f8e2caeca000b9988db04a1f09df7c2bcf7da6decd2"), looks := true }, kinds := [], alts := [], laidByText := true, laidKinds := [.handle], laidTests := true, laidLooks := .later }
def EntriesCardSaid : Prop := Claim7.holds Tryd.pinned (.plain (OpenSpec.ofChange entriesSpec)) entriesCard

/-- THE TIED CARD OF 'nearbylaw.Searches'. -/
def searchesCard : Claim7 := { stood := { row := searchesRow, standIns := [], harness := (true, "df6ce2039a52c521171f2f8e2caeca000b9988db04a1f09df7c2bcf7da6decd2"), looks := true }, kinds := [], alts := [], laidByText := true, laidKinds := [.handle], laidTests := true, laidLooks := .later }
def SearchesCardSaid : Prop := Claim7.holds Tryd.pinned (.plain (OpenSpec.ofChange searchesSpec)) searchesCard

/-- THE TIED CARD OF 'nearbylaw.Graphs'. -/
def graphsCard : Claim7 := { stood := { row := graphsRow, standIns := [], harness := (true, "df6ce2039a52c521171f2f8e2caeca000b9988db04a1f09df7c2bcf7da6decd2"), looks := true }, kinds := [], alts := [], laidByText := true, laidKinds := [.handle], laidTests := true, laidLooks := .later }
def GraphsCardSaid : Prop := Claim7.holds Tryd.pinned (.plain (OpenSpec.ofChange graphsSpec)) graphsCard

/-- THE TIED CARD OF 'nearbylaw.All'. -/
def allCard : Claim7 := { stood := { row := allRow, standIns := [], harness := (true, "df6ce2039a52c521171f2f8e2caeca000b9988db04a1f09df7c2bcf7da6decd2"), looks := true }, kinds := [], alts := [], laidByText := true, laidKinds := [.handle], laidTests := true, laidLooks := .later }
def AllCardSaid : Prop := Claim7.holds Tryd.pinned (.plain (OpenSpec.ofChange allSpec)) allCard

/-- THE SECOND FORM's CARD OF 'nearbylaw.Entries'. -/
def entriesUptoCard : Claim7 := { stood := { row := entriesUptoRow, standIns := [], harness := (true, "df6ce2039a52c521171f2f8e2caeca000b9988db04a1f09df7c2bcf7da6decd2"), looks := true }, kinds := [], alts := [], laidByText := true, laidKinds := [.handle], laidTests := true, laidLooks := .later }
def EntriesUptoCardSaid : Prop := Claim7.holds Tryd.pinned (.plain (OpenSpec.upto entriesSpec)) entriesUptoCard

/-- THE SECOND FORM's CARD OF 'nearbylaw.Searches'. -/
def searchesUptoCard : Claim7 := { stood := { row := searchesUptoRow, standIns := [], harness := (true, "df6ce2039a52c521171f2f8e2caeca000b9988db04a1f09df7c2bcf7da6decd2"), looks := true }, kinds := [], alts := [], laidByText := true, laidKinds := [.handle], laidTests := true, laidLooks := .later }
def SearchesUptoCardSaid : Prop := Claim7.holds Tryd.pinned (.plain (OpenSpec.upto searchesSpec)) searchesUptoCard

/-- THE SECOND FORM's CARD OF 'nearbylaw.Graphs'. -/
def graphsUptoCard : Claim7 := { stood := { row := graphsUptoRow, standIns := [], harness := (true, "df6ce2039a52c521171f2f8e2caeca000b9988db04a1f09df7c2bcf7da6decd2"), looks := true }, kinds := [], alts := [], laidByText := true, laidKinds := [.handle], laidTests := true, laidLooks := .later }
def GraphsUptoCardSaid : Prop := Claim7.holds Tryd.pinned (.plain (OpenSpec.upto graphsSpec)) graphsUptoCard

/-- THE SECOND FORM's CARD OF 'nearbylaw.All'. -/
def allUptoCard : Claim7 := { stood := { row := allUptoRow, standIns := [], harness := (true, "df6ce2039a52c521171f2f8e2caeca000b9988db04a1f09df7c2bcf7da6decd2"), looks := true }, kinds := [], alts := [], laidByText := true, laidKinds := [.handle], laidTests := true, laidLooks := .later }
def AllUptoCardSaid : Prop := Claim7.holds Tryd.pinned (.plain (OpenSpec.upto allSpec)) allUptoCard
end Rows
end Go.Proofs.YtgilnaheedmmfaaDoor
