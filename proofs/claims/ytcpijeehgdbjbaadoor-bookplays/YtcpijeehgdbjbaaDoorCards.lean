/-
  DERIVED. GIVEN WITH THE SEED: THE CARDS: each row of YtcpijeehgdbjbaaDoorRows.lean that lists a variable, with what it lists TIED to the program's text (the seventh form; the later family's looks); each row that meets fmt, with fmt's text TOLD by the authors' own Lean function (tested against real Go, not proved from fmt's source: count such statements apart). THE CARD IS WHAT COUNTS. Prove the row's statement (the work); the ties are given (YtcpijeehgdbjbaaDoorTie.lean); close each card by the builder's one call (the guide's Derived/Test/ToyasCard.lean, 'card_holds'). Laid BY PROGRAM, IN A SANDBOX (cutbox-door.mjs). By AI agents, Wed Nov 11 2026. No macro, syntax, notation, axiom, sorry.
-/
import Derived.Test.YtcpijeehgdbjbaaDoorRows
import GoSem.ClaimSeven
namespace Go.Proofs.YtcpijeehgdbjbaaDoor
namespace Rows

/-- THE TIED CARD OF 'openbelllaw.NumBands'. -/
def numBandsCard : Claim7 := { stood := { row := numBandsRow, standIns := [], harness := (true, "530b665720c412379c23c38e52e5fe1772b5601a0e522bfe3706d37c9ff9564e"), looks := true }, kinds := [], alts := [], laidByText := true, laidKinds := [.handle], laidTests := true, laidLooks := .later }
def NumBandsCardSaid : Prop := Claim7.holds Tryd.pinned (.plain (OpenSpec.ofChange numBandsSpec)) numBandsCard

/-- THE TIED CARD OF 'openbelllaw.CalendarTables'. -/
def calendarTablesCard : Claim7 := { stood := { row := calendarTablesRow, standIns := [], harness := (true, "530b665720c412379c23c38e52e5fe1772b5601a0e522bfe3706d37c9ff9564e"), looks := true }, kinds := [], alts := [], laidByText := true, laidKinds := [.handle], laidTests := true, laidLooks := .later }
def CalendarTablesCardSaid : Prop := Claim7.holds Tryd.pinned (.plain (OpenSpec.ofChange calendarTablesSpec)) calendarTablesCard

/-- THE TIED CARD OF 'openbelllaw.ArenaPlays'. -/
def arenaPlaysCard : Claim7 := { stood := { row := arenaPlaysRow, standIns := [], harness := (true, "530b665720c412379c23c38e52e5fe1772b5601a0e522bfe3706d37c9ff9564e"), looks := true }, kinds := [], alts := [], laidByText := true, laidKinds := [.handle], laidTests := true, laidLooks := .later }
def ArenaPlaysCardSaid : Prop := Claim7.holds Tryd.pinned (.plain (OpenSpec.ofChange arenaPlaysSpec)) arenaPlaysCard

/-- THE TIED CARD OF 'openbellkeep.ArenaStale'. -/
def arenaStaleCard : Claim7 := { stood := { row := arenaStaleRow, standIns := [], harness := (true, "530b665720c412379c23c38e52e5fe1772b5601a0e522bfe3706d37c9ff9564e"), looks := true }, kinds := [], alts := [], laidByText := true, laidKinds := [.handle], laidTests := true, laidLooks := .later }
def ArenaStaleCardSaid : Prop := Claim7.holds Tryd.pinned (.plain (OpenSpec.ofChange arenaStaleSpec)) arenaStaleCard

/-- THE TIED CARD OF 'openbelllaw.BookPlays'. -/
def bookPlaysCard : Claim7 := { stood := { row := bookPlaysRow, standIns := [], harness := (true, "530b665720c412379c23c38e52e5fe1772b5601a0e522bfe3706d37c9ff9564e"), looks := true }, kinds := [], alts := [], laidByText := true, laidKinds := [.handle], laidTests := true, laidLooks := .later }
def BookPlaysCardSaid : Prop := Claim7.holds Tryd.pinned (.plain (OpenSpec.ofChange bookPlaysSpec)) bookPlaysCard

/-- THE SECOND FORM's CARD OF 'openbelllaw.NumBands'. -/
def numBandsUptoCard : Claim7 := { stood := { row := numBandsUptoRow, standIns := [], harness := (true, "530b665720c412379c23c38e52e5fe1772b5601a0e522bfe3706d37c9ff9564e"), looks := true }, kinds := [], alts := [], laidByText := true, laidKinds := [.handle], laidTests := true, laidLooks := .later }
def NumBandsUptoCardSaid : Prop := Claim7.holds Tryd.pinned (.plain (OpenSpec.upto numBandsSpec)) numBandsUptoCard

/-- THE SECOND FORM's CARD OF 'openbelllaw.CalendarTables'. -/
def calendarTablesUptoCard : Claim7 := { stood := { row := calendarTablesUptoRow, standIns := [], harness := (true, "530b665720c412379c23c38e52e5fe1772b5601a0e522bfe3706d37c9ff9564e"), looks := true }, kinds := [], alts := [], laidByText := true, laidKinds := [.handle], laidTests := true, laidLooks := .later }
def CalendarTablesUptoCardSaid : Prop := Claim7.holds Tryd.pinned (.plain (OpenSpec.upto calendarTablesSpec)) calendarTablesUptoCard

/-- THE SECOND FORM's CARD OF 'openbelllaw.ArenaPlays'. -/
def arenaPlaysUptoCard : Claim7 := { stood := { row := arenaPlaysUptoRow, standIns := [], harness := (true, "530b665720c412379c23c38e52e5fe1772b5601a0e522bfe3706d37c9ff9564e"), looks := true }, kinds := [], alts := [], laidByText := true, laidKinds := [.handle], laidTests := true, laidLooks := .later }
def ArenaPlaysUptoCardSaid : Prop := Claim7.holds Tryd.pinned (.plain (OpenSpec.upto arenaPlaysSpec)) arenaPlaysUptoCard

/-- THE SECOND FORM's CARD OF 'openbellkeep.ArenaStale'. -/
def arenaStaleUptoCard : Claim7 := { stood := { row := arenaStaleUptoRow, standIns := [], harness := (true, "530b665720c412379c23c38e52e5fe1772b5601a0e522bfe3706d37c9ff9564e"), looks := true }, kinds := [], alts := [], laidByText := true, laidKinds := [.handle], laidTests := true, laidLooks := .later }
def ArenaStaleUptoCardSaid : Prop := Claim7.holds Tryd.pinned (.plain (OpenSpec.upto arenaStaleSpec)) arenaStaleUptoCard

/-- THE SECOND FORM's CARD OF 'openbelllaw.BookPlays'. -/
def bookPlaysUptoCard : Claim7 := { stood := { row := bookPlaysUptoRow, standIns := [], harness := (true, "530b665720c412379c23c38e52e5fe1772b5601a0e522bfe3706d37c9ff9564e"), looks := true }, kinds := [], alts := [], laidByText := true, laidKinds := [.handle], laidTests := true, laidLooks := .later }
def BookPlaysUptoCardSaid : Prop := Claim7.holds Tryd.pinned (.plain (OpenSpec.upto bookPlaysSpec)) bookPlaysUptoCard
end Rows
end Go.Proofs.YtcpijeehgdbjbaaDoor
