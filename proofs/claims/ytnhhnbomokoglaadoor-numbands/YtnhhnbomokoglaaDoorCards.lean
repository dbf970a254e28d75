/-
  DERIVED. GIVEN WITH THE SEED: THE CARDS: each row of YtnhhnbomokoglaaDoorRows.lean that lists a variable, with what it lists TIED to the program's text (the seventh form; the later family's looks); each row that meets fmt, with fmt's text TOLD by the authors' own Lean function (tested against real Go, not proved from fmt's source: count such statements apart). THE CARD IS WHAT COUNTS. Prove the row's statement (the work); the ties are given (YtnhhnbomokoglaaDoorTie.lean); close each card by the builder's one call (the guide's Derived/Test/ToyasCard.lean, 'card_holds'). Laid BY PROGRAM, IN A SANDBOX (cutbox-door.mjs). By AI agents, Wed Nov 11 2026. No macro, syntax, notation, axiom, sorry.
-/
import Derived.Test.YtnhhnbomokoglaaDoorRows
import GoSem.ClaimSeven
namespace Go.Proofs.YtnhhnbomokoglaaDoor
namespace Rows

/-- THE TIED CARD OF 'openbelllaw.NumBands'. -/
def numBandsCard : Claim7 := { stood := { row := numBandsRow, standIns := [], harness := (true, "4fa1993dae92ef7cb3589174675d1e85f6e8fa8a1b7fec550c435f19773de515"), looks := true }, kinds := [], alts := [], laidByText := true, laidKinds := [.handle], laidTests := true, laidLooks := .later }
def NumBandsCardSaid : Prop := Claim7.holds Tryd.pinned (.plain (OpenSpec.ofChange numBandsSpec)) numBandsCard

/-- THE TIED CARD OF 'openbelllaw.CalendarTables'. -/
def calendarTablesCard : Claim7 := { stood := { row := calendarTablesRow, standIns := [], harness := (true, "4fa1993dae92ef7cb3589174675d1e85f6e8fa8a1b7fec550c435f19773de515"), looks := true }, kinds := [], alts := [], laidByText := true, laidKinds := [.handle], laidTests := true, laidLooks := .later }
def CalendarTablesCardSaid : Prop := Claim7.holds Tryd.pinned (.plain (OpenSpec.ofChange calendarTablesSpec)) calendarTablesCard

/-- THE SECOND FORM's CARD OF 'openbelllaw.NumBands'. -/
def numBandsUptoCard : Claim7 := { stood := { row := numBandsUptoRow, standIns := [], harness := (true, "4fa1993dae92ef7cb3589174675d1e85f6e8fa8a1b7fec550c435f19773de515"), looks := true }, kinds := [], alts := [], laidByText := true, laidKinds := [.handle], laidTests := true, laidLooks := .later }
def NumBandsUptoCardSaid : Prop := Claim7.holds Tryd.pinned (.plain (OpenSpec.upto numBandsSpec)) numBandsUptoCard

/-- THE SECOND FORM's CARD OF 'openbelllaw.CalendarTables'. -/
def calendarTablesUptoCard : Claim7 := { stood := { row := calendarTablesUptoRow, standIns := [], harness := (true, "4fa1993dae92ef7cb3589174675d1e85f6e8fa8a1b7fec550c435f19773de515"), looks := true }, kinds := [], alts := [], laidByText := true, laidKinds := [.handle], laidTests := true, laidLooks := .later }
def CalendarTablesUptoCardSaid : Prop := Claim7.holds Tryd.pinned (.plain (OpenSpec.upto calendarTablesSpec)) calendarTablesUptoCard
end Rows
end Go.Proofs.YtnhhnbomokoglaaDoor
