/-
  DERIVED. GIVEN WITH THE SEED: THE CARDS: each row of YtnfpimakcdbojaaDoorRows.lean that lists a variable, with what it lists TIED to the program's text (the seventh form; the later family's looks); each row that meets fmt, with fmt's text TOLD by the authors' own Lean function (tested against real Go, not proved from fmt's source: count such statements apart). THE CARD IS WHAT COUNTS. Prove the row's statement (the work); the ties are given (YtnfpimakcdbojaaDoorTie.lean); close each card by the builder's one call (the guide's Derived/Test/ToyasCard.lean, 'card_holds'). Laid BY PROGRAM, IN A SANDBOX (cutbox-door.mjs). By AI agents, Wed Nov 11 2026. No macro, syntax, notation, axiom, sorry.
-/
import Derived.Test.YtnfpimakcdbojaaDoorRows
import GoSem.ClaimSeven
namespace Go.Proofs.YtnfpimakcdbojaaDoor
namespace Rows

/-- THE TIED CARD OF 'openbelllaw.NumBands'. -/
def numBandsCard : Claim7 := { stood := { row := numBandsRow, standIns := [], harness := (true, "aa291d2bb6031d2dacb62162399e1a70c84f442dc0ef6fb6f5bf63c7e8b5ed6b"), looks := true }, kinds := [], alts := [], laidByText := true, laidKinds := [.handle], laidTests := true, laidLooks := .later }
def NumBandsCardSaid : Prop := Claim7.holds Tryd.pinned (.plain (OpenSpec.ofChange numBandsSpec)) numBandsCard

/-- THE SECOND FORM's CARD OF 'openbelllaw.NumBands'. -/
def numBandsUptoCard : Claim7 := { stood := { row := numBandsUptoRow, standIns := [], harness := (true, "aa291d2bb6031d2dacb62162399e1a70c84f442dc0ef6fb6f5bf63c7e8b5ed6b"), looks := true }, kinds := [], alts := [], laidByText := true, laidKinds := [.handle], laidTests := true, laidLooks := .later }
def NumBandsUptoCardSaid : Prop := Claim7.holds Tryd.pinned (.plain (OpenSpec.upto numBandsSpec)) numBandsUptoCard
end Rows
end Go.Proofs.YtnfpimakcdbojaaDoor
