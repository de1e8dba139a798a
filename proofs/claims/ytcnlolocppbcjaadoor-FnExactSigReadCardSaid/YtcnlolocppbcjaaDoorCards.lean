/-
  DERIVED. GIVEN WITH THE SEED: THE CARDS: each row of YtcnlolocppbcjaaDoorRows.lean that lists a variable, with what it lists TIED to the program's text (the seventh form; the later family's looks); each row that meets fmt, with fmt's text TOLD by the authors' own Lean function (tested against real Go, not proved from fmt's source: count such statements apart). THE CARD IS WHAT COUNTS. Prove the row's statement (the work); the ties are given (YtcnlolocppbcjaaDoorTie.lean); close each card by the builder's one call (the guide's Derived/Test/ToyasCard.lean, 'card_holds'). Laid BY PROGRAM, IN A SANDBOX (cutbox-door.mjs). By AI agents, Wed Nov 11 2026. No macro, syntax, notation, axiom, sorry.
-/
import Derived.Test.YtcnlolocppbcjaaDoorRows
import GoSem.ClaimSeven
namespace Go.Proofs.YtcnlolocppbcjaaDoor
namespace Rows

/-- THE TIED CARD OF 'laws.FnExactSigRead'. -/
def fnExactSigReadCard : Claim7 := { stood := { row := fnExactSigReadRow, standIns := [], harness := (true, "cb15c49f0100b977a1f399bc77cdaee88c75631f3a86633f543b3d37e570d47d"), looks := true }, kinds := [], alts := [], laidByText := true, laidKinds := [.data, .data, .data, .sentinel, .sentinel], laidTests := true, laidLooks := .later }
def FnExactSigReadCardSaid : Prop := Claim7.holds Tryd.pinned (.plain (OpenSpec.ofChange fnExactSigReadSpec)) fnExactSigReadCard

/-- THE SECOND FORM's CARD OF 'laws.FnExactSigRead'. -/
def fnExactSigReadUptoCard : Claim7 := { stood := { row := fnExactSigReadUptoRow, standIns := [], harness := (true, "cb15c49f0100b977a1f399bc77cdaee88c75631f3a86633f543b3d37e570d47d"), looks := true }, kinds := [], alts := [], laidByText := true, laidKinds := [.data, .data, .data, .sentinel, .sentinel], laidTests := true, laidLooks := .later }
def FnExactSigReadUptoCardSaid : Prop := Claim7.holds Tryd.pinned (.plain (OpenSpec.upto fnExactSigReadSpec)) fnExactSigReadUptoCard
end Rows
end Go.Proofs.YtcnlolocppbcjaaDoor
