/-
  DERIVED. GIVEN WITH THE SEED: THE CARDS: each row of YthcabejfmoedfaaDoorRows.lean that lists a variable, with what it lists TIED to the program's text (the seventh form; the later family's looks); each row that meets fmt, with fmt's text TOLD by the authors' own Lean function (tested against real Go, not proved from fmt's source: count such statements apart). THE CARD IS WHAT COUNTS. Prove the row's statement (the work); the ties are given (YthcabejfmoedfaaDoorTie.lean); close each card by the builder's one call (the guide's Derived/Test/ToyasCard.lean, 'card_holds'). Laid BY PROGRAM, IN A SANDBOX (cutbox-door.mjs). By AI agents, Wed Nov 11 2026. No macro, syntax, notation, axiom, sorry.
-/
import Derived.Test.YthcabejfmoedfaaDoorRows
import GoSem.ClaimSeven
namespace Go.Proofs.YthcabejfmoedfaaDoor
namespace Rows

/-- THE TIED CARD OF 'laws.FnExactRatRead'. -/
def fnExactRatReadCard : Claim7 := { stood := { row := fnExactRatReadRow, standIns := [], harness := (true, "d94cfd5c81111d2457f93f540a947909025a958ebee1ab8b69f4edd5705dab2d"), looks := true }, kinds := [], alts := [], laidByText := true, laidKinds := [.data, .data, .data, .sentinel, .sentinel], laidTests := true, laidLooks := .later }
def FnExactRatReadCardSaid : Prop := Claim7.holds Tryd.pinned (.plain (OpenSpec.ofChange fnExactRatReadSpec)) fnExactRatReadCard

/-- THE TIED CARD OF 'laws.FnRatText'. -/
def fnRatTextCard : Claim7 := { stood := { row := fnRatTextRow, standIns := [], harness := (true, "d94cfd5c81111d2457f93f540a947909025a958ebee1ab8b69f4edd5705dab2d"), looks := true }, kinds := [], alts := [], laidByText := true, laidKinds := [.data, .data, .data, .sentinel, .sentinel], laidTests := true, laidLooks := .later }
def FnRatTextCardSaid : Prop := Claim7.holds Tryd.pinned (.plain (OpenSpec.ofChange fnRatTextSpec)) fnRatTextCard

/-- THE TIED CARD OF 'laws.FnExactLinText'. -/
def fnExactLinTextCard : Claim7 := { stood := { row := fnExactLinTextRow, standIns := [], harness := (true, "d94cfd5c81111d2457f93f540a947909025a958ebee1ab8b69f4edd5705dab2d"), looks := true }, kinds := [], alts := [], laidByText := true, laidKinds := [.data, .data, .data], laidTests := true, laidLooks := .later }
def FnExactLinTextCardSaid : Prop := Claim7.holds Tryd.pinned (.plain (OpenSpec.ofChange fnExactLinTextSpec)) fnExactLinTextCard

/-- THE TIED CARD OF 'laws.FnExactLinRead'. -/
def fnExactLinReadCard : Claim7 := { stood := { row := fnExactLinReadRow, standIns := [], harness := (true, "d94cfd5c81111d2457f93f540a947909025a958ebee1ab8b69f4edd5705dab2d"), looks := true }, kinds := [], alts := [], laidByText := true, laidKinds := [.data, .data, .data, .sentinel, .sentinel], laidTests := true, laidLooks := .later }
def FnExactLinReadCardSaid : Prop := Claim7.holds Tryd.pinned (.plain (OpenSpec.ofChange fnExactLinReadSpec)) fnExactLinReadCard

/-- THE TIED CARD OF 'laws.FnLinText'. -/
def fnLinTextCard : Claim7 := { stood := { row := fnLinTextRow, standIns := [], harness := (true, "d94cfd5c81111d2457f93f540a947909025a958ebee1ab8b69f4edd5705dab2d"), looks := true }, kinds := [], alts := [], laidByText := true, laidKinds := [.data, .data, .data, .sentinel, .sentinel], laidTests := true, laidLooks := .later }
def FnLinTextCardSaid : Prop := Claim7.holds Tryd.pinned (.plain (OpenSpec.ofChange fnLinTextSpec)) fnLinTextCard

/-- THE TIED CARD OF 'laws.FnLinBent'. -/
def fnLinBentCard : Claim7 := { stood := { row := fnLinBentRow, standIns := [], harness := (true, "d94cfd5c81111d2457f93f540a947909025a958ebee1ab8b69f4edd5705dab2d"), looks := true }, kinds := [], alts := [], laidByText := true, laidKinds := [.data, .data, .data], laidTests := true, laidLooks := .later }
def FnLinBentCardSaid : Prop := Claim7.holds Tryd.pinned (.plain (OpenSpec.ofChange fnLinBentSpec)) fnLinBentCard

/-- THE TIED CARD OF 'laws.FnExactSigRead'. -/
def fnExactSigReadCard : Claim7 := { stood := { row := fnExactSigReadRow, standIns := [], harness := (true, "d94cfd5c81111d2457f93f540a947909025a958ebee1ab8b69f4edd5705dab2d"), looks := true }, kinds := [], alts := [], laidByText := true, laidKinds := [.data, .data, .data, .sentinel, .sentinel], laidTests := true, laidLooks := .later }
def FnExactSigReadCardSaid : Prop := Claim7.holds Tryd.pinned (.plain (OpenSpec.ofChange fnExactSigReadSpec)) fnExactSigReadCard

/-- THE SECOND FORM's CARD OF 'laws.FnExactRatRead'. -/
def fnExactRatReadUptoCard : Claim7 := { stood := { row := fnExactRatReadUptoRow, standIns := [], harness := (true, "d94cfd5c81111d2457f93f540a947909025a958ebee1ab8b69f4edd5705dab2d"), looks := true }, kinds := [], alts := [], laidByText := true, laidKinds := [.data, .data, .data, .sentinel, .sentinel], laidTests := true, laidLooks := .later }
def FnExactRatReadUptoCardSaid : Prop := Claim7.holds Tryd.pinned (.plain (OpenSpec.upto fnExactRatReadSpec)) fnExactRatReadUptoCard

/-- THE SECOND FORM's CARD OF 'laws.FnRatText'. -/
def fnRatTextUptoCard : Claim7 := { stood := { row := fnRatTextUptoRow, standIns := [], harness := (true, "d94cfd5c81111d2457f93f540a947909025a958ebee1ab8b69f4edd5705dab2d"), looks := true }, kinds := [], alts := [], laidByText := true, laidKinds := [.data, .data, .data, .sentinel, .sentinel], laidTests := true, laidLooks := .later }
def FnRatTextUptoCardSaid : Prop := Claim7.holds Tryd.pinned (.plain (OpenSpec.upto fnRatTextSpec)) fnRatTextUptoCard

/-- THE SECOND FORM's CARD OF 'laws.FnExactLinText'. -/
def fnExactLinTextUptoCard : Claim7 := { stood := { row := fnExactLinTextUptoRow, standIns := [], harness := (true, "d94cfd5c81111d2457f93f540a947909025a958ebee1ab8b69f4edd5705dab2d"), looks := true }, kinds := [], alts := [], laidByText := true, laidKinds := [.data, .data, .data], laidTests := true, laidLooks := .later }
def FnExactLinTextUptoCardSaid : Prop := Claim7.holds Tryd.pinned (.plain (OpenSpec.upto fnExactLinTextSpec)) fnExactLinTextUptoCard

/-- THE SECOND FORM's CARD OF 'laws.FnExactLinRead'. -/
def fnExactLinReadUptoCard : Claim7 := { stood := { row := fnExactLinReadUptoRow, standIns := [], harness := (true, "d94cfd5c81111d2457f93f540a947909025a958ebee1ab8b69f4edd5705dab2d"), looks := true }, kinds := [], alts := [], laidByText := true, laidKinds := [.data, .data, .data, .sentinel, .sentinel], laidTests := true, laidLooks := .later }
def FnExactLinReadUptoCardSaid : Prop := Claim7.holds Tryd.pinned (.plain (OpenSpec.upto fnExactLinReadSpec)) fnExactLinReadUptoCard

/-- THE SECOND FORM's CARD OF 'laws.FnLinText'. -/
def fnLinTextUptoCard : Claim7 := { stood := { row := fnLinTextUptoRow, standIns := [], harness := (true, "d94cfd5c81111d2457f93f540a947909025a958ebee1ab8b69f4edd5705dab2d"), looks := true }, kinds := [], alts := [], laidByText := true, laidKinds := [.data, .data, .data, .sentinel, .sentinel], laidTests := true, laidLooks := .later }
def FnLinTextUptoCardSaid : Prop := Claim7.holds Tryd.pinned (.plain (OpenSpec.upto fnLinTextSpec)) fnLinTextUptoCard

/-- THE SECOND FORM's CARD OF 'laws.FnLinBent'. -/
def fnLinBentUptoCard : Claim7 := { stood := { row := fnLinBentUptoRow, standIns := [], harness := (true, "d94cfd5c81111d2457f93f540a947909025a958ebee1ab8b69f4edd5705dab2d"), looks := true }, kinds := [], alts := [], laidByText := true, laidKinds := [.data, .data, .data], laidTests := true, laidLooks := .later }
def FnLinBentUptoCardSaid : Prop := Claim7.holds Tryd.pinned (.plain (OpenSpec.upto fnLinBentSpec)) fnLinBentUptoCard

/-- THE SECOND FORM's CARD OF 'laws.FnExactSigRead'. -/
def fnExactSigReadUptoCard : Claim7 := { stood := { row := fnExactSigReadUptoRow, standIns := [], harness := (true, "d94cfd5c81111d2457f93f540a947909025a958ebee1ab8b69f4edd5705dab2d"), looks := true }, kinds := [], alts := [], laidByText := true, laidKinds := [.data, .data, .data, .sentinel, .sentinel], laidTests := true, laidLooks := .later }
def FnExactSigReadUptoCardSaid : Prop := Claim7.holds Tryd.pinned (.plain (OpenSpec.upto fnExactSigReadSpec)) fnExactSigReadUptoCard
end Rows
end Go.Proofs.YthcabejfmoedfaaDoor
