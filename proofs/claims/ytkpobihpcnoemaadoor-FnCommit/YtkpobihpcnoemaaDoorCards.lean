/-
  DERIVED. GIVEN WITH THE SEED: THE CARDS: each row of YtkpobihpcnoemaaDoorRows.lean that lists a variable, with what it lists TIED to the program's text (the seventh form; the later family's looks); each row that meets fmt, with fmt's text TOLD by the authors' own Lean function (tested against real Go, not proved from fmt's source: count such statements apart). THE CARD IS WHAT COUNTS. Prove the row's statement (the work); the ties are given (YtkpobihpcnoemaaDoorTie.lean); close each card by the builder's one call (the guide's Derived/Test/ToyasCard.lean, 'card_holds'). Laid BY PROGRAM, IN A SANDBOX (cutbox-door.mjs). By AI agents, Wed Nov 11 2026. No macro, syntax, notation, axiom, sorry.
-/
import Derived.Test.YtkpobihpcnoemaaDoorRows
import GoSem.ClaimSeven
namespace Go.Proofs.YtkpobihpcnoemaaDoor
namespace Rows

/-- THE TIED CARD OF 'laws.FnCommit'. -/
def fnCommitCard : Claim7 := { stood := { row := fnCommitRow, standIns := [], harness := (true, "90ee57255ce9ce7ecfcb97ea53e26e07c1967aba989501ea3b2e818697460761"), looks := false }, kinds := [], alts := [], laidByText := true, laidKinds := [.sentinel], laidTests := true, laidLooks := .later }
def FnCommitCardSaid : Prop := Claim7.holds Tryd.pinned (.plain (OpenSpec.ofChange fnCommitSpec)) fnCommitCard

/-- THE TIED CARD OF 'laws.FnTold'. -/
def fnToldCard : Claim7 := { stood := { row := fnToldRow, standIns := [], harness := (true, "90ee57255ce9ce7ecfcb97ea53e26e07c1967aba989501ea3b2e818697460761"), looks := false }, kinds := [], alts := [], laidByText := true, laidKinds := [.sentinel], laidTests := true, laidLooks := .later }
def FnToldCardSaid : Prop := Claim7.holds Tryd.pinned (.plain (OpenSpec.ofChange fnToldSpec)) fnToldCard

/-- THE TIED CARD OF 'laws.FnExactStepCommit'. -/
def fnExactStepCommitCard : Claim7 := { stood := { row := fnExactStepCommitRow, standIns := [], harness := (true, "90ee57255ce9ce7ecfcb97ea53e26e07c1967aba989501ea3b2e818697460761"), looks := false }, kinds := [], alts := [], laidByText := true, laidKinds := [.sentinel], laidTests := true, laidLooks := .later }
def FnExactStepCommitCardSaid : Prop := Claim7.holds Tryd.pinned (.plain (OpenSpec.ofChange fnExactStepCommitSpec)) fnExactStepCommitCard

/-- THE TIED CARD OF 'laws.FnExactPlayCommit'. -/
def fnExactPlayCommitCard : Claim7 := { stood := { row := fnExactPlayCommitRow, standIns := [], harness := (true, "90ee57255ce9ce7ecfcb97ea53e26e07c1967aba989501ea3b2e818697460761"), looks := false }, kinds := [], alts := [], laidByText := true, laidKinds := [.sentinel], laidTests := true, laidLooks := .later }
def FnExactPlayCommitCardSaid : Prop := Claim7.holds Tryd.pinned (.plain (OpenSpec.ofChange fnExactPlayCommitSpec)) fnExactPlayCommitCard

/-- THE SECOND FORM's CARD OF 'laws.FnCommit'. -/
def fnCommitUptoCard : Claim7 := { stood := { row := fnCommitUptoRow, standIns := [], harness := (true, "90ee57255ce9ce7ecfcb97ea53e26e07c1967aba989501ea3b2e818697460761"), looks := false }, kinds := [], alts := [], laidByText := true, laidKinds := [.sentinel], laidTests := true, laidLooks := .later }
def FnCommitUptoCardSaid : Prop := Claim7.holds Tryd.pinned (.plain (OpenSpec.upto fnCommitSpec)) fnCommitUptoCard

/-- THE SECOND FORM's CARD OF 'laws.FnTold'. -/
def fnToldUptoCard : Claim7 := { stood := { row := fnToldUptoRow, standIns := [], harness := (true, "90ee57255ce9ce7ecfcb97ea53e26e07c1967aba989501ea3b2e818697460761"), looks := false }, kinds := [], alts := [], laidByText := true, laidKinds := [.sentinel], laidTests := true, laidLooks := .later }
def FnToldUptoCardSaid : Prop := Claim7.holds Tryd.pinned (.plain (OpenSpec.upto fnToldSpec)) fnToldUptoCard

/-- THE SECOND FORM's CARD OF 'laws.FnExactStepCommit'. -/
def fnExactStepCommitUptoCard : Claim7 := { stood := { row := fnExactStepCommitUptoRow, standIns := [], harness := (true, "90ee57255ce9ce7ecfcb97ea53e26e07c1967aba989501ea3b2e818697460761"), looks := false }, kinds := [], alts := [], laidByText := true, laidKinds := [.sentinel], laidTests := true, laidLooks := .later }
def FnExactStepCommitUptoCardSaid : Prop := Claim7.holds Tryd.pinned (.plain (OpenSpec.upto fnExactStepCommitSpec)) fnExactStepCommitUptoCard

/-- THE SECOND FORM's CARD OF 'laws.FnExactPlayCommit'. -/
def fnExactPlayCommitUptoCard : Claim7 := { stood := { row := fnExactPlayCommitUptoRow, standIns := [], harness := (true, "90ee57255ce9ce7ecfcb97ea53e26e07c1967aba989501ea3b2e818697460761"), looks := false }, kinds := [], alts := [], laidByText := true, laidKinds := [.sentinel], laidTests := true, laidLooks := .later }
def FnExactPlayCommitUptoCardSaid : Prop := Claim7.holds Tryd.pinned (.plain (OpenSpec.upto fnExactPlayCommitSpec)) fnExactPlayCommitUptoCard
end Rows
end Go.Proofs.YtkpobihpcnoemaaDoor
