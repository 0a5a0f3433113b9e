/-
  DERIVED. GIVEN WITH THE SEED: THE CARDS: each row of YtjnehfbeokpgpaaDoorRows.lean that lists a variable, with what it lists TIED to the program's text (the seventh form; the later family's looks); each row that meets fmt, with fmt's text TOLD by the authors' own Lean function (tested against real Go, not proved from fmt's source: count such statements apart). THE CARD IS WHAT COUNTS. Prove the row's statement (the work); the ties are given (YtjnehfbeokpgpaaDoorTie.lean); close each card by the builder's one call (the guide's Derived/Test/ToyasCard.lean, 'card_holds'). Laid BY PROGRAM, IN A SANDBOX (cutbox-door.mjs). By AI agents, Wed Nov 11 2026. No macro, syntax, notation, axiom, sorry.
-/
import Derived.Test.YtjnehfbeokpgpaaDoorRows
import GoSem.ClaimSeven
namespace Go.Proofs.YtjnehfbeokpgpaaDoor
namespace Rows

/-- THE TIED CARD OF 'laws.FnHamPut'. -/
def fnHamPutCard : Claim7 := { stood := { row := fnHamPutRow, standIns := [], harness := (true, "06b2c8f9a575171d32cfbc770e383585cc37b8541dfa12e20b01e4e714535db9"), looks := false }, kinds := [], alts := [], laidByText := true, laidKinds := [.data], laidTests := true, laidLooks := .later }
def FnHamPutCardSaid : Prop := Claim7.holds Tryd.pinned (.plain (OpenSpec.ofChange fnHamPutSpec)) fnHamPutCard

/-- THE TIED CARD OF 'laws.FnHamGet'. -/
def fnHamGetCard : Claim7 := { stood := { row := fnHamGetRow, standIns := [], harness := (true, "06b2c8f9a575171d32cfbc770e383585cc37b8541dfa12e20b01e4e714535db9"), looks := false }, kinds := [], alts := [], laidByText := true, laidKinds := [.data], laidTests := true, laidLooks := .later }
def FnHamGetCardSaid : Prop := Claim7.holds Tryd.pinned (.plain (OpenSpec.ofChange fnHamGetSpec)) fnHamGetCard

/-- THE TIED CARD OF 'laws.FnHamBlocks'. -/
def fnHamBlocksCard : Claim7 := { stood := { row := fnHamBlocksRow, standIns := [], harness := (true, "06b2c8f9a575171d32cfbc770e383585cc37b8541dfa12e20b01e4e714535db9"), looks := false }, kinds := [], alts := [], laidByText := true, laidKinds := [.data], laidTests := true, laidLooks := .later }
def FnHamBlocksCardSaid : Prop := Claim7.holds Tryd.pinned (.plain (OpenSpec.ofChange fnHamBlocksSpec)) fnHamBlocksCard

/-- THE TIED CARD OF 'laws.FnExactHamPut'. -/
def fnExactHamPutCard : Claim7 := { stood := { row := fnExactHamPutRow, standIns := [], harness := (true, "06b2c8f9a575171d32cfbc770e383585cc37b8541dfa12e20b01e4e714535db9"), looks := false }, kinds := [], alts := [], laidByText := true, laidKinds := [.data], laidTests := true, laidLooks := .later }
def FnExactHamPutCardSaid : Prop := Claim7.holds Tryd.pinned (.plain (OpenSpec.ofChange fnExactHamPutSpec)) fnExactHamPutCard

/-- THE TIED CARD OF 'laws.FnExactHamGet'. -/
def fnExactHamGetCard : Claim7 := { stood := { row := fnExactHamGetRow, standIns := [], harness := (true, "06b2c8f9a575171d32cfbc770e383585cc37b8541dfa12e20b01e4e714535db9"), looks := false }, kinds := [], alts := [], laidByText := true, laidKinds := [.data], laidTests := true, laidLooks := .later }
def FnExactHamGetCardSaid : Prop := Claim7.holds Tryd.pinned (.plain (OpenSpec.ofChange fnExactHamGetSpec)) fnExactHamGetCard

/-- THE SECOND FORM's CARD OF 'laws.FnHamPut'. -/
def fnHamPutUptoCard : Claim7 := { stood := { row := fnHamPutUptoRow, standIns := [], harness := (true, "06b2c8f9a575171d32cfbc770e383585cc37b8541dfa12e20b01e4e714535db9"), looks := false }, kinds := [], alts := [], laidByText := true, laidKinds := [.data], laidTests := true, laidLooks := .later }
def FnHamPutUptoCardSaid : Prop := Claim7.holds Tryd.pinned (.plain (OpenSpec.upto fnHamPutSpec)) fnHamPutUptoCard

/-- THE SECOND FORM's CARD OF 'laws.FnHamGet'. -/
def fnHamGetUptoCard : Claim7 := { stood := { row := fnHamGetUptoRow, standIns := [], harness := (true, "06b2c8f9a575171d32cfbc770e383585cc37b8541dfa12e20b01e4e714535db9"), looks := false }, kinds := [], alts := [], laidByText := true, laidKinds := [.data], laidTests := true, laidLooks := .later }
def FnHamGetUptoCardSaid : Prop := Claim7.holds Tryd.pinned (.plain (OpenSpec.upto fnHamGetSpec)) fnHamGetUptoCard

/-- THE SECOND FORM's CARD OF 'laws.FnHamBlocks'. -/
def fnHamBlocksUptoCard : Claim7 := { stood := { row := fnHamBlocksUptoRow, standIns := [], harness := (true, "06b2c8f9a575171d32cfbc770e383585cc37b8541dfa12e20b01e4e714535db9"), looks := false }, kinds := [], alts := [], laidByText := true, laidKinds := [.data], laidTests := true, laidLooks := .later }
def FnHamBlocksUptoCardSaid : Prop := Claim7.holds Tryd.pinned (.plain (OpenSpec.upto fnHamBlocksSpec)) fnHamBlocksUptoCard

/-- THE SECOND FORM's CARD OF 'laws.FnExactHamPut'. -/
def fnExactHamPutUptoCard : Claim7 := { stood := { row := fnExactHamPutUptoRow, standIns := [], harness := (true, "06b2c8f9a575171d32cfbc770e383585cc37b8541dfa12e20b01e4e714535db9"), looks := false }, kinds := [], alts := [], laidByText := true, laidKinds := [.data], laidTests := true, laidLooks := .later }
def FnExactHamPutUptoCardSaid : Prop := Claim7.holds Tryd.pinned (.plain (OpenSpec.upto fnExactHamPutSpec)) fnExactHamPutUptoCard

/-- THE SECOND FORM's CARD OF 'laws.FnExactHamGet'. -/
def fnExactHamGetUptoCard : Claim7 := { stood := { row := fnExactHamGetUptoRow, standIns := [], harness := (true, "06b2c8f9a575171d32cfbc770e383585cc37b8541dfa12e20b01e4e714535db9"), looks := false }, kinds := [], alts := [], laidByText := true, laidKinds := [.data], laidTests := true, laidLooks := .later }
def FnExactHamGetUptoCardSaid : Prop := Claim7.holds Tryd.pinned (.plain (OpenSpec.upto fnExactHamGetSpec)) fnExactHamGetUptoCard
end Rows
end Go.Proofs.YtjnehfbeokpgpaaDoor
