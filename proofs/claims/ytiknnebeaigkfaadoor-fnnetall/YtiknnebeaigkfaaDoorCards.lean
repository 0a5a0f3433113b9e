/-
  DERIVED. GIVEN WITH THE SEED: THE CARDS: each row of YtiknnebeaigkfaaDoorRows.lean that lists a variable, with what it lists TIED to the program's text (the seventh form; the later family's looks); each row that meets fmt, with fmt's text TOLD by the authors' own Lean function (tested against real Go, not proved from fmt's source: count such statements apart). THE CARD IS WHAT COUNTS. Prove the row's statement (the work); the ties are given (YtiknnebeaigkfaaDoorTie.lean); close each card by the builder's one call (the guide's Derived/Test/ToyasCard.lean, 'card_holds'). Laid BY PROGRAM, IN A SANDBOX (cutbox-door.mjs). By AI agents, Wed Nov 11 2026. No macro, syntax, notation, axiom, sorry.
-/
import Derived.Test.YtiknnebeaigkfaaDoorRows
import GoSem.ClaimSeven
namespace Go.Proofs.YtiknnebeaigkfaaDoor
namespace Rows

/-- THE TIED CARD OF 'laws.FnNetPut'. -/
def fnNetPutCard : Claim7 := { stood := { row := fnNetPutRow, standIns := [], harness := (true, "cedc07671df28a9db4192050b691ba4c2a19f249450183cf68b718be69a18ff2"), looks := true }, kinds := [], alts := [], laidByText := true, laidKinds := [.data, .data, .data, .sentinel, .sentinel], laidTests := true, laidLooks := .later }
def FnNetPutCardSaid : Prop := Claim7.holds Tryd.pinned (.plain (OpenSpec.ofChange fnNetPutSpec)) fnNetPutCard

/-- THE TIED CARD OF 'laws.FnNetGet'. -/
def fnNetGetCard : Claim7 := { stood := { row := fnNetGetRow, standIns := [], harness := (true, "cedc07671df28a9db4192050b691ba4c2a19f249450183cf68b718be69a18ff2"), looks := true }, kinds := [], alts := [], laidByText := true, laidKinds := [.data, .data, .data, .sentinel, .sentinel], laidTests := true, laidLooks := .later }
def FnNetGetCardSaid : Prop := Claim7.holds Tryd.pinned (.plain (OpenSpec.ofChange fnNetGetSpec)) fnNetGetCard

/-- THE TIED CARD OF 'laws.FnNetAll'. -/
def fnNetAllCard : Claim7 := { stood := { row := fnNetAllRow, standIns := [], harness := (true, "cedc07671df28a9db4192050b691ba4c2a19f249450183cf68b718be69a18ff2"), looks := true }, kinds := [], alts := [], laidByText := true, laidKinds := [.data, .data, .data, .sentinel, .sentinel], laidTests := true, laidLooks := .later }
def FnNetAllCardSaid : Prop := Claim7.holds Tryd.pinned (.plain (OpenSpec.ofChange fnNetAllSpec)) fnNetAllCard

/-- THE TIED CARD OF 'laws.FnExactNetPut'. -/
def fnExactNetPutCard : Claim7 := { stood := { row := fnExactNetPutRow, standIns := [], harness := (true, "cedc07671df28a9db4192050b691ba4c2a19f249450183cf68b718be69a18ff2"), looks := true }, kinds := [], alts := [], laidByText := true, laidKinds := [.data, .data, .data], laidTests := true, laidLooks := .later }
def FnExactNetPutCardSaid : Prop := Claim7.holds Tryd.pinned (.plain (OpenSpec.ofChange fnExactNetPutSpec)) fnExactNetPutCard

/-- THE TIED CARD OF 'laws.FnExactNetGet'. -/
def fnExactNetGetCard : Claim7 := { stood := { row := fnExactNetGetRow, standIns := [], harness := (true, "cedc07671df28a9db4192050b691ba4c2a19f249450183cf68b718be69a18ff2"), looks := true }, kinds := [], alts := [], laidByText := true, laidKinds := [.data, .data, .data, .sentinel, .sentinel], laidTests := true, laidLooks := .later }
def FnExactNetGetCardSaid : Prop := Claim7.holds Tryd.pinned (.plain (OpenSpec.ofChange fnExactNetGetSpec)) fnExactNetGetCard

/-- THE TIED CARD OF 'laws.FnExactNetAll'. -/
def fnExactNetAllCard : Claim7 := { stood := { row := fnExactNetAllRow, standIns := [], harness := (true, "cedc07671df28a9db4192050b691ba4c2a19f249450183cf68b718be69a18ff2"), looks := true }, kinds := [], alts := [], laidByText := true, laidKinds := [.data, .data, .data, .sentinel, .sentinel], laidTests := true, laidLooks := .later }
def FnExactNetAllCardSaid : Prop := Claim7.holds Tryd.pinned (.plain (OpenSpec.ofChange fnExactNetAllSpec)) fnExactNetAllCard

/-- THE SECOND FORM's CARD OF 'laws.FnNetPut'. -/
def fnNetPutUptoCard : Claim7 := { stood := { row := fnNetPutUptoRow, standIns := [], harness := (true, "cedc07671df28a9db4192050b691ba4c2a19f249450183cf68b718be69a18ff2"), looks := true }, kinds := [], alts := [], laidByText := true, laidKinds := [.data, .data, .data, .sentinel, .sentinel], laidTests := true, laidLooks := .later }
def FnNetPutUptoCardSaid : Prop := Claim7.holds Tryd.pinned (.plain (OpenSpec.upto fnNetPutSpec)) fnNetPutUptoCard

/-- THE SECOND FORM's CARD OF 'laws.FnNetGet'. -/
def fnNetGetUptoCard : Claim7 := { stood := { row := fnNetGetUptoRow, standIns := [], harness := (true, "cedc07671df28a9db4192050b691ba4c2a19f249450183cf68b718be69a18ff2"), looks := true }, kinds := [], alts := [], laidByText := true, laidKinds := [.data, .data, .data, .sentinel, .sentinel], laidTests := true, laidLooks := .later }
def FnNetGetUptoCardSaid : Prop := Claim7.holds Tryd.pinned (.plain (OpenSpec.upto fnNetGetSpec)) fnNetGetUptoCard

/-- THE SECOND FORM's CARD OF 'laws.FnNetAll'. -/
def fnNetAllUptoCard : Claim7 := { stood := { row := fnNetAllUptoRow, standIns := [], harness := (true, "cedc07671df28a9db4192050b691ba4c2a19f249450183cf68b718be69a18ff2"), looks := true }, kinds := [], alts := [], laidByText := true, laidKinds := [.data, .data, .data, .sentinel, .sentinel], laidTests := true, laidLooks := .later }
def FnNetAllUptoCardSaid : Prop := Claim7.holds Tryd.pinned (.plain (OpenSpec.upto fnNetAllSpec)) fnNetAllUptoCard

/-- THE SECOND FORM's CARD OF 'laws.FnExactNetPut'. -/
def fnExactNetPutUptoCard : Claim7 := { stood := { row := fnExactNetPutUptoRow, standIns := [], harness := (true, "cedc07671df28a9db4192050b691ba4c2a19f249450183cf68b718be69a18ff2"), looks := true }, kinds := [], alts := [], laidByText := true, laidKinds := [.data, .data, .data], laidTests := true, laidLooks := .later }
def FnExactNetPutUptoCardSaid : Prop := Claim7.holds Tryd.pinned (.plain (OpenSpec.upto fnExactNetPutSpec)) fnExactNetPutUptoCard

/-- THE SECOND FORM's CARD OF 'laws.FnExactNetGet'. -/
def fnExactNetGetUptoCard : Claim7 := { stood := { row := fnExactNetGetUptoRow, standIns := [], harness := (true, "cedc07671df28a9db4192050b691ba4c2a19f249450183cf68b718be69a18ff2"), looks := true }, kinds := [], alts := [], laidByText := true, laidKinds := [.data, .data, .data, .sentinel, .sentinel], laidTests := true, laidLooks := .later }
def FnExactNetGetUptoCardSaid : Prop := Claim7.holds Tryd.pinned (.plain (OpenSpec.upto fnExactNetGetSpec)) fnExactNetGetUptoCard

/-- THE SECOND FORM's CARD OF 'laws.FnExactNetAll'. -/
def fnExactNetAllUptoCard : Claim7 := { stood := { row := fnExactNetAllUptoRow, standIns := [], harness := (true, "cedc07671df28a9db4192050b691ba4c2a19f249450183cf68b718be69a18ff2"), looks := true }, kinds := [], alts := [], laidByText := true, laidKinds := [.data, .data, .data, .sentinel, .sentinel], laidTests := true, laidLooks := .later }
def FnExactNetAllUptoCardSaid : Prop := Claim7.holds Tryd.pinned (.plain (OpenSpec.upto fnExactNetAllSpec)) fnExactNetAllUptoCard
end Rows
end Go.Proofs.YtiknnebeaigkfaaDoor
