/-
  DERIVED. GIVEN WITH THE SEED: THE CARDS: each row of YtcegpcggdcgjbaaGreatDoorRows.lean that lists a variable, with what it lists TIED to the program's text (the seventh form; the later family's looks); each row that meets fmt, with fmt's text TOLD by the authors' own Lean function (tested against real Go, not proved from fmt's source: count such statements apart). THE CARD IS WHAT COUNTS. Prove the row's statement (the work); the ties are given (YtcegpcggdcgjbaaGreatDoorTie.lean); close each card by the builder's one call (the guide's Derived/Test/ToyasCard.lean, 'card_holds'). Laid BY PROGRAM, IN A SANDBOX (cutbox-door.mjs). By AI agents, Wed Nov 11 2026. No macro, syntax, notation, axiom, sorry.
-/
import Derived.Test.YtcegpcggdcgjbaaGreatDoorRows
import GoSem.ClaimSeven
namespace Go.Proofs.YtcegpcggdcgjbaaGreatDoor
namespace Rows

/-- THE TIED CARD OF 'laws.FnSession'. -/
def fnSessionCard : Claim7 := { stood := { row := fnSessionRow, standIns := [], harness := (true, "2914f295d644a3e83aacc0a028aa2550eebbeb1127d283d77db4f9248c873dd6"), looks := true }, kinds := [], alts := [], laidByText := true, laidKinds := [.data, .data, .data, .data, .sentinel, .sentinel, .data, .pinned], laidTests := true, laidLooks := .later }
def FnSessionCardSaid : Prop := Claim7.holds Tryz.pinned (.plain (OpenSpec.ofChange fnSessionSpec)) fnSessionCard

/-- THE TIED CARD OF 'laws.FnSessionSend'. -/
def fnSessionSendCard : Claim7 := { stood := { row := fnSessionSendRow, standIns := [], harness := (true, "2914f295d644a3e83aacc0a028aa2550eebbeb1127d283d77db4f9248c873dd6"), looks := true }, kinds := [], alts := [], laidByText := true, laidKinds := [.data, .data, .data, .data, .sentinel, .sentinel, .data, .pinned], laidTests := true, laidLooks := .later }
def FnSessionSendCardSaid : Prop := Claim7.holds Tryz.pinned (.plain (OpenSpec.ofChange fnSessionSendSpec)) fnSessionSendCard

/-- THE SECOND FORM's CARD OF 'laws.FnSession'. -/
def fnSessionUptoCard : Claim7 := { stood := { row := fnSessionUptoRow, standIns := [], harness := (true, "2914f295d644a3e83aacc0a028aa2550eebbeb1127d283d77db4f9248c873dd6"), looks := true }, kinds := [], alts := [], laidByText := true, laidKinds := [.data, .data, .data, .data, .sentinel, .sentinel, .data, .pinned], laidTests := true, laidLooks := .later }
def FnSessionUptoCardSaid : Prop := Claim7.holds Tryz.pinned (.plain (OpenSpec.upto fnSessionSpec)) fnSessionUptoCard

/-- THE SECOND FORM's CARD OF 'laws.FnSessionSend'. -/
def fnSessionSendUptoCard : Claim7 := { stood := { row := fnSessionSendUptoRow, standIns := [], harness := (true, "2914f295d644a3e83aacc0a028aa2550eebbeb1127d283d77db4f9248c873dd6"), looks := true }, kinds := [], alts := [], laidByText := true, laidKinds := [.data, .data, .data, .data, .sentinel, .sentinel, .data, .pinned], laidTests := true, laidLooks := .later }
def FnSessionSendUptoCardSaid : Prop := Claim7.holds Tryz.pinned (.plain (OpenSpec.upto fnSessionSendSpec)) fnSessionSendUptoCard
end Rows
end Go.Proofs.YtcegpcggdcgjbaaGreatDoor
