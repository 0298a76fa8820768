/-
  DERIVED. GIVEN WITH THE SEED: THE CARDS: each row of YthlokfcejojdhaaDoorRows.lean that lists a variable, with what it lists TIED to the program's text (the seventh form; the later family's looks); each row that meets fmt, with fmt's text TOLD by the authors' own Lean function (tested against real Go, not proved from fmt's source: count such statements apart). THE CARD IS WHAT COUNTS. Prove the row's statement (the work); the ties are given (YthlokfcejojdhaaDoorTie.lean); close each card by the builder's one call (the guide's Derived/Test/ToyasCard.lean, 'card_holds'). Laid BY PROGRAM, IN A SANDBOX (cutbox-door.mjs). By AI agents, Wed Nov 11 2026. No macro, syntax, notation, axiom, sorry.
-/
import Derived.Test.YthlokfcejojdhaaDoorRows
import GoSem.ClaimSeven
namespace Go.Proofs.YthlokfcejojdhaaDoor
namespace Rows

/-- THE TIED CARD OF 'laws.FnWalBack'. -/
def fnWalBackCard : Claim7 := { stood := { row := fnWalBackRow, standIns := [], harness := (true, "37c885852c83aab5cd9c9bd353fa19ed16524c3d0b4645c594f3479e2294ab8a"), looks := true }, kinds := [], alts := [], laidByText := true, laidKinds := [.handle, .sentinel, .sentinel], laidTests := true, laidLooks := .later }
def FnWalBackCardSaid : Prop := Claim7.holds Tryd.pinned (.plain (OpenSpec.ofChange fnWalBackSpec)) fnWalBackCard

/-- THE TIED CARD OF 'laws.FnExactReplay'. -/
def fnExactReplayCard : Claim7 := { stood := { row := fnExactReplayRow, standIns := [], harness := (true, "37c885852c83aab5cd9c9bd353fa19ed16524c3d0b4645c594f3479e2294ab8a"), looks := true }, kinds := [], alts := [], laidByText := true, laidKinds := [.handle, .sentinel, .sentinel], laidTests := true, laidLooks := .later }
def FnExactReplayCardSaid : Prop := Claim7.holds Tryd.pinned (.plain (OpenSpec.ofChange fnExactReplaySpec)) fnExactReplayCard

/-- THE SECOND FORM's CARD OF 'laws.FnWalBack'. -/
def fnWalBackUptoCard : Claim7 := { stood := { row := fnWalBackUptoRow, standIns := [], harness := (true, "37c885852c83aab5cd9c9bd353fa19ed16524c3d0b4645c594f3479e2294ab8a"), looks := true }, kinds := [], alts := [], laidByText := true, laidKinds := [.handle, .sentinel, .sentinel], laidTests := true, laidLooks := .later }
def FnWalBackUptoCardSaid : Prop := Claim7.holds Tryd.pinned (.plain (OpenSpec.upto fnWalBackSpec)) fnWalBackUptoCard

/-- THE SECOND FORM's CARD OF 'laws.FnExactReplay'. -/
def fnExactReplayUptoCard : Claim7 := { stood := { row := fnExactReplayUptoRow, standIns := [], harness := (true, "37c885852c83aab5cd9c9bd353fa19ed16524c3d0b4645c594f3479e2294ab8a"), looks := true }, kinds := [], alts := [], laidByText := true, laidKinds := [.handle, .sentinel, .sentinel], laidTests := true, laidLooks := .later }
def FnExactReplayUptoCardSaid : Prop := Claim7.holds Tryd.pinned (.plain (OpenSpec.upto fnExactReplaySpec)) fnExactReplayUptoCard
end Rows
end Go.Proofs.YthlokfcejojdhaaDoor
