/-
  DERIVED. GIVEN WITH THE SEED: THE CARDS: each row of YtocjijognmhfmaaDoorRows.lean that lists a variable, with what it lists TIED to the program's text (the seventh form; the later family's looks); each row that meets fmt, with fmt's text TOLD by the authors' own Lean function (tested against real Go, not proved from fmt's source: count such statements apart). THE CARD IS WHAT COUNTS. Prove the row's statement (the work); the ties are given (YtocjijognmhfmaaDoorTie.lean); close each card by the builder's one call (the guide's Derived/Test/ToyasCard.lean, 'card_holds'). Laid BY PROGRAM, IN A SANDBOX (cutbox-door.mjs). By AI agents, Wed Nov 11 2026. No macro, syntax, notation, axiom, sorry.
-/
import Derived.Test.YtocjijognmhfmaaDoorRows
import GoSem.ClaimSeven
namespace Go.Proofs.YtocjijognmhfmaaDoor
namespace Rows

/-- THE TIED CARD OF 'laws.FnSnapBack'. -/
def fnSnapBackCard : Claim7 := { stood := { row := fnSnapBackRow, standIns := [], harness := (true, "a3e51476c649016240966022267a2e7594b0213aee6a5b43d44c5663303f076b"), looks := true }, kinds := [], alts := [], laidByText := true, laidKinds := [.data, .sentinel, .sentinel], laidTests := true, laidLooks := .later }
def FnSnapBackCardSaid : Prop := Claim7.holds Tryd.pinned (.plain (OpenSpec.ofChange fnSnapBackSpec)) fnSnapBackCard

/-- THE TIED CARD OF 'laws.FnExactShowSnap'. -/
def fnExactShowSnapCard : Claim7 := { stood := { row := fnExactShowSnapRow, standIns := [], harness := (true, "a3e51476c649016240966022267a2e7594b0213aee6a5b43d44c5663303f076b"), looks := true }, kinds := [], alts := [], laidByText := true, laidKinds := [.data], laidTests := true, laidLooks := .later }
def FnExactShowSnapCardSaid : Prop := Claim7.holds Tryd.pinned (.plain (OpenSpec.ofChange fnExactShowSnapSpec)) fnExactShowSnapCard

/-- THE TIED CARD OF 'laws.FnExactReadSnap'. -/
def fnExactReadSnapCard : Claim7 := { stood := { row := fnExactReadSnapRow, standIns := [], harness := (true, "a3e51476c649016240966022267a2e7594b0213aee6a5b43d44c5663303f076b"), looks := true }, kinds := [], alts := [], laidByText := true, laidKinds := [.data, .sentinel, .sentinel], laidTests := true, laidLooks := .later }
def FnExactReadSnapCardSaid : Prop := Claim7.holds Tryd.pinned (.plain (OpenSpec.ofChange fnExactReadSnapSpec)) fnExactReadSnapCard

/-- THE SECOND FORM's CARD OF 'laws.FnSnapBack'. -/
def fnSnapBackUptoCard : Claim7 := { stood := { row := fnSnapBackUptoRow, standIns := [], harness := (true, "a3e51476c649016240966022267a2e7594b0213aee6a5b43d44c5663303f076b"), looks := true }, kinds := [], alts := [], laidByText := true, laidKinds := [.data, .sentinel, .sentinel], laidTests := true, laidLooks := .later }
def FnSnapBackUptoCardSaid : Prop := Claim7.holds Tryd.pinned (.plain (OpenSpec.upto fnSnapBackSpec)) fnSnapBackUptoCard

/-- THE SECOND FORM's CARD OF 'laws.FnExactShowSnap'. -/
def fnExactShowSnapUptoCard : Claim7 := { stood := { row := fnExactShowSnapUptoRow, standIns := [], harness := (true, "a3e51476c649016240966022267a2e7594b0213aee6a5b43d44c5663303f076b"), looks := true }, kinds := [], alts := [], laidByText := true, laidKinds := [.data], laidTests := true, laidLooks := .later }
def FnExactShowSnapUptoCardSaid : Prop := Claim7.holds Tryd.pinned (.plain (OpenSpec.upto fnExactShowSnapSpec)) fnExactShowSnapUptoCard

/-- THE SECOND FORM's CARD OF 'laws.FnExactReadSnap'. -/
def fnExactReadSnapUptoCard : Claim7 := { stood := { row := fnExactReadSnapUptoRow, standIns := [], harness := (true, "a3e51476c649016240966022267a2e7594b0213aee6a5b43d44c5663303f076b"), looks := true }, kinds := [], alts := [], laidByText := true, laidKinds := [.data, .sentinel, .sentinel], laidTests := true, laidLooks := .later }
def FnExactReadSnapUptoCardSaid : Prop := Claim7.holds Tryd.pinned (.plain (OpenSpec.upto fnExactReadSnapSpec)) fnExactReadSnapUptoCard
end Rows
end Go.Proofs.YtocjijognmhfmaaDoor
