/-
  DERIVED. GIVEN WITH THE SEED: THE CARDS: each row of YtdlbpbglidhlfaaDoorRows.lean that lists a variable, with what it lists TIED to the program's text (the seventh form; the later family's looks); each row that meets fmt, with fmt's text TOLD by the authors' own Lean function (tested against real Go, not proved from fmt's source: count such statements apart). THE CARD IS WHAT COUNTS. Prove the row's statement (the work); the ties are given (YtdlbpbglidhlfaaDoorTie.lean); close each card by the builder's one call (the guide's Derived/Test/ToyasCard.lean, 'card_holds'). Laid BY PROGRAM, IN A SANDBOX (cutbox-door.mjs). By AI agents, Wed Nov 11 2026. No macro, syntax, notation, axiom, sorry.
-/
import Derived.Test.YtdlbpbglidhlfaaDoorRows
import GoSem.ClaimSeven
namespace Go.Proofs.YtdlbpbglidhlfaaDoor
namespace Rows

/-- THE TIED CARD OF 'foremanlaw10.OpBack'. -/
def opBackCard : Claim7 := { stood := { row := opBackRow, standIns := [], harness := (true, "166000acd3735d1c2dda58a86153c440e6400a69085ffab72ecfbbaf66eedb6f"), looks := false }, kinds := [], alts := [], laidByText := true, laidKinds := [.data], laidTests := true, laidLooks := .later }
def OpBackCardSaid : Prop := Claim7.holds Tryd.pinned (.plain (OpenSpec.ofChange opBackSpec)) opBackCard

/-- THE TIED CARD OF 'foremanlaw10.OpOne'. -/
def opOneCard : Claim7 := { stood := { row := opOneRow, standIns := [], harness := (true, "166000acd3735d1c2dda58a86153c440e6400a69085ffab72ecfbbaf66eedb6f"), looks := false }, kinds := [], alts := [], laidByText := true, laidKinds := [.data], laidTests := true, laidLooks := .later }
def OpOneCardSaid : Prop := Claim7.holds Tryd.pinned (.plain (OpenSpec.ofChange opOneSpec)) opOneCard

/-- THE TIED CARD OF 'foremanlaw10.OpHas'. -/
def opHasCard : Claim7 := { stood := { row := opHasRow, standIns := [], harness := (true, "166000acd3735d1c2dda58a86153c440e6400a69085ffab72ecfbbaf66eedb6f"), looks := false }, kinds := [], alts := [], laidByText := true, laidKinds := [.data], laidTests := true, laidLooks := .later }
def OpHasCardSaid : Prop := Claim7.holds Tryd.pinned (.plain (OpenSpec.ofChange opHasSpec)) opHasCard

/-- THE TIED CARD OF 'foremanlaw10.OpIDs'. -/
def opIDsCard : Claim7 := { stood := { row := opIDsRow, standIns := [], harness := (true, "166000acd3735d1c2dda58a86153c440e6400a69085ffab72ecfbbaf66eedb6f"), looks := false }, kinds := [], alts := [], laidByText := true, laidKinds := [.data], laidTests := true, laidLooks := .later }
def OpIDsCardSaid : Prop := Claim7.holds Tryd.pinned (.plain (OpenSpec.ofChange opIDsSpec)) opIDsCard

/-- THE SECOND FORM's CARD OF 'foremanlaw10.OpBack'. -/
def opBackUptoCard : Claim7 := { stood := { row := opBackUptoRow, standIns := [], harness := (true, "166000acd3735d1c2dda58a86153c440e6400a69085ffab72ecfbbaf66eedb6f"), looks := false }, kinds := [], alts := [], laidByText := true, laidKinds := [.data], laidTests := true, laidLooks := .later }
def OpBackUptoCardSaid : Prop := Claim7.holds Tryd.pinned (.plain (OpenSpec.upto opBackSpec)) opBackUptoCard

/-- THE SECOND FORM's CARD OF 'foremanlaw10.OpOne'. -/
def opOneUptoCard : Claim7 := { stood := { row := opOneUptoRow, standIns := [], harness := (true, "166000acd3735d1c2dda58a86153c440e6400a69085ffab72ecfbbaf66eedb6f"), looks := false }, kinds := [], alts := [], laidByText := true, laidKinds := [.data], laidTests := true, laidLooks := .later }
def OpOneUptoCardSaid : Prop := Claim7.holds Tryd.pinned (.plain (OpenSpec.upto opOneSpec)) opOneUptoCard

/-- THE SECOND FORM's CARD OF 'foremanlaw10.OpHas'. -/
def opHasUptoCard : Claim7 := { stood := { row := opHasUptoRow, standIns := [], harness := (true, "166000acd3735d1c2dda58a86153c440e6400a69085ffab72ecfbbaf66eedb6f"), looks := false }, kinds := [], alts := [], laidByText := true, laidKinds := [.data], laidTests := true, laidLooks := .later }
def OpHasUptoCardSaid : Prop := Claim7.holds Tryd.pinned (.plain (OpenSpec.upto opHasSpec)) opHasUptoCard

/-- THE SECOND FORM's CARD OF 'foremanlaw10.OpIDs'. -/
def opIDsUptoCard : Claim7 := { stood := { row := opIDsUptoRow, standIns := [], harness := (true, "166000acd3735d1c2dda58a86153c440e6400a69085ffab72ecfbbaf66eedb6f"), looks := false }, kinds := [], alts := [], laidByText := true, laidKinds := [.data], laidTests := true, laidLooks := .later }
def OpIDsUptoCardSaid : Prop := Claim7.holds Tryd.pinned (.plain (OpenSpec.upto opIDsSpec)) opIDsUptoCard
end Rows
end Go.Proofs.YtdlbpbglidhlfaaDoor
