/-
  DERIVED. GIVEN WITH THE SEED: THE CARDS: each row of YthijiefopcnclaaGreatDoorRows.lean that lists a variable, with what it lists TIED to the program's text (the seventh form; the later family's looks); each row that meets fmt, with fmt's text TOLD by the authors' own Lean function (tested against real Go, not proved from fmt's source: count such statements apart). THE CARD IS WHAT COUNTS. Prove the row's statement (the work); the ties are given (YthijiefopcnclaaGreatDoorTie.lean); close each card by the builder's one call (the guide's Derived/Test/ToyasCard.lean, 'card_holds'). Laid BY PROGRAM, IN A SANDBOX (cutbox-door.mjs). By AI agents, Wed Nov 11 2026. No macro, syntax, notation, axiom, sorry.
-/
import Derived.Test.YthijiefopcnclaaGreatDoorRows
import GoSem.ClaimSeven
namespace Go.Proofs.YthijiefopcnclaaGreatDoor
namespace Rows

/-- THE TIED CARD OF 'deaddroplaw13.SnapAll'. -/
def snapAllCard : Claim7 := { stood := { row := snapAllRow, standIns := [], harness := (true, "7be920e0a8d9ba6b7f58f8ff90d2cd906068bc08df74831b45d930074502b514"), looks := true }, kinds := [], alts := [], laidByText := true, laidKinds := [.handle], laidTests := true, laidLooks := .later }
def SnapAllCardSaid : Prop := Claim7.holds Tryz.pinned (.plain (OpenSpec.ofChange snapAllSpec)) snapAllCard

/-- THE TIED CARD OF 'deaddroplaw13.SnapBack'. -/
def snapBackCard : Claim7 := { stood := { row := snapBackRow, standIns := [], harness := (true, "7be920e0a8d9ba6b7f58f8ff90d2cd906068bc08df74831b45d930074502b514"), looks := true }, kinds := [], alts := [], laidByText := true, laidKinds := [.handle], laidTests := true, laidLooks := .later }
def SnapBackCardSaid : Prop := Claim7.holds Tryz.pinned (.plain (OpenSpec.ofChange snapBackSpec)) snapBackCard

/-- THE TIED CARD OF 'deaddroplaw13.SnapSize'. -/
def snapSizeCard : Claim7 := { stood := { row := snapSizeRow, standIns := [], harness := (true, "7be920e0a8d9ba6b7f58f8ff90d2cd906068bc08df74831b45d930074502b514"), looks := true }, kinds := [], alts := [], laidByText := true, laidKinds := [.handle], laidTests := true, laidLooks := .later }
def SnapSizeCardSaid : Prop := Claim7.holds Tryz.pinned (.plain (OpenSpec.ofChange snapSizeSpec)) snapSizeCard

/-- THE TIED CARD OF 'deaddroplaw13.SnapMay'. -/
def snapMayCard : Claim7 := { stood := { row := snapMayRow, standIns := [], harness := (true, "7be920e0a8d9ba6b7f58f8ff90d2cd906068bc08df74831b45d930074502b514"), looks := true }, kinds := [], alts := [], laidByText := true, laidKinds := [.handle], laidTests := true, laidLooks := .later }
def SnapMayCardSaid : Prop := Claim7.holds Tryz.pinned (.plain (OpenSpec.ofChange snapMaySpec)) snapMayCard

/-- THE SECOND FORM's CARD OF 'deaddroplaw13.SnapAll'. -/
def snapAllUptoCard : Claim7 := { stood := { row := snapAllUptoRow, standIns := [], harness := (true, "7be920e0a8d9ba6b7f58f8ff90d2cd906068bc08df74831b45d930074502b514"), looks := true }, kinds := [], alts := [], laidByText := true, laidKinds := [.handle], laidTests := true, laidLooks := .later }
def SnapAllUptoCardSaid : Prop := Claim7.holds Tryz.pinned (.plain (OpenSpec.upto snapAllSpec)) snapAllUptoCard

/-- THE SECOND FORM's CARD OF 'deaddroplaw13.SnapBack'. -/
def snapBackUptoCard : Claim7 := { stood := { row := snapBackUptoRow, standIns := [], harness := (true, "7be920e0a8d9ba6b7f58f8ff90d2cd906068bc08df74831b45d930074502b514"), looks := true }, kinds := [], alts := [], laidByText := true, laidKinds := [.handle], laidTests := true, laidLooks := .later }
def SnapBackUptoCardSaid : Prop := Claim7.holds Tryz.pinned (.plain (OpenSpec.upto snapBackSpec)) snapBackUptoCard

/-- THE SECOND FORM's CARD OF 'deaddroplaw13.SnapSize'. -/
def snapSizeUptoCard : Claim7 := { stood := { row := snapSizeUptoRow, standIns := [], harness := (true, "7be920e0a8d9ba6b7f58f8ff90d2cd906068bc08df74831b45d930074502b514"), looks := true }, kinds := [], alts := [], laidByText := true, laidKinds := [.handle], laidTests := true, laidLooks := .later }
def SnapSizeUptoCardSaid : Prop := Claim7.holds Tryz.pinned (.plain (OpenSpec.upto snapSizeSpec)) snapSizeUptoCard

/-- THE SECOND FORM's CARD OF 'deaddroplaw13.SnapMay'. -/
def snapMayUptoCard : Claim7 := { stood := { row := snapMayUptoRow, standIns := [], harness := (true, "7be920e0a8d9ba6b7f58f8ff90d2cd906068bc08df74831b45d930074502b514"), looks := true }, kinds := [], alts := [], laidByText := true, laidKinds := [.handle], laidTests := true, laidLooks := .later }
def SnapMayUptoCardSaid : Prop := Claim7.holds Tryz.pinned (.plain (OpenSpec.upto snapMaySpec)) snapMayUptoCard
end Rows
end Go.Proofs.YthijiefopcnclaaGreatDoor
