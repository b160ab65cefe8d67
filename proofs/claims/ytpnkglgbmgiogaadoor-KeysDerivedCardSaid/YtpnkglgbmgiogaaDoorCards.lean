/-
  DERIVED. GIVEN WITH THE SEED: THE CARDS: each row of YtpnkglgbmgiogaaDoorRows.lean that lists a variable, with what it lists TIED to the program's text (the seventh form; the later family's looks); each row that meets fmt, with fmt's text TOLD by the authors' own Lean function (tested against real Go, not proved from fmt's source: count such statements apart). THE CARD IS WHAT COUNTS. Prove the row's statement (the work); the ties are given (YtpnkglgbmgiogaaDoorTie.lean); close each card by the builder's one call (the guide's Derived/Test/ToyasCard.lean, 'card_holds'). Laid BY PROGRAM, IN A SANDBOX (cutbox-door.mjs). By AI agents, Wed Nov 11 2026. No macro, syntax, notation, axiom, sorry.
-/
import Derived.Test.YtpnkglgbmgiogaaDoorRows
import GoSem.ClaimSeven
namespace Go.Proofs.YtpnkglgbmgiogaaDoor
namespace Rows

/-- THE TIED CARD OF 'deaddroplaw14.KeysAll'. -/
def keysAllCard : Claim7 := { stood := { row := keysAllRow, standIns := [], harness := (true, "4ae17daef9196855788358a8b71df516e6d868761506b00bee46e18db0f5fabe"), looks := true }, kinds := [], alts := [], laidByText := true, laidKinds := [.data, .data, .data, .data, .data, .sentinel, .sentinel], laidTests := true, laidLooks := .later }
def KeysAllCardSaid : Prop := Claim7.holds Tryd.pinned (.plain (OpenSpec.ofChange keysAllSpec)) keysAllCard

/-- THE TIED CARD OF 'deaddroplaw14.KeysNonces'. -/
def keysNoncesCard : Claim7 := { stood := { row := keysNoncesRow, standIns := [], harness := (true, "4ae17daef9196855788358a8b71df516e6d868761506b00bee46e18db0f5fabe"), looks := true }, kinds := [], alts := [], laidByText := true, laidKinds := [.data, .data, .data, .data, .data, .sentinel, .sentinel], laidTests := true, laidLooks := .later }
def KeysNoncesCardSaid : Prop := Claim7.holds Tryd.pinned (.plain (OpenSpec.ofChange keysNoncesSpec)) keysNoncesCard

/-- THE TIED CARD OF 'deaddroplaw14.KeysDerived'. -/
def keysDerivedCard : Claim7 := { stood := { row := keysDerivedRow, standIns := [], harness := (true, "4ae17daef9196855788358a8b71df516e6d868761506b00bee46e18db0f5fabe"), looks := true }, kinds := [], alts := [], laidByText := true, laidKinds := [.data, .data, .data, .data, .data, .sentinel, .sentinel], laidTests := true, laidLooks := .later }
def KeysDerivedCardSaid : Prop := Claim7.holds Tryd.pinned (.plain (OpenSpec.ofChange keysDerivedSpec)) keysDerivedCard

/-- THE SECOND FORM's CARD OF 'deaddroplaw14.KeysAll'. -/
def keysAllUptoCard : Claim7 := { stood := { row := keysAllUptoRow, standIns := [], harness := (true, "4ae17daef9196855788358a8b71df516e6d868761506b00bee46e18db0f5fabe"), looks := true }, kinds := [], alts := [], laidByText := true, laidKinds := [.data, .data, .data, .data, .data, .sentinel, .sentinel], laidTests := true, laidLooks := .later }
def KeysAllUptoCardSaid : Prop := Claim7.holds Tryd.pinned (.plain (OpenSpec.upto keysAllSpec)) keysAllUptoCard

/-- THE SECOND FORM's CARD OF 'deaddroplaw14.KeysNonces'. -/
def keysNoncesUptoCard : Claim7 := { stood := { row := keysNoncesUptoRow, standIns := [], harness := (true, "4ae17daef9196855788358a8b71df516e6d868761506b00bee46e18db0f5fabe"), looks := true }, kinds := [], alts := [], laidByText := true, laidKinds := [.data, .data, .data, .data, .data, .sentinel, .sentinel], laidTests := true, laidLooks := .later }
def KeysNoncesUptoCardSaid : Prop := Claim7.holds Tryd.pinned (.plain (OpenSpec.upto keysNoncesSpec)) keysNoncesUptoCard

/-- THE SECOND FORM's CARD OF 'deaddroplaw14.KeysDerived'. -/
def keysDerivedUptoCard : Claim7 := { stood := { row := keysDerivedUptoRow, standIns := [], harness := (true, "4ae17daef9196855788358a8b71df516e6d868761506b00bee46e18db0f5fabe"), looks := true }, kinds := [], alts := [], laidByText := true, laidKinds := [.data, .data, .data, .data, .data, .sentinel, .sentinel], laidTests := true, laidLooks := .later }
def KeysDerivedUptoCardSaid : Prop := Claim7.holds Tryd.pinned (.plain (OpenSpec.upto keysDerivedSpec)) keysDerivedUptoCard
end Rows
end Go.Proofs.YtpnkglgbmgiogaaDoor
