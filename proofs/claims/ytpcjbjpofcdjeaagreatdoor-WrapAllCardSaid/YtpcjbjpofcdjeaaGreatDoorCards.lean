/-
  DERIVED. GIVEN WITH THE SEED: THE CARDS: each row of YtpcjbjpofcdjeaaGreatDoorRows.lean that lists a variable, with what it lists TIED to the program's text (the seventh form; the later family's looks); each row that meets fmt, with fmt's text TOLD by the authors' own Lean function (tested against real Go, not proved from fmt's source: count such statements apart). THE CARD IS WHAT COUNTS. Prove the row's statement (the work); the ties are given (YtpcjbjpofcdjeaaGreatDoorTie.lean); close each card by the builder's one call (the guide's Derived/Test/ToyasCard.lean, 'card_holds'). Laid BY PROGRAM, IN A SANDBOX (cutbox-door.mjs). By AI agents, Wed Nov 11 2026. No macro, syntax, notation, axiom, sorry.
-/
import Derived.Test.YtpcjbjpofcdjeaaGreatDoorRows
import GoSem.ClaimSeven
namespace Go.Proofs.YtpcjbjpofcdjeaaGreatDoor
namespace Rows

/-- THE TIED CARD OF 'deaddroplaw17.WrapAll'. -/
def wrapAllCard : Claim7 := { stood := { row := wrapAllRow, standIns := [], harness := (true, "5f56a9283ca2ccc4fcec836e992df02bab2ad2c6d7bcf834598924610d56eb0c"), looks := true }, kinds := [], alts := [], laidByText := true, laidKinds := [.data, .data, .data, .data, .data, .handle, .sentinel, .sentinel, .sentinel, .sentinel, .sentinel, .sentinel, .sentinel, .sentinel, .sentinel, .sentinel, .sentinel, .sentinel, .sentinel, .sentinel, .sentinel], laidTests := true, laidLooks := .later }
def WrapAllCardSaid : Prop := Claim7.holds Tryz.pinned (.plain (OpenSpec.ofChange wrapAllSpec)) wrapAllCard

/-- THE TIED CARD OF 'deaddroplaw17.WrapMade'. -/
def wrapMadeCard : Claim7 := { stood := { row := wrapMadeRow, standIns := [], harness := (true, "5f56a9283ca2ccc4fcec836e992df02bab2ad2c6d7bcf834598924610d56eb0c"), looks := true }, kinds := [], alts := [], laidByText := true, laidKinds := [.data, .data, .data, .data, .data, .handle, .sentinel, .sentinel, .sentinel, .sentinel, .sentinel, .sentinel, .sentinel, .sentinel, .sentinel, .sentinel, .sentinel, .sentinel, .sentinel, .sentinel, .sentinel], laidTests := true, laidLooks := .later }
def WrapMadeCardSaid : Prop := Claim7.holds Tryz.pinned (.plain (OpenSpec.ofChange wrapMadeSpec)) wrapMadeCard

/-- THE TIED CARD OF 'deaddroplaw17.WrapNext'. -/
def wrapNextCard : Claim7 := { stood := { row := wrapNextRow, standIns := [], harness := (true, "5f56a9283ca2ccc4fcec836e992df02bab2ad2c6d7bcf834598924610d56eb0c"), looks := true }, kinds := [], alts := [], laidByText := true, laidKinds := [.data, .data, .data, .data, .data, .handle, .sentinel, .sentinel, .sentinel, .sentinel, .sentinel, .sentinel, .sentinel, .sentinel, .sentinel, .sentinel, .sentinel, .sentinel, .sentinel, .sentinel, .sentinel], laidTests := true, laidLooks := .later }
def WrapNextCardSaid : Prop := Claim7.holds Tryz.pinned (.plain (OpenSpec.ofChange wrapNextSpec)) wrapNextCard

/-- THE TIED CARD OF 'deaddroplaw17.WrapAgain'. -/
def wrapAgainCard : Claim7 := { stood := { row := wrapAgainRow, standIns := [], harness := (true, "5f56a9283ca2ccc4fcec836e992df02bab2ad2c6d7bcf834598924610d56eb0c"), looks := true }, kinds := [], alts := [], laidByText := true, laidKinds := [.data, .data, .data, .data, .data, .handle, .sentinel, .sentinel, .sentinel, .sentinel, .sentinel, .sentinel, .sentinel, .sentinel, .sentinel, .sentinel, .sentinel, .sentinel, .sentinel, .sentinel, .sentinel], laidTests := true, laidLooks := .later }
def WrapAgainCardSaid : Prop := Claim7.holds Tryz.pinned (.plain (OpenSpec.ofChange wrapAgainSpec)) wrapAgainCard

/-- THE TIED CARD OF 'deaddroplaw17.WrapOpens'. -/
def wrapOpensCard : Claim7 := { stood := { row := wrapOpensRow, standIns := [], harness := (true, "5f56a9283ca2ccc4fcec836e992df02bab2ad2c6d7bcf834598924610d56eb0c"), looks := true }, kinds := [], alts := [], laidByText := true, laidKinds := [.data, .data, .data, .data, .data, .handle, .sentinel, .sentinel, .sentinel, .sentinel, .sentinel, .sentinel, .sentinel, .sentinel, .sentinel, .sentinel, .sentinel, .sentinel, .sentinel, .sentinel, .sentinel], laidTests := true, laidLooks := .later }
def WrapOpensCardSaid : Prop := Claim7.holds Tryz.pinned (.plain (OpenSpec.ofChange wrapOpensSpec)) wrapOpensCard

/-- THE TIED CARD OF 'deaddroplaw17.WrapTags'. -/
def wrapTagsCard : Claim7 := { stood := { row := wrapTagsRow, standIns := [], harness := (true, "5f56a9283ca2ccc4fcec836e992df02bab2ad2c6d7bcf834598924610d56eb0c"), looks := true }, kinds := [], alts := [], laidByText := true, laidKinds := [.data, .data, .data, .data, .data, .handle, .sentinel, .sentinel, .sentinel, .sentinel, .sentinel, .sentinel, .sentinel, .sentinel, .sentinel, .sentinel, .sentinel, .sentinel, .sentinel, .sentinel, .sentinel], laidTests := true, laidLooks := .later }
def WrapTagsCardSaid : Prop := Claim7.holds Tryz.pinned (.plain (OpenSpec.ofChange wrapTagsSpec)) wrapTagsCard

/-- THE SECOND FORM's CARD OF 'deaddroplaw17.WrapAll'. -/
def wrapAllUptoCard : Claim7 := { stood := { row := wrapAllUptoRow, standIns := [], harness := (true, "5f56a9283ca2ccc4fcec836e992df02bab2ad2c6d7bcf834598924610d56eb0c"), looks := true }, kinds := [], alts := [], laidByText := true, laidKinds := [.data, .data, .data, .data, .data, .handle, .sentinel, .sentinel, .sentinel, .sentinel, .sentinel, .sentinel, .sentinel, .sentinel, .sentinel, .sentinel, .sentinel, .sentinel, .sentinel, .sentinel, .sentinel], laidTests := true, laidLooks := .later }
def WrapAllUptoCardSaid : Prop := Claim7.holds Tryz.pinned (.plain (OpenSpec.upto wrapAllSpec)) wrapAllUptoCard

/-- THE SECOND FORM's CARD OF 'deaddroplaw17.WrapMade'. -/
def wrapMadeUptoCard : Claim7 := { stood := { row := wrapMadeUptoRow, standIns := [], harness := (true, "5f56a9283ca2ccc4fcec836e992df02bab2ad2c6d7bcf834598924610d56eb0c"), looks := true }, kinds := [], alts := [], laidByText := true, laidKinds := [.data, .data, .data, .data, .data, .handle, .sentinel, .sentinel, .sentinel, .sentinel, .sentinel, .sentinel, .sentinel, .sentinel, .sentinel, .sentinel, .sentinel, .sentinel, .sentinel, .sentinel, .sentinel], laidTests := true, laidLooks := .later }
def WrapMadeUptoCardSaid : Prop := Claim7.holds Tryz.pinned (.plain (OpenSpec.upto wrapMadeSpec)) wrapMadeUptoCard

/-- THE SECOND FORM's CARD OF 'deaddroplaw17.WrapNext'. -/
def wrapNextUptoCard : Claim7 := { stood := { row := wrapNextUptoRow, standIns := [], harness := (true, "5f56a9283ca2ccc4fcec836e992df02bab2ad2c6d7bcf834598924610d56eb0c"), looks := true }, kinds := [], alts := [], laidByText := true, laidKinds := [.data, .data, .data, .data, .data, .handle, .sentinel, .sentinel, .sentinel, .sentinel, .sentinel, .sentinel, .sentinel, .sentinel, .sentinel, .sentinel, .sentinel, .sentinel, .sentinel, .sentinel, .sentinel], laidTests := true, laidLooks := .later }
def WrapNextUptoCardSaid : Prop := Claim7.holds Tryz.pinned (.plain (OpenSpec.upto wrapNextSpec)) wrapNextUptoCard

/-- THE SECOND FORM's CARD OF 'deaddroplaw17.WrapAgain'. -/
def wrapAgainUptoCard : Claim7 := { stood := { row := wrapAgainUptoRow, standIns := [], harness := (true, "5f56a9283ca2ccc4fcec836e992df02bab2ad2c6d7bcf834598924610d56eb0c"), looks := true }, kinds := [], alts := [], laidByText := true, laidKinds := [.data, .data, .data, .data, .data, .handle, .sentinel, .sentinel, .sentinel, .sentinel, .sentinel, .sentinel, .sentinel, .sentinel, .sentinel, .sentinel, .sentinel, .sentinel, .sentinel, .sentinel, .sentinel], laidTests := true, laidLooks := .later }
def WrapAgainUptoCardSaid : Prop := Claim7.holds Tryz.pinned (.plain (OpenSpec.upto wrapAgainSpec)) wrapAgainUptoCard

/-- THE SECOND FORM's CARD OF 'deaddroplaw17.WrapOpens'. -/
def wrapOpensUptoCard : Claim7 := { stood := { row := wrapOpensUptoRow, standIns := [], harness := (true, "5f56a9283ca2ccc4fcec836e992df02bab2ad2c6d7bcf834598924610d56eb0c"), looks := true }, kinds := [], alts := [], laidByText := true, laidKinds := [.data, .data, .data, .data, .data, .handle, .sentinel, .sentinel, .sentinel, .sentinel, .sentinel, .sentinel, .sentinel, .sentinel, .sentinel, .sentinel, .sentinel, .sentinel, .sentinel, .sentinel, .sentinel], laidTests := true, laidLooks := .later }
def WrapOpensUptoCardSaid : Prop := Claim7.holds Tryz.pinned (.plain (OpenSpec.upto wrapOpensSpec)) wrapOpensUptoCard

/-- THE SECOND FORM's CARD OF 'deaddroplaw17.WrapTags'. -/
def wrapTagsUptoCard : Claim7 := { stood := { row := wrapTagsUptoRow, standIns := [], harness := (true, "5f56a9283ca2ccc4fcec836e992df02bab2ad2c6d7bcf834598924610d56eb0c"), looks := true }, kinds := [], alts := [], laidByText := true, laidKinds := [.data, .data, .data, .data, .data, .handle, .sentinel, .sentinel, .sentinel, .sentinel, .sentinel, .sentinel, .sentinel, .sentinel, .sentinel, .sentinel, .sentinel, .sentinel, .sentinel, .sentinel, .sentinel], laidTests := true, laidLooks := .later }
def WrapTagsUptoCardSaid : Prop := Claim7.holds Tryz.pinned (.plain (OpenSpec.upto wrapTagsSpec)) wrapTagsUptoCard
end Rows
end Go.Proofs.YtpcjbjpofcdjeaaGreatDoor
