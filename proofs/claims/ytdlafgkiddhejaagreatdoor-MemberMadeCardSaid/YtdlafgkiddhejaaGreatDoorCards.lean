/-
  DERIVED. GIVEN WITH THE SEED: THE CARDS: each row of YtdlafgkiddhejaaGreatDoorRows.lean that lists a variable, with what it lists TIED to the program's text (the seventh form; the later family's looks); each row that meets fmt, with fmt's text TOLD by the authors' own Lean function (tested against real Go, not proved from fmt's source: count such statements apart). THE CARD IS WHAT COUNTS. Prove the row's statement (the work); the ties are given (YtdlafgkiddhejaaGreatDoorTie.lean); close each card by the builder's one call (the guide's Derived/Test/ToyasCard.lean, 'card_holds'). Laid BY PROGRAM, IN A SANDBOX (cutbox-door.mjs). By AI agents, Wed Nov 11 2026. No macro, syntax, notation, axiom, sorry.
-/
import Derived.Test.YtdlafgkiddhejaaGreatDoorRows
import GoSem.ClaimSeven
namespace Go.Proofs.YtdlafgkiddhejaaGreatDoor
namespace Rows

/-- THE TIED CARD OF 'deaddroplaw15.MemberChain'. -/
def memberChainCard : Claim7 := { stood := { row := memberChainRow, standIns := [], harness := (true, "5667fccf41d4dc72f55d19aa3a93d9c8404a706a80df8094339e3fdccafb4532"), looks := true }, kinds := [], alts := [], laidByText := true, laidKinds := [.data, .data, .handle, .sentinel, .sentinel, .sentinel, .sentinel, .sentinel, .sentinel, .sentinel, .sentinel], laidTests := true, laidLooks := .later }
def MemberChainCardSaid : Prop := Claim7.holds Tryz.pinned (.plain (OpenSpec.ofChange memberChainSpec)) memberChainCard

/-- THE TIED CARD OF 'deaddroplaw15.MemberMade'. -/
def memberMadeCard : Claim7 := { stood := { row := memberMadeRow, standIns := [], harness := (true, "5667fccf41d4dc72f55d19aa3a93d9c8404a706a80df8094339e3fdccafb4532"), looks := true }, kinds := [], alts := [], laidByText := true, laidKinds := [.data, .data, .handle, .sentinel, .sentinel, .sentinel, .sentinel, .sentinel, .sentinel, .sentinel, .sentinel], laidTests := true, laidLooks := .later }
def MemberMadeCardSaid : Prop := Claim7.holds Tryz.pinned (.plain (OpenSpec.ofChange memberMadeSpec)) memberMadeCard

/-- THE TIED CARD OF 'deaddroplaw15.MemberMany'. -/
def memberManyCard : Claim7 := { stood := { row := memberManyRow, standIns := [], harness := (true, "5667fccf41d4dc72f55d19aa3a93d9c8404a706a80df8094339e3fdccafb4532"), looks := true }, kinds := [], alts := [], laidByText := true, laidKinds := [.data, .data, .handle, .sentinel, .sentinel, .sentinel, .sentinel, .sentinel, .sentinel, .sentinel, .sentinel], laidTests := true, laidLooks := .later }
def MemberManyCardSaid : Prop := Claim7.holds Tryz.pinned (.plain (OpenSpec.ofChange memberManySpec)) memberManyCard

/-- THE TIED CARD OF 'deaddroplaw15.MemberBack'. -/
def memberBackCard : Claim7 := { stood := { row := memberBackRow, standIns := [], harness := (true, "5667fccf41d4dc72f55d19aa3a93d9c8404a706a80df8094339e3fdccafb4532"), looks := true }, kinds := [], alts := [], laidByText := true, laidKinds := [.data, .data, .handle, .sentinel, .sentinel, .sentinel, .sentinel, .sentinel, .sentinel, .sentinel, .sentinel], laidTests := true, laidLooks := .later }
def MemberBackCardSaid : Prop := Claim7.holds Tryz.pinned (.plain (OpenSpec.ofChange memberBackSpec)) memberBackCard

/-- THE TIED CARD OF 'deaddroplaw15.MemberHead'. -/
def memberHeadCard : Claim7 := { stood := { row := memberHeadRow, standIns := [], harness := (true, "5667fccf41d4dc72f55d19aa3a93d9c8404a706a80df8094339e3fdccafb4532"), looks := true }, kinds := [], alts := [], laidByText := true, laidKinds := [.data, .data, .handle, .sentinel, .sentinel, .sentinel, .sentinel, .sentinel, .sentinel, .sentinel, .sentinel], laidTests := true, laidLooks := .later }
def MemberHeadCardSaid : Prop := Claim7.holds Tryz.pinned (.plain (OpenSpec.ofChange memberHeadSpec)) memberHeadCard

/-- THE SECOND FORM's CARD OF 'deaddroplaw15.MemberChain'. -/
def memberChainUptoCard : Claim7 := { stood := { row := memberChainUptoRow, standIns := [], harness := (true, "5667fccf41d4dc72f55d19aa3a93d9c8404a706a80df8094339e3fdccafb4532"), looks := true }, kinds := [], alts := [], laidByText := true, laidKinds := [.data, .data, .handle, .sentinel, .sentinel, .sentinel, .sentinel, .sentinel, .sentinel, .sentinel, .sentinel], laidTests := true, laidLooks := .later }
def MemberChainUptoCardSaid : Prop := Claim7.holds Tryz.pinned (.plain (OpenSpec.upto memberChainSpec)) memberChainUptoCard

/-- THE SECOND FORM's CARD OF 'deaddroplaw15.MemberMade'. -/
def memberMadeUptoCard : Claim7 := { stood := { row := memberMadeUptoRow, standIns := [], harness := (true, "5667fccf41d4dc72f55d19aa3a93d9c8404a706a80df8094339e3fdccafb4532"), looks := true }, kinds := [], alts := [], laidByText := true, laidKinds := [.data, .data, .handle, .sentinel, .sentinel, .sentinel, .sentinel, .sentinel, .sentinel, .sentinel, .sentinel], laidTests := true, laidLooks := .later }
def MemberMadeUptoCardSaid : Prop := Claim7.holds Tryz.pinned (.plain (OpenSpec.upto memberMadeSpec)) memberMadeUptoCard

/-- THE SECOND FORM's CARD OF 'deaddroplaw15.MemberMany'. -/
def memberManyUptoCard : Claim7 := { stood := { row := memberManyUptoRow, standIns := [], harness := (true, "5667fccf41d4dc72f55d19aa3a93d9c8404a706a80df8094339e3fdccafb4532"), looks := true }, kinds := [], alts := [], laidByText := true, laidKinds := [.data, .data, .handle, .sentinel, .sentinel, .sentinel, .sentinel, .sentinel, .sentinel, .sentinel, .sentinel], laidTests := true, laidLooks := .later }
def MemberManyUptoCardSaid : Prop := Claim7.holds Tryz.pinned (.plain (OpenSpec.upto memberManySpec)) memberManyUptoCard

/-- THE SECOND FORM's CARD OF 'deaddroplaw15.MemberBack'. -/
def memberBackUptoCard : Claim7 := { stood := { row := memberBackUptoRow, standIns := [], harness := (true, "5667fccf41d4dc72f55d19aa3a93d9c8404a706a80df8094339e3fdccafb4532"), looks := true }, kinds := [], alts := [], laidByText := true, laidKinds := [.data, .data, .handle, .sentinel, .sentinel, .sentinel, .sentinel, .sentinel, .sentinel, .sentinel, .sentinel], laidTests := true, laidLooks := .later }
def MemberBackUptoCardSaid : Prop := Claim7.holds Tryz.pinned (.plain (OpenSpec.upto memberBackSpec)) memberBackUptoCard

/-- THE SECOND FORM's CARD OF 'deaddroplaw15.MemberHead'. -/
def memberHeadUptoCard : Claim7 := { stood := { row := memberHeadUptoRow, standIns := [], harness := (true, "5667fccf41d4dc72f55d19aa3a93d9c8404a706a80df8094339e3fdccafb4532"), looks := true }, kinds := [], alts := [], laidByText := true, laidKinds := [.data, .data, .handle, .sentinel, .sentinel, .sentinel, .sentinel, .sentinel, .sentinel, .sentinel, .sentinel], laidTests := true, laidLooks := .later }
def MemberHeadUptoCardSaid : Prop := Claim7.holds Tryz.pinned (.plain (OpenSpec.upto memberHeadSpec)) memberHeadUptoCard
end Rows
end Go.Proofs.YtdlafgkiddhejaaGreatDoor
