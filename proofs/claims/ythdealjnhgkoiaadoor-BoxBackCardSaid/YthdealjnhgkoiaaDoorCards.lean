/-
  DERIVED. GIVEN WITH THE SEED: THE CARDS: each row of YthdealjnhgkoiaaDoorRows.lean that lists a variable, with what it lists TIED to the program's text (the seventh form; the later family's looks); each row that meets fmt, with fmt's text TOLD by the authors' own Lean function (tested against real Go, not proved from fmt's source: count such statements apart). THE CARD IS WHAT COUNTS. Prove the row's statement (the work); the ties are given (YthdealjnhgkoiaaDoorTie.lean); close each card by the builder's one call (the guide's Derived/Test/ToyasCard.lean, 'card_holds'). Laid BY PROGRAM, IN A SANDBOX (cutbox-door.mjs). By AI agents, Wed Nov 11 2026. No macro, syntax, notation, axiom, sorry.
-/
import Derived.Test.YthdealjnhgkoiaaDoorRows
import GoSem.ClaimSeven
namespace Go.Proofs.YthdealjnhgkoiaaDoor
namespace Rows

/-- THE TIED CARD OF 'deaddroplaw6.BoxAll'. -/
def boxAllCard : Claim7 := { stood := { row := boxAllRow, standIns := [], harness := (true, "210cb929df18afc2052de3b2e99284b71a10fade2ce1a8fdc24a549edba8db0a"), looks := true }, kinds := [], alts := [], laidByText := true, laidKinds := [.data, .data, .sentinel, .sentinel, .sentinel, .sentinel, .sentinel], laidTests := true, laidLooks := .later }
def BoxAllCardSaid : Prop := Claim7.holds Tryd.pinned (.plain (OpenSpec.ofChange boxAllSpec)) boxAllCard

/-- THE TIED CARD OF 'deaddroplaw6.BoxBack'. -/
def boxBackCard : Claim7 := { stood := { row := boxBackRow, standIns := [], harness := (true, "210cb929df18afc2052de3b2e99284b71a10fade2ce1a8fdc24a549edba8db0a"), looks := true }, kinds := [], alts := [], laidByText := true, laidKinds := [.data, .data, .sentinel, .sentinel, .sentinel, .sentinel, .sentinel], laidTests := true, laidLooks := .later }
def BoxBackCardSaid : Prop := Claim7.holds Tryd.pinned (.plain (OpenSpec.ofChange boxBackSpec)) boxBackCard

/-- THE TIED CARD OF 'deaddroplaw6.BoxSides'. -/
def boxSidesCard : Claim7 := { stood := { row := boxSidesRow, standIns := [], harness := (true, "210cb929df18afc2052de3b2e99284b71a10fade2ce1a8fdc24a549edba8db0a"), looks := true }, kinds := [], alts := [], laidByText := true, laidKinds := [.data, .data, .sentinel, .sentinel, .sentinel, .sentinel, .sentinel], laidTests := true, laidLooks := .later }
def BoxSidesCardSaid : Prop := Claim7.holds Tryd.pinned (.plain (OpenSpec.ofChange boxSidesSpec)) boxSidesCard

/-- THE TIED CARD OF 'deaddroplaw6.BoxSizes'. -/
def boxSizesCard : Claim7 := { stood := { row := boxSizesRow, standIns := [], harness := (true, "210cb929df18afc2052de3b2e99284b71a10fade2ce1a8fdc24a549edba8db0a"), looks := true }, kinds := [], alts := [], laidByText := true, laidKinds := [.data, .data, .sentinel, .sentinel, .sentinel, .sentinel, .sentinel], laidTests := true, laidLooks := .later }
def BoxSizesCardSaid : Prop := Claim7.holds Tryd.pinned (.plain (OpenSpec.ofChange boxSizesSpec)) boxSizesCard

/-- THE TIED CARD OF 'deaddroplaw6.BoxStream'. -/
def boxStreamCard : Claim7 := { stood := { row := boxStreamRow, standIns := [], harness := (true, "210cb929df18afc2052de3b2e99284b71a10fade2ce1a8fdc24a549edba8db0a"), looks := true }, kinds := [], alts := [], laidByText := true, laidKinds := [.data, .data, .sentinel, .sentinel, .sentinel, .sentinel, .sentinel], laidTests := true, laidLooks := .later }
def BoxStreamCardSaid : Prop := Claim7.holds Tryd.pinned (.plain (OpenSpec.ofChange boxStreamSpec)) boxStreamCard

/-- THE TIED CARD OF 'deaddroplaw6.BoxShort'. -/
def boxShortCard : Claim7 := { stood := { row := boxShortRow, standIns := [], harness := (true, "210cb929df18afc2052de3b2e99284b71a10fade2ce1a8fdc24a549edba8db0a"), looks := true }, kinds := [], alts := [], laidByText := true, laidKinds := [.data, .data, .sentinel, .sentinel, .sentinel, .sentinel, .sentinel], laidTests := true, laidLooks := .later }
def BoxShortCardSaid : Prop := Claim7.holds Tryd.pinned (.plain (OpenSpec.ofChange boxShortSpec)) boxShortCard

/-- THE SECOND FORM's CARD OF 'deaddroplaw6.BoxAll'. -/
def boxAllUptoCard : Claim7 := { stood := { row := boxAllUptoRow, standIns := [], harness := (true, "210cb929df18afc2052de3b2e99284b71a10fade2ce1a8fdc24a549edba8db0a"), looks := true }, kinds := [], alts := [], laidByText := true, laidKinds := [.data, .data, .sentinel, .sentinel, .sentinel, .sentinel, .sentinel], laidTests := true, laidLooks := .later }
def BoxAllUptoCardSaid : Prop := Claim7.holds Tryd.pinned (.plain (OpenSpec.upto boxAllSpec)) boxAllUptoCard

/-- THE SECOND FORM's CARD OF 'deaddroplaw6.BoxBack'. -/
def boxBackUptoCard : Claim7 := { stood := { row := boxBackUptoRow, standIns := [], harness := (true, "210cb929df18afc2052de3b2e99284b71a10fade2ce1a8fdc24a549edba8db0a"), looks := true }, kinds := [], alts := [], laidByText := true, laidKinds := [.data, .data, .sentinel, .sentinel, .sentinel, .sentinel, .sentinel], laidTests := true, laidLooks := .later }
def BoxBackUptoCardSaid : Prop := Claim7.holds Tryd.pinned (.plain (OpenSpec.upto boxBackSpec)) boxBackUptoCard

/-- THE SECOND FORM's CARD OF 'deaddroplaw6.BoxSides'. -/
def boxSidesUptoCard : Claim7 := { stood := { row := boxSidesUptoRow, standIns := [], harness := (true, "210cb929df18afc2052de3b2e99284b71a10fade2ce1a8fdc24a549edba8db0a"), looks := true }, kinds := [], alts := [], laidByText := true, laidKinds := [.data, .data, .sentinel, .sentinel, .sentinel, .sentinel, .sentinel], laidTests := true, laidLooks := .later }
def BoxSidesUptoCardSaid : Prop := Claim7.holds Tryd.pinned (.plain (OpenSpec.upto boxSidesSpec)) boxSidesUptoCard

/-- THE SECOND FORM's CARD OF 'deaddroplaw6.BoxSizes'. -/
def boxSizesUptoCard : Claim7 := { stood := { row := boxSizesUptoRow, standIns := [], harness := (true, "210cb929df18afc2052de3b2e99284b71a10fade2ce1a8fdc24a549edba8db0a"), looks := true }, kinds := [], alts := [], laidByText := true, laidKinds := [.data, .data, .sentinel, .sentinel, .sentinel, .sentinel, .sentinel], laidTests := true, laidLooks := .later }
def BoxSizesUptoCardSaid : Prop := Claim7.holds Tryd.pinned (.plain (OpenSpec.upto boxSizesSpec)) boxSizesUptoCard

/-- THE SECOND FORM's CARD OF 'deaddroplaw6.BoxStream'. -/
def boxStreamUptoCard : Claim7 := { stood := { row := boxStreamUptoRow, standIns := [], harness := (true, "210cb929df18afc2052de3b2e99284b71a10fade2ce1a8fdc24a549edba8db0a"), looks := true }, kinds := [], alts := [], laidByText := true, laidKinds := [.data, .data, .sentinel, .sentinel, .sentinel, .sentinel, .sentinel], laidTests := true, laidLooks := .later }
def BoxStreamUptoCardSaid : Prop := Claim7.holds Tryd.pinned (.plain (OpenSpec.upto boxStreamSpec)) boxStreamUptoCard

/-- THE SECOND FORM's CARD OF 'deaddroplaw6.BoxShort'. -/
def boxShortUptoCard : Claim7 := { stood := { row := boxShortUptoRow, standIns := [], harness := (true, "210cb929df18afc2052de3b2e99284b71a10fade2ce1a8fdc24a549edba8db0a"), looks := true }, kinds := [], alts := [], laidByText := true, laidKinds := [.data, .data, .sentinel, .sentinel, .sentinel, .sentinel, .sentinel], laidTests := true, laidLooks := .later }
def BoxShortUptoCardSaid : Prop := Claim7.holds Tryd.pinned (.plain (OpenSpec.upto boxShortSpec)) boxShortUptoCard
end Rows
end Go.Proofs.YthdealjnhgkoiaaDoor
