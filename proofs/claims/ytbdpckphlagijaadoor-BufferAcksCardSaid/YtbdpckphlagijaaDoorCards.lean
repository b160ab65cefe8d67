/-
  DERIVED. GIVEN WITH THE SEED: THE CARDS: each row of YtbdpckphlagijaaDoorRows.lean that lists a variable, with what it lists TIED to the program's text (the seventh form; the later family's looks); each row that meets fmt, with fmt's text TOLD by the authors' own Lean function (tested against real Go, not proved from fmt's source: count such statements apart). THE CARD IS WHAT COUNTS. Prove the row's statement (the work); the ties are given (YtbdpckphlagijaaDoorTie.lean); close each card by the builder's one call (the guide's Derived/Test/ToyasCard.lean, 'card_holds'). Laid BY PROGRAM, IN A SANDBOX (cutbox-door.mjs). By AI agents, Wed Nov 11 2026. No macro, syntax, notation, axiom, sorry.
-/
import Derived.Test.YtbdpckphlagijaaDoorRows
import GoSem.ClaimSeven
namespace Go.Proofs.YtbdpckphlagijaaDoor
namespace Rows

/-- THE TIED CARD OF 'deaddroplaw12.BufferWhole'. -/
def bufferWholeCard : Claim7 := { stood := { row := bufferWholeRow, standIns := [], harness := (true, "b3b5729fe8e112860415ced4130eb03a7c00dda29641a8ad244fe5ec6ec72f8f"), looks := true }, kinds := [], alts := [], laidByText := true, laidKinds := [.sentinel, .sentinel, .sentinel], laidTests := true, laidLooks := .later }
def BufferWholeCardSaid : Prop := Claim7.holds Tryd.pinned (.plain (OpenSpec.ofChange bufferWholeSpec)) bufferWholeCard

/-- THE TIED CARD OF 'deaddroplaw12.BufferAcks'. -/
def bufferAcksCard : Claim7 := { stood := { row := bufferAcksRow, standIns := [], harness := (true, "b3b5729fe8e112860415ced4130eb03a7c00dda29641a8ad244fe5ec6ec72f8f"), looks := true }, kinds := [], alts := [], laidByText := true, laidKinds := [.sentinel, .sentinel, .sentinel], laidTests := true, laidLooks := .later }
def BufferAcksCardSaid : Prop := Claim7.holds Tryd.pinned (.plain (OpenSpec.ofChange bufferAcksSpec)) bufferAcksCard

/-- THE SECOND FORM's CARD OF 'deaddroplaw12.BufferWhole'. -/
def bufferWholeUptoCard : Claim7 := { stood := { row := bufferWholeUptoRow, standIns := [], harness := (true, "b3b5729fe8e112860415ced4130eb03a7c00dda29641a8ad244fe5ec6ec72f8f"), looks := true }, kinds := [], alts := [], laidByText := true, laidKinds := [.sentinel, .sentinel, .sentinel], laidTests := true, laidLooks := .later }
def BufferWholeUptoCardSaid : Prop := Claim7.holds Tryd.pinned (.plain (OpenSpec.upto bufferWholeSpec)) bufferWholeUptoCard

/-- THE SECOND FORM's CARD OF 'deaddroplaw12.BufferAcks'. -/
def bufferAcksUptoCard : Claim7 := { stood := { row := bufferAcksUptoRow, standIns := [], harness := (true, "b3b5729fe8e112860415ced4130eb03a7c00dda29641a8ad244fe5ec6ec72f8f"), looks := true }, kinds := [], alts := [], laidByText := true, laidKinds := [.sentinel, .sentinel, .sentinel], laidTests := true, laidLooks := .later }
def BufferAcksUptoCardSaid : Prop := Claim7.holds Tryd.pinned (.plain (OpenSpec.upto bufferAcksSpec)) bufferAcksUptoCard
end Rows
end Go.Proofs.YtbdpckphlagijaaDoor
