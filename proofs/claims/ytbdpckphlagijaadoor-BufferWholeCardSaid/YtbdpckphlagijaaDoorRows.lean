/-
  NARROWER THAN 'FOR EVERY INPUT', by the rows' own cells (each row's printed sentence says how): BufferWhole: laid · BufferAcks: laid.
  DERIVED. THE GIVEN ROWS OF THIS SEAT. 2 by the template 'for every input the law returns true; each argument reads behind the call as it read before'; 0 by the template 'total and deterministic' (their statements: YtbdpckphlagijaaDoorTotals.lean).
  GIVEN WITH THE SEED: the statements are not yours to turn. If you find one false, say at which input.
  Laid BY PROGRAM, IN A SANDBOX (cutbox-rows.mjs): the forced cells as the released guide's own fill.sh prints them over the translation 6f143debf073690f… (all of the seat's roots in one cut). By AI agents, Wed Nov 11 2026. No macro, syntax, notation, axiom, sorry.
-/
import Derived.Test.YtbdpckphlagijaaDoorChecked
import GoSem.Claim
import GoSem.ClaimJoined
import GoSem.ClaimMapViews
import Derived.JoinedTies
import Derived.KernelRfl
namespace Go.Proofs.YtbdpckphlagijaaDoor
/- THE CELL 'sum', in the pinned program and in every row, IS THE sha256 OF THE DUMP (.gsa) THAT YtbdpckphlagijaaDoorProg.lean LOADS. Nothing in Lean hashes anything: it is a label: what it is worth is what the hold of that sum in a sandbox is worth. -/
noncomputable def Tryd.pinned : Pinned := { name := "ytbdpckphlagijaadoor", sum := "6f143debf073690f426c0f11e7b38d911d5dab549f31766e68d234006a68ed00", checked := Tryd.checked }
namespace Rows
def none {H : Type} : Left H := { results := [], args := [] }

/- WHAT THE LISTED PACKAGE-LEVEL VARIABLES READ AS WHEN THE CALL BEGINS. Each datum BY PROGRAM (the guide's laid-datum.mjs) off the statement by which the dump's own 'gosem.cut.vars' lays the variable. In a bare row this is a premise. The card (YtbdpckphlagijaaDoorCards.lean) ties it to the program's text. -/
def laid_deaddrop_buffer_errGone {H : Type} : DataW H := .iface "*errors.errorString" (.ptr (.agg [.lit (.string [98, 101, 108, 111, 119, 32, 116, 104, 101, 32, 102, 105, 114, 115, 116, 32, 111, 110, 101])]))
def laid_deaddrop_buffer_errYet {H : Type} : DataW H := .iface "*errors.errorString" (.ptr (.agg [.lit (.string [97, 98, 111, 118, 101, 32, 116, 104, 101, 32, 111, 110, 101, 32, 98, 101, 104, 105, 110, 100, 32, 116, 104, 101, 32, 108, 97, 115, 116])]))
def laid_deaddrop_buffer_errFew {H : Type} : DataW H := .iface "*errors.errorString" (.ptr (.agg [.lit (.string [102, 101, 119, 101, 114, 32, 116, 104, 97, 110, 32, 110, 111, 110, 101])]))

/-- 'deaddroplaw12.BufferWhole': WHATEVER THE INPUT: true; the input reads as it did. -/
def bufferWholeSpec : ChangeSpec := { name := "bufferWhole", fn := fun _ => fun
  | [d1, d2, d3] => { results := [.lit (.bool true)], args := [d1, d2, d3] }
  | _ => none }
def bufferWholeRow : OpenClaim := { program := "ytbdpckphlagijaadoor", sum := "6f143debf073690f426c0f11e7b38d911d5dab549f31766e68d234006a68ed00", func := "deaddrop/deaddroplaw12.BufferWhole", spec := "bufferWhole", inPlace := ["internal/reflectlite.TypeOf"], unfollowed := true, recurses := true, named := ["deaddrop/buffer.errFew", "deaddrop/buffer.errGone", "deaddrop/buffer.errYet"], apart := false, laid := [("deaddrop/buffer.errGone", laid_deaddrop_buffer_errGone), ("deaddrop/buffer.errYet", laid_deaddrop_buffer_errYet), ("deaddrop/buffer.errFew", laid_deaddrop_buffer_errFew)] }
def BufferWholeSaid : Prop := bufferWholeRow.holds Tryd.pinned (OpenSpec.ofChange bufferWholeSpec)

/-- ITS FALSE NEIGHBOUR: 'it returns false'. Refute it at one input. -/
def bufferWholeWrong : ChangeSpec := { name := "bufferWhole", fn := fun _ => fun
  | [d1, d2, d3] => { results := [.lit (.bool false)], args := [d1, d2, d3] }
  | _ => none }
def BufferWholeWrongFalsely : Prop := bufferWholeRow.holds Tryd.pinned (OpenSpec.ofChange bufferWholeWrong)

/-- 'deaddroplaw12.BufferAcks': WHATEVER THE INPUT: true; the input reads as it did. -/
def bufferAcksSpec : ChangeSpec := { name := "bufferAcks", fn := fun _ => fun
  | [d1, d2, d3] => { results := [.lit (.bool true)], args := [d1, d2, d3] }
  | _ => none }
def bufferAcksRow : OpenClaim := { program := "ytbdpckphlagijaadoor", sum := "6f143debf073690f426c0f11e7b38d911d5dab549f31766e68d234006a68ed00", func := "deaddrop/deaddroplaw12.BufferAcks", spec := "bufferAcks", inPlace := ["internal/reflectlite.TypeOf"], unfollowed := true, recurses := true, named := ["deaddrop/buffer.errFew", "deaddrop/buffer.errGone", "deaddrop/buffer.errYet"], apart := false, laid := [("deaddrop/buffer.errGone", laid_deaddrop_buffer_errGone), ("deaddrop/buffer.errYet", laid_deaddrop_buffer_errYet), ("deaddrop/buffer.errFew", laid_deaddrop_buffer_errFew)] }
def BufferAcksSaid : Prop := bufferAcksRow.holds Tryd.pinned (OpenSpec.ofChange bufferAcksSpec)

/-- ITS FALSE NEIGHBOUR: 'it returns false'. Refute it at one input. -/
def bufferAcksWrong : ChangeSpec := { name := "bufferAcks", fn := fun _ => fun
  | [d1, d2, d3] => { results := [.lit (.bool false)], args := [d1, d2, d3] }
  | _ => none }
def BufferAcksWrongFalsely : Prop := bufferAcksRow.holds Tryd.pinned (OpenSpec.ofChange bufferAcksWrong)

/- THE SECOND FORM. 'bulk': how many values and letters a reading holds, each counted each time it is reached (what is shared counts as often as it is met; a slice's spare places count too). A statement '..UptoSaid' is the law's where the arguments, and the package variables that the reading takes, are together of bulk at most 1048576: NARROWER than '..Said'. Prove '..Said' where nothing that the law and all that it calls make is longer than what came in: it says more and counts as full. Else prove '..UptoSaid'. A law counts once. -/
mutual
def uptoBulk {H : Type} : DataW H → Nat
  | .lit (.string bytes) => bytes.length + 1
  | .lit _ => 1
  | .nil => 1
  | .ptr d => uptoBulk d + 1
  | .slice elems spare => uptoBulkAll elems + uptoBulkAll spare + 1
  | .agg parts => uptoBulkAll parts + 1
  | .iface _ d => uptoBulk d + 1
  | .map entries => uptoBulkEntries entries + 1
  | .held _ => 1
def uptoBulkAll {H : Type} : List (DataW H) → Nat
  | [] => 0
  | d :: r => uptoBulk d + uptoBulkAll r
def uptoBulkEntries {H : Type} : List (Lit × DataW H) → Nat
  | [] => 0
  | x :: r => uptoBulkEntry x + uptoBulkEntries r
def uptoBulkEntry {H : Type} : Lit × DataW H → Nat
  | (.string bytes, d) => bytes.length + uptoBulk d + 1
  | (_, d) => uptoBulk d + 1
 end
def uptoSmall : (H : Type) → List (DataW H) → Bool := fun _ ds => decide (uptoBulkAll ds ≤ 1048576)
def OpenSpec.upto (s : _root_.Go.ChangeSpec) : _root_.Go.OpenSpec := { _root_.Go.OpenSpec.ofChange s with cond := some uptoSmall }

/-- 'deaddroplaw12.BufferWhole', WHERE WHAT IT READS IS OF BULK AT MOST 1048576: true; the input reads as it did. -/
def bufferWholeUptoRow : OpenClaim := { program := "ytbdpckphlagijaadoor", sum := "6f143debf073690f426c0f11e7b38d911d5dab549f31766e68d234006a68ed00", func := "deaddrop/deaddroplaw12.BufferWhole", spec := "bufferWhole", inPlace := ["internal/reflectlite.TypeOf"], unfollowed := true, recurses := true, named := ["deaddrop/buffer.errFew", "deaddrop/buffer.errGone", "deaddrop/buffer.errYet"], apart := false, laid := [("deaddrop/buffer.errGone", laid_deaddrop_buffer_errGone), ("deaddrop/buffer.errYet", laid_deaddrop_buffer_errYet), ("deaddrop/buffer.errFew", laid_deaddrop_buffer_errFew)], narrowed := true }
def BufferWholeUptoSaid : Prop := bufferWholeUptoRow.holds Tryd.pinned (OpenSpec.upto bufferWholeSpec)

/-- 'deaddroplaw12.BufferAcks', WHERE WHAT IT READS IS OF BULK AT MOST 1048576: true; the input reads as it did. -/
def bufferAcksUptoRow : OpenClaim := { program := "ytbdpckphlagijaadoor", sum := "6f143debf073690f426c0f11e7b38d911d5dab549f31766e68d234006a68ed00", func := "deaddrop/deaddroplaw12.BufferAcks", spec := "bufferAcks", inPlace := ["internal/reflectlite.TypeOf"], unfollowed := true, recurses := true, named := ["deaddrop/buffer.errFew", "deaddrop/buffer.errGone", "deaddrop/buffer.errYet"], apart := false, laid := [("deaddrop/buffer.errGone", laid_deaddrop_buffer_errGone), ("deaddrop/buffer.errYet", laid_deaddrop_buffer_errYet), ("deaddrop/buffer.errFew", laid_deaddrop_buffer_errFew)], narrowed := true }
def BufferAcksUptoSaid : Prop := bufferAcksUptoRow.holds Tryd.pinned (OpenSpec.upto bufferAcksSpec)

end Rows
end Go.Proofs.YtbdpckphlagijaaDoor
