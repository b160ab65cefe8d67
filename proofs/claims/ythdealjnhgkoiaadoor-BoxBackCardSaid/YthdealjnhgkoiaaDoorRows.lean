/-
  NARROWER THAN 'FOR EVERY INPUT', by the rows' own cells (each row's printed sentence says how): BoxAll: laid · BoxBack: laid · BoxSides: laid · BoxSizes: laid · BoxStream: laid · BoxShort: laid.
  DERIVED. THE GIVEN ROWS OF THIS SEAT. 6 by the template 'for every input the law returns true; each argument reads behind the call as it read before'; 0 by the template 'total and deterministic' (their statements: YthdealjnhgkoiaaDoorTotals.lean).
  GIVEN WITH THE SEED: the statements are not yours to turn. If you find one false, say at which input.
  Laid BY PROGRAM, IN A SANDBOX (cutbox-rows.mjs): the forced cells as the released guide's own fill.sh prints them over the translation 5c7ab4c432a8e062… (all of the seat's roots in one cut). By AI agents, Wed Nov 11 2026. No macro, syntax, notation, axiom, sorry.
-/
import Derived.Test.YthdealjnhgkoiaaDoorChecked
import GoSem.Claim
import GoSem.ClaimJoined
import GoSem.ClaimMapViews
import Derived.JoinedTies
import Derived.KernelRfl
namespace Go.Proofs.YthdealjnhgkoiaaDoor
/- THE CELL 'sum', in the pinned program and in every row, IS THE sha256 OF THE DUMP (.gsa) THAT YthdealjnhgkoiaaDoorProg.lean LOADS. Nothing in Lean hashes anything: it is a label: what it is worth is what the hold of that sum in a sandbox is worth. -/
noncomputable def Tryd.pinned : Pinned := { name := "ythdealjnhgkoiaadoor", sum := "5c7ab4c432a8e062ed1f0225b3a0b5fc6a6c30d465b10ca8497f8c180886785b", checked := Tryd.checked }
namespace Rows
def none {H : Type} : Left H := { results := [], args := [] }

/- WHAT THE LISTED PACKAGE-LEVEL VARIABLES READ AS WHEN THE CALL BEGINS. Each datum BY PROGRAM (the guide's laid-datum.mjs) off the statement by which the dump's own 'gosem.cut.vars' lays the variable. In a bare row this is a premise. The card (YthdealjnhgkoiaaDoorCards.lean) ties it to the program's text. -/
def laid_deaddrop_sha_opening {H : Type} : DataW H := .agg [.lit (.int .u32 1779033703), .lit (.int .u32 3144134277), .lit (.int .u32 1013904242), .lit (.int .u32 2773480762), .lit (.int .u32 1359893119), .lit (.int .u32 2600822924), .lit (.int .u32 528734635), .lit (.int .u32 1541459225)]
def laid_deaddrop_sha_roundNumbers {H : Type} : DataW H := .agg [.lit (.int .u32 1116352408), .lit (.int .u32 1899447441), .lit (.int .u32 3049323471), .lit (.int .u32 3921009573), .lit (.int .u32 961987163), .lit (.int .u32 1508970993), .lit (.int .u32 2453635748), .lit (.int .u32 2870763221), .lit (.int .u32 3624381080), .lit (.int .u32 310598401), .lit (.int .u32 607225278), .lit (.int .u32 1426881987), .lit (.int .u32 1925078388), .lit (.int .u32 2162078206), .lit (.int .u32 2614888103), .lit (.int .u32 3248222580), .lit (.int .u32 3835390401), .lit (.int .u32 4022224774), .lit (.int .u32 264347078), .lit (.int .u32 604807628), .lit (.int .u32 770255983), .lit (.int .u32 1249150122), .lit (.int .u32 1555081692), .lit (.int .u32 1996064986), .lit (.int .u32 2554220882), .lit (.int .u32 2821834349), .lit (.int .u32 2952996808), .lit (.int .u32 3210313671), .lit (.int .u32 3336571891), .lit (.int .u32 3584528711), .lit (.int .u32 113926993), .lit (.int .u32 338241895), .lit (.int .u32 666307205), .lit (.int .u32 773529912), .lit (.int .u32 1294757372), .lit (.int .u32 1396182291), .lit (.int .u32 1695183700), .lit (.int .u32 1986661051), .lit (.int .u32 2177026350), .lit (.int .u32 2456956037), .lit (.int .u32 2730485921), .lit (.int .u32 2820302411), .lit (.int .u32 3259730800), .lit (.int .u32 3345764771), .lit (.int .u32 3516065817), .lit (.int .u32 3600352804), .lit (.int .u32 4094571909), .lit (.int .u32 275423344), .lit (.int .u32 430227734), .lit (.int .u32 506948616), .lit (.int .u32 659060556), .lit (.int .u32 883997877), .lit (.int .u32 958139571), .lit (.int .u32 1322822218), .lit (.int .u32 1537002063), .lit (.int .u32 1747873779), .lit (.int .u32 1955562222), .lit (.int .u32 2024104815), .lit (.int .u32 2227730452), .lit (.int .u32 2361852424), .lit (.int .u32 2428436474), .lit (.int .u32 2756734187), .lit (.int .u32 3204031479), .lit (.int .u32 3329325298)]
def laid_deaddrop_box_errKey {H : Type} : DataW H := .iface "*errors.errorString" (.ptr (.agg [.lit (.string [110, 111, 116, 32, 97, 115, 32, 108, 111, 110, 103, 32, 97, 115, 32, 97, 32, 112, 97, 105, 114, 32, 111, 102, 32, 107, 101, 121, 115])]))
def laid_deaddrop_box_errNonce {H : Type} : DataW H := .iface "*errors.errorString" (.ptr (.agg [.lit (.string [110, 111, 116, 32, 97, 115, 32, 108, 111, 110, 103, 32, 97, 115, 32, 97, 32, 110, 111, 110, 99, 101])]))
def laid_deaddrop_box_errShort {H : Type} : DataW H := .iface "*errors.errorString" (.ptr (.agg [.lit (.string [115, 104, 111, 114, 116, 101, 114, 32, 116, 104, 97, 110, 32, 97, 32, 116, 97, 103])]))
def laid_deaddrop_box_errLong {H : Type} : DataW H := .iface "*errors.errorString" (.ptr (.agg [.lit (.string [108, 111, 110, 103, 101, 114, 32, 116, 104, 97, 110, 32, 119, 104, 97, 116, 32, 105, 115, 32, 101, 118, 101, 114, 32, 115, 101, 97, 108, 101, 100])]))
def laid_deaddrop_box_errTag {H : Type} : DataW H := .iface "*errors.errorString" (.ptr (.agg [.lit (.string [116, 104, 101, 32, 116, 97, 103, 32, 100, 111, 101, 115, 32, 110, 111, 116, 32, 102, 105, 116])]))

/-- 'deaddroplaw6.BoxAll': WHATEVER THE INPUT: true; the input reads as it did. -/
def boxAllSpec : ChangeSpec := { name := "boxAll", fn := fun _ => fun
  | [d1, d2, d3, d4, d5] => { results := [.lit (.bool true)], args := [d1, d2, d3, d4, d5] }
  | _ => none }
def boxAllRow : OpenClaim := { program := "ythdealjnhgkoiaadoor", sum := "5c7ab4c432a8e062ed1f0225b3a0b5fc6a6c30d465b10ca8497f8c180886785b", func := "deaddrop/deaddroplaw6.BoxAll", spec := "boxAll", inPlace := ["internal/reflectlite.TypeOf"], unfollowed := true, recurses := true, named := ["deaddrop/box.errKey", "deaddrop/box.errNonce", "deaddrop/sha.opening", "deaddrop/sha.roundNumbers", "deaddrop/box.errShort", "deaddrop/box.errLong", "deaddrop/box.errTag"], apart := false, laid := [("deaddrop/sha.opening", laid_deaddrop_sha_opening), ("deaddrop/sha.roundNumbers", laid_deaddrop_sha_roundNumbers), ("deaddrop/box.errKey", laid_deaddrop_box_errKey), ("deaddrop/box.errNonce", laid_deaddrop_box_errNonce), ("deaddrop/box.errShort", laid_deaddrop_box_errShort), ("deaddrop/box.errLong", laid_deaddrop_box_errLong), ("deaddrop/box.errTag", laid_deaddrop_box_errTag)] }
def BoxAllSaid : Prop := boxAllRow.holds Tryd.pinned (OpenSpec.ofChange boxAllSpec)

/-- ITS FALSE NEIGHBOUR: 'it returns false'. Refute it at one input. -/
def boxAllWrong : ChangeSpec := { name := "boxAll", fn := fun _ => fun
  | [d1, d2, d3, d4, d5] => { results := [.lit (.bool false)], args := [d1, d2, d3, d4, d5] }
  | _ => none }
def BoxAllWrongFalsely : Prop := boxAllRow.holds Tryd.pinned (OpenSpec.ofChange boxAllWrong)

/-- 'deaddroplaw6.BoxBack': WHATEVER THE INPUT: true; the input reads as it did. -/
def boxBackSpec : ChangeSpec := { name := "boxBack", fn := fun _ => fun
  | [d1, d2, d3, d4, d5, d6, d7] => { results := [.lit (.bool true)], args := [d1, d2, d3, d4, d5, d6, d7] }
  | _ => none }
def boxBackRow : OpenClaim := { program := "ythdealjnhgkoiaadoor", sum := "5c7ab4c432a8e062ed1f0225b3a0b5fc6a6c30d465b10ca8497f8c180886785b", func := "deaddrop/deaddroplaw6.BoxBack", spec := "boxBack", inPlace := ["internal/reflectlite.TypeOf"], unfollowed := true, recurses := true, named := ["deaddrop/box.errKey", "deaddrop/box.errNonce", "deaddrop/sha.opening", "deaddrop/sha.roundNumbers", "deaddrop/box.errShort", "deaddrop/box.errLong", "deaddrop/box.errTag"], apart := false, laid := [("deaddrop/sha.opening", laid_deaddrop_sha_opening), ("deaddrop/sha.roundNumbers", laid_deaddrop_sha_roundNumbers), ("deaddrop/box.errKey", laid_deaddrop_box_errKey), ("deaddrop/box.errNonce", laid_deaddrop_box_errNonce), ("deaddrop/box.errShort", laid_deaddrop_box_errShort), ("deaddrop/box.errLong", laid_deaddrop_box_errLong), ("deaddrop/box.errTag", laid_deaddrop_box_errTag)] }
def BoxBackSaid : Prop := boxBackRow.holds Tryd.pinned (OpenSpec.ofChange boxBackSpec)

/-- ITS FALSE NEIGHBOUR: 'it returns false'. Refute it at one input. -/
def boxBackWrong : ChangeSpec := { name := "boxBack", fn := fun _ => fun
  | [d1, d2, d3, d4, d5, d6, d7] => { results := [.lit (.bool false)], args := [d1, d2, d3, d4, d5, d6, d7] }
  | _ => none }
def BoxBackWrongFalsely : Prop := boxBackRow.holds Tryd.pinned (OpenSpec.ofChange boxBackWrong)

/-- 'deaddroplaw6.BoxSides': WHATEVER THE INPUT: true; the input reads as it did. -/
def boxSidesSpec : ChangeSpec := { name := "boxSides", fn := fun _ => fun
  | [d1, d2, d3, d4] => { results := [.lit (.bool true)], args := [d1, d2, d3, d4] }
  | _ => none }
def boxSidesRow : OpenClaim := { program := "ythdealjnhgkoiaadoor", sum := "5c7ab4c432a8e062ed1f0225b3a0b5fc6a6c30d465b10ca8497f8c180886785b", func := "deaddrop/deaddroplaw6.BoxSides", spec := "boxSides", inPlace := ["internal/reflectlite.TypeOf"], unfollowed := true, recurses := true, named := ["deaddrop/box.errKey", "deaddrop/box.errNonce", "deaddrop/sha.opening", "deaddrop/sha.roundNumbers", "deaddrop/box.errShort", "deaddrop/box.errLong", "deaddrop/box.errTag"], apart := false, laid := [("deaddrop/sha.opening", laid_deaddrop_sha_opening), ("deaddrop/sha.roundNumbers", laid_deaddrop_sha_roundNumbers), ("deaddrop/box.errKey", laid_deaddrop_box_errKey), ("deaddrop/box.errNonce", laid_deaddrop_box_errNonce), ("deaddrop/box.errShort", laid_deaddrop_box_errShort), ("deaddrop/box.errLong", laid_deaddrop_box_errLong), ("deaddrop/box.errTag", laid_deaddrop_box_errTag)] }
def BoxSidesSaid : Prop := boxSidesRow.holds Tryd.pinned (OpenSpec.ofChange boxSidesSpec)

/-- ITS FALSE NEIGHBOUR: 'it returns false'. Refute it at one input. -/
def boxSidesWrong : ChangeSpec := { name := "boxSides", fn := fun _ => fun
  | [d1, d2, d3, d4] => { results := [.lit (.bool false)], args := [d1, d2, d3, d4] }
  | _ => none }
def BoxSidesWrongFalsely : Prop := boxSidesRow.holds Tryd.pinned (OpenSpec.ofChange boxSidesWrong)

/-- 'deaddroplaw6.BoxSizes': WHATEVER THE INPUT: true; the input reads as it did. -/
def boxSizesSpec : ChangeSpec := { name := "boxSizes", fn := fun _ => fun
  | [d1, d2, d3] => { results := [.lit (.bool true)], args := [d1, d2, d3] }
  | _ => none }
def boxSizesRow : OpenClaim := { program := "ythdealjnhgkoiaadoor", sum := "5c7ab4c432a8e062ed1f0225b3a0b5fc6a6c30d465b10ca8497f8c180886785b", func := "deaddrop/deaddroplaw6.BoxSizes", spec := "boxSizes", inPlace := ["internal/reflectlite.TypeOf"], unfollowed := true, recurses := true, named := ["deaddrop/box.errKey", "deaddrop/box.errNonce", "deaddrop/sha.opening", "deaddrop/sha.roundNumbers", "deaddrop/box.errShort", "deaddrop/box.errLong", "deaddrop/box.errTag"], apart := false, laid := [("deaddrop/sha.opening", laid_deaddrop_sha_opening), ("deaddrop/sha.roundNumbers", laid_deaddrop_sha_roundNumbers), ("deaddrop/box.errKey", laid_deaddrop_box_errKey), ("deaddrop/box.errNonce", laid_deaddrop_box_errNonce), ("deaddrop/box.errShort", laid_deaddrop_box_errShort), ("deaddrop/box.errLong", laid_deaddrop_box_errLong), ("deaddrop/box.errTag", laid_deaddrop_box_errTag)] }
def BoxSizesSaid : Prop := boxSizesRow.holds Tryd.pinned (OpenSpec.ofChange boxSizesSpec)

/-- ITS FALSE NEIGHBOUR: 'it returns false'. Refute it at one input. -/
def boxSizesWrong : ChangeSpec := { name := "boxSizes", fn := fun _ => fun
  | [d1, d2, d3] => { results := [.lit (.bool false)], args := [d1, d2, d3] }
  | _ => none }
def BoxSizesWrongFalsely : Prop := boxSizesRow.holds Tryd.pinned (OpenSpec.ofChange boxSizesWrong)

/-- 'deaddroplaw6.BoxStream': WHATEVER THE INPUT: true; the input reads as it did. -/
def boxStreamSpec : ChangeSpec := { name := "boxStream", fn := fun _ => fun
  | [d1, d2, d3, d4] => { results := [.lit (.bool true)], args := [d1, d2, d3, d4] }
  | _ => none }
def boxStreamRow : OpenClaim := { program := "ythdealjnhgkoiaadoor", sum := "5c7ab4c432a8e062ed1f0225b3a0b5fc6a6c30d465b10ca8497f8c180886785b", func := "deaddrop/deaddroplaw6.BoxStream", spec := "boxStream", inPlace := ["internal/reflectlite.TypeOf"], unfollowed := true, recurses := true, named := ["deaddrop/box.errKey", "deaddrop/box.errNonce", "deaddrop/sha.opening", "deaddrop/sha.roundNumbers", "deaddrop/box.errShort", "deaddrop/box.errLong", "deaddrop/box.errTag"], apart := false, laid := [("deaddrop/sha.opening", laid_deaddrop_sha_opening), ("deaddrop/sha.roundNumbers", laid_deaddrop_sha_roundNumbers), ("deaddrop/box.errKey", laid_deaddrop_box_errKey), ("deaddrop/box.errNonce", laid_deaddrop_box_errNonce), ("deaddrop/box.errShort", laid_deaddrop_box_errShort), ("deaddrop/box.errLong", laid_deaddrop_box_errLong), ("deaddrop/box.errTag", laid_deaddrop_box_errTag)] }
def BoxStreamSaid : Prop := boxStreamRow.holds Tryd.pinned (OpenSpec.ofChange boxStreamSpec)

/-- ITS FALSE NEIGHBOUR: 'it returns false'. Refute it at one input. -/
def boxStreamWrong : ChangeSpec := { name := "boxStream", fn := fun _ => fun
  | [d1, d2, d3, d4] => { results := [.lit (.bool false)], args := [d1, d2, d3, d4] }
  | _ => none }
def BoxStreamWrongFalsely : Prop := boxStreamRow.holds Tryd.pinned (OpenSpec.ofChange boxStreamWrong)

/-- 'deaddroplaw6.BoxShort': WHATEVER THE INPUT: true; the input reads as it did. -/
def boxShortSpec : ChangeSpec := { name := "boxShort", fn := fun _ => fun
  | [d1, d2] => { results := [.lit (.bool true)], args := [d1, d2] }
  | _ => none }
def boxShortRow : OpenClaim := { program := "ythdealjnhgkoiaadoor", sum := "5c7ab4c432a8e062ed1f0225b3a0b5fc6a6c30d465b10ca8497f8c180886785b", func := "deaddrop/deaddroplaw6.BoxShort", spec := "boxShort", inPlace := ["internal/reflectlite.TypeOf"], unfollowed := true, recurses := true, named := ["deaddrop/box.errShort", "deaddrop/box.errLong", "deaddrop/box.errTag", "deaddrop/box.errKey", "deaddrop/box.errNonce", "deaddrop/sha.opening", "deaddrop/sha.roundNumbers"], apart := false, laid := [("deaddrop/sha.opening", laid_deaddrop_sha_opening), ("deaddrop/sha.roundNumbers", laid_deaddrop_sha_roundNumbers), ("deaddrop/box.errKey", laid_deaddrop_box_errKey), ("deaddrop/box.errNonce", laid_deaddrop_box_errNonce), ("deaddrop/box.errShort", laid_deaddrop_box_errShort), ("deaddrop/box.errLong", laid_deaddrop_box_errLong), ("deaddrop/box.errTag", laid_deaddrop_box_errTag)] }
def BoxShortSaid : Prop := boxShortRow.holds Tryd.pinned (OpenSpec.ofChange boxShortSpec)

/-- ITS FALSE NEIGHBOUR: 'it returns false'. Refute it at one input. -/
def boxShortWrong : ChangeSpec := { name := "boxShort", fn := fun _ => fun
  | [d1, d2] => { results := [.lit (.bool false)], args := [d1, d2] }
  | _ => none }
def BoxShortWrongFalsely : Prop := boxShortRow.holds Tryd.pinned (OpenSpec.ofChange boxShortWrong)

/- THE SECOND FORM. 'bulk': how many values and letters a reading holds, each counted each time it is reached (what is shared counts as often as it is met; a slice's spare places count too). A statement '..UptoSaid' is the law's where the arguments, and the package variables that the reading takes, are together of bulk at most 1048576: NARROWER than '..Said'. Prove '..Said' where nothing that the law and all that it calls make is longer than what came in: it says more and counts as full. Else prove '..UptoSaid'. A law counts once. -/
mutual
def uptoBulk {H : Type} : DataW H → Nat
  | .lit (.string bytes) => bytes.length + 1
  | .lit _ => 1
  | .nil => 1
  | .ptr d => uptoBulk d + 1
  | .slice elems spare => uptoBulkAll elems + uptoBulkAll spare + 1
  | .agg parts => uptoBulkAll parts + 1
  | .iface _ d => uptoBulk d + 1
  | .map entries => uptoBulkEntries entries + 1
  | .held _ => 1
def uptoBulkAll {H : Type} : List (DataW H) → Nat
  | [] => 0
  | d :: r => uptoBulk d + uptoBulkAll r
def uptoBulkEntries {H : Type} : List (Lit × DataW H) → Nat
  | [] => 0
  | x :: r => uptoBulkEntry x + uptoBulkEntries r
def uptoBulkEntry {H : Type} : Lit × DataW H → Nat
  | (.string bytes, d) => bytes.length + uptoBulk d + 1
  | (_, d) => uptoBulk d + 1
 end
def uptoSmall : (H : Type) → List (DataW H) → Bool := fun _ ds => decide (uptoBulkAll ds ≤ 1048576)
def OpenSpec.upto (s : _root_.Go.ChangeSpec) : _root_.Go.OpenSpec := { _root_.Go.OpenSpec.ofChange s with cond := some uptoSmall }

/-- 'deaddroplaw6.BoxAll', WHERE WHAT IT READS IS OF BULK AT MOST 1048576: true; the input reads as it did. -/
def boxAllUptoRow : OpenClaim := { program := "ythdealjnhgkoiaadoor", sum := "5c7ab4c432a8e062ed1f0225b3a0b5fc6a6c30d465b10ca8497f8c180886785b", func := "deaddrop/deaddroplaw6.BoxAll", spec := "boxAll", inPlace := ["internal/reflectlite.TypeOf"], unfollowed := true, recurses := true, named := ["deaddrop/box.errKey", "deaddrop/box.errNonce", "deaddrop/sha.opening", "deaddrop/sha.roundNumbers", "deaddrop/box.errShort", "deaddrop/box.errLong", "deaddrop/box.errTag"], apart := false, laid := [("deaddrop/sha.opening", laid_deaddrop_sha_opening), ("deaddrop/sha.roundNumbers", laid_deaddrop_sha_roundNumbers), ("deaddrop/box.errKey", laid_deaddrop_box_errKey), ("deaddrop/box.errNonce", laid_deaddrop_box_errNonce), ("deaddrop/box.errShort", laid_deaddrop_box_errShort), ("deaddrop/box.errLong", laid_deaddrop_box_errLong), ("deaddrop/box.errTag", laid_deaddrop_box_errTag)], narrowed := true }
def BoxAllUptoSaid : Prop := boxAllUptoRow.holds Tryd.pinned (OpenSpec.upto boxAllSpec)

/-- 'deaddroplaw6.BoxBack', WHERE WHAT IT READS IS OF BULK AT MOST 1048576: true; the input reads as it did. -/
def boxBackUptoRow : OpenClaim := { program := "ythdealjnhgkoiaadoor", sum := "5c7ab4c432a8e062ed1f0225b3a0b5fc6a6c30d465b10ca8497f8c180886785b", func := "deaddrop/deaddroplaw6.BoxBack", spec := "boxBack", inPlace := ["internal/reflectlite.TypeOf"], unfollowed := true, recurses := true, named := ["deaddrop/box.errKey", "deaddrop/box.errNonce", "deaddrop/sha.opening", "deaddrop/sha.roundNumbers", "deaddrop/box.errShort", "deaddrop/box.errLong", "deaddrop/box.errTag"], apart := false, laid := [("deaddrop/sha.opening", laid_deaddrop_sha_opening), ("deaddrop/sha.roundNumbers", laid_deaddrop_sha_roundNumbers), ("deaddrop/box.errKey", laid_deaddrop_box_errKey), ("deaddrop/box.errNonce", laid_deaddrop_box_errNonce), ("deaddrop/box.errShort", laid_deaddrop_box_errShort), ("deaddrop/box.errLong", laid_deaddrop_box_errLong), ("deaddrop/box.errTag", laid_deaddrop_box_errTag)], narrowed := true }
def BoxBackUptoSaid : Prop := boxBackUptoRow.holds Tryd.pinned (OpenSpec.upto boxBackSpec)

/-- 'deaddroplaw6.BoxSides', WHERE WHAT IT READS IS OF BULK AT MOST 1048576: true; the input reads as it did. -/
def boxSidesUptoRow : OpenClaim := { program := "ythdealjnhgkoiaadoor", sum := "5c7ab4c432a8e062ed1f0225b3a0b5fc6a6c30d465b10ca8497f8c180886785b", func := "deaddrop/deaddroplaw6.BoxSides", spec := "boxSides", inPlace := ["internal/reflectlite.TypeOf"], unfollowed := true, recurses := true, named := ["deaddrop/box.errKey", "deaddrop/box.errNonce", "deaddrop/sha.opening", "deaddrop/sha.roundNumbers", "deaddrop/box.errShort", "deaddrop/box.errLong", "deaddrop/box.errTag"], apart := false, laid := [("deaddrop/sha.opening", laid_deaddrop_sha_opening), ("deaddrop/sha.roundNumbers", laid_deaddrop_sha_roundNumbers), ("deaddrop/box.errKey", laid_deaddrop_box_errKey), ("deaddrop/box.errNonce", laid_deaddrop_box_errNonce), ("deaddrop/box.errShort", laid_deaddrop_box_errShort), ("deaddrop/box.errLong", laid_deaddrop_box_errLong), ("deaddrop/box.errTag", laid_deaddrop_box_errTag)], narrowed := true }
def BoxSidesUptoSaid : Prop := boxSidesUptoRow.holds Tryd.pinned (OpenSpec.upto boxSidesSpec)

/-- 'deaddroplaw6.BoxSizes', WHERE WHAT IT READS IS OF BULK AT MOST 1048576: true; the input reads as it did. -/
def boxSizesUptoRow : OpenClaim := { program := "ythdealjnhgkoiaadoor", sum := "5c7ab4c432a8e062ed1f0225b3a0b5fc6a6c30d465b10ca8497f8c180886785b", func := "deaddrop/deaddroplaw6.BoxSizes", spec := "boxSizes", inPlace := ["internal/reflectlite.TypeOf"], unfollowed := true, recurses := true, named := ["deaddrop/box.errKey", "deaddrop/box.errNonce", "deaddrop/sha.opening", "deaddrop/sha.roundNumbers", "deaddrop/box.errShort", "deaddrop/box.errLong", "deaddrop/box.errTag"], apart := false, laid := [("deaddrop/sha.opening", laid_deaddrop_sha_opening), ("deaddrop/sha.roundNumbers", laid_deaddrop_sha_roundNumbers), ("deaddrop/box.errKey", laid_deaddrop_box_errKey), ("deaddrop/box.errNonce", laid_deaddrop_box_errNonce), ("deaddrop/box.errShort", laid_deaddrop_box_errShort), ("deaddrop/box.errLong", laid_deaddrop_box_errLong), ("deaddrop/box.errTag", laid_deaddrop_box_errTag)], narrowed := true }
def BoxSizesUptoSaid : Prop := boxSizesUptoRow.holds Tryd.pinned (OpenSpec.upto boxSizesSpec)

/-- 'deaddroplaw6.BoxStream', WHERE WHAT IT READS IS OF BULK AT MOST 1048576: true; the input reads as it did. -/
def boxStreamUptoRow : OpenClaim := { program := "ythdealjnhgkoiaadoor", sum := "5c7ab4c432a8e062ed1f0225b3a0b5fc6a6c30d465b10ca8497f8c180886785b", func := "deaddrop/deaddroplaw6.BoxStream", spec := "boxStream", inPlace := ["internal/reflectlite.TypeOf"], unfollowed := true, recurses := true, named := ["deaddrop/box.errKey", "deaddrop/box.errNonce", "deaddrop/sha.opening", "deaddrop/sha.roundNumbers", "deaddrop/box.errShort", "deaddrop/box.errLong", "deaddrop/box.errTag"], apart := false, laid := [("deaddrop/sha.opening", laid_deaddrop_sha_opening), ("deaddrop/sha.roundNumbers", laid_deaddrop_sha_roundNumbers), ("deaddrop/box.errKey", laid_deaddrop_box_errKey), ("deaddrop/box.errNonce", laid_deaddrop_box_errNonce), ("deaddrop/box.errShort", laid_deaddrop_box_errShort), ("deaddrop/box.errLong", laid_deaddrop_box_errLong), ("deaddrop/box.errTag", laid_deaddrop_box_errTag)], narrowed := true }
def BoxStreamUptoSaid : Prop := boxStreamUptoRow.holds Tryd.pinned (OpenSpec.upto boxStreamSpec)

/-- 'deaddroplaw6.BoxShort', WHERE WHAT IT READS IS OF BULK AT MOST 1048576: true; the input reads as it did. -/
def boxShortUptoRow : OpenClaim := { program := "ythdealjnhgkoiaadoor", sum := "5c7ab4c432a8e062ed1f0225b3a0b5fc6a6c30d465b10ca8497f8c180886785b", func := "deaddrop/deaddroplaw6.BoxShort", spec := "boxShort", inPlace := ["internal/reflectlite.TypeOf"], unfollowed := true, recurses := true, named := ["deaddrop/box.errShort", "deaddrop/box.errLong", "deaddrop/box.errTag", "deaddrop/box.errKey", "deaddrop/box.errNonce", "deaddrop/sha.opening", "deaddrop/sha.roundNumbers"], apart := false, laid := [("deaddrop/sha.opening", laid_deaddrop_sha_opening), ("deaddrop/sha.roundNumbers", laid_deaddrop_sha_roundNumbers), ("deaddrop/box.errKey", laid_deaddrop_box_errKey), ("deaddrop/box.errNonce", laid_deaddrop_box_errNonce), ("deaddrop/box.errShort", laid_deaddrop_box_errShort), ("deaddrop/box.errLong", laid_deaddrop_box_errLong), ("deaddrop/box.errTag", laid_deaddrop_box_errTag)], narrowed := true }
def BoxShortUptoSaid : Prop := boxShortUptoRow.holds Tryd.pinned (OpenSpec.upto boxShortSpec)

end Rows
end Go.Proofs.YthdealjnhgkoiaaDoor
