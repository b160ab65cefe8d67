/-
  NARROWER THAN 'FOR EVERY INPUT', by the rows' own cells (each row's printed sentence says how): ShaAll: laid · ShaLong: laid · ShaParts: laid · ShaKnown: laid · ShaChain: laid · HmacAll: laid · HmacKeys: laid · HmacDerive: laid · HmacLess: laid · HmacEqual: laid · HmacKnown: laid.
  DERIVED. THE GIVEN ROWS OF THIS SEAT. 11 by the template 'for every input the law returns true; each argument reads behind the call as it read before'; 0 by the template 'total and deterministic' (their statements: YtalobkggpdniaaaDoorTotals.lean).
  GIVEN WITH THE SEED: the statements are not yours to turn. If you find one false, say at which input.
  Laid BY PROGRAM, IN A SANDBOX (cutbox-rows.mjs): the forced cells as the released guide's own fill.sh prints them over the translation 7b3085f93ee05346… (all of the seat's roots in one cut). By AI agents, Wed Nov 11 2026. No macro, syntax, notation, axiom, sorry.
-/
import Derived.Test.YtalobkggpdniaaaDoorChecked
import GoSem.Claim
import GoSem.ClaimJoined
import GoSem.ClaimMapViews
import Derived.JoinedTies
import Derived.KernelRfl
namespace Go.Proofs.YtalobkggpdniaaaDoor
/- THE CELL 'sum', in the pinned program and in every row, IS THE sha256 OF THE DUMP (.gsa) THAT YtalobkggpdniaaaDoorProg.lean LOADS. Nothing in Lean hashes anything: it is a label: what it is worth is what the hold of that sum in a sandbox is worth. -/
noncomputable def Tryd.pinned : Pinned := { name := "ytalobkggpdniaaadoor", sum := "7b3085f93ee05346f8944c6e9f5b1d69484e258502810314d3944140780b592b", checked := Tryd.checked }
namespace Rows
def none {H : Type} : Left H := { results := [], args := [] }

/- WHAT THE LISTED PACKAGE-LEVEL VARIABLES READ AS WHEN THE CALL BEGINS. Each datum BY PROGRAM (the guide's laid-datum.mjs) off the statement by which the dump's own 'gosem.cut.vars' lays the variable. In a bare row this is a premise. The card (YtalobkggpdniaaaDoorCards.lean) ties it to the program's text. -/
def laid_deaddrop_sha_opening {H : Type} : DataW H := .agg [.lit (.int .u32 1779033703), .lit (.int .u32 3144134277), .lit (.int .u32 1013904242), .lit (.int .u32 2773480762), .lit (.int .u32 1359893119), .lit (.int .u32 2600822924), .lit (.int .u32 528734635), .lit (.int .u32 1541459225)]
def laid_deaddrop_sha_roundNumbers {H : Type} : DataW H := .agg [.lit (.int .u32 1116352408), .lit (.int .u32 1899447441), .lit (.int .u32 3049323471), .lit (.int .u32 3921009573), .lit (.int .u32 961987163), .lit (.int .u32 1508970993), .lit (.int .u32 2453635748), .lit (.int .u32 2870763221), .lit (.int .u32 3624381080), .lit (.int .u32 310598401), .lit (.int .u32 607225278), .lit (.int .u32 1426881987), .lit (.int .u32 1925078388), .lit (.int .u32 2162078206), .lit (.int .u32 2614888103), .lit (.int .u32 3248222580), .lit (.int .u32 3835390401), .lit (.int .u32 4022224774), .lit (.int .u32 264347078), .lit (.int .u32 604807628), .lit (.int .u32 770255983), .lit (.int .u32 1249150122), .lit (.int .u32 1555081692), .lit (.int .u32 1996064986), .lit (.int .u32 2554220882), .lit (.int .u32 2821834349), .lit (.int .u32 2952996808), .lit (.int .u32 3210313671), .lit (.int .u32 3336571891), .lit (.int .u32 3584528711), .lit (.int .u32 113926993), .lit (.int .u32 338241895), .lit (.int .u32 666307205), .lit (.int .u32 773529912), .lit (.int .u32 1294757372), .lit (.int .u32 1396182291), .lit (.int .u32 1695183700), .lit (.int .u32 1986661051), .lit (.int .u32 2177026350), .lit (.int .u32 2456956037), .lit (.int .u32 2730485921), .lit (.int .u32 2820302411), .lit (.int .u32 3259730800), .lit (.int .u32 3345764771), .lit (.int .u32 3516065817), .lit (.int .u32 3600352804), .lit (.int .u32 4094571909), .lit (.int .u32 275423344), .lit (.int .u32 430227734), .lit (.int .u32 506948616), .lit (.int .u32 659060556), .lit (.int .u32 883997877), .lit (.int .u32 958139571), .lit (.int .u32 1322822218), .lit (.int .u32 1537002063), .lit (.int .u32 1747873779), .lit (.int .u32 1955562222), .lit (.int .u32 2024104815), .lit (.int .u32 2227730452), .lit (.int .u32 2361852424), .lit (.int .u32 2428436474), .lit (.int .u32 2756734187), .lit (.int .u32 3204031479), .lit (.int .u32 3329325298)]
def laid_deaddrop_hmac_errBelow {H : Type} : DataW H := .iface "*errors.errorString" (.ptr (.agg [.lit (.string [98, 101, 108, 111, 119, 32, 110, 111, 116, 104, 105, 110, 103])]))
def laid_deaddrop_hmac_errBeyond {H : Type} : DataW H := .iface "*errors.errorString" (.ptr (.agg [.lit (.string [98, 101, 121, 111, 110, 100, 32, 116, 104, 101, 32, 108, 97, 115, 116, 32, 115, 117, 109])]))

/-- 'deaddroplaw2.ShaAll': WHATEVER THE INPUT: true; the input reads as it did. -/
def shaAllSpec : ChangeSpec := { name := "shaAll", fn := fun _ => fun
  | [d] => { results := [.lit (.bool true)], args := [d] }
  | _ => none }
def shaAllRow : OpenClaim := { program := "ytalobkggpdniaaadoor", sum := "7b3085f93ee05346f8944c6e9f5b1d69484e258502810314d3944140780b592b", func := "deaddrop/deaddroplaw2.ShaAll", spec := "shaAll", named := ["deaddrop/sha.opening", "deaddrop/sha.roundNumbers"], apart := false, laid := [("deaddrop/sha.opening", laid_deaddrop_sha_opening), ("deaddrop/sha.roundNumbers", laid_deaddrop_sha_roundNumbers)] }
def ShaAllSaid : Prop := shaAllRow.holds Tryd.pinned (OpenSpec.ofChange shaAllSpec)

/-- ITS FALSE NEIGHBOUR: 'it returns false'. Refute it at one input. -/
def shaAllWrong : ChangeSpec := { name := "shaAll", fn := fun _ => fun
  | [d] => { results := [.lit (.bool false)], args := [d] }
  | _ => none }
def ShaAllWrongFalsely : Prop := shaAllRow.holds Tryd.pinned (OpenSpec.ofChange shaAllWrong)

/-- 'deaddroplaw2.ShaLong': WHATEVER THE INPUT: true; the input reads as it did. -/
def shaLongSpec : ChangeSpec := { name := "shaLong", fn := fun _ => fun
  | [d1, d2] => { results := [.lit (.bool true)], args := [d1, d2] }
  | _ => none }
def shaLongRow : OpenClaim := { program := "ytalobkggpdniaaadoor", sum := "7b3085f93ee05346f8944c6e9f5b1d69484e258502810314d3944140780b592b", func := "deaddrop/deaddroplaw2.ShaLong", spec := "shaLong", named := ["deaddrop/sha.opening", "deaddrop/sha.roundNumbers"], apart := false, laid := [("deaddrop/sha.opening", laid_deaddrop_sha_opening), ("deaddrop/sha.roundNumbers", laid_deaddrop_sha_roundNumbers)] }
def ShaLongSaid : Prop := shaLongRow.holds Tryd.pinned (OpenSpec.ofChange shaLongSpec)

/-- ITS FALSE NEIGHBOUR: 'it returns false'. Refute it at one input. -/
def shaLongWrong : ChangeSpec := { name := "shaLong", fn := fun _ => fun
  | [d1, d2] => { results := [.lit (.bool false)], args := [d1, d2] }
  | _ => none }
def ShaLongWrongFalsely : Prop := shaLongRow.holds Tryd.pinned (OpenSpec.ofChange shaLongWrong)

/-- 'deaddroplaw2.ShaParts': WHATEVER THE INPUT: true; the input reads as it did. -/
def shaPartsSpec : ChangeSpec := { name := "shaParts", fn := fun _ => fun
  | [d1, d2] => { results := [.lit (.bool true)], args := [d1, d2] }
  | _ => none }
def shaPartsRow : OpenClaim := { program := "ytalobkggpdniaaadoor", sum := "7b3085f93ee05346f8944c6e9f5b1d69484e258502810314d3944140780b592b", func := "deaddrop/deaddroplaw2.ShaParts", spec := "shaParts", named := ["deaddrop/sha.opening", "deaddrop/sha.roundNumbers"], apart := false, laid := [("deaddrop/sha.opening", laid_deaddrop_sha_opening), ("deaddrop/sha.roundNumbers", laid_deaddrop_sha_roundNumbers)] }
def ShaPartsSaid : Prop := shaPartsRow.holds Tryd.pinned (OpenSpec.ofChange shaPartsSpec)

/-- ITS FALSE NEIGHBOUR: 'it returns false'. Refute it at one input. -/
def shaPartsWrong : ChangeSpec := { name := "shaParts", fn := fun _ => fun
  | [d1, d2] => { results := [.lit (.bool false)], args := [d1, d2] }
  | _ => none }
def ShaPartsWrongFalsely : Prop := shaPartsRow.holds Tryd.pinned (OpenSpec.ofChange shaPartsWrong)

/-- 'deaddroplaw2.ShaKnown': WHATEVER THE INPUT: true; the input reads as it did. -/
def shaKnownSpec : ChangeSpec := { name := "shaKnown", fn := fun _ => fun
  | [d] => { results := [.lit (.bool true)], args := [d] }
  | _ => none }
def shaKnownRow : OpenClaim := { program := "ytalobkggpdniaaadoor", sum := "7b3085f93ee05346f8944c6e9f5b1d69484e258502810314d3944140780b592b", func := "deaddrop/deaddroplaw2.ShaKnown", spec := "shaKnown", named := ["deaddrop/sha.opening", "deaddrop/sha.roundNumbers"], apart := false, laid := [("deaddrop/sha.opening", laid_deaddrop_sha_opening), ("deaddrop/sha.roundNumbers", laid_deaddrop_sha_roundNumbers)] }
def ShaKnownSaid : Prop := shaKnownRow.holds Tryd.pinned (OpenSpec.ofChange shaKnownSpec)

/-- ITS FALSE NEIGHBOUR: 'it returns false'. Refute it at one input. -/
def shaKnownWrong : ChangeSpec := { name := "shaKnown", fn := fun _ => fun
  | [d] => { results := [.lit (.bool false)], args := [d] }
  | _ => none }
def ShaKnownWrongFalsely : Prop := shaKnownRow.holds Tryd.pinned (OpenSpec.ofChange shaKnownWrong)

/-- 'deaddroplaw2.ShaChain': WHATEVER THE INPUT: true; the input reads as it did. -/
def shaChainSpec : ChangeSpec := { name := "shaChain", fn := fun _ => fun
  | [d1, d2] => { results := [.lit (.bool true)], args := [d1, d2] }
  | _ => none }
def shaChainRow : OpenClaim := { program := "ytalobkggpdniaaadoor", sum := "7b3085f93ee05346f8944c6e9f5b1d69484e258502810314d3944140780b592b", func := "deaddrop/deaddroplaw2.ShaChain", spec := "shaChain", named := ["deaddrop/sha.opening", "deaddrop/sha.roundNumbers"], apart := false, laid := [("deaddrop/sha.opening", laid_deaddrop_sha_opening), ("deaddrop/sha.roundNumbers", laid_deaddrop_sha_roundNumbers)] }
def ShaChainSaid : Prop := shaChainRow.holds Tryd.pinned (OpenSpec.ofChange shaChainSpec)

/-- ITS FALSE NEIGHBOUR: 'it returns false'. Refute it at one input. -/
def shaChainWrong : ChangeSpec := { name := "shaChain", fn := fun _ => fun
  | [d1, d2] => { results := [.lit (.bool false)], args := [d1, d2] }
  | _ => none }
def ShaChainWrongFalsely : Prop := shaChainRow.holds Tryd.pinned (OpenSpec.ofChange shaChainWrong)

/-- 'deaddroplaw3.HmacAll': WHATEVER THE INPUT: true; the input reads as it did. -/
def hmacAllSpec : ChangeSpec := { name := "hmacAll", fn := fun _ => fun
  | [d1, d2, d3] => { results := [.lit (.bool true)], args := [d1, d2, d3] }
  | _ => none }
def hmacAllRow : OpenClaim := { program := "ytalobkggpdniaaadoor", sum := "7b3085f93ee05346f8944c6e9f5b1d69484e258502810314d3944140780b592b", func := "deaddrop/deaddroplaw3.HmacAll", spec := "hmacAll", named := ["deaddrop/sha.opening", "deaddrop/sha.roundNumbers"], apart := false, laid := [("deaddrop/sha.opening", laid_deaddrop_sha_opening), ("deaddrop/sha.roundNumbers", laid_deaddrop_sha_roundNumbers)] }
def HmacAllSaid : Prop := hmacAllRow.holds Tryd.pinned (OpenSpec.ofChange hmacAllSpec)

/-- ITS FALSE NEIGHBOUR: 'it returns false'. Refute it at one input. -/
def hmacAllWrong : ChangeSpec := { name := "hmacAll", fn := fun _ => fun
  | [d1, d2, d3] => { results := [.lit (.bool false)], args := [d1, d2, d3] }
  | _ => none }
def HmacAllWrongFalsely : Prop := hmacAllRow.holds Tryd.pinned (OpenSpec.ofChange hmacAllWrong)

/-- 'deaddroplaw3.HmacKeys': WHATEVER THE INPUT: true; the input reads as it did. -/
def hmacKeysSpec : ChangeSpec := { name := "hmacKeys", fn := fun _ => fun
  | [d1, d2, d3] => { results := [.lit (.bool true)], args := [d1, d2, d3] }
  | _ => none }
def hmacKeysRow : OpenClaim := { program := "ytalobkggpdniaaadoor", sum := "7b3085f93ee05346f8944c6e9f5b1d69484e258502810314d3944140780b592b", func := "deaddrop/deaddroplaw3.HmacKeys", spec := "hmacKeys", named := ["deaddrop/sha.opening", "deaddrop/sha.roundNumbers"], apart := false, laid := [("deaddrop/sha.opening", laid_deaddrop_sha_opening), ("deaddrop/sha.roundNumbers", laid_deaddrop_sha_roundNumbers)] }
def HmacKeysSaid : Prop := hmacKeysRow.holds Tryd.pinned (OpenSpec.ofChange hmacKeysSpec)

/-- ITS FALSE NEIGHBOUR: 'it returns false'. Refute it at one input. -/
def hmacKeysWrong : ChangeSpec := { name := "hmacKeys", fn := fun _ => fun
  | [d1, d2, d3] => { results := [.lit (.bool false)], args := [d1, d2, d3] }
  | _ => none }
def HmacKeysWrongFalsely : Prop := hmacKeysRow.holds Tryd.pinned (OpenSpec.ofChange hmacKeysWrong)

/-- 'deaddroplaw3.HmacDerive': WHATEVER THE INPUT: true; the input reads as it did. -/
def hmacDeriveSpec : ChangeSpec := { name := "hmacDerive", fn := fun _ => fun
  | [d1, d2, d3, d4] => { results := [.lit (.bool true)], args := [d1, d2, d3, d4] }
  | _ => none }
def hmacDeriveRow : OpenClaim := { program := "ytalobkggpdniaaadoor", sum := "7b3085f93ee05346f8944c6e9f5b1d69484e258502810314d3944140780b592b", func := "deaddrop/deaddroplaw3.HmacDerive", spec := "hmacDerive", inPlace := ["internal/reflectlite.TypeOf", "internal/abi.NoEscape", "internal/bytealg.MakeNoZero"], unfollowed := true, recurses := true, named := ["deaddrop/sha.opening", "deaddrop/sha.roundNumbers", "deaddrop/hmac.errBelow", "deaddrop/hmac.errBeyond"], apart := false, laid := [("deaddrop/sha.opening", laid_deaddrop_sha_opening), ("deaddrop/sha.roundNumbers", laid_deaddrop_sha_roundNumbers), ("deaddrop/hmac.errBelow", laid_deaddrop_hmac_errBelow), ("deaddrop/hmac.errBeyond", laid_deaddrop_hmac_errBeyond)] }
def HmacDeriveSaid : Prop := hmacDeriveRow.holds Tryd.pinned (OpenSpec.ofChange hmacDeriveSpec)

/-- ITS FALSE NEIGHBOUR: 'it returns false'. Refute it at one input. -/
def hmacDeriveWrong : ChangeSpec := { name := "hmacDerive", fn := fun _ => fun
  | [d1, d2, d3, d4] => { results := [.lit (.bool false)], args := [d1, d2, d3, d4] }
  | _ => none }
def HmacDeriveWrongFalsely : Prop := hmacDeriveRow.holds Tryd.pinned (OpenSpec.ofChange hmacDeriveWrong)

/-- 'deaddroplaw3.HmacLess': WHATEVER THE INPUT: true; the input reads as it did. -/
def hmacLessSpec : ChangeSpec := { name := "hmacLess", fn := fun _ => fun
  | [d1, d2, d3, d4, d5] => { results := [.lit (.bool true)], args := [d1, d2, d3, d4, d5] }
  | _ => none }
def hmacLessRow : OpenClaim := { program := "ytalobkggpdniaaadoor", sum := "7b3085f93ee05346f8944c6e9f5b1d69484e258502810314d3944140780b592b", func := "deaddrop/deaddroplaw3.HmacLess", spec := "hmacLess", inPlace := ["internal/reflectlite.TypeOf", "internal/abi.NoEscape", "internal/bytealg.MakeNoZero"], unfollowed := true, recurses := true, named := ["deaddrop/sha.opening", "deaddrop/sha.roundNumbers", "deaddrop/hmac.errBelow", "deaddrop/hmac.errBeyond"], apart := false, laid := [("deaddrop/sha.opening", laid_deaddrop_sha_opening), ("deaddrop/sha.roundNumbers", laid_deaddrop_sha_roundNumbers), ("deaddrop/hmac.errBelow", laid_deaddrop_hmac_errBelow), ("deaddrop/hmac.errBeyond", laid_deaddrop_hmac_errBeyond)] }
def HmacLessSaid : Prop := hmacLessRow.holds Tryd.pinned (OpenSpec.ofChange hmacLessSpec)

/-- ITS FALSE NEIGHBOUR: 'it returns false'. Refute it at one input. -/
def hmacLessWrong : ChangeSpec := { name := "hmacLess", fn := fun _ => fun
  | [d1, d2, d3, d4, d5] => { results := [.lit (.bool false)], args := [d1, d2, d3, d4, d5] }
  | _ => none }
def HmacLessWrongFalsely : Prop := hmacLessRow.holds Tryd.pinned (OpenSpec.ofChange hmacLessWrong)

/-- 'deaddroplaw3.HmacEqual': WHATEVER THE INPUT: true; the input reads as it did. -/
def hmacEqualSpec : ChangeSpec := { name := "hmacEqual", fn := fun _ => fun
  | [d1, d2, d3, d4] => { results := [.lit (.bool true)], args := [d1, d2, d3, d4] }
  | _ => none }
def hmacEqualRow : OpenClaim := { program := "ytalobkggpdniaaadoor", sum := "7b3085f93ee05346f8944c6e9f5b1d69484e258502810314d3944140780b592b", func := "deaddrop/deaddroplaw3.HmacEqual", spec := "hmacEqual", named := ["deaddrop/sha.opening", "deaddrop/sha.roundNumbers"], apart := false, laid := [("deaddrop/sha.opening", laid_deaddrop_sha_opening), ("deaddrop/sha.roundNumbers", laid_deaddrop_sha_roundNumbers)] }
def HmacEqualSaid : Prop := hmacEqualRow.holds Tryd.pinned (OpenSpec.ofChange hmacEqualSpec)

/-- ITS FALSE NEIGHBOUR: 'it returns false'. Refute it at one input. -/
def hmacEqualWrong : ChangeSpec := { name := "hmacEqual", fn := fun _ => fun
  | [d1, d2, d3, d4] => { results := [.lit (.bool false)], args := [d1, d2, d3, d4] }
  | _ => none }
def HmacEqualWrongFalsely : Prop := hmacEqualRow.holds Tryd.pinned (OpenSpec.ofChange hmacEqualWrong)

/-- 'deaddroplaw3.HmacKnown': WHATEVER THE INPUT: true; the input reads as it did. -/
def hmacKnownSpec : ChangeSpec := { name := "hmacKnown", fn := fun _ => fun
  | [d] => { results := [.lit (.bool true)], args := [d] }
  | _ => none }
def hmacKnownRow : OpenClaim := { program := "ytalobkggpdniaaadoor", sum := "7b3085f93ee05346f8944c6e9f5b1d69484e258502810314d3944140780b592b", func := "deaddrop/deaddroplaw3.HmacKnown", spec := "hmacKnown", inPlace := ["internal/reflectlite.TypeOf", "internal/abi.NoEscape", "internal/bytealg.MakeNoZero"], unfollowed := true, recurses := true, named := ["deaddrop/sha.opening", "deaddrop/sha.roundNumbers", "deaddrop/hmac.errBelow", "deaddrop/hmac.errBeyond"], apart := false, laid := [("deaddrop/sha.opening", laid_deaddrop_sha_opening), ("deaddrop/sha.roundNumbers", laid_deaddrop_sha_roundNumbers), ("deaddrop/hmac.errBelow", laid_deaddrop_hmac_errBelow), ("deaddrop/hmac.errBeyond", laid_deaddrop_hmac_errBeyond)] }
def HmacKnownSaid : Prop := hmacKnownRow.holds Tryd.pinned (OpenSpec.ofChange hmacKnownSpec)

/-- ITS FALSE NEIGHBOUR: 'it returns false'. Refute it at one input. -/
def hmacKnownWrong : ChangeSpec := { name := "hmacKnown", fn := fun _ => fun
  | [d] => { results := [.lit (.bool false)], args := [d] }
  | _ => none }
def HmacKnownWrongFalsely : Prop := hmacKnownRow.holds Tryd.pinned (OpenSpec.ofChange hmacKnownWrong)

/- THE SECOND FORM. 'bulk': how many values and letters a reading holds, each counted each time it is reached (what is shared counts as often as it is met; a slice's spare places count too). A statement '..UptoSaid' is the law's where the arguments, and the package variables that the reading takes, are together of bulk at most 1048576: NARROWER than '..Said'. Prove '..Said' where nothing that the law and all that it calls make is longer than what came in: it says more and counts as full. Else prove '..UptoSaid'. A law counts once. -/
mutual
def uptoBulk {H : Type} : DataW H → Nat
  | .lit (.string bytes) => bytes.length + 1
  | .lit _ => 1
  | .nil => 1
  | .ptr d => uptoBulk d + 1
  | .slice elems spare => uptoBulkAll elems + uptoBulkAll spare + 1
  | .agg parts => uptoBulkAll parts + 1
  | .iface _ d => uptoBulk d + 1
  | .map entries => uptoBulkEntries entries + 1
  | .held _ => 1
def uptoBulkAll {H : Type} : List (DataW H) → Nat
  | [] => 0
  | d :: r => uptoBulk d + uptoBulkAll r
def uptoBulkEntries {H : Type} : List (Lit × DataW H) → Nat
  | [] => 0
  | x :: r => uptoBulkEntry x + uptoBulkEntries r
def uptoBulkEntry {H : Type} : Lit × DataW H → Nat
  | (.string bytes, d) => bytes.length + uptoBulk d + 1
  | (_, d) => uptoBulk d + 1
 end
def uptoSmall : (H : Type) → List (DataW H) → Bool := fun _ ds => decide (uptoBulkAll ds ≤ 1048576)
def OpenSpec.upto (s : _root_.Go.ChangeSpec) : _root_.Go.OpenSpec := { _root_.Go.OpenSpec.ofChange s with cond := some uptoSmall }

/-- 'deaddroplaw2.ShaAll', WHERE WHAT IT READS IS OF BULK AT MOST 1048576: true; the input reads as it did. -/
def shaAllUptoRow : OpenClaim := { program := "ytalobkggpdniaaadoor", sum := "7b3085f93ee05346f8944c6e9f5b1d69484e258502810314d3944140780b592b", func := "deaddrop/deaddroplaw2.ShaAll", spec := "shaAll", named := ["deaddrop/sha.opening", "deaddrop/sha.roundNumbers"], apart := false, laid := [("deaddrop/sha.opening", laid_deaddrop_sha_opening), ("deaddrop/sha.roundNumbers", laid_deaddrop_sha_roundNumbers)], narrowed := true }
def ShaAllUptoSaid : Prop := shaAllUptoRow.holds Tryd.pinned (OpenSpec.upto shaAllSpec)

/-- 'deaddroplaw2.ShaLong', WHERE WHAT IT READS IS OF BULK AT MOST 1048576: true; the input reads as it did. -/
def shaLongUptoRow : OpenClaim := { program := "ytalobkggpdniaaadoor", sum := "7b3085f93ee05346f8944c6e9f5b1d69484e258502810314d3944140780b592b", func := "deaddrop/deaddroplaw2.ShaLong", spec := "shaLong", named := ["deaddrop/sha.opening", "deaddrop/sha.roundNumbers"], apart := false, laid := [("deaddrop/sha.opening", laid_deaddrop_sha_opening), ("deaddrop/sha.roundNumbers", laid_deaddrop_sha_roundNumbers)], narrowed := true }
def ShaLongUptoSaid : Prop := shaLongUptoRow.holds Tryd.pinned (OpenSpec.upto shaLongSpec)

/-- 'deaddroplaw2.ShaParts', WHERE WHAT IT READS IS OF BULK AT MOST 1048576: true; the input reads as it did. -/
def shaPartsUptoRow : OpenClaim := { program := "ytalobkggpdniaaadoor", sum := "7b3085f93ee05346f8944c6e9f5b1d69484e258502810314d3944140780b592b", func := "deaddrop/deaddroplaw2.ShaParts", spec := "shaParts", named := ["deaddrop/sha.opening", "deaddrop/sha.roundNumbers"], apart := false, laid := [("deaddrop/sha.opening", laid_deaddrop_sha_opening), ("deaddrop/sha.roundNumbers", laid_deaddrop_sha_roundNumbers)], narrowed := true }
def ShaPartsUptoSaid : Prop := shaPartsUptoRow.holds Tryd.pinned (OpenSpec.upto shaPartsSpec)

/-- 'deaddroplaw2.ShaKnown', WHERE WHAT IT READS IS OF BULK AT MOST 1048576: true; the input reads as it did. -/
def shaKnownUptoRow : OpenClaim := { program := "ytalobkggpdniaaadoor", sum := "7b3085f93ee05346f8944c6e9f5b1d69484e258502810314d3944140780b592b", func := "deaddrop/deaddroplaw2.ShaKnown", spec := "shaKnown", named := ["deaddrop/sha.opening", "deaddrop/sha.roundNumbers"], apart := false, laid := [("deaddrop/sha.opening", laid_deaddrop_sha_opening), ("deaddrop/sha.roundNumbers", laid_deaddrop_sha_roundNumbers)], narrowed := true }
def ShaKnownUptoSaid : Prop := shaKnownUptoRow.holds Tryd.pinned (OpenSpec.upto shaKnownSpec)

/-- 'deaddroplaw2.ShaChain', WHERE WHAT IT READS IS OF BULK AT MOST 1048576: true; the input reads as it did. -/
def shaChainUptoRow : OpenClaim := { program := "ytalobkggpdniaaadoor", sum := "7b3085f93ee05346f8944c6e9f5b1d69484e258502810314d3944140780b592b", func := "deaddrop/deaddroplaw2.ShaChain", spec := "shaChain", named := ["deaddrop/sha.opening", "deaddrop/sha.roundNumbers"], apart := false, laid := [("deaddrop/sha.opening", laid_deaddrop_sha_opening), ("deaddrop/sha.roundNumbers", laid_deaddrop_sha_roundNumbers)], narrowed := true }
def ShaChainUptoSaid : Prop := shaChainUptoRow.holds Tryd.pinned (OpenSpec.upto shaChainSpec)

/-- 'deaddroplaw3.HmacAll', WHERE WHAT IT READS IS OF BULK AT MOST 1048576: true; the input reads as it did. -/
def hmacAllUptoRow : OpenClaim := { program := "ytalobkggpdniaaadoor", sum := "7b3085f93ee05346f8944c6e9f5b1d69484e258502810314d3944140780b592b", func := "deaddrop/deaddroplaw3.HmacAll", spec := "hmacAll", named := ["deaddrop/sha.opening", "deaddrop/sha.roundNumbers"], apart := false, laid := [("deaddrop/sha.opening", laid_deaddrop_sha_opening), ("deaddrop/sha.roundNumbers", laid_deaddrop_sha_roundNumbers)], narrowed := true }
def HmacAllUptoSaid : Prop := hmacAllUptoRow.holds Tryd.pinned (OpenSpec.upto hmacAllSpec)

/-- 'deaddroplaw3.HmacKeys', WHERE WHAT IT READS IS OF BULK AT MOST 1048576: true; the input reads as it did. -/
def hmacKeysUptoRow : OpenClaim := { program := "ytalobkggpdniaaadoor", sum := "7b3085f93ee05346f8944c6e9f5b1d69484e258502810314d3944140780b592b", func := "deaddrop/deaddroplaw3.HmacKeys", spec := "hmacKeys", named := ["deaddrop/sha.opening", "deaddrop/sha.roundNumbers"], apart := false, laid := [("deaddrop/sha.opening", laid_deaddrop_sha_opening), ("deaddrop/sha.roundNumbers", laid_deaddrop_sha_roundNumbers)], narrowed := true }
def HmacKeysUptoSaid : Prop := hmacKeysUptoRow.holds Tryd.pinned (OpenSpec.upto hmacKeysSpec)

/-- 'deaddroplaw3.HmacDerive', WHERE WHAT IT READS IS OF BULK AT MOST 1048576: true; the input reads as it did. -/
def hmacDeriveUptoRow : OpenClaim := { program := "ytalobkggpdniaaadoor", sum := "7b3085f93ee05346f8944c6e9f5b1d69484e258502810314d3944140780b592b", func := "deaddrop/deaddroplaw3.HmacDerive", spec := "hmacDerive", inPlace := ["internal/reflectlite.TypeOf", "internal/abi.NoEscape", "internal/bytealg.MakeNoZero"], unfollowed := true, recurses := true, named := ["deaddrop/sha.opening", "deaddrop/sha.roundNumbers", "deaddrop/hmac.errBelow", "deaddrop/hmac.errBeyond"], apart := false, laid := [("deaddrop/sha.opening", laid_deaddrop_sha_opening), ("deaddrop/sha.roundNumbers", laid_deaddrop_sha_roundNumbers), ("deaddrop/hmac.errBelow", laid_deaddrop_hmac_errBelow), ("deaddrop/hmac.errBeyond", laid_deaddrop_hmac_errBeyond)], narrowed := true }
def HmacDeriveUptoSaid : Prop := hmacDeriveUptoRow.holds Tryd.pinned (OpenSpec.upto hmacDeriveSpec)

/-- 'deaddroplaw3.HmacLess', WHERE WHAT IT READS IS OF BULK AT MOST 1048576: true; the input reads as it did. -/
def hmacLessUptoRow : OpenClaim := { program := "ytalobkggpdniaaadoor", sum := "7b3085f93ee05346f8944c6e9f5b1d69484e258502810314d3944140780b592b", func := "deaddrop/deaddroplaw3.HmacLess", spec := "hmacLess", inPlace := ["internal/reflectlite.TypeOf", "internal/abi.NoEscape", "internal/bytealg.MakeNoZero"], unfollowed := true, recurses := true, named := ["deaddrop/sha.opening", "deaddrop/sha.roundNumbers", "deaddrop/hmac.errBelow", "deaddrop/hmac.errBeyond"], apart := false, laid := [("deaddrop/sha.opening", laid_deaddrop_sha_opening), ("deaddrop/sha.roundNumbers", laid_deaddrop_sha_roundNumbers), ("deaddrop/hmac.errBelow", laid_deaddrop_hmac_errBelow), ("deaddrop/hmac.errBeyond", laid_deaddrop_hmac_errBeyond)], narrowed := true }
def HmacLessUptoSaid : Prop := hmacLessUptoRow.holds Tryd.pinned (OpenSpec.upto hmacLessSpec)

/-- 'deaddroplaw3.HmacEqual', WHERE WHAT IT READS IS OF BULK AT MOST 1048576: true; the input reads as it did. -/
def hmacEqualUptoRow : OpenClaim := { program := "ytalobkggpdniaaadoor", sum := "7b3085f93ee05346f8944c6e9f5b1d69484e258502810314d3944140780b592b", func := "deaddrop/deaddroplaw3.HmacEqual", spec := "hmacEqual", named := ["deaddrop/sha.opening", "deaddrop/sha.roundNumbers"], apart := false, laid := [("deaddrop/sha.opening", laid_deaddrop_sha_opening), ("deaddrop/sha.roundNumbers", laid_deaddrop_sha_roundNumbers)], narrowed := true }
def HmacEqualUptoSaid : Prop := hmacEqualUptoRow.holds Tryd.pinned (OpenSpec.upto hmacEqualSpec)

/-- 'deaddroplaw3.HmacKnown', WHERE WHAT IT READS IS OF BULK AT MOST 1048576: true; the input reads as it did. -/
def hmacKnownUptoRow : OpenClaim := { program := "ytalobkggpdniaaadoor", sum := "7b3085f93ee05346f8944c6e9f5b1d69484e258502810314d3944140780b592b", func := "deaddrop/deaddroplaw3.HmacKnown", spec := "hmacKnown", inPlace := ["internal/reflectlite.TypeOf", "internal/abi.NoEscape", "internal/bytealg.MakeNoZero"], unfollowed := true, recurses := true, named := ["deaddrop/sha.opening", "deaddrop/sha.roundNumbers", "deaddrop/hmac.errBelow", "deaddrop/hmac.errBeyond"], apart := false, laid := [("deaddrop/sha.opening", laid_deaddrop_sha_opening), ("deaddrop/sha.roundNumbers", laid_deaddrop_sha_roundNumbers), ("deaddrop/hmac.errBelow", laid_deaddrop_hmac_errBelow), ("deaddrop/hmac.errBeyond", laid_deaddrop_hmac_errBeyond)], narrowed := true }
def HmacKnownUptoSaid : Prop := hmacKnownUptoRow.holds Tryd.pinned (OpenSpec.upto hmacKnownSpec)

end Rows
end Go.Proofs.YtalobkggpdniaaaDoor
