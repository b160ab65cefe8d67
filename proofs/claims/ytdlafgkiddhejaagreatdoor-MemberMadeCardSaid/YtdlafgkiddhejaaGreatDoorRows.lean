/-
  NARROWER THAN 'FOR EVERY INPUT', by the rows' own cells (each row's printed sentence says how): MemberChain: laid · MemberMade: laid · MemberMany: laid · MemberBack: laid · MemberHead: laid.
  DERIVED. THE GIVEN ROWS OF THIS SEAT. 5 by the template 'for every input the law returns true; each argument reads behind the call as it read before'; 0 by the template 'total and deterministic' (their statements: YtdlafgkiddhejaaGreatDoorTotals.lean).
  GIVEN WITH THE SEED: the statements are not yours to turn. If you find one false, say at which input.
  Laid BY PROGRAM, IN A SANDBOX (cutbox-rows.mjs): the forced cells as the released guide's own fill.sh prints them over the translation 7b173cd44017f8ad… (all of the seat's roots in one cut). By AI agents, Wed Nov 11 2026. No macro, syntax, notation, axiom, sorry.
-/
import Derived.Test.YtdlafgkiddhejaaGreatDoorChecked
import GoSem.Claim
import GoSem.ClaimJoined
import GoSem.ClaimMapViews
import Derived.JoinedTies
import Derived.KernelRfl
namespace Go.Proofs.YtdlafgkiddhejaaGreatDoor
/- THE CELL 'sum', in the pinned program and in every row, IS THE sha256 OF THE DUMP (.gsa) THAT YtdlafgkiddhejaaGreatDoorProg.lean LOADS. Nothing in Lean hashes anything: it is a label: what it is worth is what the hold of that sum in a sandbox is worth. -/
noncomputable def Tryz.pinned : Pinned := { name := "ytdlafgkiddhejaagreatdoor", sum := "7b173cd44017f8adb3ba4a33ac6eb0e7c033ed26bcf4aaae8eb60a7ce7329ed2", checked := Tryz.checked }
namespace Rows
def none {H : Type} : Left H := { results := [], args := [] }

/- WHAT THE LISTED PACKAGE-LEVEL VARIABLES READ AS WHEN THE CALL BEGINS. Each datum BY PROGRAM (the guide's laid-datum.mjs) off the statement by which the dump's own 'gosem.cut.vars' lays the variable. In a bare row this is a premise. The card (YtdlafgkiddhejaaGreatDoorCards.lean) ties it to the program's text. -/
def laid_deaddrop_sha_opening {H : Type} : DataW H := .agg [.lit (.int .u32 1779033703), .lit (.int .u32 3144134277), .lit (.int .u32 1013904242), .lit (.int .u32 2773480762), .lit (.int .u32 1359893119), .lit (.int .u32 2600822924), .lit (.int .u32 528734635), .lit (.int .u32 1541459225)]
def laid_deaddrop_sha_roundNumbers {H : Type} : DataW H := .agg [.lit (.int .u32 1116352408), .lit (.int .u32 1899447441), .lit (.int .u32 3049323471), .lit (.int .u32 3921009573), .lit (.int .u32 961987163), .lit (.int .u32 1508970993), .lit (.int .u32 2453635748), .lit (.int .u32 2870763221), .lit (.int .u32 3624381080), .lit (.int .u32 310598401), .lit (.int .u32 607225278), .lit (.int .u32 1426881987), .lit (.int .u32 1925078388), .lit (.int .u32 2162078206), .lit (.int .u32 2614888103), .lit (.int .u32 3248222580), .lit (.int .u32 3835390401), .lit (.int .u32 4022224774), .lit (.int .u32 264347078), .lit (.int .u32 604807628), .lit (.int .u32 770255983), .lit (.int .u32 1249150122), .lit (.int .u32 1555081692), .lit (.int .u32 1996064986), .lit (.int .u32 2554220882), .lit (.int .u32 2821834349), .lit (.int .u32 2952996808), .lit (.int .u32 3210313671), .lit (.int .u32 3336571891), .lit (.int .u32 3584528711), .lit (.int .u32 113926993), .lit (.int .u32 338241895), .lit (.int .u32 666307205), .lit (.int .u32 773529912), .lit (.int .u32 1294757372), .lit (.int .u32 1396182291), .lit (.int .u32 1695183700), .lit (.int .u32 1986661051), .lit (.int .u32 2177026350), .lit (.int .u32 2456956037), .lit (.int .u32 2730485921), .lit (.int .u32 2820302411), .lit (.int .u32 3259730800), .lit (.int .u32 3345764771), .lit (.int .u32 3516065817), .lit (.int .u32 3600352804), .lit (.int .u32 4094571909), .lit (.int .u32 275423344), .lit (.int .u32 430227734), .lit (.int .u32 506948616), .lit (.int .u32 659060556), .lit (.int .u32 883997877), .lit (.int .u32 958139571), .lit (.int .u32 1322822218), .lit (.int .u32 1537002063), .lit (.int .u32 1747873779), .lit (.int .u32 1955562222), .lit (.int .u32 2024104815), .lit (.int .u32 2227730452), .lit (.int .u32 2361852424), .lit (.int .u32 2428436474), .lit (.int .u32 2756734187), .lit (.int .u32 3204031479), .lit (.int .u32 3329325298)]
def laid_errors_errorType {H : Type} : DataW H := .iface "internal/reflectlite.rtype" (.agg [.ptr (.lit (.string [101, 114, 114, 111, 114]))])
def laid_deaddrop_member_errMany {H : Type} : DataW H := .iface "*errors.errorString" (.ptr (.agg [.lit (.string [109, 111, 114, 101, 32, 116, 104, 97, 110, 32, 97, 32, 99, 104, 97, 105, 110, 32, 109, 97, 121, 32, 104, 97, 118, 101])]))
def laid_deaddrop_member_errRecord {H : Type} : DataW H := .iface "*errors.errorString" (.ptr (.agg [.lit (.string [105, 116, 32, 109, 97, 121, 32, 110, 111, 116, 32, 98, 101])]))
def laid_deaddrop_member_errSeq {H : Type} : DataW H := .iface "*errors.errorString" (.ptr (.agg [.lit (.string [110, 111, 116, 32, 116, 104, 101, 32, 111, 110, 101, 32, 98, 101, 104, 105, 110, 100, 32, 116, 104, 101, 32, 111, 110, 101, 32, 97, 104, 101, 97, 100])]))
def laid_deaddrop_member_errPrev {H : Type} : DataW H := .iface "*errors.errorString" (.ptr (.agg [.lit (.string [97, 110, 111, 116, 104, 101, 114, 32, 114, 101, 99, 111, 114, 100, 39, 115, 32, 104, 97, 115, 104, 32, 116, 104, 97, 110, 32, 116, 104, 97, 116, 32, 111, 102, 32, 116, 104, 101, 32, 111, 110, 101, 32, 97, 104, 101, 97, 100])]))
def laid_deaddrop_member_errFirst {H : Type} : DataW H := .iface "*errors.errorString" (.ptr (.agg [.lit (.string [116, 104, 101, 32, 102, 105, 114, 115, 116, 32, 114, 101, 99, 111, 114, 100, 32, 97, 100, 100, 115, 32, 100, 101, 118, 105, 99, 101, 32, 48])]))
def laid_deaddrop_member_errHave {H : Type} : DataW H := .iface "*errors.errorString" (.ptr (.agg [.lit (.string [97, 100, 100, 101, 100, 32, 119, 104, 105, 108, 101, 32, 105, 116, 32, 105, 115, 32, 97, 32, 109, 101, 109, 98, 101, 114])]))
def laid_deaddrop_member_errNone {H : Type} : DataW H := .iface "*errors.errorString" (.ptr (.agg [.lit (.string [114, 101, 118, 111, 107, 101, 100, 32, 119, 104, 105, 108, 101, 32, 105, 116, 32, 105, 115, 32, 110, 111, 32, 109, 101, 109, 98, 101, 114])]))
def laid_deaddrop_member_errStay {H : Type} : DataW H := .iface "*errors.errorString" (.ptr (.agg [.lit (.string [105, 116, 32, 115, 116, 97, 121, 115, 32, 102, 111, 114, 32, 103, 111, 111, 100])]))

/-- 'deaddroplaw15.MemberChain': WHATEVER THE INPUT: true; the input reads as it did. -/
def memberChainSpec : ChangeSpec := { name := "memberChain", fn := fun _ => fun
  | [d] => { results := [.lit (.bool true)], args := [d] }
  | _ => none }
def memberChainRow : OpenClaim := { program := "ytdlafgkiddhejaagreatdoor", sum := "7b173cd44017f8adb3ba4a33ac6eb0e7c033ed26bcf4aaae8eb60a7ce7329ed2", func := "deaddrop/deaddroplaw15.MemberChain", spec := "memberChain", inPlace := ["internal/abi.NoEscape", "internal/bytealg.MakeNoZero", "internal/reflectlite.ValueOf", "(internal/reflectlite.Value).Type", "(internal/reflectlite.Value).IsNil", "internal/reflectlite.TypeOf", "(internal/reflectlite.Value).Elem", "(internal/reflectlite.Value).Set"], unfollowed := true, recurses := true, named := ["errors.errorType", "deaddrop/member.errMany", "deaddrop/member.errRecord", "deaddrop/member.errSeq", "deaddrop/member.errPrev", "deaddrop/member.errFirst", "deaddrop/member.errHave", "deaddrop/member.errNone", "deaddrop/member.errStay", "deaddrop/sha.opening", "deaddrop/sha.roundNumbers"], apart := false, laid := [("deaddrop/sha.opening", laid_deaddrop_sha_opening), ("deaddrop/sha.roundNumbers", laid_deaddrop_sha_roundNumbers), ("errors.errorType", laid_errors_errorType), ("deaddrop/member.errMany", laid_deaddrop_member_errMany), ("deaddrop/member.errRecord", laid_deaddrop_member_errRecord), ("deaddrop/member.errSeq", laid_deaddrop_member_errSeq), ("deaddrop/member.errPrev", laid_deaddrop_member_errPrev), ("deaddrop/member.errFirst", laid_deaddrop_member_errFirst), ("deaddrop/member.errHave", laid_deaddrop_member_errHave), ("deaddrop/member.errNone", laid_deaddrop_member_errNone), ("deaddrop/member.errStay", laid_deaddrop_member_errStay)] }
def MemberChainSaid : Prop := memberChainRow.holds Tryz.pinned (OpenSpec.ofChange memberChainSpec)

/-- ITS FALSE NEIGHBOUR: 'it returns false'. Refute it at one input. -/
def memberChainWrong : ChangeSpec := { name := "memberChain", fn := fun _ => fun
  | [d] => { results := [.lit (.bool false)], args := [d] }
  | _ => none }
def MemberChainWrongFalsely : Prop := memberChainRow.holds Tryz.pinned (OpenSpec.ofChange memberChainWrong)

/-- 'deaddroplaw15.MemberMade': WHATEVER THE INPUT: true; the input reads as it did. -/
def memberMadeSpec : ChangeSpec := { name := "memberMade", fn := fun _ => fun
  | [d1, d2, d3] => { results := [.lit (.bool true)], args := [d1, d2, d3] }
  | _ => none }
def memberMadeRow : OpenClaim := { program := "ytdlafgkiddhejaagreatdoor", sum := "7b173cd44017f8adb3ba4a33ac6eb0e7c033ed26bcf4aaae8eb60a7ce7329ed2", func := "deaddrop/deaddroplaw15.MemberMade", spec := "memberMade", inPlace := ["internal/abi.NoEscape", "internal/bytealg.MakeNoZero", "internal/reflectlite.TypeOf", "internal/reflectlite.ValueOf", "(internal/reflectlite.Value).Type", "(internal/reflectlite.Value).IsNil", "(internal/reflectlite.Value).Elem", "(internal/reflectlite.Value).Set"], unfollowed := true, recurses := true, named := ["deaddrop/member.errMany", "deaddrop/member.errRecord", "deaddrop/member.errSeq", "deaddrop/member.errPrev", "deaddrop/member.errFirst", "deaddrop/member.errHave", "deaddrop/member.errNone", "deaddrop/member.errStay", "deaddrop/sha.opening", "deaddrop/sha.roundNumbers", "errors.errorType"], apart := false, laid := [("deaddrop/sha.opening", laid_deaddrop_sha_opening), ("deaddrop/sha.roundNumbers", laid_deaddrop_sha_roundNumbers), ("errors.errorType", laid_errors_errorType), ("deaddrop/member.errMany", laid_deaddrop_member_errMany), ("deaddrop/member.errRecord", laid_deaddrop_member_errRecord), ("deaddrop/member.errSeq", laid_deaddrop_member_errSeq), ("deaddrop/member.errPrev", laid_deaddrop_member_errPrev), ("deaddrop/member.errFirst", laid_deaddrop_member_errFirst), ("deaddrop/member.errHave", laid_deaddrop_member_errHave), ("deaddrop/member.errNone", laid_deaddrop_member_errNone), ("deaddrop/member.errStay", laid_deaddrop_member_errStay)] }
def MemberMadeSaid : Prop := memberMadeRow.holds Tryz.pinned (OpenSpec.ofChange memberMadeSpec)

/-- ITS FALSE NEIGHBOUR: 'it returns false'. Refute it at one input. -/
def memberMadeWrong : ChangeSpec := { name := "memberMade", fn := fun _ => fun
  | [d1, d2, d3] => { results := [.lit (.bool false)], args := [d1, d2, d3] }
  | _ => none }
def MemberMadeWrongFalsely : Prop := memberMadeRow.holds Tryz.pinned (OpenSpec.ofChange memberMadeWrong)

/-- 'deaddroplaw15.MemberMany': WHATEVER THE INPUT: true; the input reads as it did. -/
def memberManySpec : ChangeSpec := { name := "memberMany", fn := fun _ => fun
  | [d1, d2] => { results := [.lit (.bool true)], args := [d1, d2] }
  | _ => none }
def memberManyRow : OpenClaim := { program := "ytdlafgkiddhejaagreatdoor", sum := "7b173cd44017f8adb3ba4a33ac6eb0e7c033ed26bcf4aaae8eb60a7ce7329ed2", func := "deaddrop/deaddroplaw15.MemberMany", spec := "memberMany", inPlace := ["internal/abi.NoEscape", "internal/bytealg.MakeNoZero", "internal/reflectlite.TypeOf", "internal/reflectlite.ValueOf", "(internal/reflectlite.Value).Type", "(internal/reflectlite.Value).IsNil", "(internal/reflectlite.Value).Elem", "(internal/reflectlite.Value).Set"], unfollowed := true, recurses := true, named := ["deaddrop/sha.opening", "deaddrop/sha.roundNumbers", "deaddrop/member.errMany", "deaddrop/member.errRecord", "deaddrop/member.errSeq", "deaddrop/member.errPrev", "deaddrop/member.errFirst", "deaddrop/member.errHave", "deaddrop/member.errNone", "deaddrop/member.errStay", "errors.errorType"], apart := false, laid := [("deaddrop/sha.opening", laid_deaddrop_sha_opening), ("deaddrop/sha.roundNumbers", laid_deaddrop_sha_roundNumbers), ("errors.errorType", laid_errors_errorType), ("deaddrop/member.errMany", laid_deaddrop_member_errMany), ("deaddrop/member.errRecord", laid_deaddrop_member_errRecord), ("deaddrop/member.errSeq", laid_deaddrop_member_errSeq), ("deaddrop/member.errPrev", laid_deaddrop_member_errPrev), ("deaddrop/member.errFirst", laid_deaddrop_member_errFirst), ("deaddrop/member.errHave", laid_deaddrop_member_errHave), ("deaddrop/member.errNone", laid_deaddrop_member_errNone), ("deaddrop/member.errStay", laid_deaddrop_member_errStay)] }
def MemberManySaid : Prop := memberManyRow.holds Tryz.pinned (OpenSpec.ofChange memberManySpec)

/-- ITS FALSE NEIGHBOUR: 'it returns false'. Refute it at one input. -/
def memberManyWrong : ChangeSpec := { name := "memberMany", fn := fun _ => fun
  | [d1, d2] => { results := [.lit (.bool false)], args := [d1, d2] }
  | _ => none }
def MemberManyWrongFalsely : Prop := memberManyRow.holds Tryz.pinned (OpenSpec.ofChange memberManyWrong)

/-- 'deaddroplaw15.MemberBack': WHATEVER THE INPUT: true; the input reads as it did. -/
def memberBackSpec : ChangeSpec := { name := "memberBack", fn := fun _ => fun
  | [d1, d2, d3, d4] => { results := [.lit (.bool true)], args := [d1, d2, d3, d4] }
  | _ => none }
def memberBackRow : OpenClaim := { program := "ytdlafgkiddhejaagreatdoor", sum := "7b173cd44017f8adb3ba4a33ac6eb0e7c033ed26bcf4aaae8eb60a7ce7329ed2", func := "deaddrop/deaddroplaw15.MemberBack", spec := "memberBack", inPlace := ["internal/abi.NoEscape", "internal/bytealg.MakeNoZero", "internal/reflectlite.ValueOf", "(internal/reflectlite.Value).Type", "(internal/reflectlite.Value).IsNil", "internal/reflectlite.TypeOf", "(internal/reflectlite.Value).Elem", "(internal/reflectlite.Value).Set"], unfollowed := true, recurses := true, named := ["errors.errorType", "deaddrop/member.errMany", "deaddrop/member.errRecord", "deaddrop/member.errSeq", "deaddrop/member.errPrev", "deaddrop/member.errFirst", "deaddrop/member.errHave", "deaddrop/member.errNone", "deaddrop/member.errStay", "deaddrop/sha.opening", "deaddrop/sha.roundNumbers"], apart := false, laid := [("deaddrop/sha.opening", laid_deaddrop_sha_opening), ("deaddrop/sha.roundNumbers", laid_deaddrop_sha_roundNumbers), ("errors.errorType", laid_errors_errorType), ("deaddrop/member.errMany", laid_deaddrop_member_errMany), ("deaddrop/member.errRecord", laid_deaddrop_member_errRecord), ("deaddrop/member.errSeq", laid_deaddrop_member_errSeq), ("deaddrop/member.errPrev", laid_deaddrop_member_errPrev), ("deaddrop/member.errFirst", laid_deaddrop_member_errFirst), ("deaddrop/member.errHave", laid_deaddrop_member_errHave), ("deaddrop/member.errNone", laid_deaddrop_member_errNone), ("deaddrop/member.errStay", laid_deaddrop_member_errStay)] }
def MemberBackSaid : Prop := memberBackRow.holds Tryz.pinned (OpenSpec.ofChange memberBackSpec)

/-- ITS FALSE NEIGHBOUR: 'it returns false'. Refute it at one input. -/
def memberBackWrong : ChangeSpec := { name := "memberBack", fn := fun _ => fun
  | [d1, d2, d3, d4] => { results := [.lit (.bool false)], args := [d1, d2, d3, d4] }
  | _ => none }
def MemberBackWrongFalsely : Prop := memberBackRow.holds Tryz.pinned (OpenSpec.ofChange memberBackWrong)

/-- 'deaddroplaw15.MemberHead': WHATEVER THE INPUT: true; the input reads as it did. -/
def memberHeadSpec : ChangeSpec := { name := "memberHead", fn := fun _ => fun
  | [d1, d2, d3] => { results := [.lit (.bool true)], args := [d1, d2, d3] }
  | _ => none }
def memberHeadRow : OpenClaim := { program := "ytdlafgkiddhejaagreatdoor", sum := "7b173cd44017f8adb3ba4a33ac6eb0e7c033ed26bcf4aaae8eb60a7ce7329ed2", func := "deaddrop/deaddroplaw15.MemberHead", spec := "memberHead", inPlace := ["internal/abi.NoEscape", "internal/bytealg.MakeNoZero", "internal/reflectlite.ValueOf", "(internal/reflectlite.Value).Type", "(internal/reflectlite.Value).IsNil", "internal/reflectlite.TypeOf", "(internal/reflectlite.Value).Elem", "(internal/reflectlite.Value).Set"], unfollowed := true, recurses := true, named := ["errors.errorType", "deaddrop/member.errMany", "deaddrop/member.errRecord", "deaddrop/member.errSeq", "deaddrop/member.errPrev", "deaddrop/member.errFirst", "deaddrop/member.errHave", "deaddrop/member.errNone", "deaddrop/member.errStay", "deaddrop/sha.opening", "deaddrop/sha.roundNumbers"], apart := false, laid := [("deaddrop/sha.opening", laid_deaddrop_sha_opening), ("deaddrop/sha.roundNumbers", laid_deaddrop_sha_roundNumbers), ("errors.errorType", laid_errors_errorType), ("deaddrop/member.errMany", laid_deaddrop_member_errMany), ("deaddrop/member.errRecord", laid_deaddrop_member_errRecord), ("deaddrop/member.errSeq", laid_deaddrop_member_errSeq), ("deaddrop/member.errPrev", laid_deaddrop_member_errPrev), ("deaddrop/member.errFirst", laid_deaddrop_member_errFirst), ("deaddrop/member.errHave", laid_deaddrop_member_errHave), ("deaddrop/member.errNone", laid_deaddrop_member_errNone), ("deaddrop/member.errStay", laid_deaddrop_member_errStay)] }
def MemberHeadSaid : Prop := memberHeadRow.holds Tryz.pinned (OpenSpec.ofChange memberHeadSpec)

/-- ITS FALSE NEIGHBOUR: 'it returns false'. Refute it at one input. -/
def memberHeadWrong : ChangeSpec := { name := "memberHead", fn := fun _ => fun
  | [d1, d2, d3] => { results := [.lit (.bool false)], args := [d1, d2, d3] }
  | _ => none }
def MemberHeadWrongFalsely : Prop := memberHeadRow.holds Tryz.pinned (OpenSpec.ofChange memberHeadWrong)

/- THE SECOND FORM. 'bulk': how many values and letters a reading holds, each counted each time it is reached (what is shared counts as often as it is met; a slice's spare places count too). A statement '..UptoSaid' is the law's where the arguments, and the package variables that the reading takes, are together of bulk at most 1048576: NARROWER than '..Said'. Prove '..Said' where nothing that the law and all that it calls make is longer than what came in: it says more and counts as full. Else prove '..UptoSaid'. A law counts once. -/
mutual
def uptoBulk {H : Type} : DataW H → Nat
  | .lit (.string bytes) => bytes.length + 1
  | .lit _ => 1
  | .nil => 1
  | .ptr d => uptoBulk d + 1
  | .slice elems spare => uptoBulkAll elems + uptoBulkAll spare + 1
  | .agg parts => uptoBulkAll parts + 1
  | .iface _ d => uptoBulk d + 1
  | .map entries => uptoBulkEntries entries + 1
  | .held _ => 1
def uptoBulkAll {H : Type} : List (DataW H) → Nat
  | [] => 0
  | d :: r => uptoBulk d + uptoBulkAll r
def uptoBulkEntries {H : Type} : List (Lit × DataW H) → Nat
  | [] => 0
  | x :: r => uptoBulkEntry x + uptoBulkEntries r
def uptoBulkEntry {H : Type} : Lit × DataW H → Nat
  | (.string bytes, d) => bytes.length + uptoBulk d + 1
  | (_, d) => uptoBulk d + 1
 end
def uptoSmall : (H : Type) → List (DataW H) → Bool := fun _ ds => decide (uptoBulkAll ds ≤ 1048576)
def OpenSpec.upto (s : _root_.Go.ChangeSpec) : _root_.Go.OpenSpec := { _root_.Go.OpenSpec.ofChange s with cond := some uptoSmall }

/-- 'deaddroplaw15.MemberChain', WHERE WHAT IT READS IS OF BULK AT MOST 1048576: true; the input reads as it did. -/
def memberChainUptoRow : OpenClaim := { program := "ytdlafgkiddhejaagreatdoor", sum := "7b173cd44017f8adb3ba4a33ac6eb0e7c033ed26bcf4aaae8eb60a7ce7329ed2", func := "deaddrop/deaddroplaw15.MemberChain", spec := "memberChain", inPlace := ["internal/abi.NoEscape", "internal/bytealg.MakeNoZero", "internal/reflectlite.ValueOf", "(internal/reflectlite.Value).Type", "(internal/reflectlite.Value).IsNil", "internal/reflectlite.TypeOf", "(internal/reflectlite.Value).Elem", "(internal/reflectlite.Value).Set"], unfollowed := true, recurses := true, named := ["errors.errorType", "deaddrop/member.errMany", "deaddrop/member.errRecord", "deaddrop/member.errSeq", "deaddrop/member.errPrev", "deaddrop/member.errFirst", "deaddrop/member.errHave", "deaddrop/member.errNone", "deaddrop/member.errStay", "deaddrop/sha.opening", "deaddrop/sha.roundNumbers"], apart := false, laid := [("deaddrop/sha.opening", laid_deaddrop_sha_opening), ("deaddrop/sha.roundNumbers", laid_deaddrop_sha_roundNumbers), ("errors.errorType", laid_errors_errorType), ("deaddrop/member.errMany", laid_deaddrop_member_errMany), ("deaddrop/member.errRecord", laid_deaddrop_member_errRecord), ("deaddrop/member.errSeq", laid_deaddrop_member_errSeq), ("deaddrop/member.errPrev", laid_deaddrop_member_errPrev), ("deaddrop/member.errFirst", laid_deaddrop_member_errFirst), ("deaddrop/member.errHave", laid_deaddrop_member_errHave), ("deaddrop/member.errNone", laid_deaddrop_member_errNone), ("deaddrop/member.errStay", laid_deaddrop_member_errStay)], narrowed := true }
def MemberChainUptoSaid : Prop := memberChainUptoRow.holds Tryz.pinned (OpenSpec.upto memberChainSpec)

/-- 'deaddroplaw15.MemberMade', WHERE WHAT IT READS IS OF BULK AT MOST 1048576: true; the input reads as it did. -/
def memberMadeUptoRow : OpenClaim := { program := "ytdlafgkiddhejaagreatdoor", sum := "7b173cd44017f8adb3ba4a33ac6eb0e7c033ed26bcf4aaae8eb60a7ce7329ed2", func := "deaddrop/deaddroplaw15.MemberMade", spec := "memberMade", inPlace := ["internal/abi.NoEscape", "internal/bytealg.MakeNoZero", "internal/reflectlite.TypeOf", "internal/reflectlite.ValueOf", "(internal/reflectlite.Value).Type", "(internal/reflectlite.Value).IsNil", "(internal/reflectlite.Value).Elem", "(internal/reflectlite.Value).Set"], unfollowed := true, recurses := true, named := ["deaddrop/member.errMany", "deaddrop/member.errRecord", "deaddrop/member.errSeq", "deaddrop/member.errPrev", "deaddrop/member.errFirst", "deaddrop/member.errHave", "deaddrop/member.errNone", "deaddrop/member.errStay", "deaddrop/sha.opening", "deaddrop/sha.roundNumbers", "errors.errorType"], apart := false, laid := [("deaddrop/sha.opening", laid_deaddrop_sha_opening), ("deaddrop/sha.roundNumbers", laid_deaddrop_sha_roundNumbers), ("errors.errorType", laid_errors_errorType), ("deaddrop/member.errMany", laid_deaddrop_member_errMany), ("deaddrop/member.errRecord", laid_deaddrop_member_errRecord), ("deaddrop/member.errSeq", laid_deaddrop_member_errSeq), ("deaddrop/member.errPrev", laid_deaddrop_member_errPrev), ("deaddrop/member.errFirst", laid_deaddrop_member_errFirst), ("deaddrop/member.errHave", laid_deaddrop_member_errHave), ("deaddrop/member.errNone", laid_deaddrop_member_errNone), ("deaddrop/member.errStay", laid_deaddrop_member_errStay)], narrowed := true }
def MemberMadeUptoSaid : Prop := memberMadeUptoRow.holds Tryz.pinned (OpenSpec.upto memberMadeSpec)

/-- 'deaddroplaw15.MemberMany', WHERE WHAT IT READS IS OF BULK AT MOST 1048576: true; the input reads as it did. -/
def memberManyUptoRow : OpenClaim := { program := "ytdlafgkiddhejaagreatdoor", sum := "7b173cd44017f8adb3ba4a33ac6eb0e7c033ed26bcf4aaae8eb60a7ce7329ed2", func := "deaddrop/deaddroplaw15.MemberMany", spec := "memberMany", inPlace := ["internal/abi.NoEscape", "internal/bytealg.MakeNoZero", "internal/reflectlite.TypeOf", "internal/reflectlite.ValueOf", "(internal/reflectlite.Value).Type", "(internal/reflectlite.Value).IsNil", "(internal/reflectlite.Value).Elem", "(internal/reflectlite.Value).Set"], unfollowed := true, recurses := true, named := ["deaddrop/sha.opening", "deaddrop/sha.roundNumbers", "deaddrop/member.errMany", "deaddrop/member.errRecord", "deaddrop/member.errSeq", "deaddrop/member.errPrev", "deaddrop/member.errFirst", "deaddrop/member.errHave", "deaddrop/member.errNone", "deaddrop/member.errStay", "errors.errorType"], apart := false, laid := [("deaddrop/sha.opening", laid_deaddrop_sha_opening), ("deaddrop/sha.roundNumbers", laid_deaddrop_sha_roundNumbers), ("errors.errorType", laid_errors_errorType), ("deaddrop/member.errMany", laid_deaddrop_member_errMany), ("deaddrop/member.errRecord", laid_deaddrop_member_errRecord), ("deaddrop/member.errSeq", laid_deaddrop_member_errSeq), ("deaddrop/member.errPrev", laid_deaddrop_member_errPrev), ("deaddrop/member.errFirst", laid_deaddrop_member_errFirst), ("deaddrop/member.errHave", laid_deaddrop_member_errHave), ("deaddrop/member.errNone", laid_deaddrop_member_errNone), ("deaddrop/member.errStay", laid_deaddrop_member_errStay)], narrowed := true }
def MemberManyUptoSaid : Prop := memberManyUptoRow.holds Tryz.pinned (OpenSpec.upto memberManySpec)

/-- 'deaddroplaw15.MemberBack', WHERE WHAT IT READS IS OF BULK AT MOST 1048576: true; the input reads as it did. -/
def memberBackUptoRow : OpenClaim := { program := "ytdlafgkiddhejaagreatdoor", sum := "7b173cd44017f8adb3ba4a33ac6eb0e7c033ed26bcf4aaae8eb60a7ce7329ed2", func := "deaddrop/deaddroplaw15.MemberBack", spec := "memberBack", inPlace := ["internal/abi.NoEscape", "internal/bytealg.MakeNoZero", "internal/reflectlite.ValueOf", "(internal/reflectlite.Value).Type", "(internal/reflectlite.Value).IsNil", "internal/reflectlite.TypeOf", "(internal/reflectlite.Value).Elem", "(internal/reflectlite.Value).Set"], unfollowed := true, recurses := true, named := ["errors.errorType", "deaddrop/member.errMany", "deaddrop/member.errRecord", "deaddrop/member.errSeq", "deaddrop/member.errPrev", "deaddrop/member.errFirst", "deaddrop/member.errHave", "deaddrop/member.errNone", "deaddrop/member.errStay", "deaddrop/sha.opening", "deaddrop/sha.roundNumbers"], apart := false, laid := [("deaddrop/sha.opening", laid_deaddrop_sha_opening), ("deaddrop/sha.roundNumbers", laid_deaddrop_sha_roundNumbers), ("errors.errorType", laid_errors_errorType), ("deaddrop/member.errMany", laid_deaddrop_member_errMany), ("deaddrop/member.errRecord", laid_deaddrop_member_errRecord), ("deaddrop/member.errSeq", laid_deaddrop_member_errSeq), ("deaddrop/member.errPrev", laid_deaddrop_member_errPrev), ("deaddrop/member.errFirst", laid_deaddrop_member_errFirst), ("deaddrop/member.errHave", laid_deaddrop_member_errHave), ("deaddrop/member.errNone", laid_deaddrop_member_errNone), ("deaddrop/member.errStay", laid_deaddrop_member_errStay)], narrowed := true }
def MemberBackUptoSaid : Prop := memberBackUptoRow.holds Tryz.pinned (OpenSpec.upto memberBackSpec)

/-- 'deaddroplaw15.MemberHead', WHERE WHAT IT READS IS OF BULK AT MOST 1048576: true; the input reads as it did. -/
def memberHeadUptoRow : OpenClaim := { program := "ytdlafgkiddhejaagreatdoor", sum := "7b173cd44017f8adb3ba4a33ac6eb0e7c033ed26bcf4aaae8eb60a7ce7329ed2", func := "deaddrop/deaddroplaw15.MemberHead", spec := "memberHead", inPlace := ["internal/abi.NoEscape", "internal/bytealg.MakeNoZero", "internal/reflectlite.ValueOf", "(internal/reflectlite.Value).Type", "(internal/reflectlite.Value).IsNil", "internal/reflectlite.TypeOf", "(internal/reflectlite.Value).Elem", "(internal/reflectlite.Value).Set"], unfollowed := true, recurses := true, named := ["errors.errorType", "deaddrop/member.errMany", "deaddrop/member.errRecord", "deaddrop/member.errSeq", "deaddrop/member.errPrev", "deaddrop/member.errFirst", "deaddrop/member.errHave", "deaddrop/member.errNone", "deaddrop/member.errStay", "deaddrop/sha.opening", "deaddrop/sha.roundNumbers"], apart := false, laid := [("deaddrop/sha.opening", laid_deaddrop_sha_opening), ("deaddrop/sha.roundNumbers", laid_deaddrop_sha_roundNumbers), ("errors.errorType", laid_errors_errorType), ("deaddrop/member.errMany", laid_deaddrop_member_errMany), ("deaddrop/member.errRecord", laid_deaddrop_member_errRecord), ("deaddrop/member.errSeq", laid_deaddrop_member_errSeq), ("deaddrop/member.errPrev", laid_deaddrop_member_errPrev), ("deaddrop/member.errFirst", laid_deaddrop_member_errFirst), ("deaddrop/member.errHave", laid_deaddrop_member_errHave), ("deaddrop/member.errNone", laid_deaddrop_member_errNone), ("deaddrop/member.errStay", laid_deaddrop_member_errStay)], narrowed := true }
def MemberHeadUptoSaid : Prop := memberHeadUptoRow.holds Tryz.pinned (OpenSpec.upto memberHeadSpec)

end Rows
end Go.Proofs.YtdlafgkiddhejaaGreatDoor
