/-
  No cell of these rows narrows 'for every input' (looked for: loops, veiled, ifaces, maps, wideKeys, modest, calm, conditions, laid).
  DERIVED. THE GIVEN ROWS OF THIS SEAT. 6 by the template 'for every input the law returns true; each argument reads behind the call as it read before'; 0 by the template 'total and deterministic' (their statements: YtkibojoochlggaaTotals.lean).
  GIVEN WITH THE SEED: the statements are not yours to turn. If you find one false, say at which input.
  Laid BY PROGRAM, IN A SANDBOX (cutbox-rows.mjs): the forced cells as the released guide's own fill.sh prints them over the translation d18e1279b7b8e25e… (all of the seat's roots in one cut). By AI agents, Wed Nov 11 2026. No macro, syntax, notation, axiom, sorry.
-/
import Derived.Test.YtkibojoochlggaaChecked
import GoSem.Claim
import GoSem.ClaimJoined
import GoSem.ClaimMapViews
import Derived.JoinedTies
import Derived.KernelRfl
namespace Go.Proofs.Ytkibojoochlggaa
/- THE CELL 'sum', in the pinned program and in every row, IS THE sha256 OF THE DUMP (.gsa) THAT YtkibojoochlggaaProg.lean LOADS. Nothing in Lean hashes anything: it is a label: what it is worth is what the hold of that sum in a sandbox is worth. -/
noncomputable def Try.pinned : Pinned := { name := "ytkibojoochlggaa", sum := "d18e1279b7b8e25ea8865c840f590c4067c2aad6a81d40b723e9c1d4f69f3e63", checked := Try.checked }
namespace Rows
def none {H : Type} : Left H := { results := [], args := [] }

/-- 'deaddroplaw7.DotsAll': WHATEVER THE INPUT: true; the input reads as it did. -/
def dotsAllSpec : ChangeSpec := { name := "dotsAll", fn := fun _ => fun
  | [d1, d2, d3, d4, d5] => { results := [.lit (.bool true)], args := [d1, d2, d3, d4, d5] }
  | _ => none }
def dotsAllRow : OpenClaim := { program := "ytkibojoochlggaa", sum := "d18e1279b7b8e25ea8865c840f590c4067c2aad6a81d40b723e9c1d4f69f3e63", func := "deaddrop/deaddroplaw7.DotsAll", spec := "dotsAll", unfollowed := true, recurses := true, apart := false }
def DotsAllSaid : Prop := dotsAllRow.holds Try.pinned (OpenSpec.ofChange dotsAllSpec)

/-- ITS FALSE NEIGHBOUR: 'it returns false'. Refute it at one input. -/
def dotsAllWrong : ChangeSpec := { name := "dotsAll", fn := fun _ => fun
  | [d1, d2, d3, d4, d5] => { results := [.lit (.bool false)], args := [d1, d2, d3, d4, d5] }
  | _ => none }
def DotsAllWrongFalsely : Prop := dotsAllRow.holds Try.pinned (OpenSpec.ofChange dotsAllWrong)

/-- 'deaddroplaw7.DotsMade': WHATEVER THE INPUT: true; the input reads as it did. -/
def dotsMadeSpec : ChangeSpec := { name := "dotsMade", fn := fun _ => fun
  | [d1, d2, d3] => { results := [.lit (.bool true)], args := [d1, d2, d3] }
  | _ => none }
def dotsMadeRow : OpenClaim := { program := "ytkibojoochlggaa", sum := "d18e1279b7b8e25ea8865c840f590c4067c2aad6a81d40b723e9c1d4f69f3e63", func := "deaddrop/deaddroplaw7.DotsMade", spec := "dotsMade", unfollowed := true, recurses := true, apart := false }
def DotsMadeSaid : Prop := dotsMadeRow.holds Try.pinned (OpenSpec.ofChange dotsMadeSpec)

/-- ITS FALSE NEIGHBOUR: 'it returns false'. Refute it at one input. -/
def dotsMadeWrong : ChangeSpec := { name := "dotsMade", fn := fun _ => fun
  | [d1, d2, d3] => { results := [.lit (.bool false)], args := [d1, d2, d3] }
  | _ => none }
def DotsMadeWrongFalsely : Prop := dotsMadeRow.holds Try.pinned (OpenSpec.ofChange dotsMadeWrong)

/-- 'deaddroplaw7.DotsLaws': WHATEVER THE INPUT: true; the input reads as it did. -/
def dotsLawsSpec : ChangeSpec := { name := "dotsLaws", fn := fun _ => fun
  | [d1, d2, d3] => { results := [.lit (.bool true)], args := [d1, d2, d3] }
  | _ => none }
def dotsLawsRow : OpenClaim := { program := "ytkibojoochlggaa", sum := "d18e1279b7b8e25ea8865c840f590c4067c2aad6a81d40b723e9c1d4f69f3e63", func := "deaddrop/deaddroplaw7.DotsLaws", spec := "dotsLaws", unfollowed := true, recurses := true, apart := false }
def DotsLawsSaid : Prop := dotsLawsRow.holds Try.pinned (OpenSpec.ofChange dotsLawsSpec)

/-- ITS FALSE NEIGHBOUR: 'it returns false'. Refute it at one input. -/
def dotsLawsWrong : ChangeSpec := { name := "dotsLaws", fn := fun _ => fun
  | [d1, d2, d3] => { results := [.lit (.bool false)], args := [d1, d2, d3] }
  | _ => none }
def DotsLawsWrongFalsely : Prop := dotsLawsRow.holds Try.pinned (OpenSpec.ofChange dotsLawsWrong)

/-- 'deaddroplaw7.DotsEdges': WHATEVER THE INPUT: true; the input reads as it did. -/
def dotsEdgesSpec : ChangeSpec := { name := "dotsEdges", fn := fun _ => fun
  | [d1, d2, d3] => { results := [.lit (.bool true)], args := [d1, d2, d3] }
  | _ => none }
def dotsEdgesRow : OpenClaim := { program := "ytkibojoochlggaa", sum := "d18e1279b7b8e25ea8865c840f590c4067c2aad6a81d40b723e9c1d4f69f3e63", func := "deaddrop/deaddroplaw7.DotsEdges", spec := "dotsEdges", unfollowed := true, recurses := true, apart := false }
def DotsEdgesSaid : Prop := dotsEdgesRow.holds Try.pinned (OpenSpec.ofChange dotsEdgesSpec)

/-- ITS FALSE NEIGHBOUR: 'it returns false'. Refute it at one input. -/
def dotsEdgesWrong : ChangeSpec := { name := "dotsEdges", fn := fun _ => fun
  | [d1, d2, d3] => { results := [.lit (.bool false)], args := [d1, d2, d3] }
  | _ => none }
def DotsEdgesWrongFalsely : Prop := dotsEdgesRow.holds Try.pinned (OpenSpec.ofChange dotsEdgesWrong)

/-- 'deaddroplaw7.DotsCount': WHATEVER THE INPUT: true; the input reads as it did. -/
def dotsCountSpec : ChangeSpec := { name := "dotsCount", fn := fun _ => fun
  | [d] => { results := [.lit (.bool true)], args := [d] }
  | _ => none }
def dotsCountRow : OpenClaim := { program := "ytkibojoochlggaa", sum := "d18e1279b7b8e25ea8865c840f590c4067c2aad6a81d40b723e9c1d4f69f3e63", func := "deaddrop/deaddroplaw7.DotsCount", spec := "dotsCount", unfollowed := true, recurses := true, apart := false }
def DotsCountSaid : Prop := dotsCountRow.holds Try.pinned (OpenSpec.ofChange dotsCountSpec)

/-- ITS FALSE NEIGHBOUR: 'it returns false'. Refute it at one input. -/
def dotsCountWrong : ChangeSpec := { name := "dotsCount", fn := fun _ => fun
  | [d] => { results := [.lit (.bool false)], args := [d] }
  | _ => none }
def DotsCountWrongFalsely : Prop := dotsCountRow.holds Try.pinned (OpenSpec.ofChange dotsCountWrong)

/-- 'deaddroplaw7.DotsOne': WHATEVER THE INPUT: true; the input reads as it did. -/
def dotsOneSpec : ChangeSpec := { name := "dotsOne", fn := fun _ => fun
  | [d1, d2] => { results := [.lit (.bool true)], args := [d1, d2] }
  | _ => none }
def dotsOneRow : OpenClaim := { program := "ytkibojoochlggaa", sum := "d18e1279b7b8e25ea8865c840f590c4067c2aad6a81d40b723e9c1d4f69f3e63", func := "deaddrop/deaddroplaw7.DotsOne", spec := "dotsOne", unfollowed := true, recurses := true, apart := false }
def DotsOneSaid : Prop := dotsOneRow.holds Try.pinned (OpenSpec.ofChange dotsOneSpec)

/-- ITS FALSE NEIGHBOUR: 'it returns false'. Refute it at one input. -/
def dotsOneWrong : ChangeSpec := { name := "dotsOne", fn := fun _ => fun
  | [d1, d2] => { results := [.lit (.bool false)], args := [d1, d2] }
  | _ => none }
def DotsOneWrongFalsely : Prop := dotsOneRow.holds Try.pinned (OpenSpec.ofChange dotsOneWrong)

/- THE SECOND FORM. 'bulk': how many values and letters a reading holds, each counted each time it is reached (what is shared counts as often as it is met; a slice's spare places count too). A statement '..UptoSaid' is the law's where the arguments, and the package variables that the reading takes, are together of bulk at most 1048576: NARROWER than '..Said'. Prove '..Said' where nothing that the law and all that it calls make is longer than what came in: it says more and counts as full. Else prove '..UptoSaid'. A law counts once. -/
mutual
def uptoBulk {H : Type} : DataW H → Nat
  | .lit (.string bytes) => bytes.length + 1
  | .lit _ => 1
  | .nil => 1
  | .ptr d => uptoBulk d + 1
  | .slice elems spare => uptoBulkAll elems + uptoBulkAll spare + 1
  | .agg parts => uptoBulkAll parts + 1
  | .iface _ d => uptoBulk d + 1
  | .map entries => uptoBulkEntries entries + 1
  | .held _ => 1
def uptoBulkAll {H : Type} : List (DataW H) → Nat
  | [] => 0
  | d :: r => uptoBulk d + uptoBulkAll r
def uptoBulkEntries {H : Type} : List (Lit × DataW H) → Nat
  | [] => 0
  | x :: r => uptoBulkEntry x + uptoBulkEntries r
def uptoBulkEntry {H : Type} : Lit × DataW H → Nat
  | (.string bytes, d) => bytes.length + uptoBulk d + 1
  | (_, d) => uptoBulk d + 1
 end
def uptoSmall : (H : Type) → List (DataW H) → Bool := fun _ ds => decide (uptoBulkAll ds ≤ 1048576)
def OpenSpec.upto (s : _root_.Go.ChangeSpec) : _root_.Go.OpenSpec := { _root_.Go.OpenSpec.ofChange s with cond := some uptoSmall }

/-- 'deaddroplaw7.DotsAll', WHERE WHAT IT READS IS OF BULK AT MOST 1048576: true; the input reads as it did. -/
def dotsAllUptoRow : OpenClaim := { program := "ytkibojoochlggaa", sum := "d18e1279b7b8e25ea8865c840f590c4067c2aad6a81d40b723e9c1d4f69f3e63", func := "deaddrop/deaddroplaw7.DotsAll", spec := "dotsAll", unfollowed := true, recurses := true, apart := false, narrowed := true }
def DotsAllUptoSaid : Prop := dotsAllUptoRow.holds Try.pinned (OpenSpec.upto dotsAllSpec)

/-- 'deaddroplaw7.DotsMade', WHERE WHAT IT READS IS OF BULK AT MOST 1048576: true; the input reads as it did. -/
def dotsMadeUptoRow : OpenClaim := { program := "ytkibojoochlggaa", sum := "d18e1279b7b8e25ea8865c840f590c4067c2aad6a81d40b723e9c1d4f69f3e63", func := "deaddrop/deaddroplaw7.DotsMade", spec := "dotsMade", unfollowed := true, recurses := true, apart := false, narrowed := true }
def DotsMadeUptoSaid : Prop := dotsMadeUptoRow.holds Try.pinned (OpenSpec.upto dotsMadeSpec)

/-- 'deaddroplaw7.DotsLaws', WHERE WHAT IT READS IS OF BULK AT MOST 1048576: true; the input reads as it did. -/
def dotsLawsUptoRow : OpenClaim := { program := "ytkibojoochlggaa", sum := "d18e1279b7b8e25ea8865c840f590c4067c2aad6a81d40b723e9c1d4f69f3e63", func := "deaddrop/deaddroplaw7.DotsLaws", spec := "dotsLaws", unfollowed := true, recurses := true, apart := false, narrowed := true }
def DotsLawsUptoSaid : Prop := dotsLawsUptoRow.holds Try.pinned (OpenSpec.upto dotsLawsSpec)

/-- 'deaddroplaw7.DotsEdges', WHERE WHAT IT READS IS OF BULK AT MOST 1048576: true; the input reads as it did. -/
def dotsEdgesUptoRow : OpenClaim := { program := "ytkibojoochlggaa", sum := "d18e1279b7b8e25ea8865c840f590c4067c2aad6a81d40b723e9c1d4f69f3e63", func := "deaddrop/deaddroplaw7.DotsEdges", spec := "dotsEdges", unfollowed := true, recurses := true, apart := false, narrowed := true }
def DotsEdgesUptoSaid : Prop := dotsEdgesUptoRow.holds Try.pinned (OpenSpec.upto dotsEdgesSpec)

/-- 'deaddroplaw7.DotsCount', WHERE WHAT IT READS IS OF BULK AT MOST 1048576: true; the input reads as it did. -/
def dotsCountUptoRow : OpenClaim := { program := "ytkibojoochlggaa", sum := "d18e1279b7b8e25ea8865c840f590c4067c2aad6a81d40b723e9c1d4f69f3e63", func := "deaddrop/deaddroplaw7.DotsCount", spec := "dotsCount", unfollowed := true, recurses := true, apart := false, narrowed := true }
def DotsCountUptoSaid : Prop := dotsCountUptoRow.holds Try.pinned (OpenSpec.upto dotsCountSpec)

/-- 'deaddroplaw7.DotsOne', WHERE WHAT IT READS IS OF BULK AT MOST 1048576: true; the input reads as it did. -/
def dotsOneUptoRow : OpenClaim := { program := "ytkibojoochlggaa", sum := "d18e1279b7b8e25ea8865c840f590c4067c2aad6a81d40b723e9c1d4f69f3e63", func := "deaddrop/deaddroplaw7.DotsOne", spec := "dotsOne", unfollowed := true, recurses := true, apart := false, narrowed := true }
def DotsOneUptoSaid : Prop := dotsOneUptoRow.holds Try.pinned (OpenSpec.upto dotsOneSpec)

end Rows
end Go.Proofs.Ytkibojoochlggaa
