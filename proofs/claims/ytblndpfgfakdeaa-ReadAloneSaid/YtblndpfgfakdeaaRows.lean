/-
  No cell of these rows narrows 'for every input' (looked for: loops, veiled, ifaces, maps, wideKeys, modest, calm, conditions, laid).
  DERIVED. THE GIVEN ROWS OF THIS SEAT. 12 by the template 'for every input the law returns true; each argument reads behind the call as it read before'; 0 by the template 'total and deterministic' (their statements: YtblndpfgfakdeaaTotals.lean).
  GIVEN WITH THE SEED: the statements are not yours to turn. If you find one false, say at which input.
  Laid BY PROGRAM, IN A SANDBOX (cutbox-rows.mjs): the forced cells as the released guide's own fill.sh prints them over the translation 5d9d932280f4012d… (all of the seat's roots in one cut). By AI agents, Wed Nov 11 2026. No macro, syntax, notation, axiom, sorry.
-/
import Derived.Test.YtblndpfgfakdeaaChecked
import GoSem.Claim
import GoSem.ClaimJoined
import GoSem.ClaimMapViews
import Derived.JoinedTies
import Derived.KernelRfl
namespace Go.Proofs.Ytblndpfgfakdeaa
/- THE CELL 'sum', in the pinned program and in every row, IS THE sha256 OF THE DUMP (.gsa) THAT YtblndpfgfakdeaaProg.lean LOADS. Nothing in Lean hashes anything: it is a label: what it is worth is what the hold of that sum in a sandbox is worth. -/
noncomputable def Try.pinned : Pinned := { name := "ytblndpfgfakdeaa", sum := "5d9d932280f4012d2c165523b2a1a5d2b58f5df16bd5b9d8d8d1284225fba279", checked := Try.checked }
namespace Rows
def none {H : Type} : Left H := { results := [], args := [] }

/-- 'deaddroplaw8.FactsMade': WHATEVER THE INPUT: true; the input reads as it did. -/
def factsMadeSpec : ChangeSpec := { name := "factsMade", fn := fun _ => fun
  | [d1, d2, d3, d4, d5] => { results := [.lit (.bool true)], args := [d1, d2, d3, d4, d5] }
  | _ => none }
def factsMadeRow : OpenClaim := { program := "ytblndpfgfakdeaa", sum := "5d9d932280f4012d2c165523b2a1a5d2b58f5df16bd5b9d8d8d1284225fba279", func := "deaddrop/deaddroplaw8.FactsMade", spec := "factsMade", unfollowed := true, recurses := true, apart := false }
def FactsMadeSaid : Prop := factsMadeRow.holds Try.pinned (OpenSpec.ofChange factsMadeSpec)

/-- ITS FALSE NEIGHBOUR: 'it returns false'. Refute it at one input. -/
def factsMadeWrong : ChangeSpec := { name := "factsMade", fn := fun _ => fun
  | [d1, d2, d3, d4, d5] => { results := [.lit (.bool false)], args := [d1, d2, d3, d4, d5] }
  | _ => none }
def FactsMadeWrongFalsely : Prop := factsMadeRow.holds Try.pinned (OpenSpec.ofChange factsMadeWrong)

/-- 'deaddroplaw8.FactsFound': WHATEVER THE INPUT: true; the input reads as it did. -/
def factsFoundSpec : ChangeSpec := { name := "factsFound", fn := fun _ => fun
  | [d1, d2] => { results := [.lit (.bool true)], args := [d1, d2] }
  | _ => none }
def factsFoundRow : OpenClaim := { program := "ytblndpfgfakdeaa", sum := "5d9d932280f4012d2c165523b2a1a5d2b58f5df16bd5b9d8d8d1284225fba279", func := "deaddrop/deaddroplaw8.FactsFound", spec := "factsFound", unfollowed := true, recurses := true, apart := false }
def FactsFoundSaid : Prop := factsFoundRow.holds Try.pinned (OpenSpec.ofChange factsFoundSpec)

/-- ITS FALSE NEIGHBOUR: 'it returns false'. Refute it at one input. -/
def factsFoundWrong : ChangeSpec := { name := "factsFound", fn := fun _ => fun
  | [d1, d2] => { results := [.lit (.bool false)], args := [d1, d2] }
  | _ => none }
def FactsFoundWrongFalsely : Prop := factsFoundRow.holds Try.pinned (OpenSpec.ofChange factsFoundWrong)

/-- 'deaddroplaw8.FactsMay': WHATEVER THE INPUT: true; the input reads as it did. -/
def factsMaySpec : ChangeSpec := { name := "factsMay", fn := fun _ => fun
  | [d1, d2] => { results := [.lit (.bool true)], args := [d1, d2] }
  | _ => none }
def factsMayRow : OpenClaim := { program := "ytblndpfgfakdeaa", sum := "5d9d932280f4012d2c165523b2a1a5d2b58f5df16bd5b9d8d8d1284225fba279", func := "deaddrop/deaddroplaw8.FactsMay", spec := "factsMay", unfollowed := true, recurses := true, apart := false }
def FactsMaySaid : Prop := factsMayRow.holds Try.pinned (OpenSpec.ofChange factsMaySpec)

/-- ITS FALSE NEIGHBOUR: 'it returns false'. Refute it at one input. -/
def factsMayWrong : ChangeSpec := { name := "factsMay", fn := fun _ => fun
  | [d1, d2] => { results := [.lit (.bool false)], args := [d1, d2] }
  | _ => none }
def FactsMayWrongFalsely : Prop := factsMayRow.holds Try.pinned (OpenSpec.ofChange factsMayWrong)

/-- 'deaddroplaw9.JoinMade': WHATEVER THE INPUT: true; the input reads as it did. -/
def joinMadeSpec : ChangeSpec := { name := "joinMade", fn := fun _ => fun
  | [d1, d2, d3] => { results := [.lit (.bool true)], args := [d1, d2, d3] }
  | _ => none }
def joinMadeRow : OpenClaim := { program := "ytblndpfgfakdeaa", sum := "5d9d932280f4012d2c165523b2a1a5d2b58f5df16bd5b9d8d8d1284225fba279", func := "deaddrop/deaddroplaw9.JoinMade", spec := "joinMade", unfollowed := true, recurses := true, apart := false }
def JoinMadeSaid : Prop := joinMadeRow.holds Try.pinned (OpenSpec.ofChange joinMadeSpec)

/-- ITS FALSE NEIGHBOUR: 'it returns false'. Refute it at one input. -/
def joinMadeWrong : ChangeSpec := { name := "joinMade", fn := fun _ => fun
  | [d1, d2, d3] => { results := [.lit (.bool false)], args := [d1, d2, d3] }
  | _ => none }
def JoinMadeWrongFalsely : Prop := joinMadeRow.holds Try.pinned (OpenSpec.ofChange joinMadeWrong)

/-- 'deaddroplaw9.JoinLaws': WHATEVER THE INPUT: true; the input reads as it did. -/
def joinLawsSpec : ChangeSpec := { name := "joinLaws", fn := fun _ => fun
  | [d] => { results := [.lit (.bool true)], args := [d] }
  | _ => none }
def joinLawsRow : OpenClaim := { program := "ytblndpfgfakdeaa", sum := "5d9d932280f4012d2c165523b2a1a5d2b58f5df16bd5b9d8d8d1284225fba279", func := "deaddrop/deaddroplaw9.JoinLaws", spec := "joinLaws", unfollowed := true, recurses := true, apart := false }
def JoinLawsSaid : Prop := joinLawsRow.holds Try.pinned (OpenSpec.ofChange joinLawsSpec)

/-- ITS FALSE NEIGHBOUR: 'it returns false'. Refute it at one input. -/
def joinLawsWrong : ChangeSpec := { name := "joinLaws", fn := fun _ => fun
  | [d] => { results := [.lit (.bool false)], args := [d] }
  | _ => none }
def JoinLawsWrongFalsely : Prop := joinLawsRow.holds Try.pinned (OpenSpec.ofChange joinLawsWrong)

/-- 'deaddroplaw9.JoinDots': WHATEVER THE INPUT: true; the input reads as it did. -/
def joinDotsSpec : ChangeSpec := { name := "joinDots", fn := fun _ => fun
  | [d] => { results := [.lit (.bool true)], args := [d] }
  | _ => none }
def joinDotsRow : OpenClaim := { program := "ytblndpfgfakdeaa", sum := "5d9d932280f4012d2c165523b2a1a5d2b58f5df16bd5b9d8d8d1284225fba279", func := "deaddrop/deaddroplaw9.JoinDots", spec := "joinDots", unfollowed := true, recurses := true, apart := false }
def JoinDotsSaid : Prop := joinDotsRow.holds Try.pinned (OpenSpec.ofChange joinDotsSpec)

/-- ITS FALSE NEIGHBOUR: 'it returns false'. Refute it at one input. -/
def joinDotsWrong : ChangeSpec := { name := "joinDots", fn := fun _ => fun
  | [d] => { results := [.lit (.bool false)], args := [d] }
  | _ => none }
def JoinDotsWrongFalsely : Prop := joinDotsRow.holds Try.pinned (OpenSpec.ofChange joinDotsWrong)

/-- 'deaddroplaw9.JoinRounds': WHATEVER THE INPUT: true; the input reads as it did. -/
def joinRoundsSpec : ChangeSpec := { name := "joinRounds", fn := fun _ => fun
  | [d1, d2] => { results := [.lit (.bool true)], args := [d1, d2] }
  | _ => none }
def joinRoundsRow : OpenClaim := { program := "ytblndpfgfakdeaa", sum := "5d9d932280f4012d2c165523b2a1a5d2b58f5df16bd5b9d8d8d1284225fba279", func := "deaddrop/deaddroplaw9.JoinRounds", spec := "joinRounds", unfollowed := true, recurses := true, apart := false }
def JoinRoundsSaid : Prop := joinRoundsRow.holds Try.pinned (OpenSpec.ofChange joinRoundsSpec)

/-- ITS FALSE NEIGHBOUR: 'it returns false'. Refute it at one input. -/
def joinRoundsWrong : ChangeSpec := { name := "joinRounds", fn := fun _ => fun
  | [d1, d2] => { results := [.lit (.bool false)], args := [d1, d2] }
  | _ => none }
def JoinRoundsWrongFalsely : Prop := joinRoundsRow.holds Try.pinned (OpenSpec.ofChange joinRoundsWrong)

/-- 'deaddroplaw9.JoinSeen': WHATEVER THE INPUT: true; the input reads as it did. -/
def joinSeenSpec : ChangeSpec := { name := "joinSeen", fn := fun _ => fun
  | [d1, d2] => { results := [.lit (.bool true)], args := [d1, d2] }
  | _ => none }
def joinSeenRow : OpenClaim := { program := "ytblndpfgfakdeaa", sum := "5d9d932280f4012d2c165523b2a1a5d2b58f5df16bd5b9d8d8d1284225fba279", func := "deaddrop/deaddroplaw9.JoinSeen", spec := "joinSeen", unfollowed := true, recurses := true, apart := false }
def JoinSeenSaid : Prop := joinSeenRow.holds Try.pinned (OpenSpec.ofChange joinSeenSpec)

/-- ITS FALSE NEIGHBOUR: 'it returns false'. Refute it at one input. -/
def joinSeenWrong : ChangeSpec := { name := "joinSeen", fn := fun _ => fun
  | [d1, d2] => { results := [.lit (.bool false)], args := [d1, d2] }
  | _ => none }
def JoinSeenWrongFalsely : Prop := joinSeenRow.holds Try.pinned (OpenSpec.ofChange joinSeenWrong)

/-- 'deaddroplaw10.ReadAll': WHATEVER THE INPUT: true; the input reads as it did. -/
def readAllSpec : ChangeSpec := { name := "readAll", fn := fun _ => fun
  | [d1, d2] => { results := [.lit (.bool true)], args := [d1, d2] }
  | _ => none }
def readAllRow : OpenClaim := { program := "ytblndpfgfakdeaa", sum := "5d9d932280f4012d2c165523b2a1a5d2b58f5df16bd5b9d8d8d1284225fba279", func := "deaddrop/deaddroplaw10.ReadAll", spec := "readAll", recurses := true, apart := false }
def ReadAllSaid : Prop := readAllRow.holds Try.pinned (OpenSpec.ofChange readAllSpec)

/-- ITS FALSE NEIGHBOUR: 'it returns false'. Refute it at one input. -/
def readAllWrong : ChangeSpec := { name := "readAll", fn := fun _ => fun
  | [d1, d2] => { results := [.lit (.bool false)], args := [d1, d2] }
  | _ => none }
def ReadAllWrongFalsely : Prop := readAllRow.holds Try.pinned (OpenSpec.ofChange readAllWrong)

/-- 'deaddroplaw10.ReadMade': WHATEVER THE INPUT: true; the input reads as it did. -/
def readMadeSpec : ChangeSpec := { name := "readMade", fn := fun _ => fun
  | [d1, d2, d3] => { results := [.lit (.bool true)], args := [d1, d2, d3] }
  | _ => none }
def readMadeRow : OpenClaim := { program := "ytblndpfgfakdeaa", sum := "5d9d932280f4012d2c165523b2a1a5d2b58f5df16bd5b9d8d8d1284225fba279", func := "deaddrop/deaddroplaw10.ReadMade", spec := "readMade", recurses := true, apart := false }
def ReadMadeSaid : Prop := readMadeRow.holds Try.pinned (OpenSpec.ofChange readMadeSpec)

/-- ITS FALSE NEIGHBOUR: 'it returns false'. Refute it at one input. -/
def readMadeWrong : ChangeSpec := { name := "readMade", fn := fun _ => fun
  | [d1, d2, d3] => { results := [.lit (.bool false)], args := [d1, d2, d3] }
  | _ => none }
def ReadMadeWrongFalsely : Prop := readMadeRow.holds Try.pinned (OpenSpec.ofChange readMadeWrong)

/-- 'deaddroplaw10.ReadAlone': WHATEVER THE INPUT: true; the input reads as it did. -/
def readAloneSpec : ChangeSpec := { name := "readAlone", fn := fun _ => fun
  | [d] => { results := [.lit (.bool true)], args := [d] }
  | _ => none }
def readAloneRow : OpenClaim := { program := "ytblndpfgfakdeaa", sum := "5d9d932280f4012d2c165523b2a1a5d2b58f5df16bd5b9d8d8d1284225fba279", func := "deaddrop/deaddroplaw10.ReadAlone", spec := "readAlone", recurses := true, apart := false }
def ReadAloneSaid : Prop := readAloneRow.holds Try.pinned (OpenSpec.ofChange readAloneSpec)

/-- ITS FALSE NEIGHBOUR: 'it returns false'. Refute it at one input. -/
def readAloneWrong : ChangeSpec := { name := "readAlone", fn := fun _ => fun
  | [d] => { results := [.lit (.bool false)], args := [d] }
  | _ => none }
def ReadAloneWrongFalsely : Prop := readAloneRow.holds Try.pinned (OpenSpec.ofChange readAloneWrong)

/-- 'deaddroplaw10.ReadSum': WHATEVER THE INPUT: true; the input reads as it did. -/
def readSumSpec : ChangeSpec := { name := "readSum", fn := fun _ => fun
  | [d1, d2] => { results := [.lit (.bool true)], args := [d1, d2] }
  | _ => none }
def readSumRow : OpenClaim := { program := "ytblndpfgfakdeaa", sum := "5d9d932280f4012d2c165523b2a1a5d2b58f5df16bd5b9d8d8d1284225fba279", func := "deaddrop/deaddroplaw10.ReadSum", spec := "readSum", recurses := true, apart := false }
def ReadSumSaid : Prop := readSumRow.holds Try.pinned (OpenSpec.ofChange readSumSpec)

/-- ITS FALSE NEIGHBOUR: 'it returns false'. Refute it at one input. -/
def readSumWrong : ChangeSpec := { name := "readSum", fn := fun _ => fun
  | [d1, d2] => { results := [.lit (.bool false)], args := [d1, d2] }
  | _ => none }
def ReadSumWrongFalsely : Prop := readSumRow.holds Try.pinned (OpenSpec.ofChange readSumWrong)

/- THE SECOND FORM. 'bulk': how many values and letters a reading holds, each counted each time it is reached (what is shared counts as often as it is met; a slice's spare places count too). A statement '..UptoSaid' is the law's where the arguments, and the package variables that the reading takes, are together of bulk at most 1048576: NARROWER than '..Said'. Prove '..Said' where nothing that the law and all that it calls make is longer than what came in: it says more and counts as full. Else prove '..UptoSaid'. A law counts once. -/
mutual
def uptoBulk {H : Type} : DataW H → Nat
  | .lit (.string bytes) => bytes.length + 1
  | .lit _ => 1
  | .nil => 1
  | .ptr d => uptoBulk d + 1
  | .slice elems spare => uptoBulkAll elems + uptoBulkAll spare + 1
  | .agg parts => uptoBulkAll parts + 1
  | .iface _ d => uptoBulk d + 1
  | .map entries => uptoBulkEntries entries + 1
  | .held _ => 1
def uptoBulkAll {H : Type} : List (DataW H) → Nat
  | [] => 0
  | d :: r => uptoBulk d + uptoBulkAll r
def uptoBulkEntries {H : Type} : List (Lit × DataW H) → Nat
  | [] => 0
  | x :: r => uptoBulkEntry x + uptoBulkEntries r
def uptoBulkEntry {H : Type} : Lit × DataW H → Nat
  | (.string bytes, d) => bytes.length + uptoBulk d + 1
  | (_, d) => uptoBulk d + 1
 end
def uptoSmall : (H : Type) → List (DataW H) → Bool := fun _ ds => decide (uptoBulkAll ds ≤ 1048576)
def OpenSpec.upto (s : _root_.Go.ChangeSpec) : _root_.Go.OpenSpec := { _root_.Go.OpenSpec.ofChange s with cond := some uptoSmall }

/-- 'deaddroplaw8.FactsMade', WHERE WHAT IT READS IS OF BULK AT MOST 1048576: true; the input reads as it did. -/
def factsMadeUptoRow : OpenClaim := { program := "ytblndpfgfakdeaa", sum := "5d9d932280f4012d2c165523b2a1a5d2b58f5df16bd5b9d8d8d1284225fba279", func := "deaddrop/deaddroplaw8.FactsMade", spec := "factsMade", unfollowed := true, recurses := true, apart := false, narrowed := true }
def FactsMadeUptoSaid : Prop := factsMadeUptoRow.holds Try.pinned (OpenSpec.upto factsMadeSpec)

/-- 'deaddroplaw8.FactsFound', WHERE WHAT IT READS IS OF BULK AT MOST 1048576: true; the input reads as it did. -/
def factsFoundUptoRow : OpenClaim := { program := "ytblndpfgfakdeaa", sum := "5d9d932280f4012d2c165523b2a1a5d2b58f5df16bd5b9d8d8d1284225fba279", func := "deaddrop/deaddroplaw8.FactsFound", spec := "factsFound", unfollowed := true, recurses := true, apart := false, narrowed := true }
def FactsFoundUptoSaid : Prop := factsFoundUptoRow.holds Try.pinned (OpenSpec.upto factsFoundSpec)

/-- 'deaddroplaw8.FactsMay', WHERE WHAT IT READS IS OF BULK AT MOST 1048576: true; the input reads as it did. -/
def factsMayUptoRow : OpenClaim := { program := "ytblndpfgfakdeaa", sum := "5d9d932280f4012d2c165523b2a1a5d2b58f5df16bd5b9d8d8d1284225fba279", func := "deaddrop/deaddroplaw8.FactsMay", spec := "factsMay", unfollowed := true, recurses := true, apart := false, narrowed := true }
def FactsMayUptoSaid : Prop := factsMayUptoRow.holds Try.pinned (OpenSpec.upto factsMaySpec)

/-- 'deaddroplaw9.JoinMade', WHERE WHAT IT READS IS OF BULK AT MOST 1048576: true; the input reads as it did. -/
def joinMadeUptoRow : OpenClaim := { program := "ytblndpfgfakdeaa", sum := "5d9d932280f4012d2c165523b2a1a5d2b58f5df16bd5b9d8d8d1284225fba279", func := "deaddrop/deaddroplaw9.JoinMade", spec := "joinMade", unfollowed := true, recurses := true, apart := false, narrowed := true }
def JoinMadeUptoSaid : Prop := joinMadeUptoRow.holds Try.pinned (OpenSpec.upto joinMadeSpec)

/-- 'deaddroplaw9.JoinLaws', WHERE WHAT IT READS IS OF BULK AT MOST 1048576: true; the input reads as it did. -/
def joinLawsUptoRow : OpenClaim := { program := "ytblndpfgfakdeaa", sum := "5d9d932280f4012d2c165523b2a1a5d2b58f5df16bd5b9d8d8d1284225fba279", func := "deaddrop/deaddroplaw9.JoinLaws", spec := "joinLaws", unfollowed := true, recurses := true, apart := false, narrowed := true }
def JoinLawsUptoSaid : Prop := joinLawsUptoRow.holds Try.pinned (OpenSpec.upto joinLawsSpec)

/-- 'deaddroplaw9.JoinDots', WHERE WHAT IT READS IS OF BULK AT MOST 1048576: true; the input reads as it did. -/
def joinDotsUptoRow : OpenClaim := { program := "ytblndpfgfakdeaa", sum := "5d9d932280f4012d2c165523b2a1a5d2b58f5df16bd5b9d8d8d1284225fba279", func := "deaddrop/deaddroplaw9.JoinDots", spec := "joinDots", unfollowed := true, recurses := true, apart := false, narrowed := true }
def JoinDotsUptoSaid : Prop := joinDotsUptoRow.holds Try.pinned (OpenSpec.upto joinDotsSpec)

/-- 'deaddroplaw9.JoinRounds', WHERE WHAT IT READS IS OF BULK AT MOST 1048576: true; the input reads as it did. -/
def joinRoundsUptoRow : OpenClaim := { program := "ytblndpfgfakdeaa", sum := "5d9d932280f4012d2c165523b2a1a5d2b58f5df16bd5b9d8d8d1284225fba279", func := "deaddrop/deaddroplaw9.JoinRounds", spec := "joinRounds", unfollowed := true, recurses := true, apart := false, narrowed := true }
def JoinRoundsUptoSaid : Prop := joinRoundsUptoRow.holds Try.pinned (OpenSpec.upto joinRoundsSpec)

/-- 'deaddroplaw9.JoinSeen', WHERE WHAT IT READS IS OF BULK AT MOST 1048576: true; the input reads as it did. -/
def joinSeenUptoRow : OpenClaim := { program := "ytblndpfgfakdeaa", sum := "5d9d932280f4012d2c165523b2a1a5d2b58f5df16bd5b9d8d8d1284225fba279", func := "deaddrop/deaddroplaw9.JoinSeen", spec := "joinSeen", unfollowed := true, recurses := true, apart := false, narrowed := true }
def JoinSeenUptoSaid : Prop := joinSeenUptoRow.holds Try.pinned (OpenSpec.upto joinSeenSpec)

/-- 'deaddroplaw10.ReadAll', WHERE WHAT IT READS IS OF BULK AT MOST 1048576: true; the input reads as it did. -/
def readAllUptoRow : OpenClaim := { program := "ytblndpfgfakdeaa", sum := "5d9d932280f4012d2c165523b2a1a5d2b58f5df16bd5b9d8d8d1284225fba279", func := "deaddrop/deaddroplaw10.ReadAll", spec := "readAll", recurses := true, apart := false, narrowed := true }
def ReadAllUptoSaid : Prop := readAllUptoRow.holds Try.pinned (OpenSpec.upto readAllSpec)

/-- 'deaddroplaw10.ReadMade', WHERE WHAT IT READS IS OF BULK AT MOST 1048576: true; the input reads as it did. -/
def readMadeUptoRow : OpenClaim := { program := "ytblndpfgfakdeaa", sum := "5d9d932280f4012d2c165523b2a1a5d2b58f5df16bd5b9d8d8d1284225fba279", func := "deaddrop/deaddroplaw10.ReadMade", spec := "readMade", recurses := true, apart := false, narrowed := true }
def ReadMadeUptoSaid : Prop := readMadeUptoRow.holds Try.pinned (OpenSpec.upto readMadeSpec)

/-- 'deaddroplaw10.ReadAlone', WHERE WHAT IT READS IS OF BULK AT MOST 1048576: true; the input reads as it did. -/
def readAloneUptoRow : OpenClaim := { program := "ytblndpfgfakdeaa", sum := "5d9d932280f4012d2c165523b2a1a5d2b58f5df16bd5b9d8d8d1284225fba279", func := "deaddrop/deaddroplaw10.ReadAlone", spec := "readAlone", recurses := true, apart := false, narrowed := true }
def ReadAloneUptoSaid : Prop := readAloneUptoRow.holds Try.pinned (OpenSpec.upto readAloneSpec)

/-- 'deaddroplaw10.ReadSum', WHERE WHAT IT READS IS OF BULK AT MOST 1048576: true; the input reads as it did. -/
def readSumUptoRow : OpenClaim := { program := "ytblndpfgfakdeaa", sum := "5d9d932280f4012d2c165523b2a1a5d2b58f5df16bd5b9d8d8d1284225fba279", func := "deaddrop/deaddroplaw10.ReadSum", spec := "readSum", recurses := true, apart := false, narrowed := true }
def ReadSumUptoSaid : Prop := readSumUptoRow.holds Try.pinned (OpenSpec.upto readSumSpec)

end Rows
end Go.Proofs.Ytblndpfgfakdeaa
