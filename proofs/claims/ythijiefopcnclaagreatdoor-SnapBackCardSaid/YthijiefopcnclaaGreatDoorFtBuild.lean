/- A slice literal of one fact, in a frame however great. -/
import Derived.Great.Walk
import Derived.Test.YthijiefopcnclaaGreatDoorFtJoinW
namespace Go.Proofs.YthijiefopcnclaaGreatDoor.Dt
open Go Go.Proofs

theorem built_fact (x : Fc) : Tryz.prog.builtSlice 46 1 [(0, .agg #[.int .i64 x.d, .int .i64 x.n, .string x.key, .int .i64 x.kind, .string x.item, .int .i64 x.v])] = some #[.int .i64 x.d, .int .i64 x.n, .string x.key, .int .i64 x.kind, .string x.item, .int .i64 x.v] := by kernel_rfl

theorem build_fact {ops : Array Oper} {rest : List Oper} {o : Oper} {a : Act} {w : World} {Q : Exit → Act → World → Prop} (R : World → Prop) (x : Fc) (k : Nat) (hg : o.guard = none) (ho : o.op = .buildSlice 23 1 #[(0, .tmp k)])
    (N : Nat) (hN : w.heap.size = N) (dst : Option Tmp) (hdst : o.dst = dst) (hv : a.eval (.tmp k) = .agg #[.int .i64 x.d, .int .i64 x.n, .string x.key, .int .i64 x.kind, .string x.item, .int .i64 x.v])
    (hR : R (w.alloc (.cells #[.int .i64 x.d, .int .i64 x.n, .string x.key, .int .i64 x.kind, .string x.item, .int .i64 x.v] 46)))
    (h : ∀ W, R W → wpList Tryz.prog ops Q rest (a.put dst (.slice (some ⟨N, 0, none⟩) 1 1)) W) : wpList Tryz.prog ops Q (o :: rest) a w := by
  refine Great.wpList_buildSliceTo hg _ 46 1 _ ho N hN dst hdst Tryz.underlying23 #[.int .i64 x.d, .int .i64 x.n, .string x.key, .int .i64 x.kind, .string x.item, .int .i64 x.v] ?_ (h _ hR)
  simp only [List.map_toArray, List.map_cons, List.map_nil, hv]
  exact built_fact x
end Go.Proofs.YthijiefopcnclaaGreatDoor.Dt
