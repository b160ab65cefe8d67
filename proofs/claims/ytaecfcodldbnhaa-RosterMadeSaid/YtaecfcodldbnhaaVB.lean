/- errors.As at a fault, wrapped in however many items: closed facts, the loop, faultOf. strings.Clone: the library's own contract of stringslite.Clone, laid at this dump's numbers. -/
import Derived.Test.YtaecfcodldbnhaaVA
import Derived.LaidEql
import Derived.Stop.Asserts
import Derived.RowKitTokens
namespace Go.Proofs.Ytaecfcodldbnhaa
open Go.RowKit Wd Mm Vw Go.Extern.Stop Go.Stop Go.Extern

def inner : Value → Option Value
  | .iface _ (.agg cs) => cs[1]?
  | _ => none
def deepE : Nat → Value → Nat
  | 0, _ => 0
  | f + 1, v => match inner v with
    | some e => deepE f e + 1
    | none => 0
theorem one_method (z : Sem Value) (f : TypeId → Addr → Nat → Nat → Sem Value) (v : Value) :
    ReflectliteValue.method z f #[v] = (do match ← ReflectliteValue.parts v with | none => z | some (t, a, fl) => f t a fl (fl % 32)) := rfl
theorem set_of (v x : Value) : ReflectliteValue.set #[v, x] = (do
    let (some (dst, a, fl), some (src, b, _)) := (← ReflectliteValue.parts v, ← ReflectliteValue.parts x)
      | unsupported (.noEntry "extern/(internal/reflectlite.Value).Set.zeroValue")
    if fl / ReflectliteValue.flagAddr % 2 == 0 then unsupported (.noEntry "extern/(internal/reflectlite.Value).Set.unaddressable")
    let val ← loadVar src b
    if ← Rtype.directlyAssignable dst src then storeVar dst a val
    else if ← Rtype.implements dst src then
      if (← Rtype.kind src) == 20 then
        match val with
        | .nilIface => unsupported (.noEntry "extern/reflectlite: a nil value of one interface type handed on as a value of another")
        | _ => storeVar dst a val
      else storeVar dst a (.iface src val)
    else panicString ("reflectlite.Set: value of type " ++ (← Rtype.spelt src) ++ " is not assignable to type " ++ (← Rtype.spelt dst))
    pure (.tuple #[])) := rfl
/-- As found: the target's cell holds the fault. -/
def Found (tb : Nat) (k : Int) (w : World) (e : Ending) (w' : World) : Prop := e = .returned (.bool true) ∧ w.grownBy w' (some tb) ∧ w'.cell? ⟨tb, 0, none⟩ = some (.int .i64 k)
end Go.Proofs.Ytaecfcodldbnhaa

namespace Go.Proofs.Ytaecfcodldbnhaa
open Go.RowKit Wd Mm Vw

end Go.Proofs.Ytaecfcodldbnhaa
