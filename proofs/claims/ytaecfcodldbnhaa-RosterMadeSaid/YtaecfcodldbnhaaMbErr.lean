/- An error of one's own that wraps another one: what errors.Is says of it. Written by gen_err.py. -/
import Derived.Test.YtaecfcodldbnhaaSn
import Derived.Deep.OwnRows
import Derived.LaidEql
import Derived.Stop.Asserts
import Derived.RowKitTokens
import Derived.Lib.Hide
namespace Go.Proofs.Ytaecfcodldbnhaa.Me
open Go Go.RowKit Go.Proofs.Ytaecfcodldbnhaa.Wd Go.Proofs.Ytaecfcodldbnhaa.Mm Go.Proofs.Ytaecfcodldbnhaa.Sn

/-- What the model answers for Comparable. -/
def compX : Array Value → Sem Value := Extern.ReflectliteType.method fun t => do Extern.Rtype.noPackHeld "Comparable" t; pure (.bool (← typeInfo t).comparable)
end Go.Proofs.Ytaecfcodldbnhaa.Me
