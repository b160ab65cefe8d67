/- Errors made by errors.New: two of them are different pointers. -/
import Derived.Test.YtaecfcodldbnhaaBase
import Derived.LaidEql
namespace Go.Proofs.Ytaecfcodldbnhaa.Sn
open Go Go.RowKit Go.Proofs.Ytaecfcodldbnhaa.Wd Go.Proofs.Ytaecfcodldbnhaa.Mm

theorem same {w : World} {g : Nat} {a b : Addr} {t : TypeId} (h1 : w.cell? ⟨g, 0, none⟩ = some (.iface t (.pointer (some a)))) (h2 : w.cell? ⟨g, 0, none⟩ = some (.iface t (.pointer (some b)))) : a = b := by
  have := h1.symm.trans h2
  simpa using this
end Go.Proofs.Ytaecfcodldbnhaa.Sn
