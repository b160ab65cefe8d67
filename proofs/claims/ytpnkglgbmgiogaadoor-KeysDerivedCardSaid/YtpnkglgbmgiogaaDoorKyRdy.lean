/- What the keys' package reads of package-level variables: sha's tables, hmac's errors, the library's powers of ten. -/
import Derived.Test.YtpnkglgbmgiogaaDoorHIs
import Derived.Test.YtpnkglgbmgiogaaDoorKyP
import Derived.Lib.AppendIntMem
namespace Go.Proofs.YtpnkglgbmgiogaaDoor.Ky
open Go.RowKit Wd Mm Hh Vw

def Rdy (w : World) : Prop := Tabs w ∧ Errs w ∧ Lib.TabIs Tryd.prog w "internal/strconv.uint64pow10" .u64 Lib.pow10Tab
theorem Rdy.keep {w w' : World} (h : Rdy w) (g : w.grownBy w' none) : Rdy w' :=
  ⟨h.1.keep g (by simp), h.2.1.keep g, ((Lib.tabBelow_of_tabIs h.2.2).on (below_of g)).here⟩
end Go.Proofs.YtpnkglgbmgiogaaDoor.Ky
