/- Stage 4's texts. -/
import Derived.Test.YtaecfcodldbnhaaVD
import Derived.Test.YtaecfcodldbnhaaVE
import Derived.Test.YtaecfcodldbnhaaVF
namespace Go.Proofs.Ytaecfcodldbnhaa.Vw
end Go.Proofs.Ytaecfcodldbnhaa.Vw
