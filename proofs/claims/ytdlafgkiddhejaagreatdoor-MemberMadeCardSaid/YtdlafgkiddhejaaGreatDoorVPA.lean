/- Stage 4's texts. -/
import Derived.Test.YtdlafgkiddhejaaGreatDoorVD
import Derived.Test.YtdlafgkiddhejaaGreatDoorVE
import Derived.Test.YtdlafgkiddhejaaGreatDoorVF
namespace Go.Proofs.YtdlafgkiddhejaaGreatDoor.Vw
end Go.Proofs.YtdlafgkiddhejaaGreatDoor.Vw
