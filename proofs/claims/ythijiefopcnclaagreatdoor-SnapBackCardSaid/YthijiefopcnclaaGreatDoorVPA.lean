/- Stage 4's texts. -/
import Derived.Test.YthijiefopcnclaaGreatDoorVD
import Derived.Test.YthijiefopcnclaaGreatDoorVE
import Derived.Test.YthijiefopcnclaaGreatDoorVF
namespace Go.Proofs.YthijiefopcnclaaGreatDoor.Vw
end Go.Proofs.YthijiefopcnclaaGreatDoor.Vw
