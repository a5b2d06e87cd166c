/- Contracts of impl's functions that turn dates into days and days into dates. -/
import Derived.Test.YtigjpalbaapkkaaGreatDoorDays
namespace Go.Proofs.YtigjpalbaapkkaaGreatDoor
open Go.RowKit

end Go.Proofs.YtigjpalbaapkkaaGreatDoor
