/- Contracts of impl's functions that turn dates into days and days into dates. -/
import Derived.Test.YtkajiljamjkneaaGreatDoorDays
namespace Go.Proofs.YtkajiljamjkneaaGreatDoor
open Go.RowKit

end Go.Proofs.YtkajiljamjkneaaGreatDoor
