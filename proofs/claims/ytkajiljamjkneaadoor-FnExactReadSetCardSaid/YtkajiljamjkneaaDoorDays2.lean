/- Contracts of impl's functions that turn dates into days and days into dates. -/
import Derived.Test.YtkajiljamjkneaaDoorDays
namespace Go.Proofs.YtkajiljamjkneaaDoor
open Go.RowKit

end Go.Proofs.YtkajiljamjkneaaDoor
