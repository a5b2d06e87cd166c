/- Contracts of impl's functions that turn dates into days and days into dates. -/
import Derived.Test.YtdpbikephjnndaaDoorDays
namespace Go.Proofs.YtdpbikephjnndaaDoor
open Go.RowKit

end Go.Proofs.YtdpbikephjnndaaDoor
