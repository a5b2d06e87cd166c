/- Contracts of impl's functions that turn dates into days and days into dates. -/
import Derived.Test.YtdpbikephjnndaaDays
namespace Go.Proofs.Ytdpbikephjnndaa
open Go.RowKit

end Go.Proofs.Ytdpbikephjnndaa
