/- Contracts of impl's functions that turn dates into days and days into dates. -/
import Derived.Test.YtiimoejjokfkfaaDoorDays
namespace Go.Proofs.YtiimoejjokfkfaaDoor
open Go.RowKit

end Go.Proofs.YtiimoejjokfkfaaDoor
