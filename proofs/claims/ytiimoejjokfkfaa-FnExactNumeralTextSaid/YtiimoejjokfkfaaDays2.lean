/- Contracts of impl's functions that turn dates into days and days into dates. -/
import Derived.Test.YtiimoejjokfkfaaDays
namespace Go.Proofs.Ytiimoejjokfkfaa
open Go.RowKit

end Go.Proofs.Ytiimoejjokfkfaa
