/- Contract of impl's distance of two words: two rows that are exchanged. -/
import Derived.Test.YtdpbikephjnndaaDoorWrdIa
import Derived.Test.YtdpbikephjnndaaDoorArr
import Derived.BigRegion
namespace Go.Proofs.YtdpbikephjnndaaDoor.Wrd
open Go.RowKit
open Go.Proofs.YtdpbikephjnndaaDoor.Arr

end Go.Proofs.YtdpbikephjnndaaDoor.Wrd
