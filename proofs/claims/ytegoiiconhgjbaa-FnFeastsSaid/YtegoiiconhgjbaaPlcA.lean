/- Whether impl's calendar of a place is valid. -/
import Derived.Test.YtegoiiconhgjbaaDaysE
import Derived.Test.YtegoiiconhgjbaaLoc
import Derived.Deep.RegionWith
namespace Go.Proofs.Ytegoiiconhgjbaa.Plc
open Go.RowKit

def icB (R : Int) : Bool := decide (Loc.isCal R)

end Go.Proofs.Ytegoiiconhgjbaa.Plc
