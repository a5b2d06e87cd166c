/- Contracts of spec's and impl's LocalEaster. -/
import Derived.Test.YtegoiiconhgjbaaEasC
namespace Go.Proofs.Ytegoiiconhgjbaa.Eas
open Go.RowKit
open Go.Proofs.Ytegoiiconhgjbaa.Plc

end Go.Proofs.Ytegoiiconhgjbaa.Eas
