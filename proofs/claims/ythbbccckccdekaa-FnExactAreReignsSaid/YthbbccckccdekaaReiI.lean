/- impl's contracts of reigns, all of them but RegnalText. -/
import Derived.Test.YthbbccckccdekaaReiIh
import Derived.Test.YthbbccckccdekaaReiIf
namespace Go.Proofs.Ythbbccckccdekaa.Rei

end Go.Proofs.Ythbbccckccdekaa.Rei
