/- All contracts of impl's feasts. -/
import Derived.Test.YtegoiiconhgjbaaFeaIh
import Derived.Test.YtegoiiconhgjbaaFeaIi
