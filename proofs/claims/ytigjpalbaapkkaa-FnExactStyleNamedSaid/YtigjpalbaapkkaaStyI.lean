/- Contracts of impl's styles of the year, gathered. -/
import Derived.Test.YtigjpalbaapkkaaStyIe
import Derived.Test.YtigjpalbaapkkaaStyIf
