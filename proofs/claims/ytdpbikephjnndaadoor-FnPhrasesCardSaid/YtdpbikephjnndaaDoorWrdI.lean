/- Impl's contracts of stage 10, gathered. -/
import Derived.Test.YtdpbikephjnndaaDoorWrdId
import Derived.Test.YtdpbikephjnndaaDoorWrdIe
import Derived.Test.YtdpbikephjnndaaDoorWrdIf
