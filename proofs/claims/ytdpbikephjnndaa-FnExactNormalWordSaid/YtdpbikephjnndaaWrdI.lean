/- Impl's contracts of stage 10, gathered. -/
import Derived.Test.YtdpbikephjnndaaWrdId
import Derived.Test.YtdpbikephjnndaaWrdIe
