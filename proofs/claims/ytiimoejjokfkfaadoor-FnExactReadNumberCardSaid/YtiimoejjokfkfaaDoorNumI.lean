/- Contracts of impl's functions of numerals: gathered. -/
import Derived.Test.YtiimoejjokfkfaaDoorNumIa
import Derived.Test.YtiimoejjokfkfaaDoorNumIc
import Derived.Test.YtiimoejjokfkfaaDoorNumId
