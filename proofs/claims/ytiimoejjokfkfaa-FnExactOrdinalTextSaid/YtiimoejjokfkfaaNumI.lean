/- Contracts of impl's functions of numerals: gathered. -/
import Derived.Test.YtiimoejjokfkfaaNumIa
import Derived.Test.YtiimoejjokfkfaaNumIc
