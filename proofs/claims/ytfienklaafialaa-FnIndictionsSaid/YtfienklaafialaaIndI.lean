/- Contracts of impl's indictions and marks of years, all of them. -/
import Derived.Test.YtfienklaafialaaIndIb
import Derived.Test.YtfienklaafialaaIndId
namespace Go.Proofs.Ytfienklaafialaa.Ind
open Go.RowKit

/-- All are there. -/
theorem impl_all (k i f t : Int) (w : World) : Calls Try.prog 18 #[.int .i64 k, .int .i64 i, .int .i64 f, .int .i64 t] w (Sets.SetOut (idL k i f t) (idE k i f t) w) := impl_IndictionDays k i f t w

end Go.Proofs.Ytfienklaafialaa.Ind
