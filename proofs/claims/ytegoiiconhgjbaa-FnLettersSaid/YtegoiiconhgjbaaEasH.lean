/- The contract of impl's LocalEaster. -/
import Derived.Test.YtegoiiconhgjbaaEasG
import Derived.Deep.RegionHeld3
namespace Go.Proofs.Ytegoiiconhgjbaa.Eas
open Go.RowKit
open Go.Proofs.Ytegoiiconhgjbaa.Plc

theorem _root_.Go.Proofs.Ytegoiiconhgjbaa.St.cal {g : Nat} {t : TypeId} {R : Int} {L : List (Nat × TypeId × Array Value)} {w0 w : World} (h : St ((g, t, #[.int .i64 R]) :: L) w0 w) : w.cell? ⟨g, 0, none⟩ = some (.int .i64 R) ∧ St ((g, t, #[.int .i64 R]) :: L) w0 w := ⟨h.b0.cell 0, h⟩
theorem _root_.Go.Proofs.Ytegoiiconhgjbaa.St.drew {L : List (Nat × TypeId × Array Value)} {w0 w : World} (h : St L w0 w) : St L w0 w.drew := h.call (Below.refl _ _).drew

end Go.Proofs.Ytegoiiconhgjbaa.Eas
