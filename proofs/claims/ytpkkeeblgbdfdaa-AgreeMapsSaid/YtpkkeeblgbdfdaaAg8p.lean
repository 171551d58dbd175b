/- Sources, plainly. -/
import Derived.Test.YtpkkeeblgbdfdaaAg7p
import Derived.Test.YtpkkeeblgbdfdaaEvQ
namespace Go.Proofs.Ytpkkeeblgbdfdaa
open Go.RowKit

/-- Is an event (y) one that another (x) may come from? -/
def srcB (x y : EvV) : Bool := ((x.ki == 2) && ((y.ki == 1) && ((y.wh == x.wh) && decide (y.dn = x.dn)))) || (((x.ki == 4) && ((y.ki == 3) && sameB y x)) || ((x.ki == 5) && ((y.ki == 4) && sameB y x)))
set_option maxRecDepth 100000 in
theorem guardDone32 : Try.prog.eqGuardType Try.prog.depth 35 = false := by kernel_rfl
end Go.Proofs.Ytpkkeeblgbdfdaa
