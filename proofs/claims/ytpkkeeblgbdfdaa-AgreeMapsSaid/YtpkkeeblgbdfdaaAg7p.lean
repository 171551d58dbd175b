/- The same user, plainly. -/
import Derived.Test.YtpkkeeblgbdfdaaAg2
namespace Go.Proofs.Ytpkkeeblgbdfdaa
open Go.RowKit

/-- Do two events tell the same of a user? -/
def sameB (x y : EvV) : Bool := (x.wh == y.wh) && ((x.us.toList == y.us.toList) && ((x.sv.toList == y.sv.toList) && ((x.al.toList == y.al.toList) && (x.sid == y.sid))))
end Go.Proofs.Ytpkkeeblgbdfdaa
