/- What is asked, plainly. -/
import Derived.Test.YtpkkeeblgbdfdaaEvP
namespace Go.Proofs.Ytpkkeeblgbdfdaa
open Go.RowKit

/-- An exchange of a session. -/
def exchP (s : Int) (x : EvV) : Bool := (x.se == s) && ((x.ki == 1) || (x.ki == 2))
/-- Must an event have a source, by the document? -/
def askedR (l : List EvV) (n : Nat) : Bool := match l[n]? with
  | none => false
  | some x => if x.ki = 5 then (match (l.take n).findIdx? (exchP x.se) with
      | some i => (match l[i]? with
        | some y => y.ki == 2 && safeB l i
        | none => false)
      | none => false) else safeB l n
end Go.Proofs.Ytpkkeeblgbdfdaa
