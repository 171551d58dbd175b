/- Wrong of an error. -/
import Derived.Test.YtkdbmfgbokbnfaaGreatDoorWr
import Derived.Test.YtkdbmfgbokbnfaaGreatDoorFlt7
namespace Go.Proofs.YtkdbmfgbokbnfaaGreatDoor
open Go.RowKit

theorem wrong_any {w : World} {t : TypeId} {u : Value} {path : List ByteArray} {n : Option Int} (hg : TypeOfError w) (hv : ErrAt w (.iface t u) path n) (hl : path.length ≤ 20) (hs : ∀ x ∈ path, x.size ≤ 1000) :
    Calls Tryz.prog 10 #[.iface t u, .agg #[.int .i64 (n.getD 14), .string (atP path)]] w fun r w' => r = .returned (.bool true) ∧ Below w.heap.size w w' :=
  wrong_walk (Lib.hid fun _ hb => fPath_any (hg.later hb) (hv.later hb) (by omega)) (Lib.hid fun _ hb => fCode_any (hg.later hb) (hv.later hb)) hl hs
end Go.Proofs.YtkdbmfgbokbnfaaGreatDoor
