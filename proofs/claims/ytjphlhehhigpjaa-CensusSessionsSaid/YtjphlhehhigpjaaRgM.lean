/- A map is written to in a drawn region. -/
import Derived.Test.YtjphlhehhigpjaaRgH
import Derived.Test.YtjphlhehhigpjaaAg4p
namespace Go.Proofs.Ytjphlhehhigpjaa
open Go.RowKit Go.Maps Go.WideMaps

section
variable {P : Program} {Q : Exit → Act → World → Prop} {S : World → Prop} {L : List Oper} {O : Array Oper} {fuel i : Nat} {o : Oper} {listed : Array Bool} {a : Act} {w : World}
theorem wp_put {t : TypeId} {b n : Nat} {f : Lit → Option Value} {K : Act → World → Prop} (m x v : Operand) (mt : TypeId) (hop : o.op = Op.mapUpdate mt m x v) {e : TypeId}
    (h : MapF w P t b n f) (H : Keyed P t) (ht : P.underlying mt = some (.map t e)) (hn : n < maxLen) (hm : a.eval m = .map (some b)) (key val : Value) (kl : Lit) (hx : a.eval x = key) (hv : a.eval v = val) (hk : keyOf P t key = some kl)
    (hK : ∀ w', MapF w' P t b (n + 1) (putF f kl val) → w.grownBy w' (some b) → K (a.put o.dst undef) w') : Oper.wp P o a w K Q := by
  obtain ⟨w', hrun, r1, r2⟩ := h.put H ht hn hk (val := val)
  unfold Oper.wp
  simp [execOp, hop, hm, hx, hv, hrun, Result.andThen]
  exact hK w' r1 r2
end
end Go.Proofs.Ytjphlhehhigpjaa
