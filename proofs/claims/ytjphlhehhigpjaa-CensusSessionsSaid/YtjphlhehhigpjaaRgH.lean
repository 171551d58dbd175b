/- Regions that draw, walked in the order of their text under a predicate on worlds; the region's operations behind a letter. -/
import Derived.Test.YtjphlhehhigpjaaEvQ
import Derived.Deep.RegionHeld3
namespace Go.Proofs.Ytjphlhehhigpjaa
open Go.RowKit

section
variable {P : Program} {Q : Exit → Act → World → Prop} {S : World → Prop} {L : List Oper} {O : Array Oper} {fuel i : Nat} {o : Oper} {listed : Array Bool} {a : Act} {w : World}
theorem wp_region_held_gen {id : Nat} (S : World → Prop) (hm : P.follows .mixedOrders = true) (hS : S w.drew) (h : ∀ O, O = L.toArray → wpAnyH P .any O Q S L.length (Array.replicate L.length false) a w.drew) : (Code.region id L.toArray true).wp P Q a w :=
  wp_region_held_drew (S := S) hm hS fun _ => by simpa using h _ rfl
theorem held_read (hO : O = L.toArray) (hi : L[i]? = some o) (hg : o.guard = none) (hc : (Region.noSelect L.toArray && Region.free .any L.toArray listed i && (Region.ready .any L.toArray listed).contains i) = true)
    (hQ : ∀ v, ∀ c a w, Q (.panic c) (a.put o.dst v) w → Q (.panic c) a w) (v : Value) (hS : S w) (hv : ∀ w, S w → (execOp a.eval o).run P w = .ok (.value v) w)
    (h : wpAnyH P .any O Q S fuel (listed.setIfInBounds i true) (a.put o.dst v) w) : wpAnyH P .any O Q S (fuel + 1) listed a w := by
  subst hO
  simp only [Bool.and_eq_true] at hc
  exact wpAnyH_take (oi := o) (by simpa using hi) hc.1.1 hc.1.2 hc.2 (hQ v) (Or.inl ⟨by simp [Region.wanted, hg], hv⟩) hS h
theorem held_step (hO : O = L.toArray) (hi : L[i]? = some o) (hg : o.guard = none) (hr : Region.ready .any L.toArray listed = [i])
    (h : ∀ K : Act → World → Prop, Shut (∀ a w, S w → wpAnyH P .any O Q S fuel (listed.setIfInBounds i true) a w → K a w) → Oper.wp P o a w K Q) : wpAnyH P .any O Q S (fuel + 1) listed a w := by
  subst hO
  refine wpAnyH_ready hr (by simp) (AllReadyH.cons (o := o) (by simpa using hi) (fun K hK => ?_) AllReadyH.nil)
  rw [if_pos (by simp [Region.wanted, hg])]
  exact h K (show Shut _ from fun a w hS hW => hK.out a w hS fun _ => hW)
theorem held_take (hO : O = L.toArray) (hi : L[i]? = some o) (hw : Region.wanted o (yielded L.toArray a.tmps) = true) (hc : (Region.noSelect L.toArray && Region.free .any L.toArray listed i && (Region.ready .any L.toArray listed).contains i) = true)
    (hQ : ∀ v, ∀ c a w, Q (.panic c) (a.put o.dst v) w → Q (.panic c) a w) (v : Value) (hS : S w) (hv : ∀ w, S w → (execOp a.eval o).run P w = .ok (.value v) w)
    (h : wpAnyH P .any O Q S fuel (listed.setIfInBounds i true) (a.put o.dst v) w) : wpAnyH P .any O Q S (fuel + 1) listed a w := by
  subst hO
  simp only [Bool.and_eq_true] at hc
  exact wpAnyH_take (oi := o) (by simpa using hi) hc.1.1 hc.1.2 hc.2 (hQ v) (Or.inl ⟨hw, hv⟩) hS h
theorem held_skip (hO : O = L.toArray) (hi : L[i]? = some o) (hw : Region.wanted o (yielded L.toArray a.tmps) = false) (hc : (Region.noSelect L.toArray && Region.free .any L.toArray listed i && (Region.ready .any L.toArray listed).contains i) = true)
    (hQ : ∀ v, ∀ c a w, Q (.panic c) (a.put o.dst v) w → Q (.panic c) a w) (hS : S w)
    (h : wpAnyH P .any O Q S fuel (listed.setIfInBounds i true) (a.put o.dst undef) w) : wpAnyH P .any O Q S (fuel + 1) listed a w := by
  subst hO
  simp only [Bool.and_eq_true] at hc
  exact wpAnyH_take (oi := o) (by simpa using hi) hc.1.1 hc.1.2 hc.2 (hQ undef) (Or.inr ⟨hw, rfl⟩) hS h
theorem held_stepg (hO : O = L.toArray) (hi : L[i]? = some o) (hw : Region.wanted o (yielded L.toArray a.tmps) = true) (hr : Region.ready .any L.toArray listed = [i])
    (h : ∀ K : Act → World → Prop, Shut (∀ a w, S w → wpAnyH P .any O Q S fuel (listed.setIfInBounds i true) a w → K a w) → Oper.wp P o a w K Q) : wpAnyH P .any O Q S (fuel + 1) listed a w := by
  subst hO
  refine wpAnyH_ready hr (by simp) (AllReadyH.cons (o := o) (by simpa using hi) (fun K hK => ?_) AllReadyH.nil)
  rw [if_pos hw]
  exact h K (show Shut _ from fun a w hS hW => hK.out a w hS fun _ => hW)
theorem held_done (hO : O = L.toArray) (hr : (Region.ready .any L.toArray listed).isEmpty = true) (h : Q .normal a w) : wpAnyH P .any O Q S fuel listed a w := by
  subst hO
  exact wpAnyH_done (by simpa using hr) h fuel
theorem exec_load_cells (ty : TypeId) (x : Operand) (ho : o.op = .load ty x)
    (p : Addr) (hx : a.eval x = .pointer (some p)) (cs : Array Value) (d : TypeDesc) (hg : ∀ j v, cs[j]? = some v → w.cell? (p.add j) = some v)
    (hu : P.underlying ty = some d) (hd : (match d with | .struct _ | .array _ _ => true | _ => false) = true) (hi : (P.info? ty).map (·.size) = some cs.size) :
    (execOp a.eval o).run P w = .ok (.value (.agg cs)) w := by
  unfold execOp
  simp only [ho, hx, Instr.loadAt, Instr.sureAddr, Sem.run_bind, Sem.run_pure, Result.andThen_ok, run_loadVar_cells w p ty cs d (fun j v hj => hg j v hj) hu hd hi]
end
end Go.Proofs.Ytjphlhehhigpjaa
