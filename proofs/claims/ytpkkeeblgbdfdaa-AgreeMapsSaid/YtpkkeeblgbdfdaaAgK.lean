/- Layer 32: the rules of a past judge an event. -/
import Derived.Test.YtpkkeeblgbdfdaaAgJ
import Derived.Test.YtpkkeeblgbdfdaaAgG2
import Derived.Test.YtpkkeeblgbdfdaaAgG4
import Derived.Test.YtpkkeeblgbdfdaaAgG5
import Derived.Test.YtpkkeeblgbdfdaaAgG6
namespace Go.Proofs.Ytpkkeeblgbdfdaa
open Go.RowKit Go.Maps Go.WideMaps

def nmR : Nat → ByteArray
  | 0 => ⟨#[101, 110, 100]⟩
  | 1 => ⟨#[116, 97, 107, 101, 110]⟩
  | 2 => ⟨#[110, 117, 109, 98, 101, 114]⟩
  | 3 => ⟨#[115, 101, 115, 115, 105, 111, 110]⟩
  | 4 => ⟨#[101, 97, 114, 108, 121]⟩
  | 5 => ⟨#[97, 103, 97, 105, 110]⟩
  | 6 => ⟨#[99, 111, 109, 109, 105, 116]⟩
  | 7 => ⟨#[97, 99, 99, 101, 112, 116]⟩
  | 8 => ⟨#[108, 101, 116]⟩
  | _ => ⟨#[116, 119, 105, 99, 101]⟩
/-- The name of the first rule that an event violates. -/
def badK (S : List Int) (l : List EvV) (k : Nat) : ByteArray := match l[k]? with
  | some x => firstBad nmR (ruleB S l k x) 10
  | none => ⟨#[]⟩
set_option maxHeartbeats 1000000 in
set_option maxRecDepth 100000 in
theorem rules_at {lo : Nat} {w0 w : World} {v : Value} {S : List Int} {l : List EvV} {k g : Nat} {x : EvV} (hp : PastAt w0 w v S l k) (hb : RulesBox lo w g (w0.heap.size + 4)) (hx : l[k]? = some x) (ho : ∀ u ∈ x.row.toList, CellOk u) (hi : IdsAt w0 v S) (hS : S.Pairwise (· < ·)) (hl : S.length ≤ 1000) (hk : k ≤ 1000) :
    RulesAt w g x.row nmR (ruleB S l k x) := by
  obtain ⟨B, k1, p1, k2, p2, k3, p3, h0, h1, h2, h3, h4, h5⟩ := hb
  have hbk : ∀ {W : World} {j : Nat} {t : TypeId} {cs : Array Value}, Holds w j t cs → Below w.heap.size w W → Holds W j t cs := fun h hw => (hw.block _ h.lt).trans h
  refine ⟨h1.lt, fun i hi10 => ?_⟩
  match i, hi10 with
  | 0, _ => exact ⟨h1.cell 0, 22, #[.pointer (some ⟨B, 0, none⟩)], h1.cell 1, callF32 Try.func22 (by kernel_rfl) (by kernel_rfl), fun W hw => rule0_any (hp.keep hw) (hbk h2 hw) hx ho⟩
  | 1, _ => exact ⟨h1.cell 2, 23, #[.pointer (some ⟨B, 0, none⟩)], h1.cell 3, callF32 Try.func23 (by kernel_rfl) (by kernel_rfl), fun W hw => rule1_any (hp.keep hw) (hbk h2 hw) hx ho⟩
  | 2, _ => exact ⟨h1.cell 4, 24, #[.pointer (some ⟨B, 0, none⟩)], h1.cell 5, callF32 Try.func24 (by kernel_rfl) (by kernel_rfl), fun W hw => rule2_any (hp.keep hw) (hbk h2 hw) hx ho⟩
  | 3, _ => exact ⟨h1.cell 6, 26, #[.pointer (some ⟨B, 0, none⟩)], h1.cell 7, callF32 Try.func26 (by kernel_rfl) (by kernel_rfl), fun W hw => rule3_any (hp.keep hw) (hbk h2 hw) hx ho⟩
  | 4, _ => exact ⟨h1.cell 8, 28, #[.pointer (some ⟨B, 0, none⟩)], h1.cell 9, callF32 Try.func28 (by kernel_rfl) (by kernel_rfl), fun W hw => rule4_any (hp.keep hw) (hbk h2 hw) hx ho⟩
  | 5, _ => exact ⟨h1.cell 10, 30, #[.pointer (some ⟨B, 0, none⟩)], h1.cell 11, callF32 Try.func30 (by kernel_rfl) (by kernel_rfl), fun W hw => rule5_any (hp.keep hw) (hbk h2 hw) hx ho⟩
  | 6, _ => exact ⟨h1.cell 12, 35, #[.pointer (some ⟨k1, 0, none⟩), .pointer (some ⟨p1, 0, none⟩)], h1.cell 13, callF32 Try.func35 (by kernel_rfl) (by kernel_rfl), fun W hw => rule6_any (hp.keep hw) (hbk h3.2.1 hw) hx ho hi hS hl 2 (hbk h3.2.2 hw)⟩
  | 7, _ => exact ⟨h1.cell 14, 35, #[.pointer (some ⟨k2, 0, none⟩), .pointer (some ⟨p2, 0, none⟩)], h1.cell 15, callF32 Try.func35 (by kernel_rfl) (by kernel_rfl), fun W hw => rule6_any (hp.keep hw) (hbk h4.2.1 hw) hx ho hi hS hl 4 (hbk h4.2.2 hw)⟩
  | 8, _ => exact ⟨h1.cell 16, 35, #[.pointer (some ⟨k3, 0, none⟩), .pointer (some ⟨p3, 0, none⟩)], h1.cell 17, callF32 Try.func35 (by kernel_rfl) (by kernel_rfl), fun W hw => rule6_any (hp.keep hw) (hbk h5.2.1 hw) hx ho hi hS hl 5 (hbk h5.2.2 hw)⟩
  | 9, _ => exact ⟨h1.cell 18, 32, #[.pointer (some ⟨B, 0, none⟩)], h1.cell 19, callF32 Try.func32 (by kernel_rfl) (by kernel_rfl), fun W hw => rule9_any (hp.keep hw) (hbk h2 hw) hx ho hi hS hl hk⟩
  | i + 10, h => omega
end Go.Proofs.Ytpkkeeblgbdfdaa
