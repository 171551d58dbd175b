/- An error in memory; At, Of; a path as the document writes it. -/
import Derived.Test.YtjphlhehhigpjaaDoorMem
import Derived.Test.YtjphlhehhigpjaaDoorFltC
import Derived.Test.YtjphlhehhigpjaaDoorStrP
import Derived.LaidEql
import Derived.Stop.Asserts
import Derived.RowKitTokens
namespace Go.Proofs.YtjphlhehhigpjaaDoor
open Go.RowKit Go.Extern.Stop Go.Stop Go.Extern

/-- The places in a row, a space behind each. -/
def atP (path : List ByteArray) : ByteArray := path.foldl (fun s x => s ++ x ++ ⟨#[32]⟩) ⟨#[]⟩

theorem atP_size {path : List ByteArray} (k : Nat) (hs : ∀ x ∈ path.take k, x.size ≤ 1000) (hk : k ≤ path.length) : (atP (path.take k)).size ≤ 1001 * k := by
  induction k with
  | zero => exact Nat.zero_le _
  | succ k ih =>
    have hk' : k < path.length := hk
    rw [List.take_succ_eq_append_getElem hk'] at hs ⊢
    have h1 := ih (fun x hx => hs x (List.mem_append.2 (.inl hx))) (by omega)
    have h2 := hs path[k] (List.mem_append.2 (.inr (List.mem_singleton.2 rfl)))
    unfold atP at *
    rw [List.foldl_append]
    simp only [List.foldl_cons, List.foldl_nil, ByteArray.size_append]
    have h32 : (⟨#[32]⟩ : ByteArray).size = 1 := rfl
    omega
end Go.Proofs.YtjphlhehhigpjaaDoor
