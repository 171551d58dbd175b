/- Layer 6's table: plain facts. -/
import Derived.Test.YtbnecckgapainaaDoorForms
namespace Go.Proofs.YtbnecckgapainaaDoor
open Go.RowKit

/-- The first of the texts that has so many letters. -/
def fitP (l : List ByteArray) (m : Int) : ByteArray × Bool := match l.find? (fun x => (x.size : Int) == m) with | some x => (x, true) | none => (⟨#[]⟩, false)
theorem fitP_hit {l : List ByteArray} {m : Int} {k : Nat} (hk : k < l.length) (hn : ∀ x ∈ l.take k, ((x.size : Int) == m) = false) (hm : ((l[k].size : Int) == m) = true) : fitP l m = (l[k], true) := by
  have : l.find? (fun x => (x.size : Int) == m) = some l[k] := by
    rw [List.find?_eq_some_iff_append]
    exact ⟨hm, l.take k, l.drop (k + 1), by simp, fun x hx => by rw [hn x hx]; rfl⟩
  rw [fitP, this]
theorem fitP_none {l : List ByteArray} {m : Int} (hn : ∀ x ∈ l, ((x.size : Int) == m) = false) : fitP l m = (⟨#[]⟩, false) := by
  have : l.find? (fun x => (x.size : Int) == m) = none := by
    rw [List.find?_eq_none]
    intro x hx
    rw [hn x hx]; decide
  rw [fitP, this]
theorem take_all {α : Type} {p : α → Prop} {l : List α} {k : Nat} (hlt : k < l.length) (hn : ∀ x ∈ l.take k, p x) (hm : p l[k]) : ∀ x ∈ l.take (k + 1), p x := by
  intro x hx
  rw [List.take_succ_eq_append_getElem hlt, List.mem_append] at hx
  rcases hx with hx | hx
  · exact hn x hx
  · simp at hx
    rw [hx]; exact hm
theorem formsP_len (n : Int) : (formsP n).length ≤ 3 := by
  have h : ∀ r ∈ tableP, r.2.2.length ≤ 3 := by decide
  rcases formsP_mem n with e | ⟨r, hr, e⟩
  · rw [e]; simp
  · rw [e]; exact h r hr
def wordP (n : Int) : ByteArray := ((rowP n).map (·.2.1)).getD ⟨#[]⟩
theorem rowP_hit {n : Int} {k : Nat} (hk : k < tableP.length) (hn : ∀ x ∈ tableP.take k, (x.1 == n) = false) (hm : (tableP[k].1 == n) = true) : rowP n = some tableP[k] := by
  unfold rowP
  rw [List.find?_eq_some_iff_append]
  refine ⟨by rw [beq_iff_eq] at hm ⊢; exact hm.symm, tableP.take k, tableP.drop (k + 1), by simp, fun x hx => ?_⟩
  have := hn x hx
  rw [beq_eq_false_iff_ne] at this
  simpa using Ne.symm this
theorem rowP_none {n : Int} (hn : ∀ x ∈ tableP, (x.1 == n) = false) : rowP n = none := by
  unfold rowP
  rw [List.find?_eq_none]
  intro x hx
  have := hn x hx
  rw [beq_eq_false_iff_ne] at this
  simpa using Ne.symm this

end Go.Proofs.YtbnecckgapainaaDoor
