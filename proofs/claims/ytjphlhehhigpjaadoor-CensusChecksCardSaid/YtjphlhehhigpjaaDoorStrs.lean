/- A row of the call's own that holds strings. -/
import Derived.Test.YtjphlhehhigpjaaDoorTexts
import Derived.Maps.AppendAt
import Derived.KernelRfl
namespace Go.Proofs.YtjphlhehhigpjaaDoor
open Go.RowKit

def strs (l : List ByteArray) : List Value := l.map Value.string
theorem strs_length (l : List ByteArray) : (strs l).length = l.length := by simp [strs]
theorem strs_snoc (l : List ByteArray) (x : ByteArray) : strs (l ++ [x]) = strs l ++ [.string x] := by simp [strs]
/-- A row of the call's own that holds strings reads as them. -/
theorem TextsAt.ofRow {w : World} {base : Nat} {v : Value} {l : List ByteArray} (h : w.ownsRow base 9 1 v l.length (strs l)) (hn : l = [] → v = .slice none 0 0) : TextsAt w v l := by
  by_cases hl : l = []
  · subst hl
    rw [hn rfl]
    exact TextsAt.nil w
  · have hown := h
    obtain ⟨_, hcase⟩ := h
    rcases hcase with ⟨_, h0⟩ | ⟨g, cap', cur, rfl, hg, hh, hn, hcap, hsz, htake⟩
    · exact absurd (List.length_eq_zero_iff.1 h0) hl
    · refine ⟨some ⟨g, 0, none⟩, cap', rfl, fun _ => ⟨g, 0, rfl, (Array.getElem?_eq_some_iff.1 hh).1, fun k x hk => ?_⟩⟩
      have hk' := (List.getElem?_eq_some_iff.1 hk).1
      rw [Nat.zero_add, hown.cellAt k (by omega)]
      simp [strs, hk]
theorem infoStr : (Tryd.prog.info? 9).map (fun i => (i.zero, i.size, i.bytes)) = some (some (.string ⟨#[]⟩), 1, 16) := by kernel_rfl
theorem str_one (x : ByteArray) : ∀ u ∈ [Value.string x], u.oneCell' = true := by simp [Value.oneCell']
end Go.Proofs.YtjphlhehhigpjaaDoor
