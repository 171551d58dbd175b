/- Part 28 of what the statement wants. -/
import Derived.Deep.Cut
import Derived.Laws.RangeString
import Derived.Lib.OthersKept
import Derived.Test.YtlalkpgipenkaaaGreatDoorPk03
import Derived.Test.YtlalkpgipenkaaaGreatDoorPk25
import Derived.Test.YtlalkpgipenkaaaGreatDoorPk27
namespace Go.Proofs.YtlalkpgipenkaaaGreatDoor
open Go.RowKit

/-- What is written of the first k fields, by the letters of a format. -/
def encK (Fl : List UInt8) (fs : List FieldR) : Nat → List UInt8
  | 0 => []
  | k + 1 => encK Fl fs k ++ (writeP ((Fl.getD k 0).toNat : Int) (fs.getD k zeroF)).1
theorem encK_mono (Fl : List UInt8) (fs : List FieldR) {k n : Nat} (h : k ≤ n) : (encK Fl fs k).length ≤ (encK Fl fs n).length := by
  induction n with
  | zero => have : k = 0 := by omega
            subst this; exact Nat.le_refl _
  | succ n ih =>
    by_cases hk : k = n + 1
    · subst hk; exact Nat.le_refl _
    · have := ih (by omega)
      show _ ≤ (encK Fl fs n ++ _).length
      rw [List.length_append]
      omega
/-- A world's iterator's place. -/
def itPos (w : World) (k : Nat) : Nat := match w.heap[k]? with
  | some (.stringIter _ p) => p
  | _ => 0
theorem iter_moves (w : World) (k : Nat) (s : ByteArray) (p : Nat) : Moves (fun i => i = k) w (w.iterAt k s p) :=
  ⟨rfl, rfl, rfl, by rw [Lib.iterAt_size]; exact Nat.le_refl _, fun i _ hi => Lib.iterAt_other w k i s p hi⟩
theorem OwnB.iter {w : World} {base k p : Nat} {v : Value} {l : List UInt8} {s : ByteArray} (h : OwnB w base v l) (hk : w.heap[k]? = some (.stringIter s p)) (p' : Nat) : OwnB (w.iterAt k s p') base v l :=
  h.moves (iter_moves w k s p') fun g hg e => by
    obtain ⟨g', cap, cur, m, rfl, _, hgg, _⟩ := h
    simp only [Value.ownBlock, Option.some.injEq] at hg
    subst hg
    subst e
    rw [hk] at hgg
    cases hgg
theorem OwnB.ne_iter {w : World} {base g n c k p : Nat} {l : List UInt8} {s : ByteArray} (h : OwnB w base (.slice (some ⟨g, 0, none⟩) n c) l) (hk : w.heap[k]? = some (.stringIter s p)) : k ≠ g := by
  rintro rfl
  obtain ⟨g', cap, cur, m, e, _, hgg, _⟩ := h
  injection e with e1
  injection e1 with e1
  injection e1 with e1
  subst e1
  rw [hk] at hgg
  cases hgg
end Go.Proofs.YtlalkpgipenkaaaGreatDoor
