/- Part 32 of what the statement wants. -/
import Derived.Laws.Rows
import Derived.Deep.Cut
import Derived.Laws.RangeString
import Derived.Lib.OthersKept
import Derived.Test.YtkmhdepohcncaaaGreatDoorPk03
import Derived.Test.YtkmhdepohcncaaaGreatDoorPk27
import Derived.Test.YtkmhdepohcncaaaGreatDoorPk31
namespace Go.Proofs.YtkmhdepohcncaaaGreatDoor
open Go.RowKit

def wordP (n : Int) : ByteArray := ((rowP n).map (·.2.1)).getD ⟨#[]⟩
def numP (s : ByteArray) : Int × Bool := match tableP.find? (fun r => r.2.1 == s) with | some r => (r.1, true) | none => (0, false)
set_option maxRecDepth 100000 in
theorem index_words : ∀ (k : Nat) (r : Int × ByteArray × List ByteArray), tableP[k]? = some r → ∀ W : World, (Instr.index 156 (.agg (wordCells tableP).toArray) (.int .i64 (k : Int))).run Tryz.prog W = .ok (.agg #[.int .i64 r.1, .string r.2.1]) W
  | 0, r, h => by
    have : r = tableP[0]'(by decide) := (Option.some.inj h).symm
    subst this
    exact fun _ => by kernel_rfl
  | 1, r, h => by
    have : r = tableP[1]'(by decide) := (Option.some.inj h).symm
    subst this
    exact fun _ => by kernel_rfl
  | 2, r, h => by
    have : r = tableP[2]'(by decide) := (Option.some.inj h).symm
    subst this
    exact fun _ => by kernel_rfl
  | 3, r, h => by
    have : r = tableP[3]'(by decide) := (Option.some.inj h).symm
    subst this
    exact fun _ => by kernel_rfl
  | 4, r, h => by
    have : r = tableP[4]'(by decide) := (Option.some.inj h).symm
    subst this
    exact fun _ => by kernel_rfl
  | 5, r, h => by
    have : r = tableP[5]'(by decide) := (Option.some.inj h).symm
    subst this
    exact fun _ => by kernel_rfl
  | 6, r, h => by
    have : r = tableP[6]'(by decide) := (Option.some.inj h).symm
    subst this
    exact fun _ => by kernel_rfl
  | 7, r, h => by
    have : r = tableP[7]'(by decide) := (Option.some.inj h).symm
    subst this
    exact fun _ => by kernel_rfl
  | 8, r, h => by
    have : r = tableP[8]'(by decide) := (Option.some.inj h).symm
    subst this
    exact fun _ => by kernel_rfl
  | 9, r, h => by
    have : r = tableP[9]'(by decide) := (Option.some.inj h).symm
    subst this
    exact fun _ => by kernel_rfl
  | 10, r, h => by
    have : r = tableP[10]'(by decide) := (Option.some.inj h).symm
    subst this
    exact fun _ => by kernel_rfl
  | 11, r, h => by
    have : r = tableP[11]'(by decide) := (Option.some.inj h).symm
    subst this
    exact fun _ => by kernel_rfl
  | 12, r, h => by
    have : r = tableP[12]'(by decide) := (Option.some.inj h).symm
    subst this
    exact fun _ => by kernel_rfl
  | 13, r, h => by
    have : r = tableP[13]'(by decide) := (Option.some.inj h).symm
    subst this
    exact fun _ => by kernel_rfl
  | 14, r, h => by
    have : r = tableP[14]'(by decide) := (Option.some.inj h).symm
    subst this
    exact fun _ => by kernel_rfl
  | 15, r, h => by
    have : r = tableP[15]'(by decide) := (Option.some.inj h).symm
    subst this
    exact fun _ => by kernel_rfl
  | 16, r, h => by
    have : r = tableP[16]'(by decide) := (Option.some.inj h).symm
    subst this
    exact fun _ => by kernel_rfl
  | 17, r, h => by
    have : r = tableP[17]'(by decide) := (Option.some.inj h).symm
    subst this
    exact fun _ => by kernel_rfl
  | 18, r, h => by
    have : r = tableP[18]'(by decide) := (Option.some.inj h).symm
    subst this
    exact fun _ => by kernel_rfl
  | k + 19, r, h => by simp [tableP] at h
theorem tab_size : (Tryz.prog.info? 156).map (·.size) = some (wordCells tableP).toArray.size := by kernel_rfl
theorem rowP_hit {n : Int} {k : Nat} (hk : k < tableP.length) (hn : ∀ x ∈ tableP.take k, (x.1 == n) = false) (hm : (tableP[k].1 == n) = true) : rowP n = some tableP[k] := by
  unfold rowP
  rw [List.find?_eq_some_iff_append]
  refine ⟨by rw [beq_iff_eq] at hm ⊢; exact hm.symm, tableP.take k, tableP.drop (k + 1), by simp, fun x hx => ?_⟩
  have := hn x hx
  rw [beq_eq_false_iff_ne] at this
  simpa using Ne.symm this
theorem rowP_none {n : Int} (hn : ∀ x ∈ tableP, (x.1 == n) = false) : rowP n = none := by
  unfold rowP
  rw [List.find?_eq_none]
  intro x hx
  have := hn x hx
  rw [beq_eq_false_iff_ne] at this
  simpa using Ne.symm this

theorem numP_hit {s : ByteArray} {k : Nat} (hk : k < tableP.length) (hn : ∀ x ∈ tableP.take k, x.2.1 ≠ s) (hm : tableP[k].2.1 = s) : numP s = (tableP[k].1, true) := by
  have : tableP.find? (fun r => r.2.1 == s) = some tableP[k] := by
    rw [List.find?_eq_some_iff_append]
    exact ⟨by rw [beq_iff_eq]; exact hm, tableP.take k, tableP.drop (k + 1), by simp, fun x hx => by simpa using hn x hx⟩
  rw [numP, this]
theorem numP_none {s : ByteArray} (hn : ∀ x ∈ tableP, x.2.1 ≠ s) : numP s = (0, false) := by
  have : tableP.find? (fun r => r.2.1 == s) = none := by
    rw [List.find?_eq_none]
    intro x hx
    simpa using hn x hx
  rw [numP, this]

set_option maxRecDepth 100000 in
theorem word_any {w : World} (h : TabAt w) (n : Int) : Calls Tryz.prog 56 #[.int .i64 n] w fun e w' => e = .returned (.string (wordP n)) ∧ Below w.heap.size w w' := by
  obtain ⟨tt, fr, hg⟩ := h
  have hsz := tab_size
  have HI := Lib.hid index_words
  have HH : Hid (∀ (k : Nat) (hk : k < tableP.length), (∀ x ∈ tableP.take k, (x.1 == n) = false) → (tableP[k].1 == n) = true → rowP n = some tableP[k]) := fun k hk => rowP_hit hk
  have HE := Lib.hid (@rowP_none n)
  have hlen : tableP.length = 19 := rfl
  unfold wordP
  generalize (wordCells tableP).toArray = CS at *
  generalize tableP = l at *
  go_enter Tryz.func56, Tryz.ntmps56
  go_wp2_with (refine wpList_load_row rfl 156 _ rfl 0 rfl tt _ fr _ hg Tryz.underlying156 rfl hsz ?_)
  go_loopw [6] (fun i wr => ∃ k : Nat, k ≤ 19 ∧ i = .int .i64 k ∧ (∀ x ∈ l.take k, (x.1 == n) = false) ∧ Below w.heap.size w wr) (fun i _ => 19 - (intOf i).toNat)
  case atStart => exact ⟨0, Nat.zero_le _, rfl, by simp, Below.refl _ _⟩
  case round =>
    obtain ⟨k, hk, rfl, htk, hbel⟩ := hrel
    by_cases hlt : k < 19
    · have hkl : k < l.length := by omega
      obtain ⟨x, hx⟩ : ∃ x, x = l[k] := ⟨_, rfl⟩
      have hi := HI.out k x (by rw [hx]; exact List.getElem?_eq_getElem hkl)
      have HN : Hid ((x.1 == n) = false → ∀ y ∈ l.take (k + 1), (y.1 == n) = false) := fun e => take_all hkl htk (by rw [← hx]; exact e)
      have HT : Hid ((x.1 == n) = true → rowP n = some x) := fun e => by
        show _ = _
        rw [hx]; exact HH.out k hkl htk (by rw [← hx]; exact e)
      obtain ⟨xn, xs, xf⟩ := x
      clear hx htk
      simp only at hi
      have HB := Lib.hid hbel
      clear hbel
      cases hm : (xn == n) with
      | true =>
        go_wp2_with fail
        go_ret
        exact ⟨by rw [HT.out hm]; rfl, HB.out.alloc HB.out.size _⟩
      | false =>
        go_wp2_with fail
        go_roundw
        case rel => exact ⟨k + 1, by omega, by go_num, HN.out hm, HB.out.alloc HB.out.size _⟩
        case measure => simp [intOf]; omega
    · have hkl : k = 19 := by omega
      subst hkl
      have HX : Hid (rowP n = none) := HE.out (by rwa [List.take_of_length_le (by omega)] at htk)
      clear htk hlt
      go_wp2_with fail
      go_ret
      exact ⟨by rw [HX.out]; rfl, hbel⟩

end Go.Proofs.YtkmhdepohcncaaaGreatDoor

namespace Go.Proofs.YtkmhdepohcncaaaGreatDoor
open Go.RowKit

/-- What is written of the first k fields, by the letters of a format. -/
def encK (Fl : List UInt8) (fs : List FieldR) : Nat → List UInt8
  | 0 => []
  | k + 1 => encK Fl fs k ++ (writeP ((Fl.getD k 0).toNat : Int) (fs.getD k zeroF)).1
theorem encK_mono (Fl : List UInt8) (fs : List FieldR) {k n : Nat} (h : k ≤ n) : (encK Fl fs k).length ≤ (encK Fl fs n).length := by
  induction n with
  | zero => have : k = 0 := by omega
            subst this; exact Nat.le_refl _
  | succ n ih =>
    by_cases hk : k = n + 1
    · subst hk; exact Nat.le_refl _
    · have := ih (by omega)
      show _ ≤ (encK Fl fs n ++ _).length
      rw [List.length_append]
      omega
/-- A world's iterator's place. -/
def itPos (w : World) (k : Nat) : Nat := match w.heap[k]? with
  | some (.stringIter _ p) => p
  | _ => 0
def nextB (num : Int) : UInt8 := UInt8.ofNat (num % 256).toNat

theorem iter_moves (w : World) (k : Nat) (s : ByteArray) (p : Nat) : Moves (fun i => i = k) w (w.iterAt k s p) :=
  ⟨rfl, rfl, rfl, by rw [Lib.iterAt_size]; exact Nat.le_refl _, fun i _ hi => Lib.iterAt_other w k i s p hi⟩
theorem OwnB.iter {w : World} {base k p : Nat} {v : Value} {l : List UInt8} {s : ByteArray} (h : OwnB w base v l) (hk : w.heap[k]? = some (.stringIter s p)) (p' : Nat) : OwnB (w.iterAt k s p') base v l :=
  h.moves (iter_moves w k s p') fun g hg e => by
    obtain ⟨g', cap, cur, m, rfl, _, hgg, _⟩ := h
    simp only [Value.ownBlock, Option.some.injEq] at hg
    subst hg
    subst e
    rw [hk] at hgg
    cases hgg
theorem OwnB.ne_iter {w : World} {base g n c k p : Nat} {l : List UInt8} {s : ByteArray} (h : OwnB w base (.slice (some ⟨g, 0, none⟩) n c) l) (hk : w.heap[k]? = some (.stringIter s p)) : k ≠ g := by
  rintro rfl
  obtain ⟨g', cap, cur, m, e, _, hgg, _⟩ := h
  injection e with e1
  injection e1 with e1
  injection e1 with e1
  subst e1
  rw [hk] at hgg
  cases hgg
theorem OwnB.ne_holds {w : World} {base g n c k : Nat} {l : List UInt8} {t : TypeId} {cs : Array Value} (h : OwnB w base (.slice (some ⟨g, 0, none⟩) n c) l) (hk : Holds w k t cs) (ht : t ≠ 5) : k ≠ g := by
  rintro rfl
  obtain ⟨g', cap, cur, m, e, _, hgg, _⟩ := h
  injection e with e1
  injection e1 with e1
  injection e1 with e1
  subst e1
  unfold Holds at hk
  rw [hk] at hgg
  injection hgg with hgg
  injection hgg with _ h2
  exact ht h2
end Go.Proofs.YtkmhdepohcncaaaGreatDoor
