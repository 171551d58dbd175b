/- Word and Num and their contracts. -/
import Derived.Test.YtpiklkbjfpfejaaGreatDoorSTab
import Derived.Test.YtpiklkbjfpfejaaGreatDoorFit
import Derived.Laws.Rows
namespace Go.Proofs.YtpiklkbjfpfejaaGreatDoor
open Go.RowKit

def wordP (n : Int) : ByteArray := ((rowP n).map (·.2.1)).getD ⟨#[]⟩
def numP (s : ByteArray) : Int × Bool := match tableP.find? (fun r => r.2.1 == s) with | some r => (r.1, true) | none => (0, false)
set_option maxRecDepth 100000 in
theorem index_words : ∀ (k : Nat) (r : Int × ByteArray × List ByteArray), tableP[k]? = some r → ∀ W : World, (Instr.index 71 (.agg (wordCells tableP).toArray) (.int .i64 (k : Int))).run Tryz.prog W = .ok (.agg #[.int .i64 r.1, .string r.2.1]) W
  | 0, r, h => by
    have : r = tableP[0]'(by decide) := (Option.some.inj h).symm
    subst this
    exact fun _ => by kernel_rfl
  | 1, r, h => by
    have : r = tableP[1]'(by decide) := (Option.some.inj h).symm
    subst this
    exact fun _ => by kernel_rfl
  | 2, r, h => by
    have : r = tableP[2]'(by decide) := (Option.some.inj h).symm
    subst this
    exact fun _ => by kernel_rfl
  | 3, r, h => by
    have : r = tableP[3]'(by decide) := (Option.some.inj h).symm
    subst this
    exact fun _ => by kernel_rfl
  | 4, r, h => by
    have : r = tableP[4]'(by decide) := (Option.some.inj h).symm
    subst this
    exact fun _ => by kernel_rfl
  | 5, r, h => by
    have : r = tableP[5]'(by decide) := (Option.some.inj h).symm
    subst this
    exact fun _ => by kernel_rfl
  | 6, r, h => by
    have : r = tableP[6]'(by decide) := (Option.some.inj h).symm
    subst this
    exact fun _ => by kernel_rfl
  | 7, r, h => by
    have : r = tableP[7]'(by decide) := (Option.some.inj h).symm
    subst this
    exact fun _ => by kernel_rfl
  | 8, r, h => by
    have : r = tableP[8]'(by decide) := (Option.some.inj h).symm
    subst this
    exact fun _ => by kernel_rfl
  | 9, r, h => by
    have : r = tableP[9]'(by decide) := (Option.some.inj h).symm
    subst this
    exact fun _ => by kernel_rfl
  | 10, r, h => by
    have : r = tableP[10]'(by decide) := (Option.some.inj h).symm
    subst this
    exact fun _ => by kernel_rfl
  | 11, r, h => by
    have : r = tableP[11]'(by decide) := (Option.some.inj h).symm
    subst this
    exact fun _ => by kernel_rfl
  | 12, r, h => by
    have : r = tableP[12]'(by decide) := (Option.some.inj h).symm
    subst this
    exact fun _ => by kernel_rfl
  | 13, r, h => by
    have : r = tableP[13]'(by decide) := (Option.some.inj h).symm
    subst this
    exact fun _ => by kernel_rfl
  | 14, r, h => by
    have : r = tableP[14]'(by decide) := (Option.some.inj h).symm
    subst this
    exact fun _ => by kernel_rfl
  | 15, r, h => by
    have : r = tableP[15]'(by decide) := (Option.some.inj h).symm
    subst this
    exact fun _ => by kernel_rfl
  | 16, r, h => by
    have : r = tableP[16]'(by decide) := (Option.some.inj h).symm
    subst this
    exact fun _ => by kernel_rfl
  | 17, r, h => by
    have : r = tableP[17]'(by decide) := (Option.some.inj h).symm
    subst this
    exact fun _ => by kernel_rfl
  | 18, r, h => by
    have : r = tableP[18]'(by decide) := (Option.some.inj h).symm
    subst this
    exact fun _ => by kernel_rfl
  | k + 19, r, h => by simp [tableP] at h
theorem tab_size : (Tryz.prog.info? 71).map (·.size) = some (wordCells tableP).toArray.size := by kernel_rfl
theorem rowP_hit {n : Int} {k : Nat} (hk : k < tableP.length) (hn : ∀ x ∈ tableP.take k, (x.1 == n) = false) (hm : (tableP[k].1 == n) = true) : rowP n = some tableP[k] := by
  unfold rowP
  rw [List.find?_eq_some_iff_append]
  refine ⟨by rw [beq_iff_eq] at hm ⊢; exact hm.symm, tableP.take k, tableP.drop (k + 1), by simp, fun x hx => ?_⟩
  have := hn x hx
  rw [beq_eq_false_iff_ne] at this
  simpa using Ne.symm this
theorem rowP_none {n : Int} (hn : ∀ x ∈ tableP, (x.1 == n) = false) : rowP n = none := by
  unfold rowP
  rw [List.find?_eq_none]
  intro x hx
  have := hn x hx
  rw [beq_eq_false_iff_ne] at this
  simpa using Ne.symm this

theorem numP_hit {s : ByteArray} {k : Nat} (hk : k < tableP.length) (hn : ∀ x ∈ tableP.take k, x.2.1 ≠ s) (hm : tableP[k].2.1 = s) : numP s = (tableP[k].1, true) := by
  have : tableP.find? (fun r => r.2.1 == s) = some tableP[k] := by
    rw [List.find?_eq_some_iff_append]
    exact ⟨by rw [beq_iff_eq]; exact hm, tableP.take k, tableP.drop (k + 1), by simp, fun x hx => by simpa using hn x hx⟩
  rw [numP, this]
theorem numP_none {s : ByteArray} (hn : ∀ x ∈ tableP, x.2.1 ≠ s) : numP s = (0, false) := by
  have : tableP.find? (fun r => r.2.1 == s) = none := by
    rw [List.find?_eq_none]
    intro x hx
    simpa using hn x hx
  rw [numP, this]

set_option maxRecDepth 100000 in
theorem word_any {w : World} (h : TabAt w) (n : Int) : Calls Tryz.prog 16 #[.int .i64 n] w fun e w' => e = .returned (.string (wordP n)) ∧ Below w.heap.size w w' := by
  obtain ⟨tt, fr, hg⟩ := h
  have hsz := tab_size
  have HI := Lib.hid index_words
  have HH : Hid (∀ (k : Nat) (hk : k < tableP.length), (∀ x ∈ tableP.take k, (x.1 == n) = false) → (tableP[k].1 == n) = true → rowP n = some tableP[k]) := fun k hk => rowP_hit hk
  have HE := Lib.hid (@rowP_none n)
  have hlen : tableP.length = 19 := rfl
  unfold wordP
  generalize (wordCells tableP).toArray = CS at *
  generalize tableP = l at *
  go_enter Tryz.func16, Tryz.ntmps16
  go_wp2_with (refine wpList_load_row rfl 71 _ rfl 0 rfl tt _ fr _ hg Tryz.underlying71 rfl hsz ?_)
  go_loopw [6] (fun i wr => ∃ k : Nat, k ≤ 19 ∧ i = .int .i64 k ∧ (∀ x ∈ l.take k, (x.1 == n) = false) ∧ Below w.heap.size w wr) (fun i _ => 19 - (intOf i).toNat)
  case atStart => exact ⟨0, Nat.zero_le _, rfl, by simp, Below.refl _ _⟩
  case round =>
    obtain ⟨k, hk, rfl, htk, hbel⟩ := hrel
    by_cases hlt : k < 19
    · have hkl : k < l.length := by omega
      obtain ⟨x, hx⟩ : ∃ x, x = l[k] := ⟨_, rfl⟩
      have hi := HI.out k x (by rw [hx]; exact List.getElem?_eq_getElem hkl)
      have HN : Hid ((x.1 == n) = false → ∀ y ∈ l.take (k + 1), (y.1 == n) = false) := fun e => take_all hkl htk (by rw [← hx]; exact e)
      have HT : Hid ((x.1 == n) = true → rowP n = some x) := fun e => by
        show _ = _
        rw [hx]; exact HH.out k hkl htk (by rw [← hx]; exact e)
      obtain ⟨xn, xs, xf⟩ := x
      clear hx htk
      simp only at hi
      have HB := Lib.hid hbel
      clear hbel
      cases hm : (xn == n) with
      | true =>
        go_wp2_with fail
        go_ret
        exact ⟨by rw [HT.out hm]; rfl, HB.out.alloc HB.out.size _⟩
      | false =>
        go_wp2_with fail
        go_roundw
        case rel => exact ⟨k + 1, by omega, by go_num, HN.out hm, HB.out.alloc HB.out.size _⟩
        case measure => simp [intOf]; omega
    · have hkl : k = 19 := by omega
      subst hkl
      have HX : Hid (rowP n = none) := HE.out (by rwa [List.take_of_length_le (by omega)] at htk)
      clear htk hlt
      go_wp2_with fail
      go_ret
      exact ⟨by rw [HX.out]; rfl, hbel⟩

end Go.Proofs.YtpiklkbjfpfejaaGreatDoor
