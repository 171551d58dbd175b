/- Fit and the page's example of layer 6. -/
import Derived.Test.YtpiklkbjfpfejaaGreatDoorForms
namespace Go.Proofs.YtpiklkbjfpfejaaGreatDoor
open Go.RowKit

/-- The first of the texts that has so many letters. -/
def fitP (l : List ByteArray) (m : Int) : ByteArray × Bool := match l.find? (fun x => (x.size : Int) == m) with | some x => (x, true) | none => (⟨#[]⟩, false)
theorem fitP_hit {l : List ByteArray} {m : Int} {k : Nat} (hk : k < l.length) (hn : ∀ x ∈ l.take k, ((x.size : Int) == m) = false) (hm : ((l[k].size : Int) == m) = true) : fitP l m = (l[k], true) := by
  have : l.find? (fun x => (x.size : Int) == m) = some l[k] := by
    rw [List.find?_eq_some_iff_append]
    exact ⟨hm, l.take k, l.drop (k + 1), by simp, fun x hx => by rw [hn x hx]; rfl⟩
  rw [fitP, this]
theorem fitP_none {l : List ByteArray} {m : Int} (hn : ∀ x ∈ l, ((x.size : Int) == m) = false) : fitP l m = (⟨#[]⟩, false) := by
  have : l.find? (fun x => (x.size : Int) == m) = none := by
    rw [List.find?_eq_none]
    intro x hx
    rw [hn x hx]; decide
  rw [fitP, this]
theorem take_all {α : Type} {p : α → Prop} {l : List α} {k : Nat} (hlt : k < l.length) (hn : ∀ x ∈ l.take k, p x) (hm : p l[k]) : ∀ x ∈ l.take (k + 1), p x := by
  intro x hx
  rw [List.take_succ_eq_append_getElem hlt, List.mem_append] at hx
  rcases hx with hx | hx
  · exact hn x hx
  · simp at hx
    rw [hx]; exact hm
theorem formsP_len (n : Int) : (formsP n).length ≤ 3 := by
  have h : ∀ r ∈ tableP, r.2.2.length ≤ 3 := by decide
  rcases formsP_mem n with e | ⟨r, hr, e⟩
  · rw [e]; simp
  · rw [e]; exact h r hr

set_option maxRecDepth 100000 in
theorem fit_any (w : World) (n m : Int) : Calls Tryz.prog 14 #[.int .i64 n, .int .i64 m] w fun e w' => e = .returned (.tuple #[.string (fitP (formsP n) m).1, .bool (fitP (formsP n) m).2]) ∧ Below w.heap.size w w' := by
  have hln := formsP_len n
  have hF : Calls Tryz.prog 29 #[.int .i64 n] w fun e w' => ∃ ao cap, e = .returned (.slice ao (formsP n).length cap) ∧ (formsP n ≠ [] → ∃ b off, ao = some ⟨b, off, none⟩ ∧ b < w'.heap.size ∧ ∀ k x, (formsP n)[k]? = some x → w'.cell? ⟨b, off + k, none⟩ = some (.string x)) ∧ Below w.heap.size w w' :=
    (forms_any w n).mono fun e w' ⟨v, he, ⟨ao, cap, hv, hc⟩, hb⟩ => ⟨ao, cap, by rw [he, hv], hc, hb⟩
  generalize formsP n = l at *
  go_enter Tryz.func14, Tryz.ntmps14
  go_wp2_with (go_at_call 29; with_reducible refine hF.mono ?_; rintro e w1 ⟨ao, cap, rfl, hc, hbel⟩)
  go_loopw [11] (fun i wr => ∃ k : Nat, k ≤ l.length ∧ i = .int .i64 k ∧ (∀ x ∈ l.take k, ((x.size : Int) == m) = false) ∧ wr = w1) (fun i _ => l.length - (intOf i).toNat)
  case atStart => exact ⟨0, Nat.zero_le _, rfl, by simp, rfl⟩
  case round =>
    obtain ⟨k, hk, rfl, htk, rfl⟩ := hrel
    by_cases hlt : k < l.length
    · obtain ⟨b, off, rfl, hb, hcell⟩ := hc (by intro h; simp [h] at hlt)
      obtain ⟨y, hy⟩ : ∃ y, y = l[k] := ⟨_, rfl⟩
      have c1 : wr.cell? ⟨b, off + k, none⟩ = some (.string y) := hcell k y (by simp [hlt, hy])
      have HN : Hid (((y.size : Int) == m) = false → ∀ x ∈ l.take (k + 1), ((x.size : Int) == m) = false) := fun e => take_all hlt htk (by rw [← hy]; exact e)
      have HT : Hid (((y.size : Int) == m) = true → fitP l m = (y, true)) := fun e => by
        show fitP l m = _
        rw [hy]; exact fitP_hit hlt htk (by rw [← hy]; exact e)
      clear hc hcell htk hy
      cases hm : ((y.size : Int) == m) with
      | true =>
        go_wp2_with fail
        go_ret2
        exact ⟨by rw [HT.out hm]; rfl, hbel⟩
      | false =>
        go_wp2_with fail
        go_roundw
        case rel => exact ⟨k + 1, by omega, by go_num, HN.out hm, trivial⟩
        case measure => simp [intOf]; omega
    · have hkl : k = l.length := by omega
      subst hkl
      rw [List.take_length] at htk
      have HE := Lib.hid (fitP_none htk)
      clear htk hlt hc
      go_wp2_with fail
      go_ret2
      exact ⟨by rw [HE.out]; rfl, hbel⟩

end Go.Proofs.YtpiklkbjfpfejaaGreatDoor
