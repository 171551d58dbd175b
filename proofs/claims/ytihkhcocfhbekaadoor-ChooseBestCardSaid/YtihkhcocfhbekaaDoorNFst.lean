/- Contracts of names.First and of First by the document. -/
import Derived.Test.YtihkhcocfhbekaaDoorNSet
import Derived.Test.YtihkhcocfhbekaaDoorNRHas
namespace Go.Proofs.YtihkhcocfhbekaaDoor
open Go.RowKit Go.Maps Go.WideMaps

/-- The first of l that is in o; none: the empty string. -/
def firstIn (l o : List ByteArray) : ByteArray × Bool := match l.find? (fun x => decide (x ∈ o)) with | some x => (x, true) | none => (⟨#[]⟩, false)
theorem firstIn_hit {l o : List ByteArray} {k : Nat} (hk : k < l.length) (hn : ∀ x ∈ l.take k, x ∉ o) (hm : l[k] ∈ o) : firstIn l o = (l[k], true) := by
  have : l.find? (fun x => decide (x ∈ o)) = some l[k] := by
    rw [List.find?_eq_some_iff_append]
    refine ⟨by simpa using hm, l.take k, l.drop (k + 1), by simp, fun x hx => by simpa using hn x hx⟩
  rw [firstIn, this]
theorem firstIn_none {l o : List ByteArray} (hn : ∀ x ∈ l, x ∉ o) : firstIn l o = (⟨#[]⟩, false) := by
  have : l.find? (fun x => decide (x ∈ o)) = none := by
    rw [List.find?_eq_none]
    intro x hx
    simpa using hn x hx
  rw [firstIn, this]
theorem take_step {l o : List ByteArray} {k : Nat} (hlt : k < l.length) (hn : ∀ x ∈ l.take k, x ∉ o) (hm : l[k] ∉ o) : ∀ x ∈ l.take (k + 1), x ∉ o := by
  intro x hx
  rw [List.take_succ_eq_append_getElem hlt, List.mem_append] at hx
  rcases hx with hx | hx
  · exact hn x hx
  · simp at hx
    rw [hx]; exact hm
set_option maxRecDepth 100000 in
theorem nFirst_any {w : World} {v v' : Value} {l o : List ByteArray} (h : TextsAt w v l) (h' : TextsAt w v' o) (hl : l.length ≤ maxLen) (ho : o.length ≤ 281474976710656) (hs : ∀ x ∈ l, x.size ≤ maxLen) (hs' : ∀ x ∈ o, x.size ≤ maxLen) :
    Calls Tryd.prog 41 #[v, v'] w fun e w' => e = .returned (.tuple #[.string (firstIn l o).1, .bool (firstIn l o).2]) ∧ Below w.heap.size w w' := by
  have hS := Lib.hid (nSet_any h' ho hs')
  obtain ⟨ao, cap, rfl, hc⟩ := h
  obtain ⟨ao', cap', rfl, _⟩ := h'
  unfold maxLen at hl
  have HS := Lib.hid hs
  clear hs hs'
  go_enter Tryd.func41, Tryd.ntmps41
  go_wp2_with (go_at_call 64; refine hS.out.mono ?_; rintro e w1 ⟨rfl, hown, hbel, hgt⟩)
  go_loopw [15] (fun i wr => ∃ k : Nat, k ≤ l.length ∧ i = .int .i64 k ∧ (∀ x ∈ l.take k, x ∉ o) ∧ wr.ownsMap Tryd.prog 9 (unitElem (H := Unit)) w.heap.size o.length (setD o) ∧ Below w.heap.size w wr) (fun i _ => l.length - (intOf i).toNat)
  case atStart => exact ⟨0, Nat.zero_le _, rfl, by simp, hown, hbel⟩
  case round =>
    obtain ⟨k, hk, rfl, htk, hown, hbel⟩ := hrel
    by_cases hlt : k < l.length
    · obtain ⟨b, off, rfl, hb, hcell⟩ := hc (by intro h; simp [h] at hlt)
      obtain ⟨y, hy⟩ : ∃ y, y = l[k] := ⟨_, rfl⟩
      have c1 : wr.cell? ⟨b, off + k, none⟩ = some (.string y) := (hbel.cell (p := ⟨b, off + k, none⟩) hb).trans (hcell k y (by simp [hlt, hy]))
      have hkey := key_ok (HS.out y (by rw [hy]; exact List.getElem_mem hlt))
      have HN : Hid (y ∉ o → ∀ x ∈ l.take (k + 1), x ∉ o) := fun e => take_step hlt htk (by rw [← hy]; exact e)
      have HT : Hid (y ∈ o → firstIn l o = (y, true)) := fun e => by
        show firstIn l o = _
        rw [hy]; exact firstIn_hit hlt htk (by rw [← hy]; exact e)
      clear hc hcell htk hy
      have hhas := has_setD o y
      by_cases hm : y ∈ o
      · rw [decide_eq_true hm] at hhas
        go_wp2_with (first
          | (at_lookup; refine wpList_lookup_own_unit _ rfl _ _ 92 rfl 9 94 lawStr Tryd.underlying92 (zeroUnit _) w.heap.size o.length _ rfl hown _ _ rfl hkey ?_; rw [hhas])
          | go_in)
        go_ret2
        exact ⟨by rw [HT.out hm]; rfl, hbel.alloc hbel.size _⟩
      · rw [decide_eq_false hm] at hhas
        go_wp2_with (first
          | (at_lookup; refine wpList_lookup_own_unit _ rfl _ _ 92 rfl 9 94 lawStr Tryd.underlying92 (zeroUnit _) w.heap.size o.length _ rfl hown _ _ rfl hkey ?_; rw [hhas])
          | go_in)
        go_roundw
        case rel => exact ⟨k + 1, by omega, by go_num, HN.out hm, hown.alloc _, hbel.alloc hbel.size _⟩
        case measure => simp [intOf]; omega
    · have hkl : k = l.length := by omega
      subst hkl
      rw [List.take_length] at htk
      have HE := Lib.hid (firstIn_none htk)
      clear htk hlt hc
      go_wp2_with fail
      go_ret2
      exact ⟨by rw [HE.out]; rfl, hbel⟩
set_option maxRecDepth 100000 in
theorem rFirst_any {w : World} {v v' : Value} {l o : List ByteArray} (h : TextsAt w v l) (h' : TextsAt w v' o) (hl : l.length ≤ maxLen) (ho : o.length ≤ maxLen) :
    Calls Tryd.prog 46 #[v, v'] w fun e w' => e = .returned (.tuple #[.string (firstIn l o).1, .bool (firstIn l o).2]) ∧ w' = w := by
  have hH := fun x => rHas_any h' ho x
  obtain ⟨ao, cap, rfl, hc⟩ := h
  obtain ⟨ao', cap', rfl, _⟩ := h'
  unfold maxLen at hl
  go_enter Tryd.func46, Tryd.ntmps46
  go_wp2_with fail
  go_loopw [6] (fun i wr => ∃ k : Nat, k ≤ l.length ∧ i = .int .i64 k ∧ (∀ x ∈ l.take k, x ∉ o) ∧ wr = w) (fun i _ => l.length - (intOf i).toNat)
  case atStart => exact ⟨0, Nat.zero_le _, rfl, by simp, rfl⟩
  case round =>
    obtain ⟨k, hk, rfl, htk, rfl⟩ := hrel
    by_cases hlt : k < l.length
    · obtain ⟨b, off, rfl, hb, hcell⟩ := hc (by intro h; simp [h] at hlt)
      obtain ⟨y, hy⟩ : ∃ y, y = l[k] := ⟨_, rfl⟩
      have c1 : wr.cell? ⟨b, off + k, none⟩ = some (.string y) := hcell k y (by simp [hlt, hy])
      have HN : Hid (y ∉ o → ∀ x ∈ l.take (k + 1), x ∉ o) := fun e => take_step hlt htk (by rw [← hy]; exact e)
      have HT : Hid (y ∈ o → firstIn l o = (y, true)) := fun e => by
        show firstIn l o = _
        rw [hy]; exact firstIn_hit hlt htk (by rw [← hy]; exact e)
      clear hc hcell htk hy
      by_cases hm : y ∈ o
      · have hd : decide (y ∈ o) = true := decide_eq_true hm
        go_wp2_with (go_at_call 23; refine (hH y).mono ?_; rw [hd]; rintro e w' ⟨rfl, rfl⟩)
        go_ret2
        exact ⟨by rw [HT.out hm]; rfl, rfl⟩
      · have hd : decide (y ∈ o) = false := decide_eq_false hm
        go_wp2_with (go_at_call 23; refine (hH y).mono ?_; rw [hd]; rintro e w' ⟨rfl, rfl⟩)
        go_roundw
        case rel => exact ⟨k + 1, by omega, by go_num, HN.out hm, trivial⟩
        case measure => simp [intOf]; omega
    · have hkl : k = l.length := by omega
      subst hkl
      rw [List.take_length] at htk
      have HE := Lib.hid (firstIn_none htk)
      clear htk hlt hc
      go_wp2_with fail
      go_ret2
      exact ⟨by rw [HE.out]; rfl, rfl⟩

end Go.Proofs.YtihkhcocfhbekaaDoor
