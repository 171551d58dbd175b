/- Contracts of Same, of names.Without and of Without by the document. -/
import Derived.Test.YtfbegkmogdjaiaaNFirst
import Derived.Maps.AppendAt
import Derived.BigRegion
namespace Go.Proofs.Ytfbegkmogdjaiaa
open Go.RowKit Go.Maps Go.WideMaps

set_option maxRecDepth 100000 in
theorem same_any {w : World} {v v' : Value} {l l' : List ByteArray} (h : TextsAt w v l) (h' : TextsAt w v' l') (hl : l.length ≤ maxLen) :
    Calls Try.prog 13 #[v, v'] w fun e w' => e = .returned (.bool (decide (l = l'))) ∧ Below w.heap.size w w' := by
  obtain ⟨ao, cap, rfl, hc⟩ := h
  obtain ⟨ao', cap', rfl, hc'⟩ := h'
  unfold maxLen at hl
  by_cases hlen : l.length = l'.length
  · have hle : l'.length = l.length := hlen.symm
    rw [hle]
    clear hlen
    have HLE := Lib.hid hle
    clear hle
    go_enter Try.func13, Try.ntmps13
    go_wp2_with fail
    go_loopw [5] (fun i wr => ∃ k : Nat, k ≤ l.length ∧ i = .int .i64 k ∧ l.take k = l'.take k ∧ Below w.heap.size w wr) (fun i _ => l.length - (intOf i).toNat)
    case atStart => exact ⟨0, Nat.zero_le _, rfl, rfl, Below.refl _ _⟩
    case round =>
      obtain ⟨k, hk, rfl, htk, hbel⟩ := hrel
      by_cases hlt : k < l.length
      · have hlt' : k < l'.length := by rw [HLE.out]; exact hlt
        obtain ⟨b, off, rfl, hb, hcell⟩ := hc (by intro h; simp [h] at hlt)
        obtain ⟨b', off', rfl, hb', hcell'⟩ := hc' (by intro h; simp [h] at hlt')
        obtain ⟨x, hx⟩ : ∃ x, x = l[k] := ⟨_, rfl⟩
        obtain ⟨y, hy⟩ : ∃ y, y = l'[k] := ⟨_, rfl⟩
        have c1 : wr.cell? ⟨b, off + k, none⟩ = some (.string x) := (hbel.cell (p := ⟨b, off + k, none⟩) hb).trans (hcell k x (by simp [hlt, hx]))
        have c2 : wr.cell? ⟨b', off' + k, none⟩ = some (.string y) := (hbel.cell (p := ⟨b', off' + k, none⟩) hb').trans (hcell' k y (by simp [hlt', hy]))
        have c3 : wr.drew.cell? ⟨b, off + k, none⟩ = some (.string x) := c1
        have c4 : wr.drew.cell? ⟨b', off' + k, none⟩ = some (.string y) := c2
        have HT : Hid (x = y → l.take (k + 1) = l'.take (k + 1)) := fun e => by
          rw [List.take_succ_eq_append_getElem hlt, List.take_succ_eq_append_getElem hlt', htk, ← hx, ← hy, e]
        have HN : Hid (x ≠ y → decide (l = l') = false) := fun hne => decide_eq_false fun e => by subst e; exact hne (hx.trans hy.symm)
        clear hc hc' hcell hcell' htk hx hy hlt'
        have HB := Lib.hid hbel
        clear hbel
        go_wp2_with fail
        by_cases hxy : x = y
        · have hbq := same_yes hxy
          go_region
          all_goals
            go_wp2_with fail
            go_roundw
            case rel => exact ⟨k + 1, by omega, by go_num, HT.out hxy, HB.out.drew⟩
            case measure => simp [intOf]; omega
        · have hbq := same_no hxy
          go_region
          all_goals
            go_wp2_with fail
            go_ret
            exact ⟨by rw [HN.out hxy]; rfl, HB.out.drew⟩
      · have hkl : k = l.length := by omega
        subst hkl
        have he : decide (l = l') = true := by
          rw [List.take_length] at htk
          have : l'.take l.length = l' := List.take_of_length_le (by rw [HLE.out]; exact Nat.le_refl _)
          rw [this] at htk
          exact decide_eq_true htk
        have HE := Lib.hid he
        clear htk he hlt hc hc'
        go_wp2_with fail
        go_ret
        exact ⟨by rw [HE.out]; rfl, hbel⟩
  · have hne : decide (l = l') = false := decide_eq_false fun e => hlen (by rw [e])
    have HNE := Lib.hid hne
    clear hne hc hc'
    have hq : ((l.length : Int) != (l'.length : Int)) = true := by simp; omega
    go_enter Try.func13, Try.ntmps13
    go_wp2_with fail
    go_ret
    exact ⟨by rw [HNE.out]; rfl, Below.refl _ _⟩

/-! ### Without -/
def without (l o : List ByteArray) : List ByteArray := l.filter fun x => decide (x ∉ o)
def strs (l : List ByteArray) : List Value := l.map Value.string
theorem without_snoc_in {l o : List ByteArray} {x : ByteArray} (h : x ∈ o) : without (l ++ [x]) o = without l o := by simp [without, h]
theorem without_snoc_out {l o : List ByteArray} {x : ByteArray} (h : x ∉ o) : without (l ++ [x]) o = without l o ++ [x] := by simp [without, h]
theorem without_le (l o : List ByteArray) : (without l o).length ≤ l.length := List.length_filter_le _ _
theorem without_mem {l o : List ByteArray} {x : ByteArray} (h : x ∈ without l o) : x ∈ l ∧ x ∉ o := by simpa [without] using h
theorem strs_length (l : List ByteArray) : (strs l).length = l.length := by simp [strs]
theorem strs_snoc (l : List ByteArray) (x : ByteArray) : strs (l ++ [x]) = strs l ++ [.string x] := by simp [strs]

/-- A row of the call's own that holds strings reads as them. -/
theorem TextsAt.ofRow {w : World} {base : Nat} {v : Value} {l : List ByteArray} (h : w.ownsRow base 9 1 v l.length (strs l)) (hn : l = [] → v = .slice none 0 0) : TextsAt w v l := by
  by_cases hl : l = []
  · subst hl
    rw [hn rfl]
    exact TextsAt.nil w
  · have hown := h
    obtain ⟨_, hcase⟩ := h
    rcases hcase with ⟨_, h0⟩ | ⟨g, cap', cur, rfl, hg, hh, hn, hcap, hsz, htake⟩
    · exact absurd (List.length_eq_zero_iff.1 h0) hl
    · refine ⟨some ⟨g, 0, none⟩, cap', rfl, fun _ => ⟨g, 0, rfl, (Array.getElem?_eq_some_iff.1 hh).1, fun k x hk => ?_⟩⟩
      have hk' := (List.getElem?_eq_some_iff.1 hk).1
      rw [Nat.zero_add, hown.cellAt k (by omega)]
      simp [strs, hk]

theorem infoStr : (Try.prog.info? 9).map (fun i => (i.zero, i.size, i.bytes)) = some (some (.string ⟨#[]⟩), 1, 16) := by kernel_rfl
theorem str_one (x : ByteArray) : ∀ u ∈ [Value.string x], u.oneCell' = true := by simp [Value.oneCell']

set_option maxRecDepth 100000 in
theorem rWithout_any {w : World} {v v' : Value} {l o : List ByteArray} (h : TextsAt w v l) (h' : TextsAt w v' o) (hl : l.length ≤ 65536) (ho : o.length ≤ maxLen) :
    Calls Try.prog 14 #[v, v'] w fun e w' => ∃ u, e = .returned u ∧ TextsAt w' u (without l o) ∧ Below w.heap.size w w' := by
  have hH := fun (x : ByteArray) (wr : World) (hb : Below w.heap.size w wr) => rHas_any (h'.below hb) ho x
  obtain ⟨ao, cap, rfl, hc⟩ := h
  obtain ⟨ao', cap', rfl, _⟩ := h'
  obtain ⟨i0, hi, hz0, hz1, hz2⟩ := info_parts infoStr
  go_enter Try.func14, Try.ntmps14
  go_wp2_with fail
  go_loopw [5, 6] (fun u i wr => ∃ k : Nat, k ≤ l.length ∧ i = .int .i64 k ∧ wr.ownsRow w.heap.size 9 1 u (without (l.take k) o).length (strs (without (l.take k) o)) ∧ (without (l.take k) o = [] → u = .slice none 0 0) ∧ Below w.heap.size w wr) (fun _ i _ => l.length - (intOf i).toNat)
  case atStart => exact ⟨0, Nat.zero_le _, rfl, World.ownsRow_nil _ _ _ _, fun _ => rfl, Below.refl _ _⟩
  case round =>
    obtain ⟨k, hk, rfl, hrow, hnil, hbel⟩ := hrel
    by_cases hlt : k < l.length
    · obtain ⟨b, off, rfl, hb, hcell⟩ := hc (by intro h; simp [h] at hlt)
      obtain ⟨y, hy⟩ : ∃ y, y = l[k] := ⟨_, rfl⟩
      have c1 : wr.cell? ⟨b, off + k, none⟩ = some (.string y) := (hbel.cell (p := ⟨b, off + k, none⟩) hb).trans (hcell k y (by simp [hlt, hy]))
      have HI : Hid (y ∈ o → without (l.take (k + 1)) o = without (l.take k) o) := fun e => by
        show without (l.take (k + 1)) o = _
        rw [List.take_succ_eq_append_getElem hlt, ← hy, without_snoc_in e]
      have HO : Hid (y ∉ o → without (l.take (k + 1)) o = without (l.take k) o ++ [y]) := fun e => by
        show without (l.take (k + 1)) o = _
        rw [List.take_succ_eq_append_getElem hlt, ← hy, without_snoc_out e]
      have hle : (without (l.take k) o).length ≤ 65536 := Nat.le_trans (without_le _ _) (by simp; omega)
      generalize hL : without (l.take k) o = L at hrow hnil HI HO hle
      clear hc hcell hy hL
      by_cases hm : y ∈ o
      · have hd : decide (y ∈ o) = true := decide_eq_true hm
        go_wp2_with (go_at_call 9; refine (hH y wr hbel).mono ?_; rw [hd]; rintro e w' ⟨rfl, rfl⟩)
        go_roundw
        case rel => exact ⟨k + 1, by omega, by go_num, by rw [HI.out hm]; exact hrow, by rw [HI.out hm]; exact hnil, hbel⟩
        case measure => simp [intOf]; omega
      · have hd : decide (y ∈ o) = false := decide_eq_false hm
        go_wp2_with (first
          | (go_at_call 9; refine (hH y wr hbel).mono ?_; rw [hd]; rintro e w' ⟨rfl, rfl⟩)
          | (at_builtin; refine wpList_append_own _ rfl _ _ 22 rfl w.heap.size 9 i0 (.string ⟨#[]⟩) 1 16 Try.underlying22 hi hz0 hz1 hz2 rfl (by decide) _ _ _ rfl (hrow.alloc _) ⟨w'.heap.size, 0, none⟩ 1 1 [.string y] rfl rfl (cell_one_new _ _ _) (str_one y) (by unfold maxLen; omega) (by omega) (by have := hbel.size; simp; omega) ?_; intro v' w2 hown' hgrow2 hnil2)
          | go_in)
        go_roundw
        case rel =>
          refine ⟨k + 1, by omega, by go_num, ?_, fun e => by rw [HO.out hm] at e; simp at e, ?_⟩
          · rw [HO.out hm, strs_snoc]
            simpa using hown'
          · exact (hbel.alloc hbel.size _).grown hgrow2 (by have := hbel.size; simp; omega) (fun j hj => (hrow.lt j hj).1)
        case measure => simp [intOf]; omega
    · have hkl : k = l.length := by omega
      subst hkl
      rw [List.take_length] at hrow hnil
      clear hlt hc
      go_wp2_with fail
      go_ret
      exact ⟨_, rfl, TextsAt.ofRow hrow hnil, hbel⟩

set_option maxRecDepth 100000 in
theorem nWithout_any {w : World} {v v' : Value} {l o : List ByteArray} (h : TextsAt w v l) (h' : TextsAt w v' o) (hl : l.length ≤ 65536) (ho : o.length ≤ 281474976710656) (hs : ∀ x ∈ l, x.size ≤ maxLen) (hs' : ∀ x ∈ o, x.size ≤ maxLen) :
    Calls Try.prog 12 #[v, v'] w fun e w' => ∃ u, e = .returned u ∧ TextsAt w' u (without l o) ∧ Below w.heap.size w w' := by
  have hS := Lib.hid (nSet_any h' ho hs')
  obtain ⟨ao, cap, rfl, hc⟩ := h
  obtain ⟨ao', cap', rfl, _⟩ := h'
  have HS := Lib.hid hs
  clear hs hs'
  obtain ⟨i0, hi, hz0, hz1, hz2⟩ := info_parts infoStr
  go_enter Try.func12, Try.ntmps12
  go_wp2_with (go_at_call 15; refine hS.out.mono ?_; rintro e w1 ⟨rfl, hown, hbel, hgt⟩)
  go_loopw [6, 15] (fun u i wr => ∃ k : Nat, k ≤ l.length ∧ i = .int .i64 k ∧ wr.ownsMap Try.prog 9 (unitElem (H := Unit)) w.heap.size o.length (setD o) ∧
    wr.ownsRow (w.heap.size + 1) 9 1 u (without (l.take k) o).length (strs (without (l.take k) o)) ∧ (without (l.take k) o = [] → u = .slice none 0 0) ∧ Below w.heap.size w wr ∧ w.heap.size < wr.heap.size) (fun _ i _ => l.length - (intOf i).toNat)
  case atStart => exact ⟨0, Nat.zero_le _, rfl, hown, World.ownsRow_nil _ _ _ _, fun _ => rfl, hbel, hgt⟩
  case round =>
    clear hown hbel hgt
    obtain ⟨k, hk, rfl, hown, hrow, hnil, hbel, hgt⟩ := hrel
    by_cases hlt : k < l.length
    · obtain ⟨b, off, rfl, hb, hcell⟩ := hc (by intro h; simp [h] at hlt)
      obtain ⟨y, hy⟩ : ∃ y, y = l[k] := ⟨_, rfl⟩
      have c1 : wr.cell? ⟨b, off + k, none⟩ = some (.string y) := (hbel.cell (p := ⟨b, off + k, none⟩) hb).trans (hcell k y (by simp [hlt, hy]))
      have hkey := key_ok (HS.out y (by rw [hy]; exact List.getElem_mem hlt))
      have HI : Hid (y ∈ o → without (l.take (k + 1)) o = without (l.take k) o) := fun e => by
        show without (l.take (k + 1)) o = _
        rw [List.take_succ_eq_append_getElem hlt, ← hy, without_snoc_in e]
      have HO : Hid (y ∉ o → without (l.take (k + 1)) o = without (l.take k) o ++ [y]) := fun e => by
        show without (l.take (k + 1)) o = _
        rw [List.take_succ_eq_append_getElem hlt, ← hy, without_snoc_out e]
      have hle : (without (l.take k) o).length ≤ 65536 := Nat.le_trans (without_le _ _) (by simp; omega)
      generalize hL : without (l.take k) o = L at hrow hnil HI HO hle
      clear hc hcell hy hL
      have hhas := has_setD o y
      by_cases hm : y ∈ o
      · rw [decide_eq_true hm] at hhas
        go_wp2_with (first
          | (at_lookup; refine wpList_lookup_own_unit _ rfl _ _ 33 rfl 9 35 lawStr Try.underlying33 (zeroUnit _) w.heap.size o.length _ rfl hown _ _ rfl hkey ?_; rw [hhas])
          | go_in)
        go_roundw
        case rel => exact ⟨k + 1, by omega, by go_num, hown.alloc _, by rw [HI.out hm]; exact hrow.alloc _, by rw [HI.out hm]; exact hnil, hbel.alloc hbel.size _, by simp; omega⟩
        case measure => simp [intOf]; omega
      · rw [decide_eq_false hm] at hhas
        go_wp2_with (first
          | (at_lookup; refine wpList_lookup_own_unit _ rfl _ _ 33 rfl 9 35 lawStr Try.underlying33 (zeroUnit _) w.heap.size o.length _ rfl hown _ _ rfl hkey ?_; rw [hhas])
          | (at_builtin; refine wpList_append_own _ rfl _ _ 22 rfl (w.heap.size + 1) 9 i0 (.string ⟨#[]⟩) 1 16 Try.underlying22 hi hz0 hz1 hz2 rfl (by decide) _ _ _ rfl ((hrow.alloc _).alloc _) ⟨wr.heap.size + 1, 0, none⟩ 1 1 [.string y] rfl rfl (by simpa using cell_one_new (wr.alloc _) _ _) (str_one y) (by unfold maxLen; omega) (by omega) (by simp; omega) ?_; intro v' w2 hown' hgrow2 hnil2)
          | go_in)
        have s2 := hgrow2.size
        simp at s2
        go_roundw
        case rel =>
          refine ⟨k + 1, by omega, by go_num, ?_, ?_, fun e => by rw [HO.out hm] at e; simp at e, ?_, by omega⟩
          · exact ((hown.alloc _).alloc _).kept hgrow2 (fun e => by have := (hrow.lt _ e.symm).1; omega)
          · rw [HO.out hm, strs_snoc]
            simpa using hown'
          · exact ((hbel.alloc hbel.size _).alloc (by simp; omega) _).grown hgrow2 (by simp; omega) (fun j hj => by have := (hrow.lt j hj).1; omega)
        case measure => simp [intOf]; omega
    · have hkl : k = l.length := by omega
      subst hkl
      rw [List.take_length] at hrow hnil
      clear hlt hc
      go_wp2_with fail
      go_ret
      exact ⟨_, rfl, TextsAt.ofRow hrow hnil, hbel⟩
end Go.Proofs.Ytfbegkmogdjaiaa
