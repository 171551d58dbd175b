/- Part 23 of what the statement wants. -/
import Derived.BigRegion
import Derived.Maps.AppendAt
import Derived.KernelRfl
import Derived.Test.YtgoinpibllomfaaDoorPk00
import Derived.Test.YtgoinpibllomfaaDoorPk03
import Derived.Test.YtgoinpibllomfaaDoorPk16
namespace Go.Proofs.YtgoinpibllomfaaDoor
open Go.RowKit

set_option maxRecDepth 100000 in
theorem same_any {w : World} {v v' : Value} {l l' : List ByteArray} (h : TextsAt w v l) (h' : TextsAt w v' l') (hl : l.length ≤ maxLen) :
    Calls Tryd.prog 15 #[v, v'] w fun e w' => e = .returned (.bool (decide (l = l'))) ∧ Below w.heap.size w w' := by
  obtain ⟨ao, cap, rfl, hc⟩ := h
  obtain ⟨ao', cap', rfl, hc'⟩ := h'
  unfold maxLen at hl
  by_cases hlen : l.length = l'.length
  · have hle : l'.length = l.length := hlen.symm
    rw [hle]
    clear hlen
    have HLE := Lib.hid hle
    clear hle
    go_enter Tryd.func15, Tryd.ntmps15
    go_wp2_with fail
    go_loopw [5] (fun i wr => ∃ k : Nat, k ≤ l.length ∧ i = .int .i64 k ∧ l.take k = l'.take k ∧ Below w.heap.size w wr) (fun i _ => l.length - (intOf i).toNat)
    case atStart => exact ⟨0, Nat.zero_le _, rfl, rfl, Below.refl _ _⟩
    case round =>
      obtain ⟨k, hk, rfl, htk, hbel⟩ := hrel
      by_cases hlt : k < l.length
      · have hlt' : k < l'.length := by rw [HLE.out]; exact hlt
        obtain ⟨b, off, rfl, hb, hcell⟩ := hc (by intro h; simp [h] at hlt)
        obtain ⟨b', off', rfl, hb', hcell'⟩ := hc' (by intro h; simp [h] at hlt')
        obtain ⟨x, hx⟩ : ∃ x, x = l[k] := ⟨_, rfl⟩
        obtain ⟨y, hy⟩ : ∃ y, y = l'[k] := ⟨_, rfl⟩
        have c1 : wr.cell? ⟨b, off + k, none⟩ = some (.string x) := (hbel.cell (p := ⟨b, off + k, none⟩) hb).trans (hcell k x (by simp [hlt, hx]))
        have c2 : wr.cell? ⟨b', off' + k, none⟩ = some (.string y) := (hbel.cell (p := ⟨b', off' + k, none⟩) hb').trans (hcell' k y (by simp [hlt', hy]))
        have c3 : wr.drew.cell? ⟨b, off + k, none⟩ = some (.string x) := c1
        have c4 : wr.drew.cell? ⟨b', off' + k, none⟩ = some (.string y) := c2
        have HT : Hid (x = y → l.take (k + 1) = l'.take (k + 1)) := fun e => by
          rw [List.take_succ_eq_append_getElem hlt, List.take_succ_eq_append_getElem hlt', htk, ← hx, ← hy, e]
        have HN : Hid (x ≠ y → decide (l = l') = false) := fun hne => decide_eq_false fun e => by subst e; exact hne (hx.trans hy.symm)
        clear hc hc' hcell hcell' htk hx hy hlt'
        have HB := Lib.hid hbel
        clear hbel
        go_wp2_with fail
        by_cases hxy : x = y
        · have hbq := same_yes hxy
          go_region
          all_goals
            go_wp2_with fail
            go_roundw
            case rel => exact ⟨k + 1, by omega, by go_num, HT.out hxy, HB.out.drew⟩
            case measure => simp [intOf]; omega
        · have hbq := same_no hxy
          go_region
          all_goals
            go_wp2_with fail
            go_ret
            exact ⟨by rw [HN.out hxy]; rfl, HB.out.drew⟩
      · have hkl : k = l.length := by omega
        subst hkl
        have he : decide (l = l') = true := by
          rw [List.take_length] at htk
          have : l'.take l.length = l' := List.take_of_length_le (by rw [HLE.out]; exact Nat.le_refl _)
          rw [this] at htk
          exact decide_eq_true htk
        have HE := Lib.hid he
        clear htk he hlt hc hc'
        go_wp2_with fail
        go_ret
        exact ⟨by rw [HE.out]; rfl, hbel⟩
  · have hne : decide (l = l') = false := decide_eq_false fun e => hlen (by rw [e])
    have HNE := Lib.hid hne
    clear hne hc hc'
    have hq : ((l.length : Int) != (l'.length : Int)) = true := by simp; omega
    go_enter Tryd.func15, Tryd.ntmps15
    go_wp2_with fail
    go_ret
    exact ⟨by rw [HNE.out]; rfl, Below.refl _ _⟩
end Go.Proofs.YtgoinpibllomfaaDoor

namespace Go.Proofs.YtgoinpibllomfaaDoor
open Go.RowKit

theorem texts_sl {w : World} {u : Nat → Value} {p : Nat → List (List UInt8)} (h : ∀ k < 8, TextsAt w (u k) ((p k).map bs)) : ∀ k < 8, ∃ a n c, u k = .slice a n c := fun k hk => by
  obtain ⟨a, c, e, _⟩ := h k hk
  exact ⟨a, _, c, e⟩
end Go.Proofs.YtgoinpibllomfaaDoor

namespace Go.Proofs.YtgoinpibllomfaaDoor
open Go.RowKit

def strs (l : List ByteArray) : List Value := l.map Value.string
/-- A row of the call's own that holds strings reads as them. -/
theorem TextsAt.ofRow {w : World} {base : Nat} {v : Value} {l : List ByteArray} (h : w.ownsRow base 9 1 v l.length (strs l)) (hn : l = [] → v = .slice none 0 0) : TextsAt w v l := by
  by_cases hl : l = []
  · subst hl
    rw [hn rfl]
    exact TextsAt.nil w
  · have hown := h
    obtain ⟨_, hcase⟩ := h
    rcases hcase with ⟨_, h0⟩ | ⟨g, cap', cur, rfl, hg, hh, hn, hcap, hsz, htake⟩
    · exact absurd (List.length_eq_zero_iff.1 h0) hl
    · refine ⟨some ⟨g, 0, none⟩, cap', rfl, fun _ => ⟨g, 0, rfl, (Array.getElem?_eq_some_iff.1 hh).1, fun k x hk => ?_⟩⟩
      have hk' := (List.getElem?_eq_some_iff.1 hk).1
      rw [Nat.zero_add, hown.cellAt k (by omega)]
      simp [strs, hk]
end Go.Proofs.YtgoinpibllomfaaDoor

namespace Go.Proofs.YtgoinpibllomfaaDoor
open Go.RowKit

theorem owns_moves {S : Nat → Prop} {w w' : World} {B : Nat} {e : TypeId} {size n : Nat} {v : Value} {xs : List Value} (h : w.ownsRow B e size v n xs) (m : Moves S w w') (hS : ∀ k, v.ownBlock = some k → ¬ S k) : w'.ownsRow B e size v n xs := by
  refine ⟨h.1, ?_⟩
  rcases h.2 with hn | ⟨g, cap, cur, rfl, hb, hg, rest⟩
  · exact .inl hn
  · exact .inr ⟨g, cap, cur, rfl, hb, (m.block g (Array.getElem?_eq_some_iff.1 hg).1 (hS g rfl)).trans hg, rest⟩
end Go.Proofs.YtgoinpibllomfaaDoor

namespace Go.Proofs.YtgoinpibllomfaaDoor
open Go.RowKit

/-- A nil list has no room. -/
def Nil0 (v : Value) : Prop := ∀ n c, v = .slice none n c → c = 0
theorem cloneS_new {w : World} {v : Value} {l : List ByteArray} (h : TextsAt w v l) (hl : l.length ≤ 8796093022208) :
    Calls Tryd.prog 33 #[v] w fun e w' => ∃ v', e = .returned v' ∧ TextsAt w' v' l ∧ (l ≠ [] → ∃ g, v'.ownBlock = some g ∧ w.heap.size ≤ g) ∧ Nil0 v' ∧ Below w.heap.size w w' := by
  obtain ⟨ao, cap, rfl, hc⟩ := h
  cases ao with
  | none =>
    have hnil : l = [] := by
      by_cases h : l = []
      · exact h
      · obtain ⟨_, _, e, _⟩ := hc h; cases e
    subst hnil
    exact (Tryd.slices_Clone_string_nil _ cap w).mono fun e w' ⟨he, hw⟩ => ⟨_, he, TextsAt.nil _, fun h => absurd rfl h, fun n c e => by injection e with _ _ e3; exact e3.symm, hw ▸ Below.refl _ _⟩
  | some a =>
    cases l with
    | nil =>
      refine (Tryd.slices_Clone_string_zero a cap w).mono fun e w' ⟨v', he, ho, _, hb⟩ => ⟨v', he, ?_, fun h => absurd rfl h, ?_, hb⟩
      · rcases ho.2 with ⟨rfl, _⟩ | ⟨g, c, cur, rfl, _⟩
        · exact TextsAt.nil _
        · exact ⟨_, c, rfl, fun h => absurd rfl h⟩
      · rcases ho.2 with ⟨rfl, _⟩ | ⟨g, c, cur, rfl, _⟩
        · exact fun n c e => by injection e with _ _ e3; exact e3.symm
        · exact fun n c e => by injection e with e1; cases e1
    | cons x r =>
      obtain ⟨b, off, e, hb, hcell⟩ := hc (by simp)
      cases e
      refine (Tryd.slices_Clone_string b off (x :: r).length cap (x :: r) w (Nat.le_refl _) (by omega) (fun j hj => hcell j _ (by rw [List.getD_eq_getElem?_getD, List.getElem?_eq_getElem hj]; rfl))).mono fun e w' ⟨v', he, ho, hne, hb'⟩ => ⟨v', he, ?_, fun _ => ?_, ?_, hb'⟩
      · rw [List.take_length] at ho
        exact TextsAt.ofRow (l := x :: r) ho (fun h => by cases h)
      · rcases ho.2 with ⟨rfl, _⟩ | ⟨g, c, cur, rfl, hg, _⟩
        · exact absurd rfl hne
        · exact ⟨g, rfl, hg⟩
      · rcases ho.2 with ⟨rfl, _⟩ | ⟨g, c, cur, rfl, hg, _⟩
        · exact absurd rfl hne
        · exact fun n c e => by injection e with e1; cases e1
theorem cloneS_any {w : World} {v : Value} {l : List ByteArray} (h : TextsAt w v l) (hl : l.length ≤ 8796093022208) :
    Calls Tryd.prog 33 #[v] w fun e w' => ∃ v', e = .returned v' ∧ TextsAt w' v' l ∧ (l ≠ [] → ∃ g, v'.ownBlock = some g ∧ w.heap.size ≤ g) ∧ Below w.heap.size w w' :=
  (cloneS_new h hl).mono fun _ _ ⟨v', h1, h2, h3, _, h5⟩ => ⟨v', h1, h2, h3, h5⟩
end Go.Proofs.YtgoinpibllomfaaDoor
