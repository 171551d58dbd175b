/- slices.Clone of a list of strings. -/
import Derived.Test.YtjlbifpbdocahaaDoorStrs
import Derived.Test.YtjlbifpbdocahaaDoorShelf
namespace Go.Proofs.YtjlbifpbdocahaaDoor
open Go.RowKit

/-- A nil list has no room. -/
def Nil0 (v : Value) : Prop := ∀ n c, v = .slice none n c → c = 0
theorem cloneS_new {w : World} {v : Value} {l : List ByteArray} (h : TextsAt w v l) (hl : l.length ≤ 8796093022208) :
    Calls Tryd.prog 33 #[v] w fun e w' => ∃ v', e = .returned v' ∧ TextsAt w' v' l ∧ (l ≠ [] → ∃ g, v'.ownBlock = some g ∧ w.heap.size ≤ g) ∧ Nil0 v' ∧ Below w.heap.size w w' := by
  obtain ⟨ao, cap, rfl, hc⟩ := h
  cases ao with
  | none =>
    have hnil : l = [] := by
      by_cases h : l = []
      · exact h
      · obtain ⟨_, _, e, _⟩ := hc h; cases e
    subst hnil
    exact (Tryd.slices_Clone_string_nil _ cap w).mono fun e w' ⟨he, hw⟩ => ⟨_, he, TextsAt.nil _, fun h => absurd rfl h, fun n c e => by injection e with _ _ e3; exact e3.symm, hw ▸ Below.refl _ _⟩
  | some a =>
    cases l with
    | nil =>
      refine (Tryd.slices_Clone_string_zero a cap w).mono fun e w' ⟨v', he, ho, _, hb⟩ => ⟨v', he, ?_, fun h => absurd rfl h, ?_, hb⟩
      · rcases ho.2 with ⟨rfl, _⟩ | ⟨g, c, cur, rfl, _⟩
        · exact TextsAt.nil _
        · exact ⟨_, c, rfl, fun h => absurd rfl h⟩
      · rcases ho.2 with ⟨rfl, _⟩ | ⟨g, c, cur, rfl, _⟩
        · exact fun n c e => by injection e with _ _ e3; exact e3.symm
        · exact fun n c e => by injection e with e1; cases e1
    | cons x r =>
      obtain ⟨b, off, e, hb, hcell⟩ := hc (by simp)
      cases e
      refine (Tryd.slices_Clone_string b off (x :: r).length cap (x :: r) w (Nat.le_refl _) (by omega) (fun j hj => hcell j _ (by rw [List.getD_eq_getElem?_getD, List.getElem?_eq_getElem hj]; rfl))).mono fun e w' ⟨v', he, ho, hne, hb'⟩ => ⟨v', he, ?_, fun _ => ?_, ?_, hb'⟩
      · rw [List.take_length] at ho
        exact TextsAt.ofRow (l := x :: r) ho (fun h => by cases h)
      · rcases ho.2 with ⟨rfl, _⟩ | ⟨g, c, cur, rfl, hg, _⟩
        · exact absurd rfl hne
        · exact ⟨g, rfl, hg⟩
      · rcases ho.2 with ⟨rfl, _⟩ | ⟨g, c, cur, rfl, hg, _⟩
        · exact absurd rfl hne
        · exact fun n c e => by injection e with e1; cases e1
theorem cloneS_any {w : World} {v : Value} {l : List ByteArray} (h : TextsAt w v l) (hl : l.length ≤ 8796093022208) :
    Calls Tryd.prog 33 #[v] w fun e w' => ∃ v', e = .returned v' ∧ TextsAt w' v' l ∧ (l ≠ [] → ∃ g, v'.ownBlock = some g ∧ w.heap.size ≤ g) ∧ Below w.heap.size w w' :=
  (cloneS_new h hl).mono fun _ _ ⟨v', h1, h2, h3, _, h5⟩ => ⟨v', h1, h2, h3, h5⟩
end Go.Proofs.YtjlbifpbdocahaaDoor
