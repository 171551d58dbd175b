/- Part 9 of what the statement wants. -/
import Derived.Laws.Rows
import Derived.RowKitTokens
import Derived.Test.YtgoinpibllomfaaDoorPk02
import Derived.Test.YtgoinpibllomfaaDoorPk08
namespace Go.Proofs.YtgoinpibllomfaaDoor
open Go.RowKit

theorem method_hit4 : ∀ k : Nat, k < 4 → ∀ x : List UInt8, names4[k]? = some x → methodP x = k
  | 0, _, x, h => by obtain rfl := (Option.some.inj h).symm; decide
  | 1, _, x, h => by obtain rfl := (Option.some.inj h).symm; decide
  | 2, _, x, h => by obtain rfl := (Option.some.inj h).symm; decide
  | 3, _, x, h => by obtain rfl := (Option.some.inj h).symm; decide
  | k + 4, h, _, _ => absurd h (by omega)
theorem method_miss {x : List UInt8} (h : ∀ y ∈ names3, y ≠ x) : methodP x = 0 := by
  unfold methodP
  rw [if_neg (fun e => h meCurve (by simp [names3]) e.symm), if_neg (fun e => h meEcdh (by simp [names3]) e.symm), if_neg (fun e => h meGex (by simp [names3]) e.symm)]
theorem pf_take {l : List (List UInt8)} {x : List UInt8} {k : Nat} (hk : k < l.length) (h : ∀ y ∈ l.take k, y ≠ x) (he : l[k] ≠ x) : ∀ y ∈ l.take (k + 1), y ≠ x := by
  intro y hy
  rw [List.take_succ_eq_append_getElem hk, List.mem_append] at hy
  rcases hy with hy | hy
  · exact h y hy
  · simp at hy
    rw [hy]; exact he

set_option maxRecDepth 100000 in
theorem pfMethod_any {w : World} (hT : Tab15 w) (x : List UInt8) : Calls Tryd.prog 103 #[.string (bs x)] w fun e w' => e = .returned (.int .i64 (methodP x)) ∧ Below w.heap.size w w' := by
  obtain ⟨⟨tt, fr, hg⟩, _⟩ := hT
  have hsz := size4
  change w.heap[0]? = some (.cells cells4 tt fr) at hg
  have HI := Lib.hid index4
  have HH : Hid (∀ k : Nat, k < 4 → names4[k]? = some x → methodP x = k) := fun k hk => method_hit4 k hk x
  have HE : Hid ((∀ y ∈ names4, y ≠ x) → methodP x = 0) := fun h => method_miss fun y hy => h y (List.mem_cons_of_mem _ hy)
  have hlen : names4.length = 4 := rfl
  have HQ := Lib.hid (fun y => bsTest y x)
  generalize cells4 = CS at *
  generalize names4 = l at *
  generalize methodP x = m at *
  go_enter Tryd.func103, Tryd.ntmps103
  go_wp2_with (refine wpList_load_row rfl 98 _ rfl 0 rfl tt _ fr _ hg Tryd.underlying98 rfl hsz ?_)
  go_loopw [6] (fun i wr => ∃ k : Nat, k ≤ 4 ∧ i = .int .i64 k ∧ (∀ y ∈ l.take k, y ≠ x) ∧ Below w.heap.size w wr) (fun i _ => 4 - (intOf i).toNat)
  case atStart => exact ⟨0, Nat.zero_le _, rfl, by simp, Below.refl _ _⟩
  case round =>
    obtain ⟨k, hk, rfl, htk, hbel⟩ := hrel
    by_cases hlt : k < 4
    · have hkl : k < l.length := by omega
      obtain ⟨y, hy⟩ : ∃ y, y = l[k] := ⟨_, rfl⟩
      have hi := HI.out k y (by rw [hy]; exact List.getElem?_eq_getElem hkl)
      have hq := HQ.out y
      have HN : Hid (y ≠ x → ∀ z ∈ l.take (k + 1), z ≠ x) := fun e => pf_take hkl htk (by rw [← hy]; exact e)
      have HTr : Hid (y = x → m = k) := fun e => HH.out k hlt (by rw [← e, hy]; exact List.getElem?_eq_getElem hkl)
      clear hy htk
      have HB := Lib.hid hbel
      clear hbel
      by_cases hm : y = x
      · rw [decide_eq_true hm] at hq
        have HR := Lib.hid (HTr.out hm)
        clear hm HTr HN
        generalize bs y = Y at *
        generalize bs x = X at *
        go_wp2_with fail
        go_ret
        exact ⟨by rw [HR.out]; rfl, HB.out⟩
      · rw [decide_eq_false hm] at hq
        have HR := Lib.hid (HN.out hm)
        clear hm HTr HN
        generalize bs y = Y at *
        generalize bs x = X at *
        go_wp2_with fail
        go_roundw
        case rel => exact ⟨k + 1, by omega, by go_num, HR.out, HB.out⟩
        case measure => simp [intOf]; omega
    · have hkl : k = 4 := by omega
      subst hkl
      have HX : Hid (m = 0) := HE.out (by rwa [List.take_of_length_le (by omega)] at htk)
      clear htk hlt
      go_wp2_with fail
      go_ret
      exact ⟨by rw [HX.out]; rfl, hbel⟩

theorem pfIsMethod_any {w : World} (hT : Tab15 w) (x : List UInt8) : Calls Tryd.prog 93 #[.string (bs x)] w fun e w' => e = .returned (.bool (methodP x != 0)) ∧ Below w.heap.size w w' := by
  have HM := Lib.hid (pfMethod_any hT x)
  generalize methodP x = m at *
  generalize bs x = X at *
  clear hT
  go_enter Tryd.func93, Tryd.ntmps93
  go_wp2_with (go_at_call 103; (with_reducible refine HM.out.mono ?_); rintro e w1 ⟨rfl, b1⟩)
  go_ret
  exact ⟨rfl, b1⟩
end Go.Proofs.YtgoinpibllomfaaDoor
