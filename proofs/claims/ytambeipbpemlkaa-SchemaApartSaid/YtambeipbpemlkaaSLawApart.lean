/- The walk of SchemaApart. -/
import Derived.Test.YtambeipbpemlkaaFit
import Derived.BigRegion
namespace Go.Proofs.Ytambeipbpemlkaa
open Go.RowKit

theorem formsP_apart (n : Int) : ((formsP n).map (·.size)).Nodup := by
  have h : ∀ r ∈ tableP, (r.2.2.map (·.size)).Nodup := by decide
  rcases formsP_mem n with e | ⟨r, hr, e⟩
  · rw [e]; simp
  · rw [e]; exact h r hr
theorem apart_ne {l : List ByteArray} (h : (l.map (·.size)).Nodup) {k i : Nat} (hk : k < i) (hi : i < l.length) : ((((l[k]'(by omega)).size : Nat) : Int) == ((l[i].size : Nat) : Int)) = false := by
  rw [beq_eq_false_iff_ne]
  intro e
  have e' : (l[k]'(by omega)).size = l[i].size := by omega
  have := (List.getElem_inj (xs := l.map (fun x => x.size)) (i := k) (j := i) (h₀ := by simp; omega) (h₁ := by simpa using hi) h).1 (by simpa using e')
  omega
theorem fitP_self {l : List ByteArray} (h : (l.map (·.size)).Nodup) {i : Nat} (hi : i < l.length) : fitP l ((l[i].size : Nat) : Int) = (l[i], true) := by
  refine fitP_hit hi (fun x hx => ?_) (by simp)
  obtain ⟨k, hk, rfl⟩ := List.mem_iff_getElem.1 hx
  simp only [List.length_take] at hk
  rw [List.getElem_take]
  exact apart_ne h (by omega) hi

set_option maxRecDepth 100000 in
theorem schemaApart_any (w : World) (n : Int) : Calls Try.prog 3 #[.int .i64 n] w fun e w' => e = .returned (.bool true) ∧ Below w.heap.size w w' := by
  have hln := formsP_len n
  have hap := formsP_apart n
  have HFit := Lib.hid fun W => fun m => fit_any W n m
  have hF : Calls Try.prog 4 #[.int .i64 n] w fun e w' => ∃ ao cap, e = .returned (.slice ao (formsP n).length cap) ∧ (formsP n ≠ [] → ∃ b off, ao = some ⟨b, off, none⟩ ∧ b < w'.heap.size ∧ ∀ k x, (formsP n)[k]? = some x → w'.cell? ⟨b, off + k, none⟩ = some (.string x)) ∧ Below w.heap.size w w' :=
    (forms_any w n).mono fun e w' ⟨v, he, ⟨ao, cap, hv, hc⟩, hb⟩ => ⟨ao, cap, by rw [he, hv], hc, hb⟩
  generalize formsP n = l at *
  have HAP := Lib.hid hap
  clear hap
  have HAW := Lib.hid awake6_any
  go_enter Try.func3, Try.ntmps3
  go_wp2_with (go_at_call 4; with_reducible refine hF.mono ?_; rintro e w1 ⟨ao, cap, rfl, hc, hbel⟩)
  go_loopw [4] (fun i wr => ∃ k : Nat, k ≤ l.length ∧ i = .int .i64 k ∧ Below w1.heap.size w1 wr ∧ Below w.heap.size w wr) (fun i _ => l.length - (intOf i).toNat)
  case atStart => exact ⟨0, Nat.zero_le _, rfl, Below.refl _ _, hbel⟩
  case round =>
    obtain ⟨k, hk, rfl, hb1, hbw⟩ := hrel
    by_cases hlt : k < l.length
    · obtain ⟨b, off, rfl, hb, hcell⟩ := hc (by intro h; simp [h] at hlt)
      have HC := Lib.hid hcell
      clear hc hcell
      obtain ⟨y, hy⟩ : ∃ y, y = l[k] := ⟨_, rfl⟩
      have c1 : wr.cell? ⟨b, off + k, none⟩ = some (.string y) := (hb1.cell (p := ⟨b, off + k, none⟩) hb).trans (HC.out k y (by simp [hlt, hy]))
      have HS : Hid (fitP l ((y.size : Nat) : Int) = (y, true)) := by
        show _ = _
        rw [hy]; exact fitP_self HAP.out hlt
      have HN : Hid (∀ (j : Nat) (_ : j < k) (z : ByteArray), z = l[j]'(by omega) → (((z.size : Nat) : Int) == ((y.size : Nat) : Int)) = false) := fun j hj z hz => by
        rw [hy, hz]; exact apart_ne HAP.out hj hlt
      have hbq : (y.toList == y.toList) = true := by simp
      have HY : Hid (l[k]? = some y) := by
        show _ = _
        rw [hy]; exact List.getElem?_eq_getElem hlt
      clear hy
      go_wp2_with (first
        | (go_at_call 5; refine (HFit.out _ _).mono ?_; rw [HS.out]; rintro e w2 ⟨rfl, hb2⟩; have c2 : w2.cell? ⟨b, off + k, none⟩ = some (.string y) := (hb2.cell (p := ⟨b, off + k, none⟩) (Nat.lt_of_lt_of_le hb hb1.size)).trans c1))
      have hb1' := hb1.trans (hb2.mono hb1.size)
      have hbw' := hbw.trans (hb2.mono hbw.size)
      go_loopw [7] (fun i wi => ∃ j : Nat, j ≤ k ∧ i = .int .i64 j ∧ Below w1.heap.size w1 wi ∧ Below w.heap.size w wi) (fun i _ => k - (intOf i).toNat)
      case atStart => exact ⟨0, Nat.zero_le _, rfl, hb1', hbw'⟩
      case round =>
        obtain ⟨j, hj, rfl, hb1i, hbwi⟩ := hrel
        by_cases hjl : j < k
        · obtain ⟨z, hz⟩ : ∃ z, z = l[j]'(by omega) := ⟨_, rfl⟩
          have e1 : wr.cell? ⟨b, off + k, none⟩ = some (.string y) := (hb1i.cell (p := ⟨b, off + k, none⟩) hb).trans (HC.out k y HY.out)
          have e2 : wr.cell? ⟨b, off + j, none⟩ = some (.string z) := (hb1i.cell (p := ⟨b, off + j, none⟩) hb).trans (HC.out j z (by rw [List.getElem?_eq_getElem (by omega), hz]))
          have hne := HN.out j hjl z hz
          clear hz
          have hbb1 := Lib.hid hb1i
          have hbbw := Lib.hid hbwi
          have f1 : wr.drew.cell? ⟨b, off + k, none⟩ = some (.string y) := e1
          have f2 : wr.drew.cell? ⟨b, off + j, none⟩ = some (.string z) := e2
          clear hb1 hbw hb1i hbwi c1
          go_wp2_with fail
          go_region
          all_goals
            go_wp2_with fail
            go_roundw
            case rel => exact ⟨j + 1, by omega, by go_num, hbb1.out.drew, hbbw.out.drew⟩
            case measure => simp [intOf]; omega
        · have hjk : j = k := by omega
          subst hjk
          go_wp2_with fail
          go_roundw
          case rel => exact ⟨j + 1, by omega, by go_num, hb1i, hbwi⟩
          case measure => simp [intOf]; omega
    · have hkl : k = l.length := by omega
      subst hkl
      clear hc hlt
      go_wp2_with (go_at_call 6; refine (HAW.out _).mono ?_; rintro e w3 ⟨rfl, hb3⟩)
      go_ret
      exact ⟨rfl, hbw.trans (hb3.mono hbw.size)⟩
end Go.Proofs.Ytambeipbpemlkaa
