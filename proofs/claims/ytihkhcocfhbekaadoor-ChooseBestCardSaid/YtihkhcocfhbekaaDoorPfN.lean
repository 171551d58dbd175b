/- Layer 15: Name, List. -/
import Derived.Test.YtihkhcocfhbekaaDoorPfW
import Derived.Laws.Rows
import Derived.RowKitTokens
namespace Go.Proofs.YtihkhcocfhbekaaDoor
open Go.RowKit

theorem bsTest (a b : List UInt8) : ((bs a).toList == (bs b).toList) = decide (a = b) := by
  have h : ∀ l : List UInt8, (bs l).toList = l := fun l => by rw [ByteArray.toList_eq]; simp [bs]
  rw [h, h, Bool.eq_iff_iff, beq_iff_eq, decide_eq_true_eq]
def names4 : List (List UInt8) := [[], meCurve, meEcdh, meGex]
def names3 : List (List UInt8) := [meCurve, meEcdh, meGex]
def cells4 : Array Value := #[.string ⟨#[]⟩, .string (bs meCurve), .string (bs meEcdh), .string (bs meGex)]
def cells8 : Array Value := (pfWords.map fun x => Value.string (bs x)).toArray
set_option maxRecDepth 100000 in
theorem size4 : (Tryd.prog.info? 105).map (·.size) = some cells4.size := by kernel_rfl
set_option maxRecDepth 100000 in
theorem index4 : ∀ (k : Nat) (y : List UInt8), names4[k]? = some y → ∀ W : World, (Instr.index 105 (.agg cells4) (.int .i64 (k : Int))).run Tryd.prog W = .ok (.string (bs y)) W
  | 0, y, h => by
    obtain rfl := (Option.some.inj h).symm
    exact fun _ => by kernel_rfl
  | 1, y, h => by
    obtain rfl := (Option.some.inj h).symm
    exact fun _ => by kernel_rfl
  | 2, y, h => by
    obtain rfl := (Option.some.inj h).symm
    exact fun _ => by kernel_rfl
  | 3, y, h => by
    obtain rfl := (Option.some.inj h).symm
    exact fun _ => by kernel_rfl
  | k + 4, y, h => by simp [names4] at h
theorem tab_cell4 {w : World} (hT : Tab15 w) {k : Nat} {y : List UInt8} (h : names4[k]? = some y) : w.cell? ⟨2, k, none⟩ = some (.string (bs y)) := by
  obtain ⟨⟨tt, fr, hg⟩, _⟩ := hT
  rw [cell_of_row w _ k _ _ _ hg]
  have e : (#[.string ⟨#[]⟩, .string (bs meCurve), .string (bs meEcdh), .string (bs meGex)] : Array Value) = (names4.map fun x => Value.string (bs x)).toArray := rfl
  rw [e]
  simp [h]
theorem tab_cell8 {w : World} (hT : Tab15 w) {k : Nat} {y : List UInt8} (h : pfWords[k]? = some y) : w.cell? ⟨1, k, none⟩ = some (.string (bs y)) := by
  obtain ⟨_, tt, fr, hg⟩ := hT
  rw [cell_of_row w _ k _ _ _ hg]
  simp [h]
theorem methodZ_in {z : Int} (h : 0 ≤ z ∧ z < 4) : names4[z.toNat]? = some (methodZ z) := by
  have : z = 0 ∨ z = 1 ∨ z = 2 ∨ z = 3 := by omega
  rcases this with rfl | rfl | rfl | rfl <;> rfl
theorem methodZ_out {z : Int} (h : ¬ (0 ≤ z ∧ z < 4)) : methodZ z = [] := by
  unfold methodZ
  rw [if_neg (by omega), if_neg (by omega), if_neg (by omega)]
theorem wordZ_in {z : Int} (h : 0 ≤ z ∧ z < 8) : pfWords[z.toNat]? = some (wordZ z) := by
  unfold wordZ
  rw [if_pos h]
  have : z.toNat < pfWords.length := by show z.toNat < 8; omega
  simp [List.getD, this]
theorem wordZ_out {z : Int} (h : ¬ (0 ≤ z ∧ z < 8)) : wordZ z = [] := if_neg h

set_option maxRecDepth 100000 in
theorem pfName_any {w : World} (hT : Tab15 w) (z : Int) : Calls Tryd.prog 62 #[.int .i64 z] w fun e w' => e = .returned (.string (bs (methodZ z))) ∧ w' = w := by
  by_cases h : 0 ≤ z ∧ z < 4
  · have hc := tab_cell4 hT (methodZ_in h)
    obtain ⟨n, rfl⟩ : ∃ n : Nat, z = n := ⟨z.toNat, by omega⟩
    rw [Int.toNat_natCast] at hc
    have q1 : decide ((n : Int) < 0) = false := decide_eq_false (by omega)
    have q2 : decide ((n : Int) ≥ 4) = false := decide_eq_false (by omega)
    have hn : n < 4 := by omega
    clear h hT
    generalize bs (methodZ n) = S at *
    go_enter Tryd.func62, Tryd.ntmps62
    go_wp2_with fail
    go_ret
    exact ⟨rfl, rfl⟩
  · rw [methodZ_out h, show bs ([] : List UInt8) = ⟨#[]⟩ from rfl]
    clear hT
    by_cases h0 : z < 0
    · have q1 : decide (z < 0) = true := decide_eq_true h0
      go_enter Tryd.func62, Tryd.ntmps62
      go_wp2_with fail
      go_ret
      exact ⟨rfl, rfl⟩
    · have q1 : decide (z < 0) = false := decide_eq_false h0
      have q2 : decide (z ≥ 4) = true := decide_eq_true (by omega)
      clear h
      go_enter Tryd.func62, Tryd.ntmps62
      go_wp2_with fail
      go_ret
      exact ⟨rfl, rfl⟩
set_option maxRecDepth 100000 in
theorem pfList_any {w : World} (hT : Tab15 w) (z : Int) : Calls Tryd.prog 44 #[.int .i64 z] w fun e w' => e = .returned (.string (bs (wordZ z))) ∧ w' = w := by
  by_cases h : 0 ≤ z ∧ z < 8
  · have hc := tab_cell8 hT (wordZ_in h)
    obtain ⟨n, rfl⟩ : ∃ n : Nat, z = n := ⟨z.toNat, by omega⟩
    rw [Int.toNat_natCast] at hc
    have q1 : decide ((n : Int) < 0) = false := decide_eq_false (by omega)
    have q2 : decide ((n : Int) ≥ 8) = false := decide_eq_false (by omega)
    have hn : n < 8 := by omega
    clear h hT
    generalize bs (wordZ n) = S at *
    go_enter Tryd.func44, Tryd.ntmps44
    go_wp2_with fail
    go_ret
    exact ⟨rfl, rfl⟩
  · rw [wordZ_out h, show bs ([] : List UInt8) = ⟨#[]⟩ from rfl]
    clear hT
    by_cases h0 : z < 0
    · have q1 : decide (z < 0) = true := decide_eq_true h0
      go_enter Tryd.func44, Tryd.ntmps44
      go_wp2_with fail
      go_ret
      exact ⟨rfl, rfl⟩
    · have q1 : decide (z < 0) = false := decide_eq_false h0
      have q2 : decide (z ≥ 8) = true := decide_eq_true (by omega)
      clear h
      go_enter Tryd.func44, Tryd.ntmps44
      go_wp2_with fail
      go_ret
      exact ⟨rfl, rfl⟩
end Go.Proofs.YtihkhcocfhbekaaDoor
