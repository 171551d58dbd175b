/- The values of messages, plain; used and onlyUses. -/
import Derived.Test.YtkdbmfgbokbnfaaGreatDoorWw
import Derived.Test.YtkdbmfgbokbnfaaGreatDoorWq
import Derived.Test.YtkdbmfgbokbnfaaGreatDoorNCheck
namespace Go.Proofs.YtkdbmfgbokbnfaaGreatDoor
open Go.RowKit

/-- A value of a message. -/
structure FieldR where
  kind : UInt8
  n : Int
  s : List UInt8
  l : List (List UInt8)
def fieldV (x : FieldR) (v : Value) : Value := .agg #[.int .u8 (x.kind.toNat : Int), .int .i64 x.n, .string (bs x.s), v]
def usesP (k : Int) : Nat := if k = 98 ∨ k = 117 then 1 else if k = 115 ∨ k = 109 ∨ k = 99 ∨ k = 116 then 2 else if k = 110 ∨ k = 101 then 3 else 0
def onlyP (k : Int) (x : FieldR) : Bool := (decide (usesP k = 1) || decide (x.n = 0)) && (decide (usesP k = 2) || x.s.isEmpty) && (decide (usesP k = 3) || x.l.isEmpty)

set_option maxRecDepth 100000 in
theorem used_any (k : Int) (w : World) : Calls Tryz.prog 34 #[.int .i32 k] w fun e w' => e = .returned (.int .i64 (usesP k : Int)) ∧ w' = w := by
  have each : ∀ j ∈ ([98, 117, 115, 109, 99, 116, 110, 101] : List Int), k = j ∨ (k == j) = false := fun j _ => by
    by_cases h : k = j
    · exact .inl h
    · exact .inr (by simpa using h)
  rcases each 98 (by simp) with rfl | h1
  · go_enter Tryz.func34, Tryz.ntmps34
    go_wp2
    go_ret
    exact ⟨rfl, rfl⟩
  rcases each 117 (by simp) with rfl | h2
  · go_enter Tryz.func34, Tryz.ntmps34
    go_wp2
    go_ret
    exact ⟨rfl, rfl⟩
  rcases each 115 (by simp) with rfl | h3
  · go_enter Tryz.func34, Tryz.ntmps34
    go_wp2
    go_ret
    exact ⟨rfl, rfl⟩
  rcases each 109 (by simp) with rfl | h4
  · go_enter Tryz.func34, Tryz.ntmps34
    go_wp2
    go_ret
    exact ⟨rfl, rfl⟩
  rcases each 99 (by simp) with rfl | h5
  · go_enter Tryz.func34, Tryz.ntmps34
    go_wp2
    go_ret
    exact ⟨rfl, rfl⟩
  rcases each 116 (by simp) with rfl | h6
  · go_enter Tryz.func34, Tryz.ntmps34
    go_wp2
    go_ret
    exact ⟨rfl, rfl⟩
  rcases each 110 (by simp) with rfl | h7
  · go_enter Tryz.func34, Tryz.ntmps34
    go_wp2
    go_ret
    exact ⟨rfl, rfl⟩
  rcases each 101 (by simp) with rfl | h8
  · go_enter Tryz.func34, Tryz.ntmps34
    go_wp2
    go_ret
    exact ⟨rfl, rfl⟩
  have hu : usesP k = 0 := by
    simp only [beq_eq_false_iff_ne, ne_eq] at h1 h2 h3 h4 h5 h6 h7 h8
    unfold usesP
    rw [if_neg (by omega), if_neg (by omega), if_neg (by omega)]
  have HU := Lib.hid hu
  clear hu each
  go_enter Tryz.func34, Tryz.ntmps34
  go_wp2
  go_ret
  exact ⟨by rw [HU.out]; rfl, rfl⟩

set_option maxRecDepth 100000 in
theorem only_any (k : Int) (x : FieldR) {v : Value} {w : World} (hv : TextsAt w v (x.l.map bs)) :
    Calls Tryz.prog 33 #[.int .i32 k, fieldV x v] w fun e w' => e = .returned (.bool (onlyP k x)) ∧ Below w.heap.size w w' := by
  obtain ⟨ao, cap, rfl, _⟩ := hv
  rw [List.length_map]
  have HU := Lib.hid (fun W => used_any k W)
  unfold onlyP
  obtain ⟨kd, n, s, l⟩ := x
  unfold fieldV
  simp only
  have q1 : ((usesP k : Int) == 1) = decide (usesP k = 1) := by rw [show (1 : Int) = ((1 : Nat) : Int) from rfl]; by_cases h : usesP k = 1 <;> simp [h]; omega
  have q2 : ((usesP k : Int) == 2) = decide (usesP k = 2) := by by_cases h : usesP k = 2 <;> simp [h]; omega
  have q3 : ((usesP k : Int) == 3) = decide (usesP k = 3) := by by_cases h : usesP k = 3 <;> simp [h]; omega
  have q4 : (n == 0) = decide (n = 0) := by by_cases h : n = 0 <;> simp [h]
  have q5 : (bs s).toList.isEmpty = s.isEmpty := by rw [ByteArray.toList_eq]; simp [bs]
  have q6 : ((l.length : Int) == 0) = l.isEmpty := by cases l with
    | nil => rfl
    | cons a r => simp; omega
  generalize decide (usesP k = 1) = c1 at *
  generalize decide (usesP k = 2) = c2 at *
  generalize decide (usesP k = 3) = c3 at *
  generalize decide (n = 0) = c4 at *
  generalize s.isEmpty = c5 at *
  generalize l.isEmpty = c6 at *
  generalize usesP k = u at *
  generalize bs s = S at *
  generalize l.length = m at *
  generalize kd.toNat = kn at *
  have HF := Lib.hid (Holds.new w 47 #[.int .u8 (kn : Int), .int .i64 n, .string S, .slice ao m cap])
  go_enter Tryz.func33, Tryz.ntmps33
  go_wp2_with (go_at_call 34; with_reducible refine (HU.out _).mono ?_; rintro e w1 ⟨rfl, hw⟩; have hw := hw.symm; subst hw)
  all_goals
    go_ret
    exact ⟨by simp_all, (Below.refl _ _).alloc (Nat.le_refl _) _⟩
end Go.Proofs.YtkdbmfgbokbnfaaGreatDoor
