/- Layer 15: Method, Name, List, Mark, Strict, and the document's Names, Method, Word. -/
import Derived.Test.YtkigohenfaomkaaDoorPf1
import Derived.Laws.Rows
import Derived.RowKitTokens
namespace Go.Proofs.YtkigohenfaomkaaDoor
open Go.RowKit

theorem bsTest (a b : List UInt8) : ((bs a).toList == (bs b).toList) = decide (a = b) := by
  have h : ∀ l : List UInt8, (bs l).toList = l := fun l => by rw [ByteArray.toList_eq]; simp [bs]
  rw [h, h, Bool.eq_iff_iff, beq_iff_eq, decide_eq_true_eq]
def names4 : List (List UInt8) := [[], meCurve, meEcdh, meGex]
def names3 : List (List UInt8) := [meCurve, meEcdh, meGex]
def cells4 : Array Value := #[.string ⟨#[]⟩, .string (bs meCurve), .string (bs meEcdh), .string (bs meGex)]
def cells8 : Array Value := (pfWords.map fun x => Value.string (bs x)).toArray
set_option maxRecDepth 100000 in
theorem size4 : (Tryd.prog.info? 59).map (·.size) = some cells4.size := by kernel_rfl
set_option maxRecDepth 100000 in
theorem index4 : ∀ (k : Nat) (y : List UInt8), names4[k]? = some y → ∀ W : World, (Instr.index 59 (.agg cells4) (.int .i64 (k : Int))).run Tryd.prog W = .ok (.string (bs y)) W
  | 0, y, h => by
    obtain rfl := (Option.some.inj h).symm
    exact fun _ => by kernel_rfl
  | 1, y, h => by
    obtain rfl := (Option.some.inj h).symm
    exact fun _ => by kernel_rfl
  | 2, y, h => by
    obtain rfl := (Option.some.inj h).symm
    exact fun _ => by kernel_rfl
  | 3, y, h => by
    obtain rfl := (Option.some.inj h).symm
    exact fun _ => by kernel_rfl
  | k + 4, y, h => by simp [names4] at h
theorem method_hit4 : ∀ k : Nat, k < 4 → ∀ x : List UInt8, names4[k]? = some x → methodP x = k
  | 0, _, x, h => by obtain rfl := (Option.some.inj h).symm; decide
  | 1, _, x, h => by obtain rfl := (Option.some.inj h).symm; decide
  | 2, _, x, h => by obtain rfl := (Option.some.inj h).symm; decide
  | 3, _, x, h => by obtain rfl := (Option.some.inj h).symm; decide
  | k + 4, h, _, _ => absurd h (by omega)
theorem method_hit3 : ∀ k : Nat, k < 3 → ∀ x : List UInt8, names3[k]? = some x → methodP x = k + 1
  | 0, _, x, h => by obtain rfl := (Option.some.inj h).symm; decide
  | 1, _, x, h => by obtain rfl := (Option.some.inj h).symm; decide
  | 2, _, x, h => by obtain rfl := (Option.some.inj h).symm; decide
  | k + 3, h, _, _ => absurd h (by omega)
theorem method_miss {x : List UInt8} (h : ∀ y ∈ names3, y ≠ x) : methodP x = 0 := by
  unfold methodP
  rw [if_neg (fun e => h meCurve (by simp [names3]) e.symm), if_neg (fun e => h meEcdh (by simp [names3]) e.symm), if_neg (fun e => h meGex (by simp [names3]) e.symm)]
theorem pf_take {l : List (List UInt8)} {x : List UInt8} {k : Nat} (hk : k < l.length) (h : ∀ y ∈ l.take k, y ≠ x) (he : l[k] ≠ x) : ∀ y ∈ l.take (k + 1), y ≠ x := by
  intro y hy
  rw [List.take_succ_eq_append_getElem hk, List.mem_append] at hy
  rcases hy with hy | hy
  · exact h y hy
  · simp at hy
    rw [hy]; exact he

set_option maxRecDepth 100000 in
theorem pfMethod_any {w : World} (hT : Tab15 w) (x : List UInt8) : Calls Tryd.prog 21 #[.string (bs x)] w fun e w' => e = .returned (.int .i64 (methodP x)) ∧ Below w.heap.size w w' := by
  obtain ⟨⟨tt, fr, hg⟩, _⟩ := hT
  have hsz := size4
  change w.heap[1]? = some (.cells cells4 tt fr) at hg
  have HI := Lib.hid index4
  have HH : Hid (∀ k : Nat, k < 4 → names4[k]? = some x → methodP x = k) := fun k hk => method_hit4 k hk x
  have HE : Hid ((∀ y ∈ names4, y ≠ x) → methodP x = 0) := fun h => method_miss fun y hy => h y (List.mem_cons_of_mem _ hy)
  have hlen : names4.length = 4 := rfl
  have HQ := Lib.hid (fun y => bsTest y x)
  generalize cells4 = CS at *
  generalize names4 = l at *
  generalize methodP x = m at *
  go_enter Tryd.func21, Tryd.ntmps21
  go_wp2_with (refine wpList_load_row rfl 59 _ rfl 1 rfl tt _ fr _ hg Tryd.underlying59 rfl hsz ?_)
  go_loopw [6] (fun i wr => ∃ k : Nat, k ≤ 4 ∧ i = .int .i64 k ∧ (∀ y ∈ l.take k, y ≠ x) ∧ Below w.heap.size w wr) (fun i _ => 4 - (intOf i).toNat)
  case atStart => exact ⟨0, Nat.zero_le _, rfl, by simp, Below.refl _ _⟩
  case round =>
    obtain ⟨k, hk, rfl, htk, hbel⟩ := hrel
    by_cases hlt : k < 4
    · have hkl : k < l.length := by omega
      obtain ⟨y, hy⟩ : ∃ y, y = l[k] := ⟨_, rfl⟩
      have hi := HI.out k y (by rw [hy]; exact List.getElem?_eq_getElem hkl)
      have hq := HQ.out y
      have HN : Hid (y ≠ x → ∀ z ∈ l.take (k + 1), z ≠ x) := fun e => pf_take hkl htk (by rw [← hy]; exact e)
      have HTr : Hid (y = x → m = k) := fun e => HH.out k hlt (by rw [← e, hy]; exact List.getElem?_eq_getElem hkl)
      clear hy htk
      have HB := Lib.hid hbel
      clear hbel
      by_cases hm : y = x
      · rw [decide_eq_true hm] at hq
        have HR := Lib.hid (HTr.out hm)
        clear hm HTr HN
        generalize bs y = Y at *
        generalize bs x = X at *
        go_wp2_with fail
        go_ret
        exact ⟨by rw [HR.out]; rfl, HB.out⟩
      · rw [decide_eq_false hm] at hq
        have HR := Lib.hid (HN.out hm)
        clear hm HTr HN
        generalize bs y = Y at *
        generalize bs x = X at *
        go_wp2_with fail
        go_roundw
        case rel => exact ⟨k + 1, by omega, by go_num, HR.out, HB.out⟩
        case measure => simp [intOf]; omega
    · have hkl : k = 4 := by omega
      subst hkl
      have HX : Hid (m = 0) := HE.out (by rwa [List.take_of_length_le (by omega)] at htk)
      clear htk hlt
      go_wp2_with fail
      go_ret
      exact ⟨by rw [HX.out]; rfl, hbel⟩

theorem tab_cell4 {w : World} (hT : Tab15 w) {k : Nat} {y : List UInt8} (h : names4[k]? = some y) : w.cell? ⟨1, k, none⟩ = some (.string (bs y)) := by
  obtain ⟨⟨tt, fr, hg⟩, _⟩ := hT
  rw [cell_of_row w _ k _ _ _ hg]
  have e : (#[.string ⟨#[]⟩, .string (bs meCurve), .string (bs meEcdh), .string (bs meGex)] : Array Value) = (names4.map fun x => Value.string (bs x)).toArray := rfl
  rw [e]
  simp [h]
theorem tab_cell8 {w : World} (hT : Tab15 w) {k : Nat} {y : List UInt8} (h : pfWords[k]? = some y) : w.cell? ⟨0, k, none⟩ = some (.string (bs y)) := by
  obtain ⟨_, tt, fr, hg⟩ := hT
  rw [cell_of_row w _ k _ _ _ hg]
  simp [h]
theorem methodZ_in {z : Int} (h : 0 ≤ z ∧ z < 4) : names4[z.toNat]? = some (methodZ z) := by
  have : z = 0 ∨ z = 1 ∨ z = 2 ∨ z = 3 := by omega
  rcases this with rfl | rfl | rfl | rfl <;> rfl
theorem methodZ_out {z : Int} (h : ¬ (0 ≤ z ∧ z < 4)) : methodZ z = [] := by
  unfold methodZ
  rw [if_neg (by omega), if_neg (by omega), if_neg (by omega)]
theorem wordZ_in {z : Int} (h : 0 ≤ z ∧ z < 8) : pfWords[z.toNat]? = some (wordZ z) := by
  unfold wordZ
  rw [if_pos h]
  have : z.toNat < pfWords.length := by show z.toNat < 8; omega
  simp [List.getD, this]
theorem wordZ_out {z : Int} (h : ¬ (0 ≤ z ∧ z < 8)) : wordZ z = [] := if_neg h

set_option maxRecDepth 100000 in
theorem pfName_any {w : World} (hT : Tab15 w) (z : Int) : Calls Tryd.prog 23 #[.int .i64 z] w fun e w' => e = .returned (.string (bs (methodZ z))) ∧ w' = w := by
  by_cases h : 0 ≤ z ∧ z < 4
  · have hc := tab_cell4 hT (methodZ_in h)
    obtain ⟨n, rfl⟩ : ∃ n : Nat, z = n := ⟨z.toNat, by omega⟩
    rw [Int.toNat_natCast] at hc
    have q1 : decide ((n : Int) < 0) = false := decide_eq_false (by omega)
    have q2 : decide ((n : Int) ≥ 4) = false := decide_eq_false (by omega)
    have hn : n < 4 := by omega
    clear h hT
    generalize bs (methodZ n) = S at *
    go_enter Tryd.func23, Tryd.ntmps23
    go_wp2_with fail
    go_ret
    exact ⟨rfl, rfl⟩
  · rw [methodZ_out h, show bs ([] : List UInt8) = ⟨#[]⟩ from rfl]
    clear hT
    by_cases h0 : z < 0
    · have q1 : decide (z < 0) = true := decide_eq_true h0
      go_enter Tryd.func23, Tryd.ntmps23
      go_wp2_with fail
      go_ret
      exact ⟨rfl, rfl⟩
    · have q1 : decide (z < 0) = false := decide_eq_false h0
      have q2 : decide (z ≥ 4) = true := decide_eq_true (by omega)
      clear h
      go_enter Tryd.func23, Tryd.ntmps23
      go_wp2_with fail
      go_ret
      exact ⟨rfl, rfl⟩
set_option maxRecDepth 100000 in
theorem pfList_any {w : World} (hT : Tab15 w) (z : Int) : Calls Tryd.prog 18 #[.int .i64 z] w fun e w' => e = .returned (.string (bs (wordZ z))) ∧ w' = w := by
  by_cases h : 0 ≤ z ∧ z < 8
  · have hc := tab_cell8 hT (wordZ_in h)
    obtain ⟨n, rfl⟩ : ∃ n : Nat, z = n := ⟨z.toNat, by omega⟩
    rw [Int.toNat_natCast] at hc
    have q1 : decide ((n : Int) < 0) = false := decide_eq_false (by omega)
    have q2 : decide ((n : Int) ≥ 8) = false := decide_eq_false (by omega)
    have hn : n < 8 := by omega
    clear h hT
    generalize bs (wordZ n) = S at *
    go_enter Tryd.func18, Tryd.ntmps18
    go_wp2_with fail
    go_ret
    exact ⟨rfl, rfl⟩
  · rw [wordZ_out h, show bs ([] : List UInt8) = ⟨#[]⟩ from rfl]
    clear hT
    by_cases h0 : z < 0
    · have q1 : decide (z < 0) = true := decide_eq_true h0
      go_enter Tryd.func18, Tryd.ntmps18
      go_wp2_with fail
      go_ret
      exact ⟨rfl, rfl⟩
    · have q1 : decide (z < 0) = false := decide_eq_false h0
      have q2 : decide (z ≥ 8) = true := decide_eq_true (by omega)
      clear h
      go_enter Tryd.func18, Tryd.ntmps18
      go_wp2_with fail
      go_ret
      exact ⟨rfl, rfl⟩
def markP (s : Bool) : ByteArray := if s then ⟨#[101, 120, 116, 45, 105, 110, 102, 111, 45, 115]⟩ else ⟨#[101, 120, 116, 45, 105, 110, 102, 111, 45, 99]⟩
def strictP (s : Bool) : ByteArray := if s then ⟨#[107, 101, 120, 45, 115, 116, 114, 105, 99, 116, 45, 115, 45, 118, 48, 48]⟩ else ⟨#[107, 101, 120, 45, 115, 116, 114, 105, 99, 116, 45, 99, 45, 118, 48, 48]⟩
theorem pfMark_any (s : Bool) (w : World) : Calls Tryd.prog 24 #[.bool s] w fun e w' => e = .returned (.string (markP s)) ∧ w' = w := by
  cases s <;>
  · go_enter Tryd.func24, Tryd.ntmps24
    go_wp2_with fail
    go_ret
    exact ⟨rfl, rfl⟩
theorem pfStrict_any (s : Bool) (w : World) : Calls Tryd.prog 25 #[.bool s] w fun e w' => e = .returned (.string (strictP s)) ∧ w' = w := by
  cases s <;>
  · go_enter Tryd.func25, Tryd.ntmps25
    go_wp2_with fail
    go_ret
    exact ⟨rfl, rfl⟩
theorem pfIsMethod_any {w : World} (hT : Tab15 w) (x : List UInt8) : Calls Tryd.prog 38 #[.string (bs x)] w fun e w' => e = .returned (.bool (methodP x != 0)) ∧ Below w.heap.size w w' := by
  have HM := Lib.hid (pfMethod_any hT x)
  generalize methodP x = m at *
  generalize bs x = X at *
  clear hT
  go_enter Tryd.func38, Tryd.ntmps38
  go_wp2_with (go_at_call 21; (with_reducible refine HM.out.mono ?_); rintro e w1 ⟨rfl, b1⟩)
  go_ret
  exact ⟨rfl, b1⟩
end Go.Proofs.YtkigohenfaomkaaDoor
