/- Part 22 of what the statement wants. -/
import Derived.Lib.Split
import Derived.Lib.Join
import Derived.Lib.AppendStr
import Derived.Test.YtlalkpgipenkaaaGreatDoorPk00
import Derived.Test.YtlalkpgipenkaaaGreatDoorPk01
import Derived.Test.YtlalkpgipenkaaaGreatDoorPk02
namespace Go.Proofs.YtlalkpgipenkaaaGreatDoor
open Go.RowKit

def okB (b : UInt8) : Bool := decide (33 ≤ b.toNat ∧ b.toNat ≤ 126 ∧ b.toNat ≠ 44)
def rightL (x : List UInt8) : Bool := decide (1 ≤ x.length ∧ x.length ≤ 64) && x.all okB
def checkP (xs : List (List UInt8)) : Nat := if 16 < xs.length then 2 else if xs.all rightL then 0 else 3
def joinL (xs : List (List UInt8)) : List UInt8 := Lib.join xs [44]
def partsL : List UInt8 → List (List UInt8)
  | [] => [[]]
  | b :: r => if b.toNat = 44 then [] :: partsL r else match partsL r with
    | p :: ps => (b :: p) :: ps
    | [] => [[b]]
def splitP (s : List UInt8) : List (List UInt8) × Nat := if s = [] then ([], 0) else if checkP (partsL s) = 0 then (partsL s, 0) else ([], checkP (partsL s))

theorem partsL_ne : ∀ s : List UInt8, partsL s ≠ []
  | [] => by simp [partsL]
  | b :: r => by
    unfold partsL
    split
    · simp
    · split <;> simp
def nheadP (cur : List UInt8) (ps : List (List UInt8)) : List (List UInt8) := match ps with
  | p :: r => (cur ++ p) :: r
  | [] => [cur]
theorem headP_nil (s : List UInt8) : nheadP [] (partsL s) = partsL s := by
  have := partsL_ne s
  cases h : partsL s with
  | nil => exact absurd h this
  | cons p r => rfl
theorem headP_other (cur : List UInt8) (b : UInt8) (r : List UInt8) (hb : b.toNat ≠ 44) : nheadP cur (partsL (b :: r)) = nheadP (cur ++ [b]) (partsL r) := by
  rw [partsL, if_neg hb]
  have := partsL_ne r
  cases h : partsL r with
  | nil => exact absurd h this
  | cons p q => simp [nheadP]
theorem headP_end (cur : List UInt8) : nheadP cur (partsL []) = [cur] := by simp [nheadP, partsL]

/-! ### parts and join -/
theorem joinL_nil : joinL [] = [] := rfl
theorem joinL_one (x : List UInt8) : joinL [x] = x := Lib.join_one x _
theorem joinL_cons (x y : List UInt8) (r : List (List UInt8)) : joinL (x :: y :: r) = x ++ 44 :: joinL (y :: r) := by
  unfold joinL
  rw [Lib.join_cons, Lib.join_cons]
  simp [Lib.joinTail]
theorem join_parts : ∀ s : List UInt8, joinL (partsL s) = s
  | [] => rfl
  | b :: r => by
    have ih := join_parts r
    have hne := partsL_ne r
    unfold partsL
    split
    · rename_i hb
      have hb44 : b = 44 := UInt8.toNat_inj.1 hb
      cases h : partsL r with
      | nil => exact absurd h hne
      | cons p q =>
        rw [joinL_cons, ← h, ih, hb44]
        rfl
    · cases h : partsL r with
      | nil => exact absurd h hne
      | cons p q =>
        rw [h] at ih
        show joinL ((b :: p) :: q) = _
        cases q with
        | nil =>
          rw [joinL_one] at ih ⊢
          rw [ih]
        | cons p2 q =>
          rw [joinL_cons] at ih ⊢
          rw [List.cons_append, ih]
theorem check_all {xs : List (List UInt8)} (h : checkP xs = 0) : xs.length ≤ 16 ∧ ∀ x ∈ xs, rightL x = true := by
  unfold checkP at h
  split at h
  · cases h
  · rename_i h1
    split at h
    · rename_i h2
      exact ⟨by omega, fun x hx => List.all_eq_true.1 h2 x hx⟩
    · cases h
theorem join_split (s : List UInt8) (h : (splitP s).2 = 0) : joinL (splitP s).1 = s ∧ checkP (splitP s).1 = 0 := by
  unfold splitP at *
  by_cases h0 : s = []
  · rw [if_pos h0, h0]
    exact ⟨rfl, rfl⟩
  · rw [if_neg h0] at h ⊢
    by_cases h1 : checkP (partsL s) = 0
    · rw [if_pos h1]
      exact ⟨join_parts s, h1⟩
    · rw [if_neg h1] at h
      exact absurd h h1
theorem joinL_le (m : Nat) : ∀ xs : List (List UInt8), (∀ x ∈ xs, x.length ≤ m) → (joinL xs).length ≤ xs.length * (m + 1)
  | [], _ => by simp [joinL_nil]
  | [x], h => by
    rw [joinL_one]
    have := h x (by simp)
    simp; omega
  | x :: y :: r, h => by
    rw [joinL_cons]
    have h1 := h x (by simp)
    have h2 := joinL_le m (y :: r) (fun z hz => h z (by simp [hz]))
    rw [List.length_append, List.length_cons]
    have e : (x :: y :: r).length * (m + 1) = (m + 1) + (y :: r).length * (m + 1) := by rw [List.length_cons, Nat.add_mul]; omega
    omega

/-! ### the library's splitting -/
theorem index_miss : ∀ s : List UInt8, Lib.index s [44] = -1 → partsL s = [s]
  | [], _ => rfl
  | b :: r, h => by
    unfold Lib.index at h
    by_cases hb : b = 44
    · subst hb
      simp [List.isPrefixOf] at h
    · have hp : ([44] : List UInt8).isPrefixOf (b :: r) = false := by
        simp [List.isPrefixOf]
        exact fun e => hb e.symm
      rw [hp] at h
      simp only [Bool.false_eq_true, if_false] at h
      by_cases hi : Lib.index r [44] = -1
      · have ih := index_miss r hi
        have hb' : b.toNat ≠ 44 := fun e => hb (UInt8.toNat_inj.1 e)
        rw [partsL, if_neg hb', ih]
      · rw [if_neg (by simpa using hi)] at h
        have : -1 ≤ Lib.index r [44] := by
          have : ∀ l : List UInt8, -1 ≤ Lib.index l [44] := by
            intro l
            induction l with
            | nil => simp [Lib.index]
            | cons c l ih =>
              unfold Lib.index
              split
              · omega
              · split
                · omega
                · omega
          exact this r
        omega
theorem index_ge : ∀ l : List UInt8, -1 ≤ Lib.index l [44] := by
  intro l
  induction l with
  | nil => simp [Lib.index]
  | cons c l ih =>
    unfold Lib.index
    split
    · omega
    · split
      · omega
      · omega
theorem index_hit : ∀ (s : List UInt8) (i : Nat), Lib.index s [44] = i → partsL s = s.take i :: partsL (s.drop (i + 1))
  | [], i, h => by simp [Lib.index] at h
  | b :: r, i, h => by
    unfold Lib.index at h
    by_cases hb : b = 44
    · subst hb
      simp [List.isPrefixOf] at h
      have : i = 0 := by omega
      subst this
      rw [partsL, if_pos (show (44 : UInt8).toNat = 44 from rfl)]
      rfl
    · have hp : ([44] : List UInt8).isPrefixOf (b :: r) = false := by
        simp [List.isPrefixOf]
        exact fun e => hb e.symm
      rw [hp] at h
      simp only [Bool.false_eq_true, if_false] at h
      by_cases hi : Lib.index r [44] = -1
      · rw [if_pos (by simpa using hi)] at h
        omega
      · rw [if_neg (by simpa using hi)] at h
        have hge := index_ge r
        obtain ⟨j, hj⟩ : ∃ j : Nat, Lib.index r [44] = j := ⟨(Lib.index r [44]).toNat, by omega⟩
        have ih := index_hit r j hj
        have hb' : b.toNat ≠ 44 := fun e => hb (UInt8.toNat_inj.1 e)
        have hij : i = j + 1 := by omega
        subst hij
        rw [partsL, if_neg hb', ih]
        rfl
theorem splitK_parts : ∀ (k : Nat) (s : List UInt8), ((partsL s).length ≤ k + 1 → Lib.splitK [44] 0 k s = partsL s) ∧ (k + 1 < (partsL s).length → (Lib.splitK [44] 0 k s).length = k + 1)
  | 0, s => by
    refine ⟨fun h => ?_, fun _ => rfl⟩
    show [s] = _
    by_cases hi : Lib.index s [44] = -1
    · exact (index_miss s hi).symm
    · have hge := index_ge s
      obtain ⟨j, hj⟩ : ∃ j : Nat, Lib.index s [44] = j := ⟨(Lib.index s [44]).toNat, by omega⟩
      rw [index_hit s j hj] at h
      have := partsL_ne (s.drop (j + 1))
      have := List.length_pos_iff.2 this
      simp at h
      exact absurd h (by assumption)
  | k + 1, s => by
    unfold Lib.splitK
    by_cases hi : Lib.index s [44] = -1
    · rw [if_pos (by simpa using hi), index_miss s hi]
      exact ⟨fun _ => rfl, fun h => by simp at h⟩
    · rw [if_neg (by simpa using hi)]
      have hge := index_ge s
      obtain ⟨j, hj⟩ : ∃ j : Nat, Lib.index s [44] = j := ⟨(Lib.index s [44]).toNat, by omega⟩
      have ih := splitK_parts k (s.drop (j + 1))
      rw [hj, index_hit s j hj]
      simp only [Int.toNat_natCast, Nat.add_zero, List.length_cons, List.length_nil, Nat.zero_add]
      exact ⟨fun h => by rw [ih.1 (by omega)], fun h => by rw [ih.2 (by omega)]⟩
theorem partsL_len : ∀ s : List UInt8, (partsL s).length ≤ s.length + 1
  | [] => by simp [partsL]
  | b :: r => by
    have ih := partsL_len r
    unfold partsL
    split
    · simp; omega
    · split
      · rename_i h
        rw [h] at ih
        simp at ih ⊢
        omega
      · simp
/-- What SplitN of at most 17 gives checks as the parts do, and is the parts where they check. -/
theorem splitN_check (s : List UInt8) : (checkP (Lib.splitK [44] 0 (min 17 (s.length + 1) - 1) s) = checkP (partsL s)) ∧ (checkP (partsL s) = 0 → Lib.splitK [44] 0 (min 17 (s.length + 1) - 1) s = partsL s) := by
  have hl := partsL_len s
  have h := splitK_parts (min 17 (s.length + 1) - 1) s
  by_cases hc : (partsL s).length ≤ min 17 (s.length + 1) - 1 + 1
  · rw [h.1 hc]
    exact ⟨rfl, fun _ => rfl⟩
  · have h2 := h.2 (by omega)
    have e1 : checkP (Lib.splitK [44] 0 (min 17 (s.length + 1) - 1) s) = 2 := by
      unfold checkP
      rw [if_pos (by omega)]
    have e2 : checkP (partsL s) = 2 := by
      unfold checkP
      rw [if_pos (by omega)]
    exact ⟨by rw [e1, e2], fun e => by rw [e2] at e; cases e⟩
end Go.Proofs.YtlalkpgipenkaaaGreatDoor

namespace Go.Proofs.YtlalkpgipenkaaaGreatDoor
open Go.RowKit

theorem right_of {x : List UInt8} (h : 1 ≤ x.length ∧ x.length ≤ 64) (ha : ∀ b ∈ x, okB b = true) : rightL x = true := by
  unfold rightL
  rw [decide_eq_true h, List.all_eq_true.2 ha]
  rfl
theorem right_len {x : List UInt8} (h : ¬ (1 ≤ x.length ∧ x.length ≤ 64)) : rightL x = false := by
  unfold rightL
  rw [decide_eq_false h]
  rfl
theorem right_byte {x : List UInt8} {b : UInt8} (hb : b ∈ x) (h : okB b = false) : rightL x = false := by
  unfold rightL
  rw [Bool.and_eq_false_iff]
  right
  rw [List.all_eq_false]
  exact ⟨b, hb, by rw [h]; simp⟩
theorem bs_isEmpty (x : List UInt8) : (bs x).toList.isEmpty = x.isEmpty := by
  rw [ByteArray.toList_eq]
  simp [bs]

set_option maxRecDepth 100000 in
theorem nRight_any (x : List UInt8) (hx : x.length ≤ 1000000) (w : World) : Calls Tryz.prog 228 #[.string (bs x)] w fun e w' => e = .returned (.bool (rightL x)) ∧ Below w.heap.size w w' := by
  have hsz := bs_size x
  by_cases h0 : x = []
  · subst h0
    have HR : Hid (rightL [] = false) := rfl
    rw [show bs ([] : List UInt8) = ⟨#[]⟩ from rfl]
    go_enter Tryz.func228, Tryz.ntmps228
    go_wp2
    go_ret
    exact ⟨by rw [HR.out]; rfl, Below.refl _ _⟩
  · have hne : (bs x).toList.isEmpty = false := by rw [bs_isEmpty]; simpa using h0
    by_cases h1 : 64 < x.length
    · have HR := Lib.hid (right_len (x := x) (by omega))
      generalize bs x = S at *
      go_enter Tryz.func228, Tryz.ntmps228
      go_wp2
      go_ret
      exact ⟨by rw [HR.out]; rfl, Below.refl _ _⟩
    · have hpos : 1 ≤ x.length := List.length_pos_iff.2 h0
      obtain ⟨c, w2, hcv, hcell, hbel, _⟩ := conv_bytes w x
      have hle : (bs x).size ≤ 64 := by omega
      generalize bs x = S at *
      go_enter Tryz.func228, Tryz.ntmps228
      go_wp2_with fail
      have HC := Lib.hid hcell
      clear hcell hcv
      go_loopw [15] (fun i wr => ∃ k : Nat, k ≤ x.length ∧ i = .int .i64 k ∧ (∀ b ∈ x.take k, okB b = true) ∧ wr = w2) (fun i _ => x.length - (intOf i).toNat)
      case atStart => exact ⟨0, Nat.zero_le _, rfl, by simp, rfl⟩
      case round =>
        obtain ⟨k, hk, rfl, htk, rfl⟩ := hrel
        by_cases hlt : k < x.length
        · have c1 := HC.out k hlt
          obtain ⟨b, hb⟩ : ∃ b, b = x[k] := ⟨_, rfl⟩
          rw [← hb] at c1
          have HN : Hid (okB b = true → ∀ a ∈ x.take (k + 1), okB a = true) := fun e a ha => by
            rw [List.take_succ_eq_append_getElem hlt, ← hb, List.mem_append] at ha
            rcases ha with ha | ha
            · exact htk a ha
            · simp at ha
              rw [ha]; exact e
          have HF : Hid (okB b = false → rightL x = false) := fun e => right_byte (by rw [hb]; exact List.getElem_mem hlt) e
          have HB : Hid (okB b = decide (33 ≤ b.toNat ∧ b.toNat ≤ 126 ∧ b.toNat ≠ 44)) := rfl
          clear hb htk HC
          generalize b.toNat = n at *
          by_cases n1 : n < 33
          · have hq : decide ((n : Int) < 33) = true := decide_eq_true (by omega)
            have HO : Hid (okB b = false) := by show okB b = false; rw [HB.out]; exact decide_eq_false (by omega)
            go_wp2_with fail
            go_ret
            exact ⟨by rw [HF.out HO.out]; rfl, hbel⟩
          · have q1 : decide ((n : Int) < 33) = false := decide_eq_false (by omega)
            by_cases n2 : 126 < n
            · have hq : decide ((n : Int) > 126) = true := decide_eq_true (by omega)
              have HO : Hid (okB b = false) := by show okB b = false; rw [HB.out]; exact decide_eq_false (by omega)
              go_wp2_with fail
              go_ret
              exact ⟨by rw [HF.out HO.out]; rfl, hbel⟩
            · have q2 : decide ((n : Int) > 126) = false := decide_eq_false (by omega)
              by_cases n3 : n = 44
              · have HO : Hid (okB b = false) := by show okB b = false; rw [HB.out]; exact decide_eq_false (by omega)
                subst n3
                go_wp2_with fail
                go_ret
                exact ⟨by rw [HF.out HO.out]; rfl, hbel⟩
              · have q3 : ((n : Int) == (((⟨#[44]⟩ : ByteArray)[0]'(by decide)).toNat : Int)) = false := by
                  show ((n : Int) == 44) = false
                  rw [beq_eq_false_iff_ne]; omega
                have HO : Hid (okB b = true) := by show okB b = true; rw [HB.out]; exact decide_eq_true (by omega)
                go_wp2_with fail
                go_roundw
                case rel => exact ⟨k + 1, by omega, by go_num, HN.out HO.out, trivial⟩
                case measure => simp [intOf]; omega
        · have hkl : k = x.length := by omega
          subst hkl
          rw [List.take_length] at htk
          have HR := Lib.hid (right_of (x := x) (by omega) htk)
          clear htk hlt HC
          go_wp2_with fail
          go_ret
          exact ⟨by rw [HR.out]; rfl, hbel⟩

end Go.Proofs.YtlalkpgipenkaaaGreatDoor

namespace Go.Proofs.YtlalkpgipenkaaaGreatDoor
open Go.RowKit

theorem check_long {xs : List (List UInt8)} (h : 16 < xs.length) : checkP xs = 2 := if_pos h
theorem check_wrong {xs : List (List UInt8)} (h : ¬ 16 < xs.length) {x : List UInt8} (hx : x ∈ xs) (hr : rightL x = false) : checkP xs = 3 := by
  unfold checkP
  rw [if_neg h, if_neg (fun ha => by have := List.all_eq_true.1 ha x hx; rw [hr] at this; cases this)]
theorem check_right {xs : List (List UInt8)} (h : ¬ 16 < xs.length) (ha : ∀ x ∈ xs, rightL x = true) : checkP xs = 0 := by
  unfold checkP
  rw [if_neg h, if_pos (List.all_eq_true.2 ha)]
theorem take_right {xs : List (List UInt8)} {k : Nat} (hlt : k < xs.length) (h : ∀ x ∈ xs.take k, rightL x = true) (hr : rightL xs[k] = true) : ∀ x ∈ xs.take (k + 1), rightL x = true := by
  intro x hx
  rw [List.take_succ_eq_append_getElem hlt, List.mem_append] at hx
  rcases hx with hx | hx
  · exact h x hx
  · simp at hx
    rw [hx]; exact hr

set_option maxRecDepth 100000 in
theorem nCheck_any {w : World} {v : Value} {xs : List (List UInt8)} (h : TextsAt w v (xs.map bs)) (hl : xs.length ≤ maxLen) (hs : ∀ x ∈ xs, x.length ≤ 1000000) :
    Calls Tryz.prog 208 #[v] w fun e w' => e = .returned (.int .i64 (checkP xs : Int)) ∧ Below w.heap.size w w' := by
  obtain ⟨ao, cap, rfl, hc⟩ := h
  rw [List.length_map]
  unfold maxLen at hl
  by_cases h16 : 16 < xs.length
  · have HE := Lib.hid (check_long h16)
    clear hc hs
    go_enter Tryz.func208, Tryz.ntmps208
    go_wp2
    go_ret
    exact ⟨by rw [HE.out]; rfl, Below.refl _ _⟩
  · go_enter Tryz.func208, Tryz.ntmps208
    go_wp2_with fail
    go_loopw [10] (fun i wr => ∃ k : Nat, k ≤ xs.length ∧ i = .int .i64 k ∧ (∀ x ∈ xs.take k, rightL x = true) ∧ Below w.heap.size w wr) (fun i _ => xs.length - (intOf i).toNat)
    case atStart => exact ⟨0, Nat.zero_le _, rfl, by simp, Below.refl _ _⟩
    case round =>
      obtain ⟨k, hk, rfl, htk, hbel⟩ := hrel
      by_cases hlt : k < xs.length
      · obtain ⟨b, off, rfl, hb, hcell⟩ := hc (by intro h; simp at h; simp [h] at hlt)
        obtain ⟨y, hy⟩ : ∃ y, y = xs[k] := ⟨_, rfl⟩
        have c1 : wr.cell? ⟨b, off + k, none⟩ = some (.string (bs y)) := (hbel.cell (p := ⟨b, off + k, none⟩) hb).trans (hcell k (bs y) (by simp [hlt, hy]))
        have HN : Hid (rightL y = true → ∀ x ∈ xs.take (k + 1), rightL x = true) := fun e => take_right hlt htk (by rw [← hy]; exact e)
        have HT : Hid (rightL y = false → checkP xs = 3) := fun e => check_wrong h16 (by rw [hy]; exact List.getElem_mem hlt) e
        have HR := Lib.hid (fun W => nRight_any y (hs y (by rw [hy]; exact List.getElem_mem hlt)) W)
        clear hc hcell htk hy hs
        generalize bs y = S at *
        cases hr : rightL y with
        | true =>
          rw [hr] at HR
          go_wp2_with (go_at_call 228; refine (HR.out _).mono ?_; rintro e w1 ⟨rfl, b1⟩)
          go_roundw
          case rel => exact ⟨k + 1, by omega, by go_num, HN.out hr, hbel.trans (b1.mono hbel.size)⟩
          case measure => simp [intOf]; omega
        | false =>
          rw [hr] at HR
          go_wp2_with (go_at_call 228; refine (HR.out _).mono ?_; rintro e w1 ⟨rfl, b1⟩)
          go_ret
          exact ⟨by rw [HT.out hr]; rfl, hbel.trans (b1.mono hbel.size)⟩
      · have hkl : k = xs.length := by omega
        subst hkl
        rw [List.take_length] at htk
        have HE := Lib.hid (check_right h16 htk)
        clear htk hlt hc hs
        go_wp2_with fail
        go_ret
        exact ⟨by rw [HE.out]; rfl, hbel⟩

end Go.Proofs.YtlalkpgipenkaaaGreatDoor

namespace Go.Proofs.YtlalkpgipenkaaaGreatDoor
open Go.RowKit

def rowPut : Array Value → Nat → List Value → Array Value
  | cur, _, [] => cur
  | cur, k, v :: vs => rowPut (cur.setIfInBounds k v) (k + 1) vs
theorem rowPut_size : ∀ (vs : List Value) (cur : Array Value) (k : Nat), (rowPut cur k vs).size = cur.size
  | [], _, _ => rfl
  | v :: vs, cur, k => by
    unfold rowPut
    rw [rowPut_size vs]
    simp
theorem rowPut_low : ∀ (vs : List Value) (cur : Array Value) (k j : Nat), j < k → (rowPut cur k vs)[j]? = cur[j]?
  | [], _, _, _, _ => rfl
  | v :: vs, cur, k, j, h => by
    unfold rowPut
    rw [rowPut_low vs _ _ j (by omega), Array.getElem?_setIfInBounds]
    rw [if_neg (by omega)]
theorem rowPut_at : ∀ (vs : List Value) (cur : Array Value) (k i : Nat), k + vs.length ≤ cur.size → i < vs.length → (rowPut cur k vs)[k + i]? = vs[i]?
  | [], _, _, _, _, h => by simp at h
  | v :: vs, cur, k, 0, hk, _ => by
    unfold rowPut
    simp only [List.length_cons] at hk
    show (rowPut (cur.setIfInBounds k v) (k + 1) vs)[k]? = some v
    rw [rowPut_low vs _ _ k (by omega), Array.getElem?_setIfInBounds, if_pos rfl, if_pos (by omega)]
  | v :: vs, cur, k, i + 1, hk, h => by
    unfold rowPut
    simp only [List.length_cons] at hk h
    have := rowPut_at vs (cur.setIfInBounds k v) (k + 1) i (by simp; omega) (by omega)
    rw [show k + (i + 1) = k + 1 + i by omega, this]
    simp

theorem store_row (g n : Nat) (t : TypeId) (m : Nat × Nat) : ∀ (vs : List Value) (i : Nat) (cur : Array Value) (w : World), w.heap[g]? = some (.cells cur t m) → (∀ j, j < cur.size → ¬ (m.1 ≤ j ∧ j < m.2)) → n + i + vs.length ≤ cur.size → (∀ v ∈ vs, v.oneCell' = true) →
    (storeCells ⟨g, n, none⟩ vs i).run Tryz.prog w = .ok () (w.setRow g (rowPut cur (n + i) vs))
  | [], i, cur, w, hg, _, _, _ => by
    unfold rowPut storeCells
    rw [setRow_self w g cur t m hg]
    rfl
  | v :: vs, i, cur, w, hg, hm, hl, h1 => by
    simp only [List.length_cons] at hl
    have hlt : n + i < cur.size := by omega
    have ha : (⟨g, n, none⟩ : Addr).add i = ⟨g, n + i, none⟩ := Addr.add_lit ..
    have hc : w.cell? ⟨g, n + i, none⟩ = some cur[n + i] := by unfold World.cell?; simp [hg, hlt]
    have hf : w.frozen? ⟨g, n + i, none⟩ = false := by
      have h2 := hm (n + i) hlt
      unfold World.frozen?
      simp only [hg]
      rw [Bool.eq_false_iff]
      simp only [ne_eq, Bool.and_eq_true, decide_eq_true_eq]
      exact h2
    have hs : (store ((⟨g, n, none⟩ : Addr).add i) v).run Tryz.prog w = .ok () (w.setRow g (cur.setIfInBounds (n + i) v)) := by
      rw [ha, run_store Tryz.prog w _ v _ (h1 v (by simp)), hc]
      simp [hf, setCell_eq_setRow w g (n + i) cur t m v hg]
    have hr := store_row g n t m vs (i + 1) (cur.setIfInBounds (n + i) v) (w.setRow g (cur.setIfInBounds (n + i) v)) (setRow_heap w g cur _ t m hg) (fun j hj => hm j (by simpa using hj)) (by simp; omega) (fun x hx => h1 x (by simp [hx]))
    unfold rowPut
    simp only [storeCells, Sem.run_bind, hs, Result.andThen_ok, hr, setRow_setRow, Nat.add_assoc]

/-- The slice v is a row of the call's own that holds these bytes. -/
def OwnB (w : World) (base : Nat) (v : Value) (l : List UInt8) : Prop :=
  ∃ g cap cur m, v = .slice (some ⟨g, 0, none⟩) l.length cap ∧ base ≤ g ∧ w.heap[g]? = some (.cells cur 5 m) ∧ (∀ j, j < cur.size → ¬ (m.1 ≤ j ∧ j < m.2)) ∧ l.length ≤ cap ∧ cap ≤ maxLen ∧ cur.size = cap ∧
    ∀ j, j < l.length → cur[j]? = (byteCells l)[j]?
theorem OwnB.block {w : World} {base : Nat} {v : Value} {l : List UInt8} (h : OwnB w base v l) : ∃ g c, v = .slice (some ⟨g, 0, none⟩) l.length c ∧ base ≤ g ∧ g < w.heap.size := by
  obtain ⟨g, cap, cur, m, rfl, hb, hg, _⟩ := h
  exact ⟨g, cap, rfl, hb, (Array.getElem?_eq_some_iff.1 hg).1⟩
theorem OwnB.moves {S : Nat → Prop} {w w' : World} {base : Nat} {v : Value} {l : List UInt8} (h : OwnB w base v l) (m : Moves S w w') (hS : ∀ k, v.ownBlock = some k → ¬ S k) : OwnB w' base v l := by
  obtain ⟨g, cap, cur, mk, rfl, hb, hg, rest⟩ := h
  exact ⟨g, cap, cur, mk, rfl, hb, (m.block g (Array.getElem?_eq_some_iff.1 hg).1 (hS g rfl)).trans hg, rest⟩
theorem OwnB.below {w w' : World} {base : Nat} {v : Value} {l : List UInt8} (h : OwnB w base v l) (b : Below w.heap.size w w') : OwnB w' base v l :=
  h.moves (S := nobody) (Moves.ofBelow b) fun _ _ h => h
/-- []byte of a string. -/
theorem conv_own (W : World) (l : List UInt8) (hl : l.length ≤ 1000000000) : ∃ c W', (convert 9 89 (.string (bs l))).run Tryz.prog W = .ok (.slice (some ⟨W.heap.size, 0, none⟩) l.length c) W' ∧
    OwnB W' W.heap.size (.slice (some ⟨W.heap.size, 0, none⟩) l.length c) l ∧ Below W.heap.size W W' ∧ W'.heap.size = W.heap.size + 1 := by
  have h := run_bytes_of_string (P := Tryz.prog) W 9 89 5 (bs l) Tryz.underlying9 Tryz.underlying89 Tryz.underlying5
  rw [bs_size] at h
  have hge := grownCap_ge W l.length 0 5
  have hle : grownCap W l.length 0 5 ≤ maxLen := grownCap_le_maxLen W l.length 0 5 (by unfold maxLen; omega)
  have hsz : (bytesRow (bs l) (grownCap W l.length 0 5)).size = grownCap W l.length 0 5 := by
    unfold bytesRow
    rw [Array.size_append, Array.size_map, Array.size_replicate, bs_size]
    have : (bs l).data.size = l.length := bs_size l
    omega
  refine ⟨_, _, h, ⟨_, _, _, _, rfl, Nat.le_refl _, heap_alloc_new W.drew _, fun j hj => ?_, hge, hle, hsz, fun j hj => ?_⟩, (Below.refl _ _).drew.alloc (Nat.le_refl _) _, by simp⟩
  · simp only; omega
  · unfold bytesRow byteCells
    rw [Array.getElem?_append_left (by rw [Array.size_map]; exact Nat.lt_of_lt_of_le hj (Nat.le_of_eq (bs_size l).symm))]
    simp [bs]
theorem aStrCells_bs (l : List UInt8) : Lib.strCells (bs l) = byteCells l := rfl
/-- append of a string's bytes. -/
theorem append_own {w : World} {base : Nat} {v : Value} {l : List UInt8} (hown : OwnB w base v l) (s : List UInt8) (hn : l.length + s.length ≤ 1000000000) (hb : base ≤ w.heap.size) :
    ∃ v' w', (Builtin.append_ #[89, 9] 89 #[v, .string (bs s)]).run Tryz.prog w = .ok v' w' ∧ OwnB w' base v' (l ++ s) ∧ w.grownBy w' v.ownBlock := by
  obtain ⟨i0, hi, hz0, hz1, hz2⟩ := info_parts info_u8
  obtain ⟨g, cap, cur, m, rfl, hbg, hg, hm, hnc, hcm, hcs, hat⟩ := hown
  have hss := bs_size s
  have hll : (l ++ s).length = l.length + s.length := List.length_append
  have hbl := byteCells_length l
  have hbs := byteCells_length s
  by_cases hroom : l.length + s.length ≤ cap
  · have hf := Lib.run_firstCells_string (P := Tryz.prog) w 1 (bs s)
    have hst := store_row g l.length 5 m (byteCells s) 0 cur w hg hm (by omega) (byteCells_one s)
    rw [← aStrCells_bs] at hst
    have hr : (Builtin.append_ #[89, 9] 89 #[.slice (some ⟨g, 0, none⟩) l.length cap, .string (bs s)]).run Tryz.prog w = .ok (.slice (some ⟨g, 0, none⟩) (l.length + s.length) cap) (w.setRow g (rowPut cur l.length (byteCells s))) := by
      have hroom' : l.length + (bs s).size ≤ cap := by omega
      simp [Builtin.append_, run_underlying Tryz.underlying89, run_underlying Tryz.underlying9, sizeOf, typeInfo, hi, hz1, Builtin.lenOf, hroom', hf, Addr.add_lit, hst]
      exact ⟨hss, by rw [aStrCells_bs]⟩
    refine ⟨_, _, hr, ⟨g, cap, _, m, by rw [hll], hbg, setRow_heap w g cur _ _ m hg, fun j hj => hm j (by rwa [rowPut_size] at hj), by omega, hcm, by rw [rowPut_size]; exact hcs, fun j hj => ?_⟩, ⟨rfl, rfl, rfl, by simp [World.setRow], fun k _ hk => setRow_other w g k _ (fun e => hk (by simp [Value.ownBlock, e]))⟩⟩
    rw [byteCells_append]
    by_cases hj2 : j < l.length
    · rw [rowPut_low _ _ _ _ hj2, hat j hj2, List.getElem?_append_left (by omega)]
    · have := rowPut_at (byteCells s) cur l.length (j - l.length) (by omega) (by omega)
      rw [show l.length + (j - l.length) = j by omega] at this
      rw [this, List.getElem?_append_right (by omega), hbl]
  · have hr := Lib.run_append_grow_string (P := Tryz.prog) w 89 9 89 5 i0 (.int .u8 0) Tryz.underlying89 Tryz.underlying9 hi hz0 ⟨g, 0, none⟩ l.length cap (byteCells l) (by rw [hz1, Nat.mul_one]; exact hbl) (fun j u hu => by
      have hj : j < l.length := by have := (List.getElem?_eq_some_iff.1 hu).1; omega
      rw [Addr.add_lit, Nat.zero_add, cell_of_row w g j cur _ m hg, hat j hj, hu]) (bs s) (by omega) (by omega) (by rw [hz2]; exact growslice_fits (by omega) (by omega))
    have hge := grownCap_ge w (l.length + (bs s).size) cap 5
    have hle : grownCap w (l.length + (bs s).size) cap 5 ≤ maxLen := grownCap_le_maxLen w (l.length + (bs s).size) cap 5 (by unfold maxLen; omega)
    have hzc : (Value.int IntKind.u8 0).cells.size = 1 := rfl
    have hcz : ((byteCells l).toArray ++ (Lib.strCells (bs s)).toArray ++ Builtin.zeroCells (Value.int IntKind.u8 0).cells (grownCap w (l.length + (bs s).size) cap 5 - (l.length + (bs s).size))).size = grownCap w (l.length + (bs s).size) cap 5 := by
      simp only [Array.size_append, List.size_toArray, size_zeroCells, hzc, hbl, aStrCells_bs, hbs]
      omega
    refine ⟨_, _, hr, ⟨w.heap.size, _, _, (0, 0), by rw [hll, hss], hb, heap_alloc_new w.drew _, fun j _ h => by simp at h, by omega, hle, hcz, fun j hj => ?_⟩, ⟨rfl, rfl, rfl, by simp, fun k hk _ => Below.heap_alloc w.drew _ k hk⟩⟩
    rw [aStrCells_bs, byteCells_append, Array.getElem?_append_left (by simp only [Array.size_append, List.size_toArray]; omega)]
    simp
set_option maxRecDepth 10000 in
/-- string of such a row. -/
theorem string_own {w : World} {base g n cap : Nat} {l : List UInt8} (h : OwnB w base (.slice (some ⟨g, 0, none⟩) n cap) l) : (convert 89 9 (.slice (some ⟨g, 0, none⟩) n cap)).run Tryz.prog w = .ok (.string (bs l)) w := by
  obtain ⟨g', cap', cur, m, hv, hb, hg, hm, hnc, hcm, hcs, hat⟩ := h
  injection hv with h1 h2 h3
  injection h1 with h1
  injection h1 with h1
  subst h1 h2 h3
  have hr := run_convert_bytes_arg (P := Tryz.prog) w 89 5 Tryz.underlying89 Tryz.underlying5 g 0 l.length cap (l.map fun b => (b.toNat : Int)) (by simp) (fun i hi => by
    rw [Nat.zero_add, cell_of_row w g i cur _ m hg, hat i hi]
    simp [byteCells, List.getD, hi]) 9 Tryz.underlying9
  have e : strOfNums (l.map fun b => (b.toNat : Int)) = bs l := by
    have : (l.map fun b => (b.toNat : Int)).map (fun n => UInt8.ofNat n.toNat) = l := by
      rw [List.map_map]
      exact (List.map_congr_left (fun b _ => by simp)).trans (List.map_id l)
    unfold strOfNums
    rw [this]
    rfl
  rw [e] at hr
  exact hr
end Go.Proofs.YtlalkpgipenkaaaGreatDoor
