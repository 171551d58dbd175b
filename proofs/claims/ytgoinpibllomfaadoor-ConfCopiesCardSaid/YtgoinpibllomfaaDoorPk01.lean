/- Part 1 of what the statement wants. -/
import Derived.Test.YtgoinpibllomfaaDoorPk00
namespace Go.Proofs.YtgoinpibllomfaaDoor
open Go.RowKit

theorem right_of {x : List UInt8} (h : 1 ≤ x.length ∧ x.length ≤ 64) (ha : ∀ b ∈ x, okB b = true) : rightL x = true := by
  unfold rightL
  rw [decide_eq_true h, List.all_eq_true.2 ha]
  rfl
theorem right_len {x : List UInt8} (h : ¬ (1 ≤ x.length ∧ x.length ≤ 64)) : rightL x = false := by
  unfold rightL
  rw [decide_eq_false h]
  rfl
theorem right_byte {x : List UInt8} {b : UInt8} (hb : b ∈ x) (h : okB b = false) : rightL x = false := by
  unfold rightL
  rw [Bool.and_eq_false_iff]
  right
  rw [List.all_eq_false]
  exact ⟨b, hb, by rw [h]; simp⟩
theorem bs_isEmpty (x : List UInt8) : (bs x).toList.isEmpty = x.isEmpty := by
  rw [ByteArray.toList_eq]
  simp [bs]

set_option maxRecDepth 100000 in
theorem nRight_any (x : List UInt8) (hx : x.length ≤ 1000000) (w : World) : Calls Tryd.prog 48 #[.string (bs x)] w fun e w' => e = .returned (.bool (rightL x)) ∧ Below w.heap.size w w' := by
  have hsz := bs_size x
  by_cases h0 : x = []
  · subst h0
    have HR : Hid (rightL [] = false) := rfl
    rw [show bs ([] : List UInt8) = ⟨#[]⟩ from rfl]
    go_enter Tryd.func48, Tryd.ntmps48
    go_wp2
    go_ret
    exact ⟨by rw [HR.out]; rfl, Below.refl _ _⟩
  · have hne : (bs x).toList.isEmpty = false := by rw [bs_isEmpty]; simpa using h0
    by_cases h1 : 64 < x.length
    · have HR := Lib.hid (right_len (x := x) (by omega))
      generalize bs x = S at *
      go_enter Tryd.func48, Tryd.ntmps48
      go_wp2
      go_ret
      exact ⟨by rw [HR.out]; rfl, Below.refl _ _⟩
    · have hpos : 1 ≤ x.length := List.length_pos_iff.2 h0
      obtain ⟨c, w2, hcv, hcell, hbel, _⟩ := conv_bytes w x
      have hle : (bs x).size ≤ 64 := by omega
      generalize bs x = S at *
      go_enter Tryd.func48, Tryd.ntmps48
      go_wp2_with fail
      have HC := Lib.hid hcell
      clear hcell hcv
      go_loopw [15] (fun i wr => ∃ k : Nat, k ≤ x.length ∧ i = .int .i64 k ∧ (∀ b ∈ x.take k, okB b = true) ∧ wr = w2) (fun i _ => x.length - (intOf i).toNat)
      case atStart => exact ⟨0, Nat.zero_le _, rfl, by simp, rfl⟩
      case round =>
        obtain ⟨k, hk, rfl, htk, rfl⟩ := hrel
        by_cases hlt : k < x.length
        · have c1 := HC.out k hlt
          obtain ⟨b, hb⟩ : ∃ b, b = x[k] := ⟨_, rfl⟩
          rw [← hb] at c1
          have HN : Hid (okB b = true → ∀ a ∈ x.take (k + 1), okB a = true) := fun e a ha => by
            rw [List.take_succ_eq_append_getElem hlt, ← hb, List.mem_append] at ha
            rcases ha with ha | ha
            · exact htk a ha
            · simp at ha
              rw [ha]; exact e
          have HF : Hid (okB b = false → rightL x = false) := fun e => right_byte (by rw [hb]; exact List.getElem_mem hlt) e
          have HB : Hid (okB b = decide (33 ≤ b.toNat ∧ b.toNat ≤ 126 ∧ b.toNat ≠ 44)) := rfl
          clear hb htk HC
          generalize b.toNat = n at *
          by_cases n1 : n < 33
          · have hq : decide ((n : Int) < 33) = true := decide_eq_true (by omega)
            have HO : Hid (okB b = false) := by show okB b = false; rw [HB.out]; exact decide_eq_false (by omega)
            go_wp2_with fail
            go_ret
            exact ⟨by rw [HF.out HO.out]; rfl, hbel⟩
          · have q1 : decide ((n : Int) < 33) = false := decide_eq_false (by omega)
            by_cases n2 : 126 < n
            · have hq : decide ((n : Int) > 126) = true := decide_eq_true (by omega)
              have HO : Hid (okB b = false) := by show okB b = false; rw [HB.out]; exact decide_eq_false (by omega)
              go_wp2_with fail
              go_ret
              exact ⟨by rw [HF.out HO.out]; rfl, hbel⟩
            · have q2 : decide ((n : Int) > 126) = false := decide_eq_false (by omega)
              by_cases n3 : n = 44
              · have HO : Hid (okB b = false) := by show okB b = false; rw [HB.out]; exact decide_eq_false (by omega)
                subst n3
                go_wp2_with fail
                go_ret
                exact ⟨by rw [HF.out HO.out]; rfl, hbel⟩
              · have q3 : ((n : Int) == (((⟨#[44]⟩ : ByteArray)[0]'(by decide)).toNat : Int)) = false := by
                  show ((n : Int) == 44) = false
                  rw [beq_eq_false_iff_ne]; omega
                have HO : Hid (okB b = true) := by show okB b = true; rw [HB.out]; exact decide_eq_true (by omega)
                go_wp2_with fail
                go_roundw
                case rel => exact ⟨k + 1, by omega, by go_num, HN.out HO.out, trivial⟩
                case measure => simp [intOf]; omega
        · have hkl : k = x.length := by omega
          subst hkl
          rw [List.take_length] at htk
          have HR := Lib.hid (right_of (x := x) (by omega) htk)
          clear htk hlt HC
          go_wp2_with fail
          go_ret
          exact ⟨by rw [HR.out]; rfl, hbel⟩

end Go.Proofs.YtgoinpibllomfaaDoor

namespace Go.Proofs.YtgoinpibllomfaaDoor
open Go.RowKit

/-- A grant. -/
structure GrantR where
  user : List UInt8
  who : Int

def uByte (b : UInt8) : Bool := decide (33 ≤ b.toNat ∧ b.toNat ≤ 126)
def userP (x : List UInt8) : Bool := decide (1 ≤ x.length ∧ x.length ≤ 64) && x.all uByte
theorem user_of {x : List UInt8} (h : 1 ≤ x.length ∧ x.length ≤ 64) (ha : ∀ b ∈ x, uByte b = true) : userP x = true := by
  unfold userP
  rw [decide_eq_true h, List.all_eq_true.2 ha]
  rfl
theorem user_len {x : List UInt8} (h : ¬ (1 ≤ x.length ∧ x.length ≤ 64)) : userP x = false := by
  unfold userP
  rw [decide_eq_false h]
  rfl
theorem user_byte {x : List UInt8} {b : UInt8} (hb : b ∈ x) (h : uByte b = false) : userP x = false := by
  unfold userP
  rw [Bool.and_eq_false_iff]
  right
  rw [List.all_eq_false]
  exact ⟨b, hb, by rw [h]; simp⟩
/-- What is wrong with a grant. -/
def grantZ (x : GrantR) : Int := if userP x.user = false then 3 else if 0 ≤ x.who ∧ x.who ≤ 15 then 0 else 5
def grantsZ (l : List GrantR) : Int := if 16 < l.length then 2 else ((l.map grantZ).find? (fun z => z != 0)).getD 0
def algsZ (l : List (List UInt8)) : Int := if l.length = 0 then 6 else if 15 < l.length then 2 else if (∀ x ∈ l, rightL x = true) ∧ l.Nodup then 0 else 3
theorem grants_none {l : List GrantR} (h : ∀ x ∈ l, grantZ x = 0) : (l.map grantZ).find? (fun z => z != 0) = none := by
  rw [List.find?_eq_none]
  intro z hz
  obtain ⟨x, hx, rfl⟩ := List.mem_map.1 hz
  rw [h x hx]
  decide
theorem grants_ok {l : List GrantR} (hl : ¬ 16 < l.length) (h : ∀ x ∈ l, grantZ x = 0) : grantsZ l = 0 := by
  unfold grantsZ
  rw [if_neg hl, grants_none h]
  rfl
theorem grants_bad {l : List GrantR} (hl : ¬ 16 < l.length) {k : Nat} (hk : k < l.length) (h : ∀ x ∈ l.take k, grantZ x = 0) (hx : grantZ l[k] ≠ 0) : grantsZ l = grantZ l[k] := by
  unfold grantsZ
  rw [if_neg hl]
  have e : l = l.take k ++ l[k] :: l.drop (k + 1) := by rw [← List.drop_eq_getElem_cons hk, List.take_append_drop]
  have e2 : (l.map grantZ).find? (fun z => z != 0) = some (grantZ l[k]) := by
    conv => lhs; rw [e]
    rw [List.map_append, List.find?_append, grants_none h, List.map_cons, List.find?_cons_of_pos (by simpa using hx)]
    rfl
  rw [e2]
  rfl
theorem grant_take {l : List GrantR} {k : Nat} (hk : k < l.length) (h : ∀ x ∈ l.take k, grantZ x = 0) (hx : grantZ l[k] = 0) : ∀ x ∈ l.take (k + 1), grantZ x = 0 := fun x hm => by
  rw [List.take_succ_eq_append_getElem hk, List.mem_append] at hm
  rcases hm with hm | hm
  · exact h x hm
  · simp at hm
    rw [hm]; exact hx
/-- What is wrong with a gate, and with which part: 0 grants, 1 algs, 2 limit, 3 nothing. -/
def gateZ (l : List GrantR) (al : List (List UInt8)) (lim : Int) : Int := if grantsZ l ≠ 0 then grantsZ l else if algsZ al ≠ 0 then algsZ al else if 1 ≤ lim ∧ lim ≤ 20 then 0 else 5
def gateI (l : List GrantR) (al : List (List UInt8)) (lim : Int) : Nat := if grantsZ l ≠ 0 then 0 else if algsZ al ≠ 0 then 1 else if 1 ≤ lim ∧ lim ≤ 20 then 3 else 2
/-- The words of the parts. -/
def gateS (i : Nat) : ByteArray := if i = 0 then ⟨#[103, 114, 97, 110, 116, 115]⟩ else if i = 1 then ⟨#[97, 108, 103, 115]⟩ else if i = 2 then ⟨#[108, 105, 109, 105, 116]⟩ else ⟨#[]⟩
def denyS : ByteArray := ⟨#[100, 101, 110, 121]⟩
theorem gate0 {l : List GrantR} {al : List (List UInt8)} {lim : Int} (h : grantsZ l ≠ 0) : gateZ l al lim = grantsZ l ∧ gateI l al lim = 0 := by
  unfold gateZ gateI
  rw [if_pos h, if_pos h]
  exact ⟨rfl, rfl⟩
theorem gate1 {l : List GrantR} {al : List (List UInt8)} {lim : Int} (h : grantsZ l = 0) (h1 : algsZ al ≠ 0) : gateZ l al lim = algsZ al ∧ gateI l al lim = 1 := by
  unfold gateZ gateI
  simp [h, h1]
theorem gate2 {l : List GrantR} {al : List (List UInt8)} {lim : Int} (h : grantsZ l = 0) (h1 : algsZ al = 0) (h2 : ¬ (1 ≤ lim ∧ lim ≤ 20)) : gateZ l al lim = 5 ∧ gateI l al lim = 2 := by
  unfold gateZ gateI
  rw [h, h1, if_neg h2, if_neg h2]
  exact ⟨rfl, rfl⟩
theorem gate3 {l : List GrantR} {al : List (List UInt8)} {lim : Int} (h : grantsZ l = 0) (h1 : algsZ al = 0) (h2 : 1 ≤ lim ∧ lim ≤ 20) : gateZ l al lim = 0 ∧ gateI l al lim = 3 := by
  unfold gateZ gateI
  rw [h, h1, if_pos h2, if_pos h2]
  exact ⟨rfl, rfl⟩
/-! ### in memory -/
/-- The k-th grant lies in block b from off on. -/
def GrantAt (w : World) (b off k : Nat) (x : GrantR) : Prop :=
  w.cell? ⟨b, off + k * 2, none⟩ = some (.string (bs x.user)) ∧ w.cell? ⟨b, off + k * 2 + 1, none⟩ = some (.int .i64 x.who)
def GrantsAt (w : World) (v : Value) (l : List GrantR) : Prop :=
  ∃ ao cap, v = .slice ao l.length cap ∧ (l ≠ [] → ∃ b off, ao = some ⟨b, off, none⟩ ∧ b < w.heap.size ∧ ∀ k x, l[k]? = some x → GrantAt w b off k x)
theorem GrantAt.below {w w' : World} {b off k : Nat} {x : GrantR} (h : GrantAt w b off k x) (hb : b < w.heap.size) (hw : Below w.heap.size w w') : GrantAt w' b off k x :=
  ⟨(hw.cell (p := ⟨b, off + k * 2, none⟩) hb).trans h.1, (hw.cell (p := ⟨b, off + k * 2 + 1, none⟩) hb).trans h.2⟩
theorem GrantsAt.below {w w' : World} {v : Value} {l : List GrantR} (h : GrantsAt w v l) (hw : Below w.heap.size w w') : GrantsAt w' v l := by
  obtain ⟨ao, cap, e, h⟩ := h
  refine ⟨ao, cap, e, fun hne => ?_⟩
  obtain ⟨b, off, ea, hb, hk⟩ := h hne
  exact ⟨b, off, ea, Nat.lt_of_lt_of_le hb hw.size, fun k x hx => (hk k x hx).below hb hw⟩
theorem GrantsAt.nil (w : World) : GrantsAt w (.slice none 0 0) [] := ⟨none, 0, rfl, fun h => absurd rfl h⟩
/-- The cells of a list of grants. -/
def grantCells (l : List GrantR) : List Value := l.flatMap fun x => [.string (bs x.user), .int .i64 x.who]
theorem grantCells_len (l : List GrantR) : (grantCells l).length = l.length * 2 := by
  induction l with
  | nil => rfl
  | cons x l ih => simp only [grantCells, List.flatMap_cons, List.length_append, List.length_cons] at ih ⊢; rw [ih]; simp; omega
theorem grantCells_get (l : List GrantR) : ∀ (i : Nat) (x : GrantR), l[i]? = some x → (grantCells l)[i * 2]? = some (.string (bs x.user)) ∧ (grantCells l)[i * 2 + 1]? = some (.int .i64 x.who) := by
  induction l with
  | nil => intro i x h; simp at h
  | cons y l ih =>
    intro i x h
    cases i with
    | zero =>
      simp at h
      subst h
      simp [grantCells]
    | succ i =>
      simp at h
      obtain ⟨h1, h2⟩ := ih i x h
      simp only [grantCells, List.flatMap_cons] at h1 h2 ⊢
      refine ⟨?_, ?_⟩
      · rw [List.getElem?_append_right (by simp; omega), ← h1]
        congr 1
        simp
        omega
      · rw [List.getElem?_append_right (by simp; omega), ← h2]
        congr 1
        simp
        omega
end Go.Proofs.YtgoinpibllomfaaDoor
