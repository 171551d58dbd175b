/- Layer 37: census.Check. -/
import Derived.Test.YtjphlhehhigpjaaCe1
import Derived.Test.YtjphlhehhigpjaaRowN2
import Derived.Test.YtjphlhehhigpjaaRgH
import Derived.Test.YtjphlhehhigpjaaFltC
import Derived.Deep.DeepCutAuto
namespace Go.Proofs.Ytjphlhehhigpjaa
open Go.RowKit

def natB (L : List Int) : Bool := L.all fun x => decide (0 ≤ x)
def sumB : Int → List Int → Bool
  | w, [] => w == 0
  | w, n :: r => if n < 0 ∨ n > w then false else sumB (w - n) r
set_option maxHeartbeats 2000000 in
set_option maxRecDepth 100000 in
theorem natural_any {w : World} {v : Value} {L : List Int} (h : IdsAt w v L) (hl : L.length ≤ 1000) :
    Calls Try.prog 25 #[v] w fun e w' => e = .returned (.bool (natB L)) ∧ w' = w := by
  obtain ⟨ao, cap, rfl, hc⟩ := h
  have HC := Lib.hid hc
  have HN : Hid ((∀ j (hj : j < L.length), 0 ≤ L[j]) → natB L = true) := fun hh => by
    unfold natB; rw [List.all_eq_true]; intro x hx; obtain ⟨j, hj, rfl⟩ := List.getElem_of_mem hx; exact decide_eq_true (hh j hj)
  have HY : Hid (∀ j (hj : j < L.length), L[j] < 0 → natB L = false) := fun j hj hn => by
    unfold natB; rw [List.all_eq_false]; exact ⟨L[j], List.getElem_mem hj, by simp; omega⟩
  clear hc
  generalize natB L = z at *
  go_enter Try.func25, Try.ntmps25
  go_wp2_with fail
  go_loopw [7] (fun i wr => ∃ k : Nat, k ≤ L.length ∧ i = .int .i64 k ∧ Hid (∀ j (hj : j < L.length), j < k → 0 ≤ L[j]) ∧ wr = w) (fun i _ => L.length - (intOf i).toNat)
  case atStart => exact ⟨0, Nat.zero_le _, rfl, Lib.hid (fun j _ h => absurd h (Nat.not_lt_zero j)), rfl⟩
  case round =>
    obtain ⟨k, hk, rfl, HT, hwr⟩ := hrel
    have hw := hwr.symm
    subst hw
    by_cases hlt : k < L.length
    · have HLT := Lib.hid hlt
      have q0 : (k : Int) < (L.length : Int) := by omega
      obtain ⟨b, off, rfl, hb, hcell⟩ := HC.out (by intro h; simp [h] at hlt)
      have c0 := hcell k _ (List.getElem?_eq_getElem hlt)
      have HYk := Lib.hid (HY.out k hlt)
      have HNk : Hid (¬ L[k] < 0 → ∀ j (hj : j < L.length), j < k + 1 → 0 ≤ L[j]) := fun hn j hj h => by
        rcases Nat.lt_or_eq_of_le (Nat.le_of_lt_succ h) with h' | rfl
        · exact HT.out j hj h'
        · omega
      clear hcell HC HN HY HT
      generalize L[k] = x at *
      by_cases hx : x < 0
      · have qx : decide (x < 0) = true := decide_eq_true hx
        have HZ := Lib.hid (HYk.out hx)
        clear HYk HNk hx
        go_wp2_with fail
        go_ret
        exact ⟨by rw [HZ.out]; rfl, rfl⟩
      · have qx : decide (x < 0) = false := decide_eq_false hx
        have HZ := Lib.hid (HNk.out hx)
        clear HYk HNk hx
        go_wp2_with fail
        go_roundw
        case rel => exact ⟨k + 1, by have := HLT.out; omega, by go_num, HZ, trivial⟩
        case measure => have := HLT.out; simp [intOf]; omega
    · have hkl : k = L.length := by omega
      subst hkl
      have HZ := Lib.hid (HN.out (fun j hj => HT.out j hj hj))
      clear hlt HC HN HY HT
      go_wp2_with fail
      go_ret
      exact ⟨by rw [HZ.out]; rfl, rfl⟩
set_option maxHeartbeats 2000000 in
set_option maxRecDepth 100000 in
theorem isSum_any {w : World} {v : Value} {L : List Int} (h : IdsAt w v L) (hl : L.length ≤ 1000) {x : Int} (hx0 : -4398046511104 ≤ x) (hx1 : x ≤ 4398046511104) :
    Calls Try.prog 27 #[.int .i64 x, v] w fun e w' => e = .returned (.bool (sumB x L)) ∧ w' = w := by
  obtain ⟨ao, cap, rfl, hc⟩ := h
  have HC := Lib.hid hc
  obtain ⟨z, hz⟩ : ∃ z, Hid (z = sumB x L) := ⟨_, Lib.hid rfl⟩
  rw [← hz.out]
  clear hc
  go_enter Try.func27, Try.ntmps27
  go_wp2_with fail
  go_loopw [0, 9] (fun u i wr => ∃ (k : Nat) (y : Int), k ≤ L.length ∧ i = .int .i64 k ∧ u = .int .i64 y ∧ (-4398046511104 ≤ y ∧ y ≤ 4398046511104) ∧ Hid (z = sumB y (L.drop k)) ∧ wr = w) (fun _ i _ => L.length - (intOf i).toNat)
  case atStart => exact ⟨0, x, Nat.zero_le _, rfl, rfl, ⟨hx0, hx1⟩, hz, rfl⟩
  case round =>
    obtain ⟨k, y, hk, rfl, rfl, ⟨hy0, hy1⟩, HT, hwr⟩ := hrel
    have hw := hwr.symm
    subst hw
    clear hz
    by_cases hlt : k < L.length
    · have HLT := Lib.hid hlt
      have q0 : (k : Int) < (L.length : Int) := by omega
      obtain ⟨b, off, rfl, hb, hcell⟩ := HC.out (by intro h; simp [h] at hlt)
      have c0 := hcell k _ (List.getElem?_eq_getElem hlt)
      have HD : Hid (z = if L[k] < 0 ∨ L[k] > y then false else sumB (y - L[k]) (L.drop (k + 1))) := by
        show z = _
        rw [HT.out, List.drop_eq_getElem_cons hlt]; rfl
      clear hcell HC HT
      generalize L[k] = x at *
      by_cases hx : x < 0
      · have qx : decide (x < 0) = true := decide_eq_true hx
        have HZ : Hid (z = false) := HD.out.trans (if_pos (.inl hx))
        clear HD hx
        go_wp2_with fail
        go_ret
        exact ⟨by rw [HZ.out]; rfl, rfl⟩
      have qx : decide (x < 0) = false := decide_eq_false hx
      by_cases hg : x > y
      · have qg : decide (x > y) = true := decide_eq_true hg
        have HZ : Hid (z = false) := HD.out.trans (if_pos (.inr hg))
        clear HD hx hg
        go_wp2_with fail
        go_ret
        exact ⟨by rw [HZ.out]; rfl, rfl⟩
      have qg : decide (x > y) = false := decide_eq_false hg
      have HZ : Hid (z = sumB (y - x) (L.drop (k + 1))) := HD.out.trans (if_neg (by omega))
      have hb2 : Hid (-4398046511104 ≤ y - x ∧ y - x ≤ 4398046511104) := by show _ ∧ _; omega
      have hw2 : Hid (IntKind.i64.wrap (y - x) = y - x) := IntWalk.i64_in _ ⟨by omega, by omega⟩
      have hw3 := hw2.out
      clear HD
      go_wp2_with fail
      go_roundw
      case rel => exact ⟨k + 1, y - x, by have := HLT.out; omega, by go_num, by first | rfl | (rw [hw2.out]) | go_num, hb2.out, HZ, trivial⟩
      case measure => have := HLT.out; simp [intOf]; omega
    · have hkl : k = L.length := by omega
      subst hkl
      have HZ : Hid (z = (y == 0)) := HT.out.trans (by rw [List.drop_length]; rfl)
      clear hlt HC HT
      go_wp2_with fail
      go_ret
      exact ⟨by rw [HZ.out]; rfl, rfl⟩
set_option maxHeartbeats 1000000 in
set_option maxRecDepth 100000 in
theorem exceeds_any (w : World) {n a b : Int} (hn0 : -4398046511104 ≤ n) (hn1 : n ≤ 4398046511104) (ha0 : -4398046511104 ≤ a) (ha1 : a ≤ 4398046511104) :
    Calls Try.prog 28 #[.int .i64 n, .int .i64 a, .int .i64 b] w fun e w' => e = .returned (.bool (decide (n - a > b))) ∧ w' = w := by
  have hw : IntKind.i64.wrap (n - a) = n - a := IntWalk.i64_in _ ⟨by omega, by omega⟩
  go_enter Try.func28, Try.ntmps28
  go_wp2_with fail
  go_ret
  exact ⟨by first | rfl | simp [hw], rfl⟩
def censusS : ByteArray := ⟨#[99, 101, 110, 115, 117, 115]⟩
set_option maxHeartbeats 1000000 in
set_option maxRecDepth 100000 in
theorem cnWrong_any (ww : ByteArray) (w : World) : Calls Try.prog 26 #[.string ww] w fun e w' => ∃ t u, e = .returned (.iface t u) ∧ ErrAt w' (.iface t u) [censusS, ww] (some 14) ∧ Below w.heap.size w w' := by
  have HO : Hid (∀ W, Calls Try.prog 36 #[.string ww, .int .i64 14] W fun r w' => ∃ t u, r = .returned (.iface t u) ∧ ErrAt w' (.iface t u) [ww] (some 14) ∧ Below W.heap.size W w') := fun W => (fOf_any ww 14 (by decide) W).mono fun r w' ⟨v', h1, h2, h3, h4⟩ => by
    cases h2 with
    | fault g1 g2 g3 g4 => exact ⟨_, _, h1, .fault g1 g2 g3 g4, h4⟩
  have HA : Hid (∀ (W : World) (t : TypeId) (v : Value), ErrAt W (.iface t v) [ww] (some 14) → Calls Try.prog 35 #[.string censusS, .iface t v] W fun r w' => ∃ t v, r = .returned (.iface t v) ∧ ErrAt w' (.iface t v) [censusS, ww] (some 14) ∧ Below W.heap.size W w') := fun W t v hv => (fAt_any hv (by simp) censusS).mono fun r w' ⟨v', h1, h2, h3, h4⟩ => by
    cases h2 with
    | fault g1 g2 g3 g4 => exact ⟨_, _, h1, .fault g1 g2 g3 g4, h4⟩
  unfold censusS at HA ⊢
  go_enter Try.func26, Try.ntmps26
  go_wp2_with (first
    | (go_at_call 36; (with_reducible refine (HO.out _).mono ?_); rintro e w2 ⟨t2, u2, rfl, e2, b2⟩; have B2 := Lib.hid b2; have E2 := Lib.hid e2; clear b2 e2)
    | (go_at_call 35; (with_reducible refine (HA.out _ _ _ E2.out).mono ?_); rintro e w3 ⟨t3, u3, rfl, e3, b3⟩; have B3 := Lib.hid (B2.out.trans (b3.mono B2.out.size)); have E3 := Lib.hid e3; clear b3 e3))
  go_ret
  exact ⟨t3, u3, rfl, E3.out, B3.out⟩
def ckA (c : Nat → Int) : Bool := natB [c 0, c 1, c 2, c 3, c 4, c 5, c 6, c 7]
def ckB (c : Nat → Int) : Bool := sumB (c 6) [c 8, c 9, c 10, c 11, c 12, c 13, c 14, c 15, c 16, c 17, c 18, c 19, c 20, c 21, c 22, c 23]
def ckC (c : Nat → Int) : Bool := sumB (c 2) [c 24, c 25, c 26, c 27]
def ckD (c : Nat → Int) : Bool := !(natB [c 28]) || decide (c 28 - c 1 > c 2)
def ckE (c : Nat → Int) : Bool := !(natB [c 29]) || decide (c 29 - c 2 > c 4)
/-- The first part of a census that no list has. -/
def chkW (c : Nat → Int) : ByteArray :=
  if ckA c = false then ⟨#[107, 105, 110, 100, 115]⟩ else if ckB c = false then ⟨#[114, 101, 97, 115, 111, 110, 115]⟩ else if ckC c = false then ⟨#[109, 101, 116, 104, 111, 100, 115]⟩
  else if ckD c = true then ⟨#[108, 97, 116, 101, 114]⟩ else if ckE c = true then ⟨#[115, 97, 102, 101]⟩ else ⟨#[]⟩
theorem sizeCensus4 : (Try.prog.info? 29).map (·.size) = some 30 := by kernel_rfl
theorem sizeA8 : (Try.prog.info? 25).map (·.size) = some 8 := by kernel_rfl
theorem ids_of {W : World} {b : Nat} {t : TypeId} {R : Array Value} (h : Holds W b t R) (off : Nat) (L : List Int) (hL : ∀ j x, L[j]? = some x → R[off + j]? = some (.int .i64 x)) : IdsAt W (.slice (some ⟨b, off, none⟩) L.length L.length) L :=
  ⟨_, _, rfl, fun _ => ⟨b, off, rfl, h.lt, fun k x hx => (h.cell (off + k)).trans (hL k x hx)⟩⟩
set_option maxHeartbeats 8000000 in
set_option maxRecDepth 100000 in
theorem cnCheck_any (w : World) (c : Nat → Int) (hc : ∀ i, i < 30 → -1099511627776 ≤ c i ∧ c i ≤ 1099511627776) :
    Calls Try.prog 12 #[.agg (cenRow c)] w fun e w' => ∃ v', e = .returned v' ∧ ((chkW c = ⟨#[]⟩ ∧ v' = .nilIface) ∨ ((chkW c).size ≠ 0 ∧ ∃ t u, v' = .iface t u ∧ ErrAt w' (.iface t u) [censusS, chkW c] (some 14))) ∧ Below w.heap.size w w' := by
  obtain ⟨B1, hB1⟩ : ∃ B1, Hid (B1 = w.heap.size) := ⟨_, Lib.hid rfl⟩
  have HGet : Hid (∀ i, i < 30 → (cenRow c)[i]? = some (.int .i64 (c i))) := fun i hi => cenRow_get c hi
  have HSz : Hid ((cenRow c).size = 30) := rfl
  have HWr : Hid (∀ ww W, Calls Try.prog 26 #[.string ww] W fun e w' => ∃ t u, e = .returned (.iface t u) ∧ ErrAt w' (.iface t u) [censusS, ww] (some 14) ∧ Below W.heap.size W w') := fun ww W => cnWrong_any ww W
  have HK8 : Hid (∀ j u, (#[.int .i64 (c 0), .int .i64 (c 1), .int .i64 (c 2), .int .i64 (c 3), .int .i64 (c 4), .int .i64 (c 5), .int .i64 (c 6), .int .i64 (c 7)] : Array Value)[j]? = some u → (cenRow c)[j]? = some u) := fun j u hj => by
    have hj8 : j < 8 := by
      rcases Nat.lt_or_ge j 8 with h | h
      · exact h
      · rw [Array.getElem?_eq_none (by exact h)] at hj; cases hj
    rw [cenRow_get c (by omega)]
    match j, hj8 with
    | 0, _ => exact hj
    | 1, _ => exact hj
    | 2, _ => exact hj
    | 3, _ => exact hj
    | 4, _ => exact hj
    | 5, _ => exact hj
    | 6, _ => exact hj
    | 7, _ => exact hj
  have HNat : Hid (∀ W B, Holds W B 25 #[.int .i64 (c 0), .int .i64 (c 1), .int .i64 (c 2), .int .i64 (c 3), .int .i64 (c 4), .int .i64 (c 5), .int .i64 (c 6), .int .i64 (c 7)] → Calls Try.prog 25 #[.slice (some ⟨B, 0, none⟩) 8 8] W fun e w' => e = .returned (.bool (ckA c)) ∧ w' = W) := fun W B h =>
    natural_any (L := [c 0, c 1, c 2, c 3, c 4, c 5, c 6, c 7]) (ids_of h 0 [c 0, c 1, c 2, c 3, c 4, c 5, c 6, c 7] (fun j x hx => by
      rw [Nat.zero_add]
      have := congrArg (Option.map (Value.int .i64)) hx
      rw [← List.getElem?_map] at this
      simpa using this)) (by simp)
  have HS6 : Hid (∀ W, Holds W B1 29 (cenRow c) → Calls Try.prog 27 #[.int .i64 (c 6), .slice (some ⟨B1, 8, none⟩) 16 16] W fun e w' => e = .returned (.bool (ckB c)) ∧ w' = W) := fun W h =>
    isSum_any (L := [c 8, c 9, c 10, c 11, c 12, c 13, c 14, c 15, c 16, c 17, c 18, c 19, c 20, c 21, c 22, c 23]) (ids_of h 8 [c 8, c 9, c 10, c 11, c 12, c 13, c 14, c 15, c 16, c 17, c 18, c 19, c 20, c 21, c 22, c 23] (fun j x hx => by
      have hj : j < 16 := by
        rcases Nat.lt_or_ge j 16 with h | h
        · exact h
        · rw [List.getElem?_eq_none (by exact h)] at hx; cases hx
      rw [cenRow_get c (by omega)]
      match j, hj with
      | 0, _ => exact congrArg (Option.map (Value.int .i64)) hx
      | 1, _ => exact congrArg (Option.map (Value.int .i64)) hx
      | 2, _ => exact congrArg (Option.map (Value.int .i64)) hx
      | 3, _ => exact congrArg (Option.map (Value.int .i64)) hx
      | 4, _ => exact congrArg (Option.map (Value.int .i64)) hx
      | 5, _ => exact congrArg (Option.map (Value.int .i64)) hx
      | 6, _ => exact congrArg (Option.map (Value.int .i64)) hx
      | 7, _ => exact congrArg (Option.map (Value.int .i64)) hx
      | 8, _ => exact congrArg (Option.map (Value.int .i64)) hx
      | 9, _ => exact congrArg (Option.map (Value.int .i64)) hx
      | 10, _ => exact congrArg (Option.map (Value.int .i64)) hx
      | 11, _ => exact congrArg (Option.map (Value.int .i64)) hx
      | 12, _ => exact congrArg (Option.map (Value.int .i64)) hx
      | 13, _ => exact congrArg (Option.map (Value.int .i64)) hx
      | 14, _ => exact congrArg (Option.map (Value.int .i64)) hx
      | 15, _ => exact congrArg (Option.map (Value.int .i64)) hx)) (by simp) (by have := hc 6 (by decide); omega) (by have := hc 6 (by decide); omega)
  have HS2 : Hid (∀ W, Holds W B1 29 (cenRow c) → Calls Try.prog 27 #[.int .i64 (c 2), .slice (some ⟨B1, 24, none⟩) 4 4] W fun e w' => e = .returned (.bool (ckC c)) ∧ w' = W) := fun W h =>
    isSum_any (L := [c 24, c 25, c 26, c 27]) (ids_of h 24 [c 24, c 25, c 26, c 27] (fun j x hx => by
      have hj : j < 4 := by
        rcases Nat.lt_or_ge j 4 with h | h
        · exact h
        · rw [List.getElem?_eq_none (by exact h)] at hx; cases hx
      rw [cenRow_get c (by omega)]
      match j, hj with
      | 0, _ => exact congrArg (Option.map (Value.int .i64)) hx
      | 1, _ => exact congrArg (Option.map (Value.int .i64)) hx
      | 2, _ => exact congrArg (Option.map (Value.int .i64)) hx
      | 3, _ => exact congrArg (Option.map (Value.int .i64)) hx)) (by simp) (by have := hc 2 (by decide); omega) (by have := hc 2 (by decide); omega)
  have HN1 : Hid (∀ (W : World) (B : Nat) (t : TypeId) (x : Int), Holds W B t #[.int .i64 x] → Calls Try.prog 25 #[.slice (some ⟨B, 0, none⟩) 1 1] W fun e w' => e = .returned (.bool (natB [x])) ∧ w' = W) := fun W B t x h =>
    natural_any (L := [x]) (ids_of h 0 [x] (fun j y hx => by
      rw [Nat.zero_add]
      have := congrArg (Option.map (Value.int .i64)) hx
      rw [← List.getElem?_map] at this
      simpa using this)) (by simp)
  have HN8 : Hid (∀ (W : World) (B : Nat) (t : TypeId), Holds W B t #[.int .i64 (c 28)] → Calls Try.prog 25 #[.slice (some ⟨B, 0, none⟩) 1 1] W fun e w' => e = .returned (.bool (natB [c 28])) ∧ w' = W) := fun W B t h => HN1.out W B t (c 28) h
  have HN9 : Hid (∀ (W : World) (B : Nat) (t : TypeId), Holds W B t #[.int .i64 (c 29)] → Calls Try.prog 25 #[.slice (some ⟨B, 0, none⟩) 1 1] W fun e w' => e = .returned (.bool (natB [c 29])) ∧ w' = W) := fun W B t h => HN1.out W B t (c 29) h
  clear HN1
  have HXd : Hid (∀ W, Calls Try.prog 28 #[.int .i64 (c 28), .int .i64 (c 1), .int .i64 (c 2)] W fun e w' => e = .returned (.bool (decide (c 28 - c 1 > c 2))) ∧ w' = W) := fun W => by
    have h1 := hc 28 (by decide); have h2 := hc 1 (by decide)
    exact exceeds_any W (by omega) (by omega) (by omega) (by omega)
  have HXe : Hid (∀ W, Calls Try.prog 28 #[.int .i64 (c 29), .int .i64 (c 2), .int .i64 (c 4)] W fun e w' => e = .returned (.bool (decide (c 29 - c 2 > c 4))) ∧ w' = W) := fun W => by
    have h1 := hc 29 (by decide); have h2 := hc 2 (by decide)
    exact exceeds_any W (by omega) (by omega) (by omega) (by omega)
  have HR : Hid (chkW c = if ckA c = false then ⟨#[107, 105, 110, 100, 115]⟩ else if ckB c = false then ⟨#[114, 101, 97, 115, 111, 110, 115]⟩ else if ckC c = false then ⟨#[109, 101, 116, 104, 111, 100, 115]⟩
    else if ckD c = true then ⟨#[108, 97, 116, 101, 114]⟩ else if ckE c = true then ⟨#[115, 97, 102, 101]⟩ else ⟨#[]⟩) := rfl
  have HD : Hid (ckD c = (!(natB [c 28]) || decide (c 28 - c 1 > c 2))) := rfl
  have HE : Hid (ckE c = (!(natB [c 29]) || decide (c 29 - c 2 > c 4))) := rfl
  clear hc
  generalize chkW c = ww at *
  generalize ckA c = cA at *
  generalize ckB c = cB at *
  generalize ckC c = cC at *
  generalize ckD c = cD at *
  generalize ckE c = cE at *
  generalize cenRow c = R at *
  generalize natB [c 28] = n8 at *
  generalize natB [c 29] = n9 at *
  generalize decide (c 28 - c 1 > c 2) = d8 at *
  generalize decide (c 29 - c 2 > c 4) = d9 at *
  generalize c 0 = k0 at *
  generalize c 1 = k1 at *
  generalize c 2 = k2 at *
  generalize c 3 = k3 at *
  generalize c 4 = k4 at *
  generalize c 5 = k5 at *
  generalize c 6 = k6 at *
  generalize c 7 = k7 at *
  have G28 := HGet.out 28 (by decide)
  have G29 := HGet.out 29 (by decide)
  generalize c 28 = z8 at *
  generalize c 29 = z9 at *
  clear HGet
  have HL8 : Hid (∀ j u, (#[.int .i64 k0, .int .i64 k1, .int .i64 k2, .int .i64 k3, .int .i64 k4, .int .i64 k5, .int .i64 k6, .int .i64 k7] : Array Value)[j]? = some u → (w.alloc (.cells R 29)).cell? ((⟨w.heap.size, 0, none⟩ : Addr).add j) = some u) := fun j u hj => by
    rw [Addr.add_lit, Nat.zero_add]
    exact (cell_of_row _ w.heap.size j R 29 (0, 0) (heap_alloc_new w _)).trans (HK8.out j u hj)
  go_enter Try.func12, Try.ntmps12
  go_upto_region 2 with (first
    | (refine wpList_load_cells rfl 25 _ rfl ⟨w.heap.size, 0, none⟩ rfl #[.int .i64 k0, .int .i64 k1, .int .i64 k2, .int .i64 k3, .int .i64 k4, .int .i64 k5, .int .i64 k6, .int .i64 k7] _ HL8.out Try.underlying25 rfl (by exact sizeA8) ?_)
    | (refine wpList_store_new rfl 25 _ _ rfl (w.heap.size + 1) _ #[.int .i64 k0, .int .i64 k1, .int .i64 k2, .int .i64 k3, .int .i64 k4, .int .i64 k5, .int .i64 k6, .int .i64 k7] 25 rfl rfl (by simp) (by exact sizeA8) rfl rfl ?_))
  obtain ⟨B2, hB2⟩ : ∃ B2, Hid (B2 = w.heap.size + 1) := ⟨_, Lib.hid rfl⟩
  obtain ⟨St, hSt⟩ : ∃ St : World → Prop, Hid (∀ W, St W ↔ (Below w.heap.size w W ∧ Holds W B1 29 R ∧ Holds W B2 25 #[.int .i64 k0, .int .i64 k1, .int .i64 k2, .int .i64 k3, .int .i64 k4, .int .i64 k5, .int .i64 k6, .int .i64 k7])) := ⟨_, Lib.hid fun _ => Iff.rfl⟩
  have H2 : Hid (St ((w.alloc (.cells R 29)).alloc (.cells #[.int .i64 k0, .int .i64 k1, .int .i64 k2, .int .i64 k3, .int .i64 k4, .int .i64 k5, .int .i64 k6, .int .i64 k7] 25))) := by
    refine (hSt.out _).2 ⟨((Below.refl _ _).alloc (Nat.le_refl _) _).alloc (by simp) _, ?_, ?_⟩
    · show Holds _ B1 _ _
      rw [hB1.out]
      exact (Below.heap_alloc _ _ _ (by simp)).trans (Holds.new w 29 R)
    · show Holds _ B2 _ _
      have e : B2 = (w.alloc (.cells R 29)).heap.size := by rw [hB2.out]; simp
      rw [e]
      exact Holds.new _ 25 _
  have HKp : Hid (∀ W W', St W → Below W.heap.size W W' → St W') := fun W W' h hb => by
    obtain ⟨h1, h2, h3⟩ := (hSt.out _).1 h
    exact (hSt.out _).2 ⟨h1.trans (hb.mono h1.size), (hb.block _ h2.lt).trans h2, (hb.block _ h3.lt).trans h3⟩
  have HDr : Hid (∀ W, St W → St W.drew) := fun W h => by
    obtain ⟨h1, h2, h3⟩ := (hSt.out _).1 h
    exact (hSt.out _).2 ⟨h1.drew, h2, h3⟩
  have HBe : Hid (∀ W, St W → Below w.heap.size w W) := fun W h => ((hSt.out _).1 h).1
  have HAl : Hid (∀ W o, St W → St (W.alloc o)) := fun W o h => HKp.out _ _ h ((Below.refl _ _).alloc (Nat.le_refl _) _)
  have HRd : Hid (∀ W, St W → W.cell? ⟨B1, 28, none⟩ = some (.int .i64 z8) ∧ W.cell? ⟨B1, 29, none⟩ = some (.int .i64 z9) ∧ W.cell? ⟨B2, 1, none⟩ = some (.int .i64 k1) ∧ W.cell? ⟨B2, 2, none⟩ = some (.int .i64 k2) ∧ W.cell? ⟨B2, 4, none⟩ = some (.int .i64 k4) ∧ W.cell? ⟨B2, 6, none⟩ = some (.int .i64 k6)) := fun W h => by
    obtain ⟨h1, h2, h3⟩ := (hSt.out _).1 h
    exact ⟨(h2.cell 28).trans G28, (h2.cell 29).trans G29, h3.cell 1, h3.cell 2, h3.cell 4, h3.cell 6⟩
  have HNa : Hid (∀ W, St W → Calls Try.prog 25 #[.slice (some ⟨B2, 0, none⟩) 8 8] W fun e w' => e = .returned (.bool cA) ∧ w' = W) := fun W h => HNat.out W B2 ((hSt.out _).1 h).2.2
  have HSa : Hid (∀ W, St W → Calls Try.prog 27 #[.int .i64 k6, .slice (some ⟨B1, 8, none⟩) 16 16] W fun e w' => e = .returned (.bool cB) ∧ w' = W) := fun W h => HS6.out W ((hSt.out _).1 h).2.1
  have HSb : Hid (∀ W, St W → Calls Try.prog 27 #[.int .i64 k2, .slice (some ⟨B1, 24, none⟩) 4 4] W fun e w' => e = .returned (.bool cC) ∧ w' = W) := fun W h => HS2.out W ((hSt.out _).1 h).2.1
  have hR := HR.out
  rw [← hB2.out, ← hB1.out]
  clear HNat HS6 HS2 hB1 hB2 hSt HL8 HK8 HSz G28 G29 HR
  generalize (w.alloc (.cells R 29)).alloc (.cells #[.int .i64 k0, .int .i64 k1, .int .i64 k2, .int .i64 k3, .int .i64 k4, .int .i64 k5, .int .i64 k6, .int .i64 k7] 25) = W2 at *
  cases cA with
  | false =>
    have HZ : Hid (ww = ⟨#[107, 105, 110, 100, 115]⟩) := hR
    clear hR
    go_wp2_with (first
      | (go_at_call 25; (with_reducible refine (HNa.out _ H2.out).mono ?_); rintro e w1 ⟨rfl, hw⟩; have hw := hw.symm; subst hw)
      | (go_at_call 26; (with_reducible refine (HWr.out _ _).mono ?_); rintro e w3 ⟨t3, u3, rfl, e3, b3⟩; have B3 := Lib.hid ((HBe.out _ H2.out).trans (b3.mono (HBe.out _ H2.out).size)); have E3 := Lib.hid e3; clear b3 e3))
    go_ret
    exact ⟨_, rfl, .inr ⟨by rw [HZ.out]; decide, t3, u3, rfl, by rw [HZ.out]; exact E3.out⟩, B3.out⟩
  | true =>
  rw [if_neg (by decide)] at hR
  go_upto_region 4 with (first
    | (go_at_call 25; (with_reducible refine (HNa.out _ H2.out).mono ?_); rintro e w1 ⟨rfl, hw⟩; have hw := hw.symm; subst hw))
  clear HNa
  obtain ⟨Sp, hSp⟩ : ∃ Sp : World → Prop, Hid (∀ w', Sp w' ↔ (St w')) := ⟨_, Lib.hid fun _ => Iff.rfl⟩
  refine wp_region_held_gen Sp (by kernel_rfl) ((hSp.out _).2 (HDr.out _ H2.out)) ?_
  have hHeld : Sp _ := (hSp.out (World.drew _)).2 (HDr.out _ H2.out)
  intro O hO
  refine held_read hO (i := 0) rfl rfl (by kernel_rfl) (fun _ _ _ _ h => h) ?_ hHeld ?_ ?_
  rotate_left 1
  · (intro w hSw; obtain ⟨a28, a29, a1, a2, a4, a6⟩ := HRd.out _ ((hSp.out _).1 hSw); go_simp; (try with_reducible rfl))
  try simp only [Act.put, List.setIfInBounds_toArray, List.set_cons_zero, List.set_cons_succ]
  refine held_read hO (i := 1) rfl rfl (by kernel_rfl) (fun _ _ _ _ h => h) ?_ hHeld ?_ ?_
  rotate_left 1
  · (intro w hSw; obtain ⟨a28, a29, a1, a2, a4, a6⟩ := HRd.out _ ((hSp.out _).1 hSw); go_simp; (try with_reducible rfl))
  try simp only [Act.put, List.setIfInBounds_toArray, List.set_cons_zero, List.set_cons_succ]
  refine held_read hO (i := 2) rfl rfl (by kernel_rfl) (fun _ _ _ _ h => h) ?_ hHeld ?_ ?_
  rotate_left 1
  · (intro w hSw; obtain ⟨a28, a29, a1, a2, a4, a6⟩ := HRd.out _ ((hSp.out _).1 hSw); go_simp; (try with_reducible rfl))
  try simp only [Act.put, List.setIfInBounds_toArray, List.set_cons_zero, List.set_cons_succ]
  refine held_read hO (i := 3) rfl rfl (by kernel_rfl) (fun _ _ _ _ h => h) ?_ hHeld ?_ ?_
  rotate_left 1
  · (intro w hSw; obtain ⟨a28, a29, a1, a2, a4, a6⟩ := HRd.out _ ((hSp.out _).1 hSw); go_simp; (try with_reducible rfl))
  try simp only [Act.put, List.setIfInBounds_toArray, List.set_cons_zero, List.set_cons_succ]
  refine held_step hO (i := 4) rfl rfl (by kernel_rfl) (fun K hK => ?_)
  go_simp
  go_at_call 27
  with_reducible refine (HSa.out _ ((hSp.out _).1 hHeld)).mono ?_
  rintro e w9 ⟨rfl, hw⟩
  subst hw
  go_wp2_with fail
  refine hK.out _ _ hHeld ?_
  clear hK K
  try simp only [Act.put, List.setIfInBounds_toArray, List.set_cons_zero, List.set_cons_succ]
  refine held_read hO (i := 5) rfl rfl (by kernel_rfl) (fun _ _ _ _ h => h) ?_ hHeld ?_ ?_
  rotate_left 1
  · (intro w hSw; obtain ⟨a28, a29, a1, a2, a4, a6⟩ := HRd.out _ ((hSp.out _).1 hSw); go_simp; (try with_reducible rfl))
  try simp only [Act.put, List.setIfInBounds_toArray, List.set_cons_zero, List.set_cons_succ]
  refine held_read hO (i := 6) rfl rfl (by kernel_rfl) (fun _ _ _ _ h => h) ?_ hHeld ?_ ?_
  rotate_left 1
  · (intro w hSw; obtain ⟨a28, a29, a1, a2, a4, a6⟩ := HRd.out _ ((hSp.out _).1 hSw); go_simp; (try with_reducible rfl))
  try simp only [Act.put, List.setIfInBounds_toArray, List.set_cons_zero, List.set_cons_succ]
  refine held_done hO (by kernel_rfl) ?_
  clear hO O
  have H4 := Lib.hid ((hSp.out _).1 hHeld)
  clear hHeld hSp Sp H2 HSa
  generalize World.drew _ = W4 at *
  cases cB with
  | false =>
    have HZ : Hid (ww = ⟨#[114, 101, 97, 115, 111, 110, 115]⟩) := hR
    clear hR
    go_wp2_with (first
      | fail
      | (go_at_call 26; (with_reducible refine (HWr.out _ _).mono ?_); rintro e w3 ⟨t3, u3, rfl, e3, b3⟩; have B3 := Lib.hid ((HBe.out _ H4.out).trans (b3.mono (HBe.out _ H4.out).size)); have E3 := Lib.hid e3; clear b3 e3))
    go_ret
    exact ⟨_, rfl, .inr ⟨by rw [HZ.out]; decide, t3, u3, rfl, by rw [HZ.out]; exact E3.out⟩, B3.out⟩
  | true =>
  rw [if_neg (by decide)] at hR
  go_upto_region 6 with fail
  obtain ⟨Sp, hSp⟩ : ∃ Sp : World → Prop, Hid (∀ w', Sp w' ↔ (St w')) := ⟨_, Lib.hid fun _ => Iff.rfl⟩
  refine wp_region_held_gen Sp (by kernel_rfl) ((hSp.out _).2 (HDr.out _ H4.out)) ?_
  have hHeld : Sp _ := (hSp.out (World.drew _)).2 (HDr.out _ H4.out)
  intro O hO
  refine held_read hO (i := 0) rfl rfl (by kernel_rfl) (fun _ _ _ _ h => h) ?_ hHeld ?_ ?_
  rotate_left 1
  · (intro w hSw; obtain ⟨a28, a29, a1, a2, a4, a6⟩ := HRd.out _ ((hSp.out _).1 hSw); go_simp; (try with_reducible rfl))
  try simp only [Act.put, List.setIfInBounds_toArray, List.set_cons_zero, List.set_cons_succ]
  refine held_read hO (i := 1) rfl rfl (by kernel_rfl) (fun _ _ _ _ h => h) ?_ hHeld ?_ ?_
  rotate_left 1
  · (intro w hSw; obtain ⟨a28, a29, a1, a2, a4, a6⟩ := HRd.out _ ((hSp.out _).1 hSw); go_simp; (try with_reducible rfl))
  try simp only [Act.put, List.setIfInBounds_toArray, List.set_cons_zero, List.set_cons_succ]
  refine held_read hO (i := 2) rfl rfl (by kernel_rfl) (fun _ _ _ _ h => h) ?_ hHeld ?_ ?_
  rotate_left 1
  · (intro w hSw; obtain ⟨a28, a29, a1, a2, a4, a6⟩ := HRd.out _ ((hSp.out _).1 hSw); go_simp; (try with_reducible rfl))
  try simp only [Act.put, List.setIfInBounds_toArray, List.set_cons_zero, List.set_cons_succ]
  refine held_read hO (i := 3) rfl rfl (by kernel_rfl) (fun _ _ _ _ h => h) ?_ hHeld ?_ ?_
  rotate_left 1
  · (intro w hSw; obtain ⟨a28, a29, a1, a2, a4, a6⟩ := HRd.out _ ((hSp.out _).1 hSw); go_simp; (try with_reducible rfl))
  try simp only [Act.put, List.setIfInBounds_toArray, List.set_cons_zero, List.set_cons_succ]
  refine held_step hO (i := 4) rfl rfl (by kernel_rfl) (fun K hK => ?_)
  go_simp
  go_at_call 27
  with_reducible refine (HSb.out _ ((hSp.out _).1 hHeld)).mono ?_
  rintro e w9 ⟨rfl, hw⟩
  subst hw
  go_wp2_with fail
  refine hK.out _ _ hHeld ?_
  clear hK K
  try simp only [Act.put, List.setIfInBounds_toArray, List.set_cons_zero, List.set_cons_succ]
  refine held_read hO (i := 5) rfl rfl (by kernel_rfl) (fun _ _ _ _ h => h) ?_ hHeld ?_ ?_
  rotate_left 1
  · (intro w hSw; obtain ⟨a28, a29, a1, a2, a4, a6⟩ := HRd.out _ ((hSp.out _).1 hSw); go_simp; (try with_reducible rfl))
  try simp only [Act.put, List.setIfInBounds_toArray, List.set_cons_zero, List.set_cons_succ]
  refine held_read hO (i := 6) rfl rfl (by kernel_rfl) (fun _ _ _ _ h => h) ?_ hHeld ?_ ?_
  rotate_left 1
  · (intro w hSw; obtain ⟨a28, a29, a1, a2, a4, a6⟩ := HRd.out _ ((hSp.out _).1 hSw); go_simp; (try with_reducible rfl))
  try simp only [Act.put, List.setIfInBounds_toArray, List.set_cons_zero, List.set_cons_succ]
  refine held_done hO (by kernel_rfl) ?_
  clear hO O
  have H6 := Lib.hid ((hSp.out _).1 hHeld)
  clear hHeld hSp Sp H4 HSb
  generalize World.drew _ = W6 at *
  cases cC with
  | false =>
    have HZ : Hid (ww = ⟨#[109, 101, 116, 104, 111, 100, 115]⟩) := hR
    clear hR
    go_wp2_with (first
      | fail
      | (go_at_call 26; (with_reducible refine (HWr.out _ _).mono ?_); rintro e w3 ⟨t3, u3, rfl, e3, b3⟩; have B3 := Lib.hid ((HBe.out _ H6.out).trans (b3.mono (HBe.out _ H6.out).size)); have E3 := Lib.hid e3; clear b3 e3))
    go_ret
    exact ⟨_, rfl, .inr ⟨by rw [HZ.out]; decide, t3, u3, rfl, by rw [HZ.out]; exact E3.out⟩, B3.out⟩
  | true =>
  rw [if_neg (by decide)] at hR
  obtain ⟨a28, a29, a1, a2, a4, a6⟩ := HRd.out _ H6.out
  go_upto_region 8 with fail
  go_cut [27] (fun u wx => u = .bool cD ∧ Hid (St wx))
  case first =>
    clear hR HWr HE HXe
    cases n8 with
    | false =>
      have HZ : Hid (cD = true) := HD.out.trans rfl
      have HQ := Lib.hid (fun o => HRd.out _ (HAl.out _ o H6.out))
      have b28 := (HQ.out (.cells #[.int .i64 z8] 3)).1
      have b1 := (HQ.out (.cells #[.int .i64 z8] 3)).2.2.1
      have b2 := (HQ.out (.cells #[.int .i64 z8] 3)).2.2.2.1
      go_wp2_with (first
        | (go_at_call 25; (with_reducible refine (HN8.out _ _ _ (Holds.new _ _ _)).mono ?_); rintro e w1 ⟨rfl, hw⟩; subst hw)
        | (go_at_call 28; (with_reducible refine (HXd.out _).mono ?_); rintro e w2 ⟨rfl, hw⟩; subst hw))
      go_meet
      case rel => exact ⟨by rw [HZ.out], Lib.hid (HAl.out _ _ H6.out)⟩
    | true =>
      have HZ : Hid (cD = d8) := HD.out.trans rfl
      have HQ := Lib.hid (fun o => HRd.out _ (HAl.out _ o H6.out))
      have b28 := (HQ.out (.cells #[.int .i64 z8] 3)).1
      have b1 := (HQ.out (.cells #[.int .i64 z8] 3)).2.2.1
      have b2 := (HQ.out (.cells #[.int .i64 z8] 3)).2.2.2.1
      go_wp2_with (first
        | (go_at_call 25; (with_reducible refine (HN8.out _ _ _ (Holds.new _ _ _)).mono ?_); rintro e w1 ⟨rfl, hw⟩; subst hw)
        | (go_at_call 28; (with_reducible refine (HXd.out _).mono ?_); rintro e w2 ⟨rfl, hw⟩; subst hw))
      go_meet
      case rel => exact ⟨by rw [HZ.out], Lib.hid (HAl.out _ _ H6.out)⟩
  case rest =>
  obtain ⟨rfl, H8⟩ := hcut
  clear H6 HXd HD a28 a29 a1 a2 a4 a6
  generalize wc = W8 at *
  cases cD with
  | true =>
    have HZ : Hid (ww = ⟨#[108, 97, 116, 101, 114]⟩) := hR
    clear hR
    go_wp2_with (first
      | fail
      | (go_at_call 26; (with_reducible refine (HWr.out _ _).mono ?_); rintro e w3 ⟨t3, u3, rfl, e3, b3⟩; have B3 := Lib.hid ((HBe.out _ H8.out).trans (b3.mono (HBe.out _ H8.out).size)); have E3 := Lib.hid e3; clear b3 e3))
    go_ret
    exact ⟨_, rfl, .inr ⟨by rw [HZ.out]; decide, t3, u3, rfl, by rw [HZ.out]; exact E3.out⟩, B3.out⟩
  | false =>
  rw [if_neg (by decide)] at hR
  obtain ⟨a28, a29, a1, a2, a4, a6⟩ := HRd.out _ H8.out
  go_upto_region 10 with fail
  go_cut [43] (fun u wx => u = .bool cE ∧ Hid (St wx))
  case first =>
    clear hR HWr
    cases n9 with
    | false =>
      have HZ : Hid (cE = true) := HE.out.trans rfl
      have HQ := Lib.hid (fun o => HRd.out _ (HAl.out _ o H8.out))
      have b29 := (HQ.out (.cells #[.int .i64 z9] 3)).2.1
      have b2 := (HQ.out (.cells #[.int .i64 z9] 3)).2.2.2.1
      have b4 := (HQ.out (.cells #[.int .i64 z9] 3)).2.2.2.2.1
      go_wp2_with (first
        | (go_at_call 25; (with_reducible refine (HN9.out _ _ _ (Holds.new _ _ _)).mono ?_); rintro e w1 ⟨rfl, hw⟩; subst hw)
        | (go_at_call 28; (with_reducible refine (HXe.out _).mono ?_); rintro e w2 ⟨rfl, hw⟩; subst hw))
      go_meet
      case rel => exact ⟨by rw [HZ.out], Lib.hid (HAl.out _ _ H8.out)⟩
    | true =>
      have HZ : Hid (cE = d9) := HE.out.trans rfl
      have HQ := Lib.hid (fun o => HRd.out _ (HAl.out _ o H8.out))
      have b29 := (HQ.out (.cells #[.int .i64 z9] 3)).2.1
      have b2 := (HQ.out (.cells #[.int .i64 z9] 3)).2.2.2.1
      have b4 := (HQ.out (.cells #[.int .i64 z9] 3)).2.2.2.2.1
      go_wp2_with (first
        | (go_at_call 25; (with_reducible refine (HN9.out _ _ _ (Holds.new _ _ _)).mono ?_); rintro e w1 ⟨rfl, hw⟩; subst hw)
        | (go_at_call 28; (with_reducible refine (HXe.out _).mono ?_); rintro e w2 ⟨rfl, hw⟩; subst hw))
      go_meet
      case rel => exact ⟨by rw [HZ.out], Lib.hid (HAl.out _ _ H8.out)⟩
  case rest =>
  obtain ⟨rfl, H10⟩ := hcut
  clear H8 HXe HE a28 a29 a1 a2 a4 a6
  generalize wc = W10 at *
  cases cE with
  | true =>
    have HZ : Hid (ww = ⟨#[115, 97, 102, 101]⟩) := hR
    clear hR
    go_wp2_with (first
      | fail
      | (go_at_call 26; (with_reducible refine (HWr.out _ _).mono ?_); rintro e w3 ⟨t3, u3, rfl, e3, b3⟩; have B3 := Lib.hid ((HBe.out _ H10.out).trans (b3.mono (HBe.out _ H10.out).size)); have E3 := Lib.hid e3; clear b3 e3))
    go_ret
    exact ⟨_, rfl, .inr ⟨by rw [HZ.out]; decide, t3, u3, rfl, by rw [HZ.out]; exact E3.out⟩, B3.out⟩
  | false =>
  have HZ : Hid (ww = ⟨#[]⟩) := hR
  clear hR
  go_wp2_with fail
  go_ret
  exact ⟨_, rfl, .inl ⟨HZ.out, rfl⟩, HBe.out _ H10.out⟩
end Go.Proofs.Ytjphlhehhigpjaa
