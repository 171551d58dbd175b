/- Part 23 of what the statement wants. -/
import Derived.Test.YtlalkpgipenkaaaGreatDoorPk20
import Derived.Test.YtlalkpgipenkaaaGreatDoorPk21
import Derived.Test.YtlalkpgipenkaaaGreatDoorPk22
namespace Go.Proofs.YtlalkpgipenkaaaGreatDoor
open Go.RowKit

/-- A value of a message. -/
structure FieldR where
  kind : UInt8
  n : Int
  s : List UInt8
  l : List (List UInt8)
def fieldV (x : FieldR) (v : Value) : Value := .agg #[.int .u8 (x.kind.toNat : Int), .int .i64 x.n, .string (bs x.s), v]
def usesP (k : Int) : Nat := if k = 98 ∨ k = 117 then 1 else if k = 115 ∨ k = 109 ∨ k = 99 ∨ k = 116 then 2 else if k = 110 ∨ k = 101 then 3 else 0
def onlyP (k : Int) (x : FieldR) : Bool := (decide (usesP k = 1) || decide (x.n = 0)) && (decide (usesP k = 2) || x.s.isEmpty) && (decide (usesP k = 3) || x.l.isEmpty)

set_option maxRecDepth 100000 in
theorem used_any (k : Int) (w : World) : Calls Tryz.prog 160 #[.int .i32 k] w fun e w' => e = .returned (.int .i64 (usesP k : Int)) ∧ w' = w := by
  have each : ∀ j ∈ ([98, 117, 115, 109, 99, 116, 110, 101] : List Int), k = j ∨ (k == j) = false := fun j _ => by
    by_cases h : k = j
    · exact .inl h
    · exact .inr (by simpa using h)
  rcases each 98 (by simp) with rfl | h1
  · go_enter Tryz.func160, Tryz.ntmps160
    go_wp2
    go_ret
    exact ⟨rfl, rfl⟩
  rcases each 117 (by simp) with rfl | h2
  · go_enter Tryz.func160, Tryz.ntmps160
    go_wp2
    go_ret
    exact ⟨rfl, rfl⟩
  rcases each 115 (by simp) with rfl | h3
  · go_enter Tryz.func160, Tryz.ntmps160
    go_wp2
    go_ret
    exact ⟨rfl, rfl⟩
  rcases each 109 (by simp) with rfl | h4
  · go_enter Tryz.func160, Tryz.ntmps160
    go_wp2
    go_ret
    exact ⟨rfl, rfl⟩
  rcases each 99 (by simp) with rfl | h5
  · go_enter Tryz.func160, Tryz.ntmps160
    go_wp2
    go_ret
    exact ⟨rfl, rfl⟩
  rcases each 116 (by simp) with rfl | h6
  · go_enter Tryz.func160, Tryz.ntmps160
    go_wp2
    go_ret
    exact ⟨rfl, rfl⟩
  rcases each 110 (by simp) with rfl | h7
  · go_enter Tryz.func160, Tryz.ntmps160
    go_wp2
    go_ret
    exact ⟨rfl, rfl⟩
  rcases each 101 (by simp) with rfl | h8
  · go_enter Tryz.func160, Tryz.ntmps160
    go_wp2
    go_ret
    exact ⟨rfl, rfl⟩
  have hu : usesP k = 0 := by
    simp only [beq_eq_false_iff_ne, ne_eq] at h1 h2 h3 h4 h5 h6 h7 h8
    unfold usesP
    rw [if_neg (by omega), if_neg (by omega), if_neg (by omega)]
  have HU := Lib.hid hu
  clear hu each
  go_enter Tryz.func160, Tryz.ntmps160
  go_wp2
  go_ret
  exact ⟨by rw [HU.out]; rfl, rfl⟩

set_option maxRecDepth 100000 in
theorem only_any (k : Int) (x : FieldR) {v : Value} {w : World} (hv : TextsAt w v (x.l.map bs)) :
    Calls Tryz.prog 159 #[.int .i32 k, fieldV x v] w fun e w' => e = .returned (.bool (onlyP k x)) ∧ Below w.heap.size w w' := by
  obtain ⟨ao, cap, rfl, _⟩ := hv
  rw [List.length_map]
  have HU := Lib.hid (fun W => used_any k W)
  unfold onlyP
  obtain ⟨kd, n, s, l⟩ := x
  unfold fieldV
  simp only
  have q1 : ((usesP k : Int) == 1) = decide (usesP k = 1) := by rw [show (1 : Int) = ((1 : Nat) : Int) from rfl]; by_cases h : usesP k = 1 <;> simp [h]; omega
  have q2 : ((usesP k : Int) == 2) = decide (usesP k = 2) := by by_cases h : usesP k = 2 <;> simp [h]; omega
  have q3 : ((usesP k : Int) == 3) = decide (usesP k = 3) := by by_cases h : usesP k = 3 <;> simp [h]; omega
  have q4 : (n == 0) = decide (n = 0) := by by_cases h : n = 0 <;> simp [h]
  have q5 : (bs s).toList.isEmpty = s.isEmpty := by rw [ByteArray.toList_eq]; simp [bs]
  have q6 : ((l.length : Int) == 0) = l.isEmpty := by cases l with
    | nil => rfl
    | cons a r => simp; omega
  generalize decide (usesP k = 1) = c1 at *
  generalize decide (usesP k = 2) = c2 at *
  generalize decide (usesP k = 3) = c3 at *
  generalize decide (n = 0) = c4 at *
  generalize s.isEmpty = c5 at *
  generalize l.isEmpty = c6 at *
  generalize usesP k = u at *
  generalize bs s = S at *
  generalize l.length = m at *
  generalize kd.toNat = kn at *
  have HF := Lib.hid (Holds.new w 81 #[.int .u8 (kn : Int), .int .i64 n, .string S, .slice ao m cap])
  go_enter Tryz.func159, Tryz.ntmps159
  go_wp2_with (go_at_call 160; with_reducible refine (HU.out _).mono ?_; rintro e w1 ⟨rfl, hw⟩; have hw := hw.symm; subst hw)
  all_goals
    go_ret
    exact ⟨by simp_all, (Below.refl _ _).alloc (Nat.le_refl _) _⟩
end Go.Proofs.YtlalkpgipenkaaaGreatDoor

namespace Go.Proofs.YtlalkpgipenkaaaGreatDoor
open Go.RowKit

abbrev Wrote := List UInt8 × Nat
def wrNum (k n : Int) : Wrote := if k = 98 ∧ (n = 0 ∨ n = 1) then (boolL (decide (n = 1)), 0) else if k = 117 ∧ 0 ≤ n ∧ n ≤ 4294967295 then (pack4 n.toNat, 0) else ([], 5)
def wroteV (p : Wrote) : Ending := .returned (.tuple #[.string (bs p.1), .int .i64 (p.2 : Int)])

theorem wrap_u64 (n : Int) : IntKind.u64.wrap n = n % 18446744073709551616 := rfl
theorem wrap_u32 (n : Int) : IntKind.u32.wrap n = n % 4294967296 := rfl

set_option maxRecDepth 100000 in
theorem mnumber_any (k n : Int) (hn : -9223372036854775808 ≤ n ∧ n ≤ 9223372036854775807) (w : World) : Calls Tryz.prog 161 #[.int .i32 k, .int .i64 n] w fun e w' => e = wroteV (wrNum k n) ∧ Below w.heap.size w w' := by
  unfold wroteV
  by_cases h98 : k = 98
  · subst h98
    have HB0 := Lib.hid (fun W => wBool_any false W)
    have HB1 := Lib.hid (fun W => wBool_any true W)
    by_cases h0 : n = 0
    · subst h0
      have HW : Hid (wrNum 98 0 = (boolL false, 0)) := rfl
      rw [HW.out]
      clear HB1
      go_enter Tryz.func161, Tryz.ntmps161
      go_wp2_with (go_at_call 210; with_reducible refine (HB0.out _).mono ?_; rintro e w1 ⟨rfl, b1⟩)
      go_ret2
      exact ⟨rfl, b1⟩
    · by_cases h1 : n = 1
      · subst h1
        have HW : Hid (wrNum 98 1 = (boolL true, 0)) := rfl
        rw [HW.out]
        go_enter Tryz.func161, Tryz.ntmps161
        go_wp2_with (go_at_call 210; with_reducible refine (HB1.out _).mono ?_; rintro e w1 ⟨rfl, b1⟩)
        go_ret2
        exact ⟨rfl, b1⟩
      · have hw : wrNum 98 n = ([], 5) := by unfold wrNum; rw [if_neg (by omega), if_neg (by omega)]
        rw [hw]
        have q0 : (n == 0) = false := by simpa using h0
        have q1 : (n == 1) = false := by simpa using h1
        clear hw h0 h1 HB0 HB1
        go_enter Tryz.func161, Tryz.ntmps161
        go_wp2
        go_ret2
        exact ⟨rfl, Below.refl _ _⟩
  · have q98 : (k == 98) = false := by simpa using h98
    by_cases h117 : k = 117
    · subst h117
      by_cases hr : 0 ≤ n ∧ n ≤ 4294967295
      · obtain ⟨m, rfl⟩ : ∃ m : Nat, n = m := ⟨n.toNat, by omega⟩
        have hw : wrNum 117 m = (pack4 m, 0) := by unfold wrNum; rw [if_neg (by omega), if_pos ⟨rfl, hr⟩]; rfl
        rw [hw]
        have HU := Lib.hid (U32_any m (by omega))
        have w1 : IntKind.u64.wrap (m : Int) = m := by rw [wrap_u64]; omega
        have w2 : IntKind.u32.wrap (m : Int) = m := by rw [wrap_u32]; omega
        have hle : (m : Int) ≤ 4294967295 := hr.2
        generalize bs (pack4 m) = P at *
        clear hw hr hn
        go_enter Tryz.func161, Tryz.ntmps161
        go_wp2_with (go_at_call 16; with_reducible refine (HU.out _).mono ?_; rintro e w1 ⟨rfl, b1⟩)
        go_ret2
        exact ⟨rfl, b1⟩
      · have hw : wrNum 117 n = ([], 5) := by unfold wrNum; rw [if_neg (by omega), if_neg (by omega)]
        rw [hw]
        have q0 : ¬ IntKind.u64.wrap n ≤ 4294967295 := by
          rw [wrap_u64]
          omega
        clear hw hr hn
        have q1 : decide (IntKind.u64.wrap n ≤ 4294967295) = false := decide_eq_false q0
        go_enter Tryz.func161, Tryz.ntmps161
        go_wp2
        go_ret2
        exact ⟨rfl, Below.refl _ _⟩
    · have q117 : (k == 117) = false := by simpa using h117
      have hw : wrNum k n = ([], 5) := by unfold wrNum; rw [if_neg (by omega), if_neg (by omega)]
      rw [hw]
      clear hw h98 h117 hn
      go_enter Tryz.func161, Tryz.ntmps161
      go_wp2
      go_ret2
      exact ⟨rfl, Below.refl _ _⟩
end Go.Proofs.YtlalkpgipenkaaaGreatDoor

namespace Go.Proofs.YtlalkpgipenkaaaGreatDoor
open Go.RowKit

def startsZ : List UInt8 → Bool
  | [] => false
  | b :: _ => decide (b = 0)
theorem hasPrefix_any (l : List UInt8) (hl : l.length ≤ 1000000) (w : World) : Calls Tryz.prog 211 #[.string (bs l), .string ⟨#[0]⟩] w fun e w' => e = .returned (.bool (startsZ l)) ∧ w' = w := by
  have hz1 : (⟨#[0]⟩ : ByteArray).size = 1 := rfl
  have hinner : Calls Tryz.prog 233 #[.string (bs l), .string ⟨#[0]⟩] w fun e w' => e = .returned (.bool (startsZ l)) ∧ w' = w := by
    cases l with
    | nil =>
      rw [show bs ([] : List UInt8) = ⟨#[]⟩ from rfl]
      go_enter Tryz.func233, Tryz.ntmps233
      go_wp2
      go_ret
      exact ⟨rfl, rfl⟩
    | cons b r =>
      have hsz := bs_size (b :: r)
      simp only [List.length_cons] at hsz hl
      have hx : (bs (b :: r)).extract 0 1 = bs [b] := by
        apply ByteArray.ext
        apply Array.toList_inj.1
        rw [ByteArray.data_extract, Array.toList_extract]
        simp [bs, List.extract]
      have hq : ((bs [b]).toList == (⟨#[0]⟩ : ByteArray).toList) = decide (b = 0) := by
        by_cases h : b = 0
        · subst h
          rw [decide_eq_true rfl]
          exact same_yes rfl
        · rw [decide_eq_false h]
          exact same_no fun e => h (by
            have e1 : bs [b] = bs [0] := e
            have := bs_inj e1
            simpa using this)
      have HS : Hid (startsZ (b :: r) = decide (b = 0)) := rfl
      rw [HS.out]
      have hle : 1 ≤ (bs (b :: r)).size := by omega
      have hle2 : (1 : Int) ≤ ((bs (b :: r)).size : Int) := by omega
      rw [← hx] at hq
      clear hx HS hsz
      generalize decide (b = 0) = z at *
      generalize bs (b :: r) = B at *
      generalize (⟨#[0]⟩ : ByteArray) = Z at *
      go_enter Tryz.func233, Tryz.ntmps233
      go_wp2
      go_ret
      exact ⟨by simp_all, rfl⟩
  have HI := Lib.hid hinner
  clear hinner
  generalize bs l = B at *
  generalize (⟨#[0]⟩ : ByteArray) = Z at *
  go_enter Tryz.func211, Tryz.ntmps211
  go_wp2_with (go_at_call 233; with_reducible refine HI.out.mono ?_; rintro e w1 ⟨rfl, hw⟩; have hw := hw.symm; subst hw)
  go_ret
  exact ⟨rfl, rfl⟩

def wrBytes (k : Int) (s : List UInt8) : Wrote := if k = 115 ∨ k = 116 then (cnt s, 0) else if k = 109 ∧ startsZ s = false then (cnt (wholeL s), 0) else if k = 99 ∧ s.length = 16 then (s, 0) else ([], 3)

set_option maxRecDepth 100000 in
theorem bytes_any (k : Int) (s : List UInt8) (hs : s.length ≤ 100000) (w : World) : Calls Tryz.prog 162 #[.int .i32 k, .string (bs s)] w fun e w' => e = wroteV (wrBytes k s) ∧ Below w.heap.size w w' := by
  unfold wroteV
  have HT := Lib.hid (fun W => wText_any s (by omega) W)
  have HW := Lib.hid (fun W => wWhole_any s hs W)
  have HP := Lib.hid (fun W => hasPrefix_any s (by omega) W)
  have hsz := bs_size s
  by_cases h115 : k = 115
  · subst h115
    have hw : wrBytes 115 s = (cnt s, 0) := rfl
    rw [hw]
    clear hw HW HP hsz hs
    generalize bs s = S at *
    go_enter Tryz.func162, Tryz.ntmps162
    go_wp2_with (go_at_call 142; with_reducible refine (HT.out _).mono ?_; rintro e w1 ⟨rfl, b1⟩)
    go_ret2
    exact ⟨rfl, b1⟩
  have q115 : (k == 115) = false := by simpa using h115
  by_cases h116 : k = 116
  · subst h116
    have hw : wrBytes 116 s = (cnt s, 0) := rfl
    rw [hw]
    clear hw HW HP hsz hs
    generalize bs s = S at *
    go_enter Tryz.func162, Tryz.ntmps162
    go_wp2_with (go_at_call 142; with_reducible refine (HT.out _).mono ?_; rintro e w1 ⟨rfl, b1⟩)
    go_ret2
    exact ⟨rfl, b1⟩
  have q116 : (k == 116) = false := by simpa using h116
  by_cases h109 : k = 109
  · subst h109
    cases hz : startsZ s with
    | true =>
      have hw : wrBytes 109 s = ([], 3) := by unfold wrBytes; rw [if_neg (by omega), if_neg (by simp [hz]), if_neg (by omega)]
      rw [hw]
      rw [hz] at HP
      clear hw HW HT hsz hs hz
      generalize bs s = S at *
      go_enter Tryz.func162, Tryz.ntmps162
      go_wp2_with (go_at_call 211; with_reducible refine (HP.out _).mono ?_; rintro e w1 ⟨rfl, hw⟩; have hw := hw.symm; subst hw)
      go_ret2
      exact ⟨rfl, Below.refl _ _⟩
    | false =>
      have hw : wrBytes 109 s = (cnt (wholeL s), 0) := by unfold wrBytes; rw [if_neg (by omega), if_pos ⟨rfl, hz⟩]
      rw [hw]
      rw [hz] at HP
      clear hw HT hsz hs hz
      generalize bs s = S at *
      go_enter Tryz.func162, Tryz.ntmps162
      go_wp2_with (first
        | (go_at_call 211; with_reducible refine (HP.out _).mono ?_; rintro e w1 ⟨rfl, hw⟩; have hw := hw.symm; subst hw)
        | (go_at_call 212; with_reducible refine (HW.out _).mono ?_; rintro e w2 ⟨rfl, b2⟩))
      go_ret2
      exact ⟨rfl, b2⟩
  have q109 : (k == 109) = false := by simpa using h109
  by_cases h99 : k = 99
  · subst h99
    have q16 : ((s.length : Int) == 16) = decide (s.length = 16) := by by_cases h : s.length = 16 <;> simp [h]; omega
    by_cases h16 : s.length = 16
    · have hw : wrBytes 99 s = (s, 0) := by unfold wrBytes; rw [if_neg (by omega), if_neg (by omega), if_pos ⟨rfl, h16⟩]
      rw [hw]
      rw [decide_eq_true h16] at q16
      clear hw HT HW HP hs h16
      generalize bs s = S at *
      generalize s.length = m at *
      go_enter Tryz.func162, Tryz.ntmps162
      go_wp2
      go_ret2
      exact ⟨rfl, Below.refl _ _⟩
    · have hw : wrBytes 99 s = ([], 3) := by unfold wrBytes; rw [if_neg (by omega), if_neg (by omega), if_neg (by omega)]
      rw [hw]
      rw [decide_eq_false h16] at q16
      clear hw HT HW HP hs h16
      generalize bs s = S at *
      generalize s.length = m at *
      go_enter Tryz.func162, Tryz.ntmps162
      go_wp2
      go_ret2
      exact ⟨rfl, Below.refl _ _⟩
  have q99 : (k == 99) = false := by simpa using h99
  have hw : wrBytes k s = ([], 3) := by unfold wrBytes; rw [if_neg (by omega), if_neg (by omega), if_neg (by omega)]
  rw [hw]
  clear hw HT HW HP hs hsz
  generalize bs s = S at *
  go_enter Tryz.func162, Tryz.ntmps162
  go_wp2
  go_ret2
  exact ⟨rfl, Below.refl _ _⟩
end Go.Proofs.YtlalkpgipenkaaaGreatDoor

namespace Go.Proofs.YtlalkpgipenkaaaGreatDoor
open Go.RowKit

theorem wpList_appB {ops : Array Oper} {rest : List Oper} {o : Oper} {a : Act} {w : World} {Q : Exit → Act → World → Prop} (hgd : o.guard = none) (sl x : Operand)
    (ho : o.op = .call { callee := .builtin .append, args := #[sl, x], argTypes := #[89, 9] }) (hty : o.type = 89) {base : Nat} {v : Value} {l : List UInt8} (hs : a.eval sl = v) (hown : OwnB w base v l) (s : List UInt8) (hx : a.eval x = .string (bs s))
    (hn : l.length + s.length ≤ 1000000000) (hb : base ≤ w.heap.size)
    (h : ∀ g c w', OwnB w' base (.slice (some ⟨g, 0, none⟩) (l ++ s).length c) (l ++ s) → w.grownBy w' v.ownBlock → wpList Tryz.prog ops Q rest (a.put o.dst (.slice (some ⟨g, 0, none⟩) (l ++ s).length c)) w') : wpList Tryz.prog ops Q (o :: rest) a w := by
  refine wpList_plain hgd fun K hK => ?_
  obtain ⟨v', w', hr, h2, h3⟩ := append_own hown s hn hb
  obtain ⟨g, c, rfl, _, _⟩ := h2.block
  unfold Oper.wp execOp
  simp only [ho, hty, resolve, invoke, builtin, Sem.run_bind, Sem.run_pure, Result.andThen_ok, List.map_toArray, List.map_cons, List.map_nil, hs, hx, hr]
  exact hK _ _ (h g c w' h2 h3)

theorem OwnB.lower {w : World} {base base' : Nat} {v : Value} {l : List UInt8} (h : OwnB w base v l) (hb : base' ≤ base) : OwnB w base' v l := by
  obtain ⟨g, cap, cur, m, rfl, hb', rest⟩ := h
  exact ⟨g, cap, cur, m, rfl, by omega, rest⟩
theorem cnts_len (M : Nat) : ∀ l : List (List UInt8), (∀ x ∈ l, x.length ≤ M) → ((l.map cnt).flatten).length ≤ l.length * (M + 4)
  | [], _ => by simp
  | x :: l, h => by
    have h1 := h x (by simp)
    have h2 := cnts_len M l fun y hy => h y (by simp [hy])
    have h3 : (cnt x).length = x.length + 4 := by simp [cnt, pack4]
    rw [List.map_cons, List.flatten_cons, List.length_append, h3, List.length_cons, Nat.add_mul, Nat.one_mul]
    omega
theorem cnts_snoc {l : List (List UInt8)} {k : Nat} {x : List UInt8} (h : l[k]? = some x) (P : List UInt8) : P ++ ((l.take k).map cnt).flatten ++ cnt x = P ++ ((l.take (k + 1)).map cnt).flatten := by
  obtain ⟨hk, rfl⟩ := List.getElem?_eq_some_iff.1 h
  rw [List.take_succ_eq_append_getElem hk, List.map_append, List.flatten_append, List.append_assoc, List.map_cons, List.map_nil, List.flatten_cons, List.flatten_nil, List.append_nil]

def extsP (l : List (List UInt8)) : Wrote := if l.length % 2 ≠ 0 then ([], 3) else if 16 < l.length then ([], 2) else (pack4 (l.length / 2) ++ (l.map cnt).flatten, 0)

set_option maxHeartbeats 1000000 in
set_option maxRecDepth 100000 in
theorem exts_any {w : World} {v : Value} {l : List (List UInt8)} (hv : TextsAt w v (l.map bs)) (hl : l.length ≤ 1000000) (hs : ∀ x ∈ l, x.length ≤ 1000000) :
    Calls Tryz.prog 213 #[v] w fun e w' => e = wroteV (extsP l) ∧ Below w.heap.size w w' := by
  unfold wroteV
  obtain ⟨ao, cap, rfl, hc⟩ := hv
  rw [List.length_map] at *
  have q2 : ((l.length : Int) % 2 != 0) = !decide (l.length % 2 = 0) := by
    rw [show (l.length : Int) % 2 = ((l.length % 2 : Nat) : Int) by omega]
    by_cases h : l.length % 2 = 0
    · simp [h]
    · rw [decide_eq_false h, bne_iff_ne.2 (by omega)]; rfl
  by_cases h2 : l.length % 2 = 0
  · rw [decide_eq_true h2, Bool.not_true] at q2
    by_cases h16 : 16 < l.length
    · have hw : extsP l = ([], 2) := by unfold extsP; rw [if_neg (by omega), if_pos h16]
      rw [hw]
      have q16 : (l.length : Int) > 16 := by omega
      clear hw hc hs h2 h16
      generalize l.length = m at *
      go_enter Tryz.func213, Tryz.ntmps213
      go_wp2
      go_ret2
      exact ⟨rfl, Below.refl _ _⟩
    · have hw : extsP l = (pack4 (l.length / 2) ++ (l.map cnt).flatten, 0) := by unfold extsP; rw [if_neg (by omega), if_neg h16]
      rw [hw]
      have q16 : ¬ (l.length : Int) > 16 := by omega
      obtain ⟨d, hd⟩ : ∃ d, d = l.length / 2 := ⟨_, rfl⟩
      have hd8 : d ≤ 8 := by omega
      have hdiv : (l.length : Int) / 2 = (d : Int) := by omega
      have hU : Hid (∀ W : World, Calls Tryz.prog 16 #[.int .u32 ((l.length : Int) / 2)] W fun e w' => e = .returned (.string (bs (pack4 d))) ∧ Below W.heap.size W w') := fun W => by rw [hdiv]; exact U32_any d (by omega) W
      rw [← hd]
      have HC : Hid (∀ W, Below w.heap.size w W → ∀ k x, l[k]? = some x → ∃ b off, ao = some ⟨b, off, none⟩ ∧ W.cell? ⟨b, off + k, none⟩ = some (.string (bs x))) := fun W hb k x hk => by
        obtain ⟨b, off, rfl, hbl, hcc⟩ := hc (by intro h; simp at h; subst h; simp at hk)
        exact ⟨b, off, rfl, (hb.cell (p := ⟨b, off + k, none⟩) hbl).trans (hcc k (bs x) (by simp [hk]))⟩
      have HS := Lib.hid hs
      have HL : Hid (∃ m, m = l.length) := ⟨_, rfl⟩
      obtain ⟨m, hm⟩ := HL.out
      have hm16 : m ≤ 16 := by omega
      have HM := Lib.hid hm
      have hC4 := Lib.hid (fun W => conv_own W (pack4 d) (by simp [pack4]))
      have HP4 : Hid ((pack4 d).length = 4) := rfl
      rw [← hm] at q2 q16 hU ⊢
      clear hw hc hs h2 h16 hd hm hl HL hdiv
      generalize pack4 d = P4 at *
      go_enter Tryz.func213, Tryz.ntmps213
      go_wp2_with (go_at_call 16; with_reducible refine (hU.out _).mono ?_; rintro e w1 ⟨rfl, b1⟩; obtain ⟨c1, W2, hcv, hown, bW, hsz⟩ := hC4.out w1)
      have HBw : Hid (Below w.heap.size w W2) := b1.trans (bW.mono b1.size)
      have HOw := Lib.hid hown
      have hgw : w.heap.size ≤ w1.heap.size := b1.size
      clear hcv hown bW b1 hU hC4
      generalize w1.heap.size = G at *
      go_loopw [4, 24] (fun f i wr => ∃ k g c, k ≤ m ∧ i = .int .i64 ((k : Nat) : Int) ∧ f = .slice (some ⟨g, 0, none⟩) (P4 ++ ((l.take k).map cnt).flatten).length c ∧ OwnB wr w.heap.size f (P4 ++ ((l.take k).map cnt).flatten) ∧ Below w.heap.size w wr) (fun _ i _ => m - (intOf i).toNat)
      case atStart => exact ⟨0, G, c1, Nat.zero_le _, rfl, by simp, by simpa using HOw.out.lower hgw, HBw.out⟩
      case round =>
        obtain ⟨k, g, c, hk, rfl, rfl, how, hbel⟩ := hrel
        have HOwn := Lib.hid how
        by_cases hlt : k < m
        · obtain ⟨x, hx⟩ : ∃ x, l[k]? = some x := ⟨_, List.getElem?_eq_getElem (by have := HM.out; omega)⟩
          obtain ⟨b, off, rfl, y⟩ := HC.out wr hbel k x hx
          have hxl := HS.out x (List.mem_of_getElem? hx)
          have HT := Lib.hid (fun W => wText_any x hxl W)
          have HX := Lib.hid (cnts_snoc hx P4)
          have HLn : Hid ((P4 ++ ((l.take k).map cnt).flatten).length + (cnt x).length ≤ 1000000000) := by
            have h1 := cnts_len 1000000 (l.take k) fun y hy => HS.out y (List.mem_of_mem_take hy)
            have h2 : (cnt x).length = x.length + 4 := by simp [cnt, pack4]
            have h3 : (l.take k).length ≤ 16 := by rw [List.length_take]; omega
            have h4 := HP4.out
            show _ ≤ _
            rw [List.length_append, h2, h4]
            have h5 := Nat.mul_le_mul_right (1000000 + 4) h3
            omega
          have HBe := Lib.hid hbel
          clear how hbel hx
          generalize P4 ++ ((l.take k).map cnt).flatten = Q at *
          go_wp2_with (first
            | (go_at_call 142
               with_reducible refine (HT.out _).mono ?_
               rintro e w3 ⟨rfl, b3⟩
               have how3 := HOwn.out.below b3
               have hb3 := HBe.out.trans (b3.mono HBe.out.size))
            | (at_builtin
               refine wpList_appB (v := .slice (some ⟨g, 0, none⟩) Q.length c) rfl (.tmp 28) (.tmp 30) rfl rfl rfl how3 (cnt x) rfl HLn.out hb3.size ?_
               intro g4 c4 w4 how4 hg4))
          have hb4 : Below w.heap.size w w4 := hb3.trans ((((Moves.refl (fun k => k = g) w3).grown hg4 fun k hk => .inl (by simpa [Value.ownBlock] using hk.symm))).below hb3.size fun k hk => by
            obtain ⟨g', c', e1, e2, _⟩ := how3.block
            injection e1 with e1
            injection e1 with e1
            injection e1 with e1
            omega)
          have HLE : Hid (Q.length + (cnt x).length = (P4 ++ ((l.take (k + 1)).map cnt).flatten).length) := by
            show _ = _
            rw [← HX.out, List.length_append]
          rw [HX.out] at how4
          go_roundw
          case rel => exact ⟨k + 1, g4, c4, by omega, by go_num, by rw [HLE.out], by rw [HLE.out]; exact how4, hb4⟩
          case measure => simp [intOf]; omega
        · have hkm : k = m := by omega
          subst hkm
          have HTk : Hid (l.take k = l) := List.take_of_length_le (by have := HM.out; omega)
          have hst := string_own how
          rw [HTk.out] at hst
          rw [HTk.out]
          have HBe := Lib.hid hbel
          clear how hbel hlt
          generalize hQ : P4 ++ (l.map cnt).flatten = Q at *
          have HQ := Lib.hid hQ
          clear hQ
          go_wp2_with fail
          go_ret2
          exact ⟨by rw [HQ.out]; rfl, HBe.out⟩
  · rw [decide_eq_false h2, Bool.not_false] at q2
    have hw : extsP l = ([], 3) := by unfold extsP; rw [if_pos (by omega)]
    rw [hw]
    clear hw hc hs h2
    generalize l.length = m at *
    go_enter Tryz.func213, Tryz.ntmps213
    go_wp2
    go_ret2
    exact ⟨rfl, Below.refl _ _⟩

def wrList (k : Int) (l : List (List UInt8)) : Wrote := if k = 101 then extsP l else if checkP l = 0 then (cnt (joinL l), 0) else ([], checkP l)
end Go.Proofs.YtlalkpgipenkaaaGreatDoor
