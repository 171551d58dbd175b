/- The first blank; version lines and lines ahead; what a line says: both sides. -/
import Derived.Test.YtgbmepfiajinhaaLn1
namespace Go.Proofs.Ytgbmepfiajinhaa
open Go.RowKit

theorem lnIndex_hit {c : UInt8} : ∀ {l : List UInt8} {k : Nat} (hk : k < l.length), (∀ b ∈ l.take k, b ≠ c) → l[k] = c → Lib.indexByte l c = (k : Int)
  | b :: l, 0, _, _, h => by
    have h' : b = c := h
    simp [Lib.indexByte, h']
  | b :: l, k + 1, hk, ha, h => by
    have hb : b ≠ c := ha b (by simp)
    have ih := lnIndex_hit (c := c) (l := l) (k := k) (by simpa using hk) (fun x hx => ha x (by simp [hx])) (by simpa using h)
    have hb' : (b == c) = false := by simpa using hb
    have hk1 : (((k : Int)) == -1) = false := by rw [beq_eq_false_iff_ne]; omega
    rw [Lib.indexByte, hb', ih]
    simp only [Bool.false_eq_true, if_false, hk1]
    omega
theorem lnIndex_none {c : UInt8} : ∀ {l : List UInt8}, (∀ b ∈ l, b ≠ c) → Lib.indexByte l c = -1
  | [], _ => rfl
  | b :: l, h => by
    have hb : (b == c) = false := by simpa using h b (by simp)
    have ih := lnIndex_none (c := c) (l := l) (fun x hx => h x (by simp [hx]))
    rw [Lib.indexByte, hb, ih]
    rfl
theorem lnIndex_cases (l : List UInt8) (c : UInt8) : (Lib.indexByte l c = -1 ∧ ∀ b ∈ l, b ≠ c) ∨ ∃ (k : Nat) (hk : k < l.length), Lib.indexByte l c = (k : Int) ∧ l[k] = c ∧ ∀ b ∈ l.take k, b ≠ c := by
  induction l with
  | nil => exact .inl ⟨rfl, by simp⟩
  | cons b l ih =>
    by_cases hb : b = c
    · exact .inr ⟨0, by simp, by simp [Lib.indexByte, hb], hb, by simp⟩
    · rcases ih with ⟨h1, h2⟩ | ⟨k, hk, h1, h2, h3⟩
      · refine .inl ⟨lnIndex_none (fun x hx => ?_), fun x hx => ?_⟩ <;>
        · rcases List.mem_cons.1 hx with e | e
          · rw [e]; exact hb
          · exact h2 x e
      · have ha : ∀ x ∈ (b :: l).take (k + 1), x ≠ c := fun x hx => by
          rcases List.mem_cons.1 (by simpa using hx : x ∈ b :: l.take k) with e | e
          · rw [e]; exact hb
          · exact h3 x e
        have hk1 : k + 1 < (b :: l).length := by simp; omega
        exact .inr ⟨k + 1, hk1, by rw [lnIndex_hit hk1 ha (by simpa using h2)], by simpa using h2, ha⟩

def lnBlank (l : List UInt8) : Int := Lib.indexByte l 32

set_option maxRecDepth 100000 in
theorem rlBlank_any (x : List UInt8) (hx : x.length ≤ 1000000) (w : World) : Calls Try.prog 19 #[.string (bs x)] w fun e w' => e = .returned (.int .i64 (lnBlank x)) ∧ w' = w := by
  have hsz := bs_size x
  have HI := Lib.hid (fun (k : Nat) (hk : k < x.length) W => lnIndex_bs x k hk W)
  have hle : (bs x).size ≤ 1000000 := by omega
  generalize bs x = S at *
  go_enter Try.func19, Try.ntmps19
  go_wp2_with fail
  go_loopw [3] (fun i wr => ∃ k : Nat, k ≤ x.length ∧ i = .int .i64 k ∧ (∀ b ∈ x.take k, b ≠ 32) ∧ wr = w) (fun i _ => x.length - (intOf i).toNat)
  case atStart => exact ⟨0, Nat.zero_le _, rfl, by simp, rfl⟩
  case round =>
    obtain ⟨k, hk, rfl, htk, rfl⟩ := hrel
    by_cases hlt : k < x.length
    · have c1 := HI.out k hlt
      by_cases hb : x[k] = 32
      · have HE := Lib.hid (lnIndex_hit hlt htk hb)
        rw [hb] at c1
        have c2 : ∀ W : World, (Instr.index 9 (.string S) (.int .i64 (k : Int))).run Try.prog W = .ok (.int .u8 32) W := fun W => c1 W
        clear c1 htk HI hb
        go_wp2_with fail
        go_ret
        exact ⟨by show _ = Ending.returned (.int .i64 (Lib.indexByte x 32)); rw [HE.out]; rfl, rfl⟩
      · have HN : Hid (∀ a ∈ x.take (k + 1), a ≠ 32) := fun a ha => by
          rw [List.take_succ_eq_append_getElem hlt, List.mem_append] at ha
          rcases ha with ha | ha
          · exact htk a ha
          · simp at ha
            rw [ha]; exact hb
        have hq : ((x[k].toNat : Int) == 32) = false := by
          rw [beq_eq_false_iff_ne]
          intro e
          exact hb (UInt8.toNat_inj.1 (by rw [show (32 : UInt8).toNat = 32 from rfl]; omega))
        clear htk HI hb
        generalize x[k].toNat = n at *
        go_wp2_with fail
        go_roundw
        case rel => exact ⟨k + 1, by omega, by go_num, HN.out, trivial⟩
        case measure => simp [intOf]; omega
    · have hkl : k = x.length := by omega
      subst hkl
      rw [List.take_length] at htk
      have HR := Lib.hid (lnIndex_none htk)
      clear htk hlt HI
      go_wp2_with fail
      go_ret
      exact ⟨by show _ = Ending.returned (.int .i64 (Lib.indexByte x 32)); rw [HR.out]; rfl, rfl⟩

def lnVer : List UInt8 := [83, 83, 72, 45, 50, 46, 48, 45]
def lnPre : List UInt8 := [83, 83, 72, 45]
def lnRight (l : List UInt8) : Bool := lnIsLine l && (lnVer.isPrefixOf l && decide (8 < l.length))
def lnAhead (l : List UInt8) : Bool := lnIsLine l && !(lnPre.isPrefixOf l)

set_option maxRecDepth 100000 in
theorem lnRight_any (x : List UInt8) (hx : x.length ≤ 1000000) (w : World) : Calls Try.prog 11 #[.string (bs x)] w fun e w' => e = .returned (.bool (lnRight x)) ∧ Below w.heap.size w w' := by
  have hsz := bs_size x
  have H1 := Lib.hid (fun W => lnIsLine_any x hx W)
  have H2 : Hid (∀ W : World, Calls Try.prog 23 #[.string (bs x), .string ⟨#[83, 83, 72, 45, 50, 46, 48, 45]⟩] W fun e w' => e = .returned (.bool (lnVer.isPrefixOf x)) ∧ w' = W) := fun W => lnHasPrefix_any x lnVer W
  have HR : Hid (lnRight x = (lnIsLine x && (lnVer.isPrefixOf x && decide (8 < x.length)))) := rfl
  have hle : (bs x).size ≤ 1000000 := by omega
  generalize bs x = S at *
  go_enter Try.func11, Try.ntmps11
  cases h1 : lnIsLine x <;> cases h2 : lnVer.isPrefixOf x <;> by_cases h3 : 8 < x.length
  all_goals
    rw [h1] at H1
    rw [h2] at H2
    first
      | (have q : decide ((x.length : Int) > 8) = true := decide_eq_true (by omega))
      | (have q : decide ((x.length : Int) > 8) = false := decide_eq_false (by omega))
    go_wp2_with (first
      | (go_at_call 22; with_reducible refine (H1.out _).mono ?_; rintro e w1 ⟨rfl, b1⟩)
      | (go_at_call 23; with_reducible refine (H2.out _).mono ?_; rintro e w2 ⟨rfl, rfl⟩))
    go_ret
    exact ⟨by rw [HR.out, h1, h2]; simp [h3], b1⟩

set_option maxRecDepth 100000 in
theorem lnAhead_any (x : List UInt8) (hx : x.length ≤ 1000000) (w : World) : Calls Try.prog 12 #[.string (bs x)] w fun e w' => e = .returned (.bool (lnAhead x)) ∧ Below w.heap.size w w' := by
  have H1 := Lib.hid (fun W => lnIsLine_any x hx W)
  have H2 : Hid (∀ W : World, Calls Try.prog 23 #[.string (bs x), .string ⟨#[83, 83, 72, 45]⟩] W fun e w' => e = .returned (.bool (lnPre.isPrefixOf x)) ∧ w' = W) := fun W => lnHasPrefix_any x lnPre W
  have HR : Hid (lnAhead x = (lnIsLine x && !(lnPre.isPrefixOf x))) := rfl
  generalize bs x = S at *
  go_enter Try.func12, Try.ntmps12
  cases h1 : lnIsLine x <;> cases h2 : lnPre.isPrefixOf x
  all_goals
    rw [h1] at H1
    rw [h2] at H2
    go_wp2_with (first
      | (go_at_call 22; with_reducible refine (H1.out _).mono ?_; rintro e w1 ⟨rfl, b1⟩)
      | (go_at_call 23; with_reducible refine (H2.out _).mono ?_; rintro e w2 ⟨rfl, rfl⟩))
    go_ret
    exact ⟨by rw [HR.out, h1, h2]; rfl, b1⟩

theorem lnIsLine_eq (x : List UInt8) : lnIsLine x = (decide (x.length ≤ 253) && lnPlainL x) := rfl
set_option maxRecDepth 100000 in
theorem rlRight_any (x : List UInt8) (hx : x.length ≤ 1000000) (w : World) : Calls Try.prog 14 #[.string (bs x)] w fun e w' => e = .returned (.bool (lnRight x)) ∧ w' = w := by
  have hsz := bs_size x
  have H1 := Lib.hid (fun W => rlPlain_any x hx W)
  have H2 : Hid (∀ W : World, Calls Try.prog 24 #[.string (bs x), .string ⟨#[83, 83, 72, 45, 50, 46, 48, 45]⟩] W fun e w' => e = .returned (.bool (lnVer.isPrefixOf x)) ∧ w' = W) := fun W => lnBegins_any x lnVer hx (by decide) W
  have HR : Hid (lnRight x = (lnIsLine x && (lnVer.isPrefixOf x && decide (8 < x.length)))) := rfl
  have HL := Lib.hid (lnIsLine_eq x)
  have hle : (bs x).size ≤ 1000000 := by omega
  generalize bs x = S at *
  go_enter Try.func14, Try.ntmps14
  cases h1 : lnPlainL x <;> cases h2 : lnVer.isPrefixOf x <;> by_cases h3 : 8 < x.length <;> by_cases h4 : x.length ≤ 253
  all_goals try (exfalso; omega)
  all_goals
    rw [h1] at H1
    rw [h2] at H2
    first
      | (have q : decide ((x.length : Int) ≥ 9) = true := decide_eq_true (by omega))
      | (have q : decide ((x.length : Int) ≥ 9) = false := decide_eq_false (by omega))
    first
      | (have q' : decide ((x.length : Int) ≤ 253) = true := decide_eq_true (by omega))
      | (have q' : decide ((x.length : Int) ≤ 253) = false := decide_eq_false (by omega))
    go_wp2_with (first
      | (go_at_call 20; with_reducible refine (H1.out _).mono ?_; rintro e w1 ⟨rfl, rfl⟩)
      | (go_at_call 24; with_reducible refine (H2.out _).mono ?_; rintro e w2 ⟨rfl, rfl⟩))
    go_ret
    exact ⟨by rw [HR.out, HL.out, h1, h2]; simp [h3, h4], rfl⟩

set_option maxRecDepth 100000 in
theorem rlAhead_any (x : List UInt8) (hx : x.length ≤ 1000000) (w : World) : Calls Try.prog 15 #[.string (bs x)] w fun e w' => e = .returned (.bool (lnAhead x)) ∧ w' = w := by
  have hsz := bs_size x
  have H1 := Lib.hid (fun W => rlPlain_any x hx W)
  have H2 : Hid (∀ W : World, Calls Try.prog 24 #[.string (bs x), .string ⟨#[83, 83, 72, 45]⟩] W fun e w' => e = .returned (.bool (lnPre.isPrefixOf x)) ∧ w' = W) := fun W => lnBegins_any x lnPre hx (by decide) W
  have HR : Hid (lnAhead x = (lnIsLine x && !(lnPre.isPrefixOf x))) := rfl
  have HL := Lib.hid (lnIsLine_eq x)
  have hle : (bs x).size ≤ 1000000 := by omega
  generalize bs x = S at *
  go_enter Try.func15, Try.ntmps15
  cases h1 : lnPlainL x <;> cases h2 : lnPre.isPrefixOf x <;> by_cases h4 : x.length ≤ 253
  all_goals
    rw [h1] at H1
    rw [h2] at H2
    first
      | (have q' : decide ((x.length : Int) ≤ 253) = true := decide_eq_true (by omega))
      | (have q' : decide ((x.length : Int) ≤ 253) = false := decide_eq_false (by omega))
    go_wp2_with (first
      | (go_at_call 20; with_reducible refine (H1.out _).mono ?_; rintro e w1 ⟨rfl, rfl⟩)
      | (go_at_call 24; with_reducible refine (H2.out _).mono ?_; rintro e w2 ⟨rfl, rfl⟩))
    go_ret
    exact ⟨by rw [HR.out, HL.out, h1, h2]; simp [h4], rfl⟩

/-- strings.Cut at a blank. -/
def lnCut (s : List UInt8) : List UInt8 × List UInt8 × Bool := if lnBlank s < 0 then (s, [], false) else (s.take (lnBlank s).toNat, s.drop ((lnBlank s).toNat + 1), true)
def lnSplit (l : List UInt8) : List UInt8 × List UInt8 × Bool := if lnRight l = true then ((lnCut (l.drop 8)).1, (lnCut (l.drop 8)).2.1, true) else ([], [], false)
set_option maxRecDepth 100000 in
theorem lnCut_any (x : List UInt8) (hx : x.length ≤ 1000000) (w : World) : Calls Try.prog 27 #[.string (bs x), .string ⟨#[32]⟩] w fun e w' => e = .returned (.tuple #[.string (bs (lnCut x).1), .string (bs (lnCut x).2.1), .bool (lnCut x).2.2]) ∧ Below w.heap.size w w' := by
  have hsz := bs_size x
  have H1 : Hid (∀ W : World, Calls Try.prog 29 #[.string (bs x), .string ⟨#[32]⟩] W fun e w' => e = .returned (.int .i64 (lnBlank x)) ∧ w' = W) := fun W => (Try.stringslite_Index_one (bs x) 32 W).mono (by rintro e w' ⟨rfl, rfl⟩; exact ⟨by simp [bs, lnBlank], rfl⟩)
  have HT : Hid (∀ k, (bs x).extract 0 k = bs (x.take k)) := fun k => bs_take x k
  have HD : Hid (∀ k, (bs x).extract k x.length = bs (x.drop k)) := fun k => by have := bs_drop x k; rw [hsz] at this; exact this
  have hle : (bs x).size ≤ 1000000 := by omega
  rcases lnIndex_cases x 32 with ⟨hi, _⟩ | ⟨k, hk, hi, _, _⟩
  · have hi' : lnBlank x = -1 := hi
    have HE : Hid (lnCut x = (x, [], false)) := by show lnCut x = _; unfold lnCut; rw [hi']; rfl
    have HZ : Hid ((bs []) = ⟨#[]⟩) := rfl
    rw [hi'] at H1
    clear hi hi' HT HD
    obtain ⟨S, hS⟩ : ∃ S, S = bs x := ⟨_, rfl⟩
    have HS := Lib.hid hS
    rw [← hS] at hsz hle H1 ⊢
    clear hS
    go_enter Try.func27, Try.ntmps27
    go_wp2_with (go_at_call 29; refine (H1.out _).mono ?_; rintro e w1 ⟨rfl, rfl⟩)
    go_ret3
    exact ⟨by rw [HE.out, HS.out]; rfl, Below.refl _ _⟩
  · have hi' : lnBlank x = (k : Int) := hi
    have HE : Hid (lnCut x = (x.take k, x.drop (k + 1), true)) := by
      show lnCut x = _
      unfold lnCut; rw [hi', if_neg (by omega)]; rfl
    rw [hi'] at H1
    have h1 := HT.out k
    have h2 := HD.out (k + 1)
    clear hi hi' HT HD
    generalize bs x = S at *
    obtain ⟨A, hA⟩ : ∃ A, A = bs (x.take k) := ⟨_, rfl⟩
    obtain ⟨B, hB⟩ : ∃ B, B = bs (x.drop (k + 1)) := ⟨_, rfl⟩
    rw [← hA] at h1
    rw [← hB] at h2
    have HA := Lib.hid hA
    have HB := Lib.hid hB
    clear hA hB
    have q0 : decide ((k : Int) ≥ 0) = true := decide_eq_true (by omega)
    go_enter Try.func27, Try.ntmps27
    go_wp2_with (go_at_call 29; refine (H1.out _).mono ?_; rintro e w1 ⟨rfl, rfl⟩)
    go_region
    go_wp2_with fail
    go_ret3
    exact ⟨by rw [HE.out, ← HA.out, ← HB.out]; rfl, (Below.refl _ _).drew⟩
end Go.Proofs.Ytgbmepfiajinhaa
