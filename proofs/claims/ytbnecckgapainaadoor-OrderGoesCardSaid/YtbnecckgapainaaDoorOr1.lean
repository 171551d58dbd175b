/- Layer 23: which messages may be received and sent, by the program. -/
import Derived.Test.YtbnecckgapainaaDoorSClK
namespace Go.Proofs.YtbnecckgapainaaDoor
open Go.RowKit

set_option maxRecDepth 100000 in
theorem oReads_any (w : World) (p : Int) (b : Bool) (hb : b = decide (1 ≤ p ∧ p ≤ 4)) : Calls Tryd.prog 36 #[.int .i64 p] w fun e w' => e = .returned (.bool b) ∧ w' = w := by
  rcases (by omega : p = 1 ∨ p = 2 ∨ p = 3 ∨ p = 4 ∨ (p ≠ 1 ∧ p ≠ 2 ∧ p ≠ 3 ∧ p ≠ 4)) with rfl | rfl | rfl | rfl | ⟨h1, h2, h3, h4⟩
  · obtain rfl : b = true := by rw [hb]; decide
    clear hb
    go_enter Tryd.func36, Tryd.ntmps36
    go_wp2_with fail
    go_ret
    exact ⟨rfl, rfl⟩
  · obtain rfl : b = true := by rw [hb]; decide
    clear hb
    go_enter Tryd.func36, Tryd.ntmps36
    go_wp2_with fail
    go_ret
    exact ⟨rfl, rfl⟩
  · obtain rfl : b = true := by rw [hb]; decide
    clear hb
    go_enter Tryd.func36, Tryd.ntmps36
    go_wp2_with fail
    go_ret
    exact ⟨rfl, rfl⟩
  · obtain rfl : b = true := by rw [hb]; decide
    clear hb
    go_enter Tryd.func36, Tryd.ntmps36
    go_wp2_with fail
    go_ret
    exact ⟨rfl, rfl⟩
  · obtain rfl : b = false := by rw [hb]; exact decide_eq_false (by omega)
    have q1 : (p == 1) = false := beq_eq_false_iff_ne.2 h1
    have q2 : (p == 2) = false := beq_eq_false_iff_ne.2 h2
    have q3 : (p == 3) = false := beq_eq_false_iff_ne.2 h3
    have q4 : (p == 4) = false := beq_eq_false_iff_ne.2 h4
    clear hb h1 h2 h3 h4
    go_enter Tryd.func36, Tryd.ntmps36
    go_wp2_with fail
    go_ret
    exact ⟨rfl, rfl⟩
set_option maxRecDepth 100000 in
theorem oSays_any (w : World) (n : Int) (b : Bool) (hb : b = decide (2 ≤ n ∧ n ≤ 4)) : Calls Tryd.prog 35 #[.int .i64 n] w fun e w' => e = .returned (.bool b) ∧ w' = w := by
  rcases (by omega : n = 2 ∨ n = 3 ∨ n = 4 ∨ (n ≠ 2 ∧ n ≠ 3 ∧ n ≠ 4)) with rfl | rfl | rfl | ⟨h2, h3, h4⟩
  · obtain rfl : b = true := by rw [hb]; decide
    clear hb
    go_enter Tryd.func35, Tryd.ntmps35
    go_wp2_with fail
    go_ret
    exact ⟨rfl, rfl⟩
  · obtain rfl : b = true := by rw [hb]; decide
    clear hb
    go_enter Tryd.func35, Tryd.ntmps35
    go_wp2_with fail
    go_ret
    exact ⟨rfl, rfl⟩
  · obtain rfl : b = true := by rw [hb]; decide
    clear hb
    go_enter Tryd.func35, Tryd.ntmps35
    go_wp2_with fail
    go_ret
    exact ⟨rfl, rfl⟩
  · obtain rfl : b = false := by rw [hb]; exact decide_eq_false (by omega)
    have q2 : (n == 2) = false := beq_eq_false_iff_ne.2 h2
    have q3 : (n == 3) = false := beq_eq_false_iff_ne.2 h3
    have q4 : (n == 4) = false := beq_eq_false_iff_ne.2 h4
    clear hb h2 h3 h4
    go_enter Tryd.func35, Tryd.ntmps35
    go_wp2_with fail
    go_ret
    exact ⟨rfl, rfl⟩
set_option maxRecDepth 100000 in
theorem oForS_any (w : World) (n : Int) (b : Bool) (hb : b = decide (n = 5 ∨ n = 50)) : Calls Tryd.prog 47 #[.int .i64 n] w fun e w' => e = .returned (.bool b) ∧ w' = w := by
  rcases (by omega : n = 5 ∨ n = 50 ∨ (n ≠ 5 ∧ n ≠ 50)) with rfl | rfl | ⟨h5, h50⟩
  · obtain rfl : b = true := by rw [hb]; decide
    clear hb
    go_enter Tryd.func47, Tryd.ntmps47
    go_wp2_with fail
    go_ret
    exact ⟨rfl, rfl⟩
  · obtain rfl : b = true := by rw [hb]; decide
    clear hb
    go_enter Tryd.func47, Tryd.ntmps47
    go_wp2_with fail
    go_ret
    exact ⟨rfl, rfl⟩
  · obtain rfl : b = false := by rw [hb]; exact decide_eq_false (by omega)
    have q5 : (n == 5) = false := beq_eq_false_iff_ne.2 h5
    have q50 : (n == 50) = false := beq_eq_false_iff_ne.2 h50
    clear hb h5 h50
    go_enter Tryd.func47, Tryd.ntmps47
    go_wp2_with fail
    go_ret
    exact ⟨rfl, rfl⟩
set_option maxRecDepth 100000 in
theorem oForC_any (w : World) (n : Int) (b : Bool) (hb : b = decide (n = 6 ∨ n = 7 ∨ n = 51 ∨ n = 52 ∨ n = 53 ∨ n = 60)) : Calls Tryd.prog 48 #[.int .i64 n] w fun e w' => e = .returned (.bool b) ∧ w' = w := by
  rcases (by omega : n = 6 ∨ n = 7 ∨ n = 51 ∨ n = 52 ∨ n = 53 ∨ n = 60 ∨ (n ≠ 6 ∧ n ≠ 7 ∧ n ≠ 51 ∧ n ≠ 52 ∧ n ≠ 53 ∧ n ≠ 60)) with rfl | rfl | rfl | rfl | rfl | rfl | ⟨h6, h7, h51, h52, h53, h60⟩
  · obtain rfl : b = true := by rw [hb]; decide
    clear hb
    go_enter Tryd.func48, Tryd.ntmps48
    go_wp2_with fail
    go_ret
    exact ⟨rfl, rfl⟩
  · obtain rfl : b = true := by rw [hb]; decide
    clear hb
    go_enter Tryd.func48, Tryd.ntmps48
    go_wp2_with fail
    go_ret
    exact ⟨rfl, rfl⟩
  · obtain rfl : b = true := by rw [hb]; decide
    clear hb
    go_enter Tryd.func48, Tryd.ntmps48
    go_wp2_with fail
    go_ret
    exact ⟨rfl, rfl⟩
  · obtain rfl : b = true := by rw [hb]; decide
    clear hb
    go_enter Tryd.func48, Tryd.ntmps48
    go_wp2_with fail
    go_ret
    exact ⟨rfl, rfl⟩
  · obtain rfl : b = true := by rw [hb]; decide
    clear hb
    go_enter Tryd.func48, Tryd.ntmps48
    go_wp2_with fail
    go_ret
    exact ⟨rfl, rfl⟩
  · obtain rfl : b = true := by rw [hb]; decide
    clear hb
    go_enter Tryd.func48, Tryd.ntmps48
    go_wp2_with fail
    go_ret
    exact ⟨rfl, rfl⟩
  · obtain rfl : b = false := by rw [hb]; exact decide_eq_false (by omega)
    have q6 : (n == 6) = false := beq_eq_false_iff_ne.2 h6
    have q7 : (n == 7) = false := beq_eq_false_iff_ne.2 h7
    have q51 : (n == 51) = false := beq_eq_false_iff_ne.2 h51
    have q52 : (n == 52) = false := beq_eq_false_iff_ne.2 h52
    have q53 : (n == 53) = false := beq_eq_false_iff_ne.2 h53
    have q60 : (n == 60) = false := beq_eq_false_iff_ne.2 h60
    clear hb h6 h7 h51 h52 h53 h60
    go_enter Tryd.func48, Tryd.ntmps48
    go_wp2_with fail
    go_ret
    exact ⟨rfl, rfl⟩

/-- The verdict in an exchange. -/
def exZ (p : Int) (f : Bool) (n : Int) : Int := if (p = 1 ∧ n = 20) ∨ (p = 2 ∧ 30 ≤ n ∧ n ≤ 49) ∨ (p = 3 ∧ n = 21) then 1 else if f = false ∧ 2 ≤ n ∧ n ≤ 4 then 2 else 0
/-- The verdict between exchanges. -/
def openZ (s : Bool) (n : Int) : Int := if n = 20 ∨ (s = true ∧ (n = 5 ∨ n = 50)) ∨ (s = false ∧ (n = 6 ∨ n = 7 ∨ n = 51 ∨ n = 52 ∨ n = 53 ∨ n = 60)) then 1 else if (2 ≤ n ∧ n ≤ 4) ∨ (s = true ∧ n = 7) then 2 else if (formsP n).length > 0 ∨ (30 ≤ n ∧ n ≤ 49) then 0 else 3
def judgeZ (p : Int) (f s : Bool) (n : Int) : Int := if p < 1 ∨ p > 4 ∨ n < 0 ∨ n > 255 then 0 else if n = 1 then 4 else if p = 4 then openZ s n else exZ p f n
def mayB (x : Bool) (n : Int) : Bool := if x = true then decide ((1 ≤ n ∧ n ≤ 4) ∨ (20 ≤ n ∧ n ≤ 49)) else decide (1 ≤ n ∧ n ≤ 255 ∧ n ≠ 21 ∧ (n < 30 ∨ n > 49))
theorem classP_3 (n : Int) : (classP n == 3) = decide (30 ≤ n ∧ n ≤ 49) := by
  rw [Bool.eq_iff_iff, beq_iff_eq, decide_eq_true_iff]
  unfold classP
  split <;> (repeat' split) <;> omega
theorem classP_2 (n : Int) : (classP n == 2) = decide (20 ≤ n ∧ n ≤ 29) := by
  rw [Bool.eq_iff_iff, beq_iff_eq, decide_eq_true_iff]
  unfold classP
  split <;> (repeat' split) <;> omega
theorem classP_0 (n : Int) : (classP n == 0) = decide (n < 1 ∨ n > 255) := by
  rw [Bool.eq_iff_iff, beq_iff_eq, decide_eq_true_iff]
  unfold classP
  split <;> (repeat' split) <;> omega

set_option maxHeartbeats 2000000 in
set_option maxRecDepth 100000 in
theorem oEx_any (w : World) (p : Int) (f : Bool) (n : Int) (hp : 1 ≤ p ∧ p ≤ 3) (z : Int) (hz : z = exZ p f n) : Calls Tryd.prog 38 #[.int .i64 p, .bool f, .int .i64 n] w fun e w' => e = .returned (.int .i64 z) ∧ w' = w := by
  have HC := Lib.hid (fun W => sClass_any W n)
  obtain ⟨sb, hsb⟩ : ∃ sb, sb = decide (2 ≤ n ∧ n ≤ 4) := ⟨_, rfl⟩
  have HS := Lib.hid (fun W => oSays_any W n sb hsb)
  have k3 := classP_3 n
  obtain ⟨cb, hcb⟩ : ∃ cb, cb = decide (30 ≤ n ∧ n ≤ 49) := ⟨_, rfl⟩
  rw [← hcb] at k3
  generalize classP n = C at *
  have hz2 : ∀ (tk : Bool), tk = decide ((p = 1 ∧ n = 20) ∨ (p = 2 ∧ 30 ≤ n ∧ n ≤ 49) ∨ (p = 3 ∧ n = 21)) → z = if tk then 1 else if f = false ∧ sb = true then 2 else 0 := fun tk ht => by
    rw [hz, ht, hsb]
    unfold exZ
    simp only [decide_eq_true_eq]
  clear hz
  rcases (by omega : p = 1 ∨ p = 2 ∨ p = 3) with rfl | rfl | rfl
  · by_cases h20 : n = 20
    · subst h20
      obtain rfl : z = 1 := by rw [hz2 true (decide_eq_true (by omega)).symm]; rfl
      clear hz2 hsb hcb
      go_enter Tryd.func38, Tryd.ntmps38
      go_wp2_with (first
        | (go_at_call 35; (with_reducible refine (HS.out _).mono ?_); rintro e w1 ⟨rfl, rfl⟩)
        | (go_at_call 24; (with_reducible refine (HC.out _).mono ?_); rintro e w2 ⟨rfl, rfl⟩)
        | fail)
      go_ret
      exact ⟨rfl, rfl⟩
    · have q20 : (n == 20) = false := beq_eq_false_iff_ne.2 h20
      have hz3 := hz2 false (decide_eq_false (by omega)).symm
      clear hz2 h20
      cases f with
      | true =>
        obtain rfl : z = 0 := by rw [hz3]; rfl
        clear hz3 hsb hcb
        go_enter Tryd.func38, Tryd.ntmps38
        go_wp2_with (first
          | (go_at_call 35; (with_reducible refine (HS.out _).mono ?_); rintro e w1 ⟨rfl, rfl⟩)
          | (go_at_call 24; (with_reducible refine (HC.out _).mono ?_); rintro e w2 ⟨rfl, rfl⟩)
          | fail)
        go_ret
        exact ⟨rfl, rfl⟩
      | false =>
        cases sb with
        | true =>
          obtain rfl : z = 2 := by rw [hz3]; rfl
          clear hz3 hsb hcb
          go_enter Tryd.func38, Tryd.ntmps38
          go_wp2_with (first
            | (go_at_call 35; (with_reducible refine (HS.out _).mono ?_); rintro e w1 ⟨rfl, rfl⟩)
            | (go_at_call 24; (with_reducible refine (HC.out _).mono ?_); rintro e w2 ⟨rfl, rfl⟩)
            | fail)
          go_ret
          exact ⟨rfl, rfl⟩
        | false =>
          obtain rfl : z = 0 := by rw [hz3]; rfl
          clear hz3 hsb hcb
          go_enter Tryd.func38, Tryd.ntmps38
          go_wp2_with (first
            | (go_at_call 35; (with_reducible refine (HS.out _).mono ?_); rintro e w1 ⟨rfl, rfl⟩)
            | (go_at_call 24; (with_reducible refine (HC.out _).mono ?_); rintro e w2 ⟨rfl, rfl⟩)
            | fail)
          go_ret
          exact ⟨rfl, rfl⟩
  · by_cases h20 : 30 ≤ n ∧ n ≤ 49
    · obtain rfl : cb = true := by rw [hcb]; exact decide_eq_true h20
      obtain rfl : z = 1 := by rw [hz2 true (decide_eq_true (by omega)).symm]; rfl
      clear hz2 hsb hcb h20
      go_enter Tryd.func38, Tryd.ntmps38
      go_wp2_with (first
        | (go_at_call 35; (with_reducible refine (HS.out _).mono ?_); rintro e w1 ⟨rfl, rfl⟩)
        | (go_at_call 24; (with_reducible refine (HC.out _).mono ?_); rintro e w2 ⟨rfl, rfl⟩)
        | fail)
      go_ret
      exact ⟨rfl, rfl⟩
    · obtain rfl : cb = false := by rw [hcb]; exact decide_eq_false h20
      have hz3 := hz2 false (decide_eq_false (by omega)).symm
      clear hz2 h20
      cases f with
      | true =>
        obtain rfl : z = 0 := by rw [hz3]; rfl
        clear hz3 hsb hcb
        go_enter Tryd.func38, Tryd.ntmps38
        go_wp2_with (first
          | (go_at_call 35; (with_reducible refine (HS.out _).mono ?_); rintro e w1 ⟨rfl, rfl⟩)
          | (go_at_call 24; (with_reducible refine (HC.out _).mono ?_); rintro e w2 ⟨rfl, rfl⟩)
          | fail)
        go_ret
        exact ⟨rfl, rfl⟩
      | false =>
        cases sb with
        | true =>
          obtain rfl : z = 2 := by rw [hz3]; rfl
          clear hz3 hsb hcb
          go_enter Tryd.func38, Tryd.ntmps38
          go_wp2_with (first
            | (go_at_call 35; (with_reducible refine (HS.out _).mono ?_); rintro e w1 ⟨rfl, rfl⟩)
            | (go_at_call 24; (with_reducible refine (HC.out _).mono ?_); rintro e w2 ⟨rfl, rfl⟩)
            | fail)
          go_ret
          exact ⟨rfl, rfl⟩
        | false =>
          obtain rfl : z = 0 := by rw [hz3]; rfl
          clear hz3 hsb hcb
          go_enter Tryd.func38, Tryd.ntmps38
          go_wp2_with (first
            | (go_at_call 35; (with_reducible refine (HS.out _).mono ?_); rintro e w1 ⟨rfl, rfl⟩)
            | (go_at_call 24; (with_reducible refine (HC.out _).mono ?_); rintro e w2 ⟨rfl, rfl⟩)
            | fail)
          go_ret
          exact ⟨rfl, rfl⟩
  · by_cases h20 : n = 21
    · subst h20
      obtain rfl : z = 1 := by rw [hz2 true (decide_eq_true (by omega)).symm]; rfl
      clear hz2 hsb hcb
      go_enter Tryd.func38, Tryd.ntmps38
      go_wp2_with (first
        | (go_at_call 35; (with_reducible refine (HS.out _).mono ?_); rintro e w1 ⟨rfl, rfl⟩)
        | (go_at_call 24; (with_reducible refine (HC.out _).mono ?_); rintro e w2 ⟨rfl, rfl⟩)
        | fail)
      go_ret
      exact ⟨rfl, rfl⟩
    · have q20 : (n == 21) = false := beq_eq_false_iff_ne.2 h20
      have hz3 := hz2 false (decide_eq_false (by omega)).symm
      clear hz2 h20
      cases f with
      | true =>
        obtain rfl : z = 0 := by rw [hz3]; rfl
        clear hz3 hsb hcb
        go_enter Tryd.func38, Tryd.ntmps38
        go_wp2_with (first
          | (go_at_call 35; (with_reducible refine (HS.out _).mono ?_); rintro e w1 ⟨rfl, rfl⟩)
          | (go_at_call 24; (with_reducible refine (HC.out _).mono ?_); rintro e w2 ⟨rfl, rfl⟩)
          | fail)
        go_ret
        exact ⟨rfl, rfl⟩
      | false =>
        cases sb with
        | true =>
          obtain rfl : z = 2 := by rw [hz3]; rfl
          clear hz3 hsb hcb
          go_enter Tryd.func38, Tryd.ntmps38
          go_wp2_with (first
            | (go_at_call 35; (with_reducible refine (HS.out _).mono ?_); rintro e w1 ⟨rfl, rfl⟩)
            | (go_at_call 24; (with_reducible refine (HC.out _).mono ?_); rintro e w2 ⟨rfl, rfl⟩)
            | fail)
          go_ret
          exact ⟨rfl, rfl⟩
        | false =>
          obtain rfl : z = 0 := by rw [hz3]; rfl
          clear hz3 hsb hcb
          go_enter Tryd.func38, Tryd.ntmps38
          go_wp2_with (first
            | (go_at_call 35; (with_reducible refine (HS.out _).mono ?_); rintro e w1 ⟨rfl, rfl⟩)
            | (go_at_call 24; (with_reducible refine (HC.out _).mono ?_); rintro e w2 ⟨rfl, rfl⟩)
            | fail)
          go_ret
          exact ⟨rfl, rfl⟩

set_option maxHeartbeats 4000000 in
set_option maxRecDepth 100000 in
theorem oOpen_any (w : World) (s : Bool) (n : Int) (z : Int) (hz : z = openZ s n) : Calls Tryd.prog 37 #[.bool s, .int .i64 n] w fun e w' => e = .returned (.int .i64 z) ∧ Below w.heap.size w w' := by
  have HC := Lib.hid (fun W => sClass_any W n)
  have HK := Lib.hid (fun W => known_any W n)
  obtain ⟨sb, hsb⟩ : ∃ sb, sb = decide (2 ≤ n ∧ n ≤ 4) := ⟨_, rfl⟩
  have HS := Lib.hid (fun W => oSays_any W n sb hsb)
  obtain ⟨fs, hfs⟩ : ∃ fs, fs = decide (n = 5 ∨ n = 50) := ⟨_, rfl⟩
  have HFS := Lib.hid (fun W => oForS_any W n fs hfs)
  obtain ⟨fc, hfc⟩ : ∃ fc, fc = decide (n = 6 ∨ n = 7 ∨ n = 51 ∨ n = 52 ∨ n = 53 ∨ n = 60) := ⟨_, rfl⟩
  have HFC := Lib.hid (fun W => oForC_any W n fc hfc)
  have k3 := classP_3 n
  obtain ⟨cb, hcb⟩ : ∃ cb, cb = decide (30 ≤ n ∧ n ≤ 49) := ⟨_, rfl⟩
  rw [← hcb] at k3
  obtain ⟨kb, hkb⟩ : ∃ kb, kb = decide ((formsP n).length > 0) := ⟨_, rfl⟩
  rw [← hkb] at HK
  obtain ⟨b20, q20⟩ : ∃ b, (n == 20) = b := ⟨_, rfl⟩
  obtain ⟨b7, q7⟩ : ∃ b, (n == 7) = b := ⟨_, rfl⟩
  have hz2 : z = if (b20 || (s && fs) || (!s && fc)) = true then 1 else if (sb || (s && b7)) = true then 2 else if (kb || cb) = true then 0 else 3 := by
    rw [hz, hsb, hfs, hfc, hcb, hkb, ← q20, ← q7]
    unfold openZ
    cases s <;> simp
  generalize classP n = C at *
  have BR : Hid (Below w.heap.size w w) := Below.refl _ _
  clear hz hsb hfs hfc hcb hkb
  cases b20 with
  | true =>
    obtain rfl : z = 1 := by rw [hz2]; rfl
    clear hz2
    go_enter Tryd.func37, Tryd.ntmps37
    go_wp2_with (first
      | (go_at_call 35; (with_reducible refine (HS.out _).mono ?_); rintro e w1 ⟨rfl, rfl⟩)
      | (go_at_call 24; (with_reducible refine (HC.out _).mono ?_); rintro e w2 ⟨rfl, rfl⟩)
      | (go_at_call 49; (with_reducible refine (HK.out _).mono ?_); rintro e w3 ⟨rfl, b3⟩; have B3 := Lib.hid b3; clear b3)
      | (go_at_call 47; (with_reducible refine (HFS.out _).mono ?_); rintro e w4 ⟨rfl, rfl⟩)
      | (go_at_call 48; (with_reducible refine (HFC.out _).mono ?_); rintro e w5 ⟨rfl, rfl⟩)
      | fail)
    go_ret
    exact ⟨rfl, BR.out⟩
  | false =>
    cases s with
    | true =>
      cases fs with
      | true =>
        obtain rfl : z = 1 := by rw [hz2]; rfl
        clear hz2
        go_enter Tryd.func37, Tryd.ntmps37
        go_wp2_with (first
          | (go_at_call 35; (with_reducible refine (HS.out _).mono ?_); rintro e w1 ⟨rfl, rfl⟩)
          | (go_at_call 24; (with_reducible refine (HC.out _).mono ?_); rintro e w2 ⟨rfl, rfl⟩)
          | (go_at_call 49; (with_reducible refine (HK.out _).mono ?_); rintro e w3 ⟨rfl, b3⟩; have B3 := Lib.hid b3; clear b3)
          | (go_at_call 47; (with_reducible refine (HFS.out _).mono ?_); rintro e w4 ⟨rfl, rfl⟩)
          | (go_at_call 48; (with_reducible refine (HFC.out _).mono ?_); rintro e w5 ⟨rfl, rfl⟩)
          | fail)
        go_ret
        exact ⟨rfl, BR.out⟩
      | false =>
        cases sb with
        | true =>
          obtain rfl : z = 2 := by rw [hz2]; rfl
          clear hz2
          go_enter Tryd.func37, Tryd.ntmps37
          go_wp2_with (first
            | (go_at_call 35; (with_reducible refine (HS.out _).mono ?_); rintro e w1 ⟨rfl, rfl⟩)
            | (go_at_call 24; (with_reducible refine (HC.out _).mono ?_); rintro e w2 ⟨rfl, rfl⟩)
            | (go_at_call 49; (with_reducible refine (HK.out _).mono ?_); rintro e w3 ⟨rfl, b3⟩; have B3 := Lib.hid b3; clear b3)
            | (go_at_call 47; (with_reducible refine (HFS.out _).mono ?_); rintro e w4 ⟨rfl, rfl⟩)
            | (go_at_call 48; (with_reducible refine (HFC.out _).mono ?_); rintro e w5 ⟨rfl, rfl⟩)
            | fail)
          go_ret
          exact ⟨rfl, BR.out⟩
        | false =>
          cases b7 with
          | true =>
            obtain rfl : z = 2 := by rw [hz2]; rfl
            clear hz2
            go_enter Tryd.func37, Tryd.ntmps37
            go_wp2_with (first
              | (go_at_call 35; (with_reducible refine (HS.out _).mono ?_); rintro e w1 ⟨rfl, rfl⟩)
              | (go_at_call 24; (with_reducible refine (HC.out _).mono ?_); rintro e w2 ⟨rfl, rfl⟩)
              | (go_at_call 49; (with_reducible refine (HK.out _).mono ?_); rintro e w3 ⟨rfl, b3⟩; have B3 := Lib.hid b3; clear b3)
              | (go_at_call 47; (with_reducible refine (HFS.out _).mono ?_); rintro e w4 ⟨rfl, rfl⟩)
              | (go_at_call 48; (with_reducible refine (HFC.out _).mono ?_); rintro e w5 ⟨rfl, rfl⟩)
              | fail)
            go_ret
            exact ⟨rfl, BR.out⟩
          | false =>
            cases kb with
            | true =>
              obtain rfl : z = 0 := by rw [hz2]; rfl
              clear hz2
              go_enter Tryd.func37, Tryd.ntmps37
              go_wp2_with (first
                | (go_at_call 35; (with_reducible refine (HS.out _).mono ?_); rintro e w1 ⟨rfl, rfl⟩)
                | (go_at_call 24; (with_reducible refine (HC.out _).mono ?_); rintro e w2 ⟨rfl, rfl⟩)
                | (go_at_call 49; (with_reducible refine (HK.out _).mono ?_); rintro e w3 ⟨rfl, b3⟩; have B3 := Lib.hid b3; clear b3)
                | (go_at_call 47; (with_reducible refine (HFS.out _).mono ?_); rintro e w4 ⟨rfl, rfl⟩)
                | (go_at_call 48; (with_reducible refine (HFC.out _).mono ?_); rintro e w5 ⟨rfl, rfl⟩)
                | fail)
              go_ret
              exact ⟨rfl, B3.out⟩
            | false =>
              cases cb with
              | true =>
                obtain rfl : z = 0 := by rw [hz2]; rfl
                clear hz2
                go_enter Tryd.func37, Tryd.ntmps37
                go_wp2_with (first
                  | (go_at_call 35; (with_reducible refine (HS.out _).mono ?_); rintro e w1 ⟨rfl, rfl⟩)
                  | (go_at_call 24; (with_reducible refine (HC.out _).mono ?_); rintro e w2 ⟨rfl, rfl⟩)
                  | (go_at_call 49; (with_reducible refine (HK.out _).mono ?_); rintro e w3 ⟨rfl, b3⟩; have B3 := Lib.hid b3; clear b3)
                  | (go_at_call 47; (with_reducible refine (HFS.out _).mono ?_); rintro e w4 ⟨rfl, rfl⟩)
                  | (go_at_call 48; (with_reducible refine (HFC.out _).mono ?_); rintro e w5 ⟨rfl, rfl⟩)
                  | fail)
                go_ret
                exact ⟨rfl, B3.out⟩
              | false =>
                obtain rfl : z = 3 := by rw [hz2]; rfl
                clear hz2
                go_enter Tryd.func37, Tryd.ntmps37
                go_wp2_with (first
                  | (go_at_call 35; (with_reducible refine (HS.out _).mono ?_); rintro e w1 ⟨rfl, rfl⟩)
                  | (go_at_call 24; (with_reducible refine (HC.out _).mono ?_); rintro e w2 ⟨rfl, rfl⟩)
                  | (go_at_call 49; (with_reducible refine (HK.out _).mono ?_); rintro e w3 ⟨rfl, b3⟩; have B3 := Lib.hid b3; clear b3)
                  | (go_at_call 47; (with_reducible refine (HFS.out _).mono ?_); rintro e w4 ⟨rfl, rfl⟩)
                  | (go_at_call 48; (with_reducible refine (HFC.out _).mono ?_); rintro e w5 ⟨rfl, rfl⟩)
                  | fail)
                go_ret
                exact ⟨rfl, B3.out⟩
    | false =>
      cases fc with
      | true =>
        obtain rfl : z = 1 := by rw [hz2]; rfl
        clear hz2
        go_enter Tryd.func37, Tryd.ntmps37
        go_wp2_with (first
          | (go_at_call 35; (with_reducible refine (HS.out _).mono ?_); rintro e w1 ⟨rfl, rfl⟩)
          | (go_at_call 24; (with_reducible refine (HC.out _).mono ?_); rintro e w2 ⟨rfl, rfl⟩)
          | (go_at_call 49; (with_reducible refine (HK.out _).mono ?_); rintro e w3 ⟨rfl, b3⟩; have B3 := Lib.hid b3; clear b3)
          | (go_at_call 47; (with_reducible refine (HFS.out _).mono ?_); rintro e w4 ⟨rfl, rfl⟩)
          | (go_at_call 48; (with_reducible refine (HFC.out _).mono ?_); rintro e w5 ⟨rfl, rfl⟩)
          | fail)
        go_ret
        exact ⟨rfl, BR.out⟩
      | false =>
        cases sb with
        | true =>
          obtain rfl : z = 2 := by rw [hz2]; rfl
          clear hz2
          go_enter Tryd.func37, Tryd.ntmps37
          go_wp2_with (first
            | (go_at_call 35; (with_reducible refine (HS.out _).mono ?_); rintro e w1 ⟨rfl, rfl⟩)
            | (go_at_call 24; (with_reducible refine (HC.out _).mono ?_); rintro e w2 ⟨rfl, rfl⟩)
            | (go_at_call 49; (with_reducible refine (HK.out _).mono ?_); rintro e w3 ⟨rfl, b3⟩; have B3 := Lib.hid b3; clear b3)
            | (go_at_call 47; (with_reducible refine (HFS.out _).mono ?_); rintro e w4 ⟨rfl, rfl⟩)
            | (go_at_call 48; (with_reducible refine (HFC.out _).mono ?_); rintro e w5 ⟨rfl, rfl⟩)
            | fail)
          go_ret
          exact ⟨rfl, BR.out⟩
        | false =>
          cases kb with
          | true =>
            obtain rfl : z = 0 := by rw [hz2]; rfl
            clear hz2
            go_enter Tryd.func37, Tryd.ntmps37
            go_wp2_with (first
              | (go_at_call 35; (with_reducible refine (HS.out _).mono ?_); rintro e w1 ⟨rfl, rfl⟩)
              | (go_at_call 24; (with_reducible refine (HC.out _).mono ?_); rintro e w2 ⟨rfl, rfl⟩)
              | (go_at_call 49; (with_reducible refine (HK.out _).mono ?_); rintro e w3 ⟨rfl, b3⟩; have B3 := Lib.hid b3; clear b3)
              | (go_at_call 47; (with_reducible refine (HFS.out _).mono ?_); rintro e w4 ⟨rfl, rfl⟩)
              | (go_at_call 48; (with_reducible refine (HFC.out _).mono ?_); rintro e w5 ⟨rfl, rfl⟩)
              | fail)
            go_ret
            exact ⟨rfl, B3.out⟩
          | false =>
            cases cb with
            | true =>
              obtain rfl : z = 0 := by rw [hz2]; rfl
              clear hz2
              go_enter Tryd.func37, Tryd.ntmps37
              go_wp2_with (first
                | (go_at_call 35; (with_reducible refine (HS.out _).mono ?_); rintro e w1 ⟨rfl, rfl⟩)
                | (go_at_call 24; (with_reducible refine (HC.out _).mono ?_); rintro e w2 ⟨rfl, rfl⟩)
                | (go_at_call 49; (with_reducible refine (HK.out _).mono ?_); rintro e w3 ⟨rfl, b3⟩; have B3 := Lib.hid b3; clear b3)
                | (go_at_call 47; (with_reducible refine (HFS.out _).mono ?_); rintro e w4 ⟨rfl, rfl⟩)
                | (go_at_call 48; (with_reducible refine (HFC.out _).mono ?_); rintro e w5 ⟨rfl, rfl⟩)
                | fail)
              go_ret
              exact ⟨rfl, B3.out⟩
            | false =>
              obtain rfl : z = 3 := by rw [hz2]; rfl
              clear hz2
              go_enter Tryd.func37, Tryd.ntmps37
              go_wp2_with (first
                | (go_at_call 35; (with_reducible refine (HS.out _).mono ?_); rintro e w1 ⟨rfl, rfl⟩)
                | (go_at_call 24; (with_reducible refine (HC.out _).mono ?_); rintro e w2 ⟨rfl, rfl⟩)
                | (go_at_call 49; (with_reducible refine (HK.out _).mono ?_); rintro e w3 ⟨rfl, b3⟩; have B3 := Lib.hid b3; clear b3)
                | (go_at_call 47; (with_reducible refine (HFS.out _).mono ?_); rintro e w4 ⟨rfl, rfl⟩)
                | (go_at_call 48; (with_reducible refine (HFC.out _).mono ?_); rintro e w5 ⟨rfl, rfl⟩)
                | fail)
              go_ret
              exact ⟨rfl, B3.out⟩

set_option maxHeartbeats 4000000 in
set_option maxRecDepth 100000 in
theorem oJudge_any (w : World) (p : Int) (f s : Bool) (n : Int) (z : Int) (hz : z = judgeZ p f s n) : Calls Tryd.prog 25 #[.int .i64 p, .bool f, .bool s, .int .i64 n] w fun e w' => e = .returned (.int .i64 z) ∧ Below w.heap.size w w' := by
  obtain ⟨rb, hrb⟩ : ∃ rb, rb = decide (1 ≤ p ∧ p ≤ 4) := ⟨_, rfl⟩
  have HR := Lib.hid (fun W => oReads_any W p rb hrb)
  have BR : Hid (Below w.heap.size w w) := Below.refl _ _
  by_cases h1 : 1 ≤ p ∧ p ≤ 4
  · obtain rfl : rb = true := by rw [hrb]; exact decide_eq_true h1
    clear hrb
    by_cases h2 : n < 0
    · obtain rfl : z = 0 := by rw [hz]; exact if_pos (by omega)
      have q2 : decide (n < 0) = true := decide_eq_true h2
      clear hz h1 h2
      go_enter Tryd.func25, Tryd.ntmps25
      go_wp2_with (first
        | (go_at_call 36; (with_reducible refine (HR.out _).mono ?_); rintro e w1 ⟨rfl, rfl⟩)
        | fail)
      go_ret
      exact ⟨rfl, BR.out⟩
    · by_cases h3 : n > 255
      · obtain rfl : z = 0 := by rw [hz]; exact if_pos (by omega)
        have q2 : decide (n < 0) = false := decide_eq_false h2
        have q3 : decide (n > 255) = true := decide_eq_true h3
        clear hz h1 h2 h3
        go_enter Tryd.func25, Tryd.ntmps25
        go_wp2_with (first
          | (go_at_call 36; (with_reducible refine (HR.out _).mono ?_); rintro e w1 ⟨rfl, rfl⟩)
          | fail)
        go_ret
        exact ⟨rfl, BR.out⟩
      · have hz2 : z = if n = 1 then 4 else if p = 4 then openZ s n else exZ p f n := by rw [hz]; exact if_neg (by omega)
        have q2 : decide (n < 0) = false := decide_eq_false h2
        have q3 : decide (n > 255) = false := decide_eq_false h3
        clear hz h2 h3
        by_cases h4 : n = 1
        · subst h4
          obtain rfl : z = 4 := by rw [hz2]; rfl
          clear hz2 h1
          go_enter Tryd.func25, Tryd.ntmps25
          go_wp2_with (first
            | (go_at_call 36; (with_reducible refine (HR.out _).mono ?_); rintro e w1 ⟨rfl, rfl⟩)
            | fail)
          go_ret
          exact ⟨rfl, BR.out⟩
        · rw [if_neg h4] at hz2
          have q4 : (n == 1) = false := beq_eq_false_iff_ne.2 h4
          clear h4
          by_cases h5 : p = 4
          · subst h5
            rw [if_pos rfl] at hz2
            have HO := Lib.hid (fun W => oOpen_any W s n z hz2)
            clear hz2 h1
            go_enter Tryd.func25, Tryd.ntmps25
            go_wp2_with (first
              | (go_at_call 36; (with_reducible refine (HR.out _).mono ?_); rintro e w1 ⟨rfl, rfl⟩)
              | (go_at_call 37; (with_reducible refine (HO.out _).mono ?_); rintro e w2 ⟨rfl, b2⟩; have B2 := Lib.hid b2; clear b2)
              | fail)
            go_ret
            exact ⟨rfl, B2.out⟩
          · rw [if_neg h5] at hz2
            have HE := Lib.hid (fun W => oEx_any W p f n (by omega) z hz2)
            have q5 : (p == 4) = false := beq_eq_false_iff_ne.2 h5
            clear hz2 h1 h5
            go_enter Tryd.func25, Tryd.ntmps25
            go_wp2_with (first
              | (go_at_call 36; (with_reducible refine (HR.out _).mono ?_); rintro e w1 ⟨rfl, rfl⟩)
              | (go_at_call 38; (with_reducible refine (HE.out _).mono ?_); rintro e w3 ⟨rfl, rfl⟩)
              | fail)
            go_ret
            exact ⟨rfl, BR.out⟩
  · obtain rfl : z = 0 := by rw [hz]; exact if_pos (by omega)
    obtain rfl : rb = false := by rw [hrb]; exact decide_eq_false h1
    clear hz hrb h1
    go_enter Tryd.func25, Tryd.ntmps25
    go_wp2_with (first
      | (go_at_call 36; (with_reducible refine (HR.out _).mono ?_); rintro e w1 ⟨rfl, rfl⟩)
      | fail)
    go_ret
    exact ⟨rfl, BR.out⟩

end Go.Proofs.YtbnecckgapainaaDoor
