/- Layer 23: which messages may be received and sent, by the document. -/
import Derived.Test.YtbnecckgapainaaOr1
import Derived.Test.YtbnecckgapainaaSOfA
namespace Go.Proofs.Ytbnecckgapainaa
open Go.RowKit

theorem ids_new (w : World) (l : List Int) (t : TypeId) : IdsAt (w.alloc (.cells (l.map fun x => Value.int .i64 x).toArray t)) (.slice (some ⟨w.heap.size, 0, none⟩) l.length l.length) l :=
  ⟨_, _, rfl, fun _ => ⟨_, 0, rfl, by simp, fun k x hk => by
    rw [Nat.zero_add, (Holds.new w t _).cell]
    simp [hk]⟩⟩
theorem wordP_some (n : Int) : decide (((wordP n).size : Int) > 0) = decide ((formsP n).length > 0) := by
  unfold wordP formsP
  cases h : rowP n with
  | none => rfl
  | some r =>
    have hm : r ∈ tableP := List.mem_of_find?_eq_some h
    have : ∀ r ∈ tableP, r.2.1.size > 0 ∧ r.2.2.length > 0 := by decide +kernel
    obtain ⟨h1, h2⟩ := this r hm
    show decide ((r.2.1.size : Int) > 0) = decide (r.2.2.length > 0)
    rw [decide_eq_true h2, decide_eq_true (by omega)]
set_option maxRecDepth 100000 in
theorem r23has_any {w : World} {v : Value} {l : List Int} (h : IdsAt w v l) (hl : l.length ≤ 1000) (n : Int) (b : Bool) (hb : b = decide (n ∈ l)) : Calls Try.prog 26 #[v, .int .i64 n] w fun e w' => e = .returned (.bool b) ∧ w' = w := by
  obtain ⟨ao, cap, rfl, hc⟩ := h
  go_enter Try.func26, Try.ntmps26
  go_wp2_with fail
  go_loopw [5] (fun i wr => ∃ k : Nat, k ≤ l.length ∧ i = .int .i64 k ∧ n ∉ l.take k ∧ wr = w) (fun i _ => l.length - (intOf i).toNat)
  case atStart => exact ⟨0, Nat.zero_le _, rfl, by simp, rfl⟩
  case round =>
    obtain ⟨k, hk, rfl, htk, rfl⟩ := hrel
    by_cases hlt : k < l.length
    · obtain ⟨g, off, rfl, hg, hcell⟩ := hc (by intro h; simp [h] at hlt)
      obtain ⟨y, hy⟩ : ∃ y, y = l[k] := ⟨_, rfl⟩
      have c1 : wr.cell? ⟨g, off + k, none⟩ = some (.int .i64 y) := hcell k y (by simp [hlt, hy])
      have HN : Hid (y ≠ n → n ∉ l.take (k + 1)) := fun e hm => by
        rw [List.take_succ_eq_append_getElem hlt, ← hy, List.mem_append] at hm
        rcases hm with hm | hm
        · exact htk hm
        · simp at hm
          exact e hm.symm
      have HT : Hid (y = n → n ∈ l) := fun e => by rw [← e, hy]; exact List.getElem_mem hlt
      have HB := Lib.hid hb
      clear hc hcell htk hy hb
      by_cases hxy : y = n
      · have hbq : (y == n) = true := by rw [hxy]; simp
        have HXY := Lib.hid hxy
        clear hxy
        go_wp2_with fail
        go_ret
        exact ⟨by rw [HB.out, decide_eq_true (HT.out HXY.out)]; rfl, rfl⟩
      · have hbq : (y == n) = false := by simpa using hxy
        go_wp2_with fail
        go_roundw
        case rel => exact ⟨k + 1, by omega, by go_num, HN.out hxy, trivial⟩
        case measure => simp [intOf]; omega
    · have hkl : k = l.length := by omega
      subst hkl
      rw [List.take_length] at htk
      have HE : Hid (b = false) := by rw [hb]; exact decide_eq_false htk
      clear htk hlt hc hb
      go_wp2_with fail
      go_ret
      exact ⟨by rw [HE.out]; rfl, rfl⟩

theorem ba_nil (b : ByteArray) (h : b.size = 0) : b = ⟨#[]⟩ := by
  obtain ⟨a⟩ := b
  have : a = #[] := Array.eq_empty_of_size_eq_zero h
  rw [this]
set_option maxRecDepth 100000 in
theorem field_row23 (z : Int) (s : ByteArray) (ao : Option Addr) (n cap : Nat) (W : World) : (Instr.field 71 (.agg #[.int .i64 z, .string s, .slice ao n cap]) 1).run Try.prog W = .ok (.string s) W := by kernel_rfl
theorem judgeZ_one (p : Int) (f s : Bool) (hp : 1 ≤ p ∧ p ≤ 4) : judgeZ p f s 1 = 4 := by
  unfold judgeZ
  rw [if_neg (by omega), if_pos rfl]
theorem judgeZ_in {p : Int} {f s : Bool} {n : Int} (hp : 1 ≤ p ∧ p ≤ 4) (h1 : 0 ≤ n ∧ n ≤ 255) (h2 : n ≠ 1) : judgeZ p f s n = if p = 4 then openZ s n else exZ p f n := by
  unfold judgeZ
  rw [if_neg (by omega), if_neg h2]
theorem judgeZ_out {p : Int} {f s : Bool} {n : Int} (h : p < 1 ∨ p > 4 ∨ n < 0 ∨ n > 255) : judgeZ p f s n = 0 := if_pos h
set_option maxHeartbeats 8000000 in
set_option maxRecDepth 100000 in
theorem r23Judge_any (w : World) (p : Int) (f s : Bool) (n : Int) (z : Int) (hz : z = judgeZ p f s n) : Calls Try.prog 16 #[.int .i64 p, .bool f, .bool s, .int .i64 n] w fun e w' => e = .returned (.int .i64 z) ∧ Below w.heap.size w w' := by
  have BR : Hid (Below w.heap.size w w) := Below.refl _ _
  obtain ⟨sb, hsb⟩ : ∃ sb, sb = decide (2 ≤ n ∧ n ≤ 4) := ⟨_, rfl⟩
  have HH : Hid (∀ W : World, Calls Try.prog 26 #[.slice (some ⟨W.heap.size, 0, none⟩) 3 3, .int .i64 n] (W.alloc (.cells #[.int .i64 2, .int .i64 3, .int .i64 4] 3)) fun e w' => e = .returned (.bool sb) ∧ Below W.heap.size W w') := fun W =>
    (r23has_any (ids_new W [2, 3, 4] 3) (by simp) n sb (by rw [hsb]; exact decide_eq_decide.2 (by simp only [List.mem_cons, List.not_mem_nil, or_false]; omega))).mono fun e w' ⟨h1, h2⟩ => ⟨h1, by rw [h2]; exact (Below.refl _ _).alloc (Nat.le_refl _) _⟩
  by_cases h1 : p < 1
  · obtain rfl : z = 0 := by rw [hz]; exact judgeZ_out (by omega)
    have q1 : decide (p < 1) = true := decide_eq_true (by omega)
    clear hz hsb h1 HH
    go_enter Try.func16, Try.ntmps16
    go_wp2_with fail
    go_ret
    exact ⟨rfl, BR.out⟩
  by_cases h2 : p > 4
  · obtain rfl : z = 0 := by rw [hz]; exact judgeZ_out (by omega)
    have q1 : decide (p < 1) = false := decide_eq_false (by omega)
    have q2 : decide (p > 4) = true := decide_eq_true (by omega)
    clear hz hsb h1 h2 HH
    go_enter Try.func16, Try.ntmps16
    go_wp2_with fail
    go_ret
    exact ⟨rfl, BR.out⟩
  by_cases h3 : n < 0
  · obtain rfl : z = 0 := by rw [hz]; exact judgeZ_out (by omega)
    have q1 : decide (p < 1) = false := decide_eq_false (by omega)
    have q2 : decide (p > 4) = false := decide_eq_false (by omega)
    have q3 : decide (n < 0) = true := decide_eq_true (by omega)
    clear hz hsb h1 h2 h3 HH
    go_enter Try.func16, Try.ntmps16
    go_wp2_with fail
    go_ret
    exact ⟨rfl, BR.out⟩
  by_cases h4 : n > 255
  · obtain rfl : z = 0 := by rw [hz]; exact judgeZ_out (by omega)
    have q1 : decide (p < 1) = false := decide_eq_false (by omega)
    have q2 : decide (p > 4) = false := decide_eq_false (by omega)
    have q3 : decide (n < 0) = false := decide_eq_false (by omega)
    have q4 : decide (n > 255) = true := decide_eq_true (by omega)
    clear hz hsb h1 h2 h3 h4 HH
    go_enter Try.func16, Try.ntmps16
    go_wp2_with fail
    go_ret
    exact ⟨rfl, BR.out⟩
  have q1 : decide (p < 1) = false := decide_eq_false (by omega)
  have q2 : decide (p > 4) = false := decide_eq_false (by omega)
  have q3 : decide (n < 0) = false := decide_eq_false (by omega)
  have q4 : decide (n > 255) = false := decide_eq_false (by omega)
  by_cases h5 : n = 1
  · subst h5
    obtain rfl : z = 4 := by rw [hz]; exact judgeZ_one p f s (by omega)
    clear hz hsb h1 h2 h3 h4 HH
    go_enter Try.func16, Try.ntmps16
    go_wp2_with fail
    go_ret
    exact ⟨rfl, BR.out⟩
  have q5 : (n == 1) = false := beq_eq_false_iff_ne.2 h5
  rw [judgeZ_in (by omega) (by omega) h5] at hz
  by_cases h6 : p = 4
  · subst h6
    rw [if_pos rfl] at hz
    have HO : Hid (∀ W : World, Calls Try.prog 27 #[.int .i64 n] W fun e w' => ∃ z ao cap, e = .returned (.agg #[.int .i64 z, .string (wordP n), .slice ao (formsP n).length cap]) ∧ Below W.heap.size W w') := fun W =>
      (of_any W n).mono fun e w' ⟨v, he, hv, hb⟩ => by
        rw [ofP_forms] at hv
        obtain ⟨ao, cap, hv', _⟩ := hv
        exact ⟨_, ao, cap, by rw [he, hv', ofP_word], hb⟩
    have hw := wordP_some n
    obtain ⟨kb, hkb⟩ : ∃ kb, kb = decide ((formsP n).length > 0) := ⟨_, rfl⟩
    rw [← hkb] at hw
    obtain ⟨cb, hcb⟩ : ∃ cb, cb = decide (30 ≤ n ∧ n ≤ 49) := ⟨_, rfl⟩
    obtain ⟨b7, q7⟩ : ∃ b, (n == 7) = b := ⟨_, rfl⟩
    obtain ⟨mb, hmb⟩ : ∃ b, b = decide (n = 20 ∨ (s = true ∧ (n = 5 ∨ n = 50)) ∨ (s = false ∧ (n = 6 ∨ n = 7 ∨ n = 51 ∨ n = 52 ∨ n = 53 ∨ n = 60))) := ⟨_, rfl⟩
    have HM7 : Hid (s = false → ∀ W : World, Calls Try.prog 26 #[.slice (some ⟨W.heap.size, 0, none⟩) 7 7, .int .i64 n] (W.alloc (.cells #[.int .i64 20, .int .i64 6, .int .i64 7, .int .i64 51, .int .i64 52, .int .i64 53, .int .i64 60] 3)) fun e w' => e = .returned (.bool mb) ∧ Below W.heap.size W w') := fun hs W =>
      (r23has_any (ids_new W [20, 6, 7, 51, 52, 53, 60] 3) (by simp) n mb (by rw [hmb, hs]; exact decide_eq_decide.2 (by simp only [List.mem_cons, List.not_mem_nil, or_false, Bool.false_eq_true, false_and, false_or, true_and]))).mono fun e w' ⟨h1, h2⟩ => ⟨h1, by rw [h2]; exact (Below.refl _ _).alloc (Nat.le_refl _) _⟩
    have HM3 : Hid (s = true → ∀ W : World, Calls Try.prog 26 #[.slice (some ⟨W.heap.size + 1, 0, none⟩) 3 3, .int .i64 n] ((W.alloc (.cells #[.int .i64 20, .int .i64 6, .int .i64 7, .int .i64 51, .int .i64 52, .int .i64 53, .int .i64 60] 3)).alloc (.cells #[.int .i64 20, .int .i64 5, .int .i64 50] 3)) fun e w' => e = .returned (.bool mb) ∧ Below W.heap.size W w') := fun hs W => by
      have h0 := ids_new (W.alloc (.cells #[.int .i64 20, .int .i64 6, .int .i64 7, .int .i64 51, .int .i64 52, .int .i64 53, .int .i64 60] 3)) [20, 5, 50] 3
      rw [World.size_alloc] at h0
      refine (r23has_any h0 (by simp) n mb (by rw [hmb, hs]; exact decide_eq_decide.2 (by simp only [List.mem_cons, List.not_mem_nil, or_false, true_and, Bool.true_eq_false, false_and]))).mono fun e w' ⟨h1, h2⟩ => ⟨h1, by rw [h2]; exact ((Below.refl _ _).alloc (Nat.le_refl _) _).alloc (by simp) _⟩
    have hz2 : z = if (sb || (b7 && s)) = true then 2 else if mb = true then 1 else if (kb || cb) = true then 0 else 3 := by
      rw [hz, hsb, hmb, hkb, hcb, ← q7]
      unfold openZ
      by_cases e1 : n = 20 ∨ (s = true ∧ (n = 5 ∨ n = 50)) ∨ (s = false ∧ (n = 6 ∨ n = 7 ∨ n = 51 ∨ n = 52 ∨ n = 53 ∨ n = 60))
      · rw [if_pos e1, if_neg, if_pos (decide_eq_true e1)]
        rw [Bool.or_eq_true, decide_eq_true_eq, Bool.and_eq_true, beq_iff_eq]
        rintro (h | ⟨h, hs⟩)
        · rcases e1 with e | ⟨_, e⟩ | ⟨_, e⟩ <;> omega
        · rcases e1 with e | ⟨_, e⟩ | ⟨e, _⟩
          · omega
          · omega
          · rw [hs] at e; simp at e
      · rw [if_neg e1, decide_eq_false e1, if_neg (c := false = true) (by simp)]
        have e2 : ((decide (2 ≤ n ∧ n ≤ 4) || n == 7 && s) = true) ↔ (2 ≤ n ∧ n ≤ 4 ∨ s = true ∧ n = 7) := by
          rw [Bool.or_eq_true, decide_eq_true_eq, Bool.and_eq_true, beq_iff_eq, and_comm (a := n = 7)]
        have e3 : ((decide ((formsP n).length > 0) || decide (30 ≤ n ∧ n ≤ 49)) = true) ↔ ((formsP n).length > 0 ∨ 30 ≤ n ∧ n ≤ 49) := by
          rw [Bool.or_eq_true, decide_eq_true_eq, decide_eq_true_eq]
        simp only [e2, e3]
    have hcc : ∃ c1 c2, decide (n ≥ 30) = c1 ∧ decide (n ≤ 49) = c2 ∧ (c1 && c2) = cb := ⟨_, _, rfl, rfl, by rw [hcb, ← Bool.decide_and]⟩
    obtain ⟨c1, c2, g1, g2, g3⟩ := hcc
    generalize (formsP n).length = fl at *
    generalize wordP n = wn at *
    clear hz hsb h1 h2 h3 h4 h5 hkb hcb hmb q1 q2
    cases sb with
    | true =>
      obtain rfl : z = 2 := by rw [hz2]; rfl
      clear hz2
      go_enter Try.func16, Try.ntmps16
      go_wp2_with (first
        | (go_at_call 26; (with_reducible refine (HH.out _).mono ?_); rintro e w1 ⟨rfl, b1⟩; have B1 := Lib.hid b1; clear b1)
        | fail)
      go_ret
      exact ⟨rfl, B1.out⟩
    | false =>
      cases s with
      | true =>
        have HN3 := Lib.hid (HM3.out rfl)
        clear HM7 HM3
        cases b7 with
        | true =>
          obtain rfl : z = 2 := by rw [hz2]; rfl
          clear hz2
          go_enter Try.func16, Try.ntmps16
          go_wp2_with (first
            | (go_at_call 26; (with_reducible refine (HH.out _).mono ?_); rintro e w1 ⟨rfl, b1⟩; have B1 := Lib.hid b1; clear b1)
            | fail)
          go_ret
          exact ⟨rfl, B1.out⟩
        | false =>
          cases mb with
          | true =>
            obtain rfl : z = 1 := by rw [hz2]; rfl
            clear hz2
            go_enter Try.func16, Try.ntmps16
            go_wp2_with (first
              | (go_at_call 26; (with_reducible refine (HH.out _).mono ?_); rintro e w1 ⟨rfl, b1⟩; have B1 := Lib.hid b1; clear b1)
              | (go_at_call 26; (with_reducible refine (HN3.out _).mono ?_); rintro e w2 ⟨rfl, b2⟩; have B2 := Lib.hid (B1.out.trans (b2.mono B1.out.size)); clear b2)
              | fail)
            go_ret
            exact ⟨rfl, B2.out⟩
          | false =>
            cases c1 with
            | true =>
              cases c2 with
              | true =>
                obtain rfl : cb = true := g3.symm
                cases kb with
                | true =>
                  have hwp : 0 < wn.size := by have := of_decide_eq_true hw; omega
                  have hwe : ¬ wn = ByteArray.empty := fun e => by rw [e] at hwp; exact absurd hwp (by decide)
                  obtain rfl : z = 0 := by rw [hz2]; rfl
                  clear hz2
                  go_enter Try.func16, Try.ntmps16
                  go_wp2_with (first
                    | (go_at_call 26; (with_reducible refine (HH.out _).mono ?_); rintro e w1 ⟨rfl, b1⟩; have B1 := Lib.hid b1; clear b1)
                    | (go_at_call 26; (with_reducible refine (HN3.out _).mono ?_); rintro e w2 ⟨rfl, b2⟩; have B2 := Lib.hid (B1.out.trans (b2.mono B1.out.size)); clear b2)
                    | (go_at_call 27; (with_reducible refine (HO.out _).mono ?_); rintro e w3 ⟨z3, ao3, cap3, rfl, b3⟩; have B3 := Lib.hid (B2.out.trans (b3.mono B2.out.size)); clear b3; have gf := field_row23 z3 wn ao3 fl cap3)
                    | fail)
                  go_ret
                  exact ⟨rfl, B3.out⟩
                | false =>
                  obtain rfl : wn = ⟨#[]⟩ := ba_nil wn (by have := of_decide_eq_false hw; omega)
                  clear hw
                  obtain rfl : z = 0 := by rw [hz2]; rfl
                  clear hz2
                  go_enter Try.func16, Try.ntmps16
                  go_wp2_with (first
                    | (go_at_call 26; (with_reducible refine (HH.out _).mono ?_); rintro e w1 ⟨rfl, b1⟩; have B1 := Lib.hid b1; clear b1)
                    | (go_at_call 26; (with_reducible refine (HN3.out _).mono ?_); rintro e w2 ⟨rfl, b2⟩; have B2 := Lib.hid (B1.out.trans (b2.mono B1.out.size)); clear b2)
                    | (go_at_call 27; (with_reducible refine (HO.out _).mono ?_); rintro e w3 ⟨z3, ao3, cap3, rfl, b3⟩; have B3 := Lib.hid (B2.out.trans (b3.mono B2.out.size)); clear b3; have gf := field_row23 z3 ⟨#[]⟩ ao3 fl cap3)
                    | fail)
                  go_ret
                  exact ⟨rfl, B3.out⟩
              | false =>
                obtain rfl : cb = false := g3.symm
                cases kb with
                | true =>
                  have hwp : 0 < wn.size := by have := of_decide_eq_true hw; omega
                  have hwe : ¬ wn = ByteArray.empty := fun e => by rw [e] at hwp; exact absurd hwp (by decide)
                  obtain rfl : z = 0 := by rw [hz2]; rfl
                  clear hz2
                  go_enter Try.func16, Try.ntmps16
                  go_wp2_with (first
                    | (go_at_call 26; (with_reducible refine (HH.out _).mono ?_); rintro e w1 ⟨rfl, b1⟩; have B1 := Lib.hid b1; clear b1)
                    | (go_at_call 26; (with_reducible refine (HN3.out _).mono ?_); rintro e w2 ⟨rfl, b2⟩; have B2 := Lib.hid (B1.out.trans (b2.mono B1.out.size)); clear b2)
                    | (go_at_call 27; (with_reducible refine (HO.out _).mono ?_); rintro e w3 ⟨z3, ao3, cap3, rfl, b3⟩; have B3 := Lib.hid (B2.out.trans (b3.mono B2.out.size)); clear b3; have gf := field_row23 z3 wn ao3 fl cap3)
                    | fail)
                  go_ret
                  exact ⟨rfl, B3.out⟩
                | false =>
                  obtain rfl : wn = ⟨#[]⟩ := ba_nil wn (by have := of_decide_eq_false hw; omega)
                  clear hw
                  obtain rfl : z = 3 := by rw [hz2]; rfl
                  clear hz2
                  go_enter Try.func16, Try.ntmps16
                  go_wp2_with (first
                    | (go_at_call 26; (with_reducible refine (HH.out _).mono ?_); rintro e w1 ⟨rfl, b1⟩; have B1 := Lib.hid b1; clear b1)
                    | (go_at_call 26; (with_reducible refine (HN3.out _).mono ?_); rintro e w2 ⟨rfl, b2⟩; have B2 := Lib.hid (B1.out.trans (b2.mono B1.out.size)); clear b2)
                    | (go_at_call 27; (with_reducible refine (HO.out _).mono ?_); rintro e w3 ⟨z3, ao3, cap3, rfl, b3⟩; have B3 := Lib.hid (B2.out.trans (b3.mono B2.out.size)); clear b3; have gf := field_row23 z3 ⟨#[]⟩ ao3 fl cap3)
                    | fail)
                  go_ret
                  exact ⟨rfl, B3.out⟩
            | false =>
              cases c2 with
              | true =>
                obtain rfl : cb = false := g3.symm
                cases kb with
                | true =>
                  have hwp : 0 < wn.size := by have := of_decide_eq_true hw; omega
                  have hwe : ¬ wn = ByteArray.empty := fun e => by rw [e] at hwp; exact absurd hwp (by decide)
                  obtain rfl : z = 0 := by rw [hz2]; rfl
                  clear hz2
                  go_enter Try.func16, Try.ntmps16
                  go_wp2_with (first
                    | (go_at_call 26; (with_reducible refine (HH.out _).mono ?_); rintro e w1 ⟨rfl, b1⟩; have B1 := Lib.hid b1; clear b1)
                    | (go_at_call 26; (with_reducible refine (HN3.out _).mono ?_); rintro e w2 ⟨rfl, b2⟩; have B2 := Lib.hid (B1.out.trans (b2.mono B1.out.size)); clear b2)
                    | (go_at_call 27; (with_reducible refine (HO.out _).mono ?_); rintro e w3 ⟨z3, ao3, cap3, rfl, b3⟩; have B3 := Lib.hid (B2.out.trans (b3.mono B2.out.size)); clear b3; have gf := field_row23 z3 wn ao3 fl cap3)
                    | fail)
                  go_ret
                  exact ⟨rfl, B3.out⟩
                | false =>
                  obtain rfl : wn = ⟨#[]⟩ := ba_nil wn (by have := of_decide_eq_false hw; omega)
                  clear hw
                  obtain rfl : z = 3 := by rw [hz2]; rfl
                  clear hz2
                  go_enter Try.func16, Try.ntmps16
                  go_wp2_with (first
                    | (go_at_call 26; (with_reducible refine (HH.out _).mono ?_); rintro e w1 ⟨rfl, b1⟩; have B1 := Lib.hid b1; clear b1)
                    | (go_at_call 26; (with_reducible refine (HN3.out _).mono ?_); rintro e w2 ⟨rfl, b2⟩; have B2 := Lib.hid (B1.out.trans (b2.mono B1.out.size)); clear b2)
                    | (go_at_call 27; (with_reducible refine (HO.out _).mono ?_); rintro e w3 ⟨z3, ao3, cap3, rfl, b3⟩; have B3 := Lib.hid (B2.out.trans (b3.mono B2.out.size)); clear b3; have gf := field_row23 z3 ⟨#[]⟩ ao3 fl cap3)
                    | fail)
                  go_ret
                  exact ⟨rfl, B3.out⟩
              | false =>
                obtain rfl : cb = false := g3.symm
                cases kb with
                | true =>
                  have hwp : 0 < wn.size := by have := of_decide_eq_true hw; omega
                  have hwe : ¬ wn = ByteArray.empty := fun e => by rw [e] at hwp; exact absurd hwp (by decide)
                  obtain rfl : z = 0 := by rw [hz2]; rfl
                  clear hz2
                  go_enter Try.func16, Try.ntmps16
                  go_wp2_with (first
                    | (go_at_call 26; (with_reducible refine (HH.out _).mono ?_); rintro e w1 ⟨rfl, b1⟩; have B1 := Lib.hid b1; clear b1)
                    | (go_at_call 26; (with_reducible refine (HN3.out _).mono ?_); rintro e w2 ⟨rfl, b2⟩; have B2 := Lib.hid (B1.out.trans (b2.mono B1.out.size)); clear b2)
                    | (go_at_call 27; (with_reducible refine (HO.out _).mono ?_); rintro e w3 ⟨z3, ao3, cap3, rfl, b3⟩; have B3 := Lib.hid (B2.out.trans (b3.mono B2.out.size)); clear b3; have gf := field_row23 z3 wn ao3 fl cap3)
                    | fail)
                  go_ret
                  exact ⟨rfl, B3.out⟩
                | false =>
                  obtain rfl : wn = ⟨#[]⟩ := ba_nil wn (by have := of_decide_eq_false hw; omega)
                  clear hw
                  obtain rfl : z = 3 := by rw [hz2]; rfl
                  clear hz2
                  go_enter Try.func16, Try.ntmps16
                  go_wp2_with (first
                    | (go_at_call 26; (with_reducible refine (HH.out _).mono ?_); rintro e w1 ⟨rfl, b1⟩; have B1 := Lib.hid b1; clear b1)
                    | (go_at_call 26; (with_reducible refine (HN3.out _).mono ?_); rintro e w2 ⟨rfl, b2⟩; have B2 := Lib.hid (B1.out.trans (b2.mono B1.out.size)); clear b2)
                    | (go_at_call 27; (with_reducible refine (HO.out _).mono ?_); rintro e w3 ⟨z3, ao3, cap3, rfl, b3⟩; have B3 := Lib.hid (B2.out.trans (b3.mono B2.out.size)); clear b3; have gf := field_row23 z3 ⟨#[]⟩ ao3 fl cap3)
                    | fail)
                  go_ret
                  exact ⟨rfl, B3.out⟩
      | false =>
        have HN7 := Lib.hid (HM7.out rfl)
        clear HM3 HM7
        cases b7 with
        | true =>
          cases mb with
          | true =>
            obtain rfl : z = 1 := by rw [hz2]; rfl
            clear hz2
            go_enter Try.func16, Try.ntmps16
            go_wp2_with (first
              | (go_at_call 26; (with_reducible refine (HH.out _).mono ?_); rintro e w1 ⟨rfl, b1⟩; have B1 := Lib.hid b1; clear b1)
              | (go_at_call 26; (with_reducible refine (HN7.out _).mono ?_); rintro e w2 ⟨rfl, b2⟩; have B2 := Lib.hid (B1.out.trans (b2.mono B1.out.size)); clear b2)
              | fail)
            go_ret
            exact ⟨rfl, B2.out⟩
          | false =>
            cases c1 with
            | true =>
              cases c2 with
              | true =>
                obtain rfl : cb = true := g3.symm
                cases kb with
                | true =>
                  have hwp : 0 < wn.size := by have := of_decide_eq_true hw; omega
                  have hwe : ¬ wn = ByteArray.empty := fun e => by rw [e] at hwp; exact absurd hwp (by decide)
                  obtain rfl : z = 0 := by rw [hz2]; rfl
                  clear hz2
                  go_enter Try.func16, Try.ntmps16
                  go_wp2_with (first
                    | (go_at_call 26; (with_reducible refine (HH.out _).mono ?_); rintro e w1 ⟨rfl, b1⟩; have B1 := Lib.hid b1; clear b1)
                    | (go_at_call 26; (with_reducible refine (HN7.out _).mono ?_); rintro e w2 ⟨rfl, b2⟩; have B2 := Lib.hid (B1.out.trans (b2.mono B1.out.size)); clear b2)
                    | (go_at_call 27; (with_reducible refine (HO.out _).mono ?_); rintro e w3 ⟨z3, ao3, cap3, rfl, b3⟩; have B3 := Lib.hid (B2.out.trans (b3.mono B2.out.size)); clear b3; have gf := field_row23 z3 wn ao3 fl cap3)
                    | fail)
                  go_ret
                  exact ⟨rfl, B3.out⟩
                | false =>
                  obtain rfl : wn = ⟨#[]⟩ := ba_nil wn (by have := of_decide_eq_false hw; omega)
                  clear hw
                  obtain rfl : z = 0 := by rw [hz2]; rfl
                  clear hz2
                  go_enter Try.func16, Try.ntmps16
                  go_wp2_with (first
                    | (go_at_call 26; (with_reducible refine (HH.out _).mono ?_); rintro e w1 ⟨rfl, b1⟩; have B1 := Lib.hid b1; clear b1)
                    | (go_at_call 26; (with_reducible refine (HN7.out _).mono ?_); rintro e w2 ⟨rfl, b2⟩; have B2 := Lib.hid (B1.out.trans (b2.mono B1.out.size)); clear b2)
                    | (go_at_call 27; (with_reducible refine (HO.out _).mono ?_); rintro e w3 ⟨z3, ao3, cap3, rfl, b3⟩; have B3 := Lib.hid (B2.out.trans (b3.mono B2.out.size)); clear b3; have gf := field_row23 z3 ⟨#[]⟩ ao3 fl cap3)
                    | fail)
                  go_ret
                  exact ⟨rfl, B3.out⟩
              | false =>
                obtain rfl : cb = false := g3.symm
                cases kb with
                | true =>
                  have hwp : 0 < wn.size := by have := of_decide_eq_true hw; omega
                  have hwe : ¬ wn = ByteArray.empty := fun e => by rw [e] at hwp; exact absurd hwp (by decide)
                  obtain rfl : z = 0 := by rw [hz2]; rfl
                  clear hz2
                  go_enter Try.func16, Try.ntmps16
                  go_wp2_with (first
                    | (go_at_call 26; (with_reducible refine (HH.out _).mono ?_); rintro e w1 ⟨rfl, b1⟩; have B1 := Lib.hid b1; clear b1)
                    | (go_at_call 26; (with_reducible refine (HN7.out _).mono ?_); rintro e w2 ⟨rfl, b2⟩; have B2 := Lib.hid (B1.out.trans (b2.mono B1.out.size)); clear b2)
                    | (go_at_call 27; (with_reducible refine (HO.out _).mono ?_); rintro e w3 ⟨z3, ao3, cap3, rfl, b3⟩; have B3 := Lib.hid (B2.out.trans (b3.mono B2.out.size)); clear b3; have gf := field_row23 z3 wn ao3 fl cap3)
                    | fail)
                  go_ret
                  exact ⟨rfl, B3.out⟩
                | false =>
                  obtain rfl : wn = ⟨#[]⟩ := ba_nil wn (by have := of_decide_eq_false hw; omega)
                  clear hw
                  obtain rfl : z = 3 := by rw [hz2]; rfl
                  clear hz2
                  go_enter Try.func16, Try.ntmps16
                  go_wp2_with (first
                    | (go_at_call 26; (with_reducible refine (HH.out _).mono ?_); rintro e w1 ⟨rfl, b1⟩; have B1 := Lib.hid b1; clear b1)
                    | (go_at_call 26; (with_reducible refine (HN7.out _).mono ?_); rintro e w2 ⟨rfl, b2⟩; have B2 := Lib.hid (B1.out.trans (b2.mono B1.out.size)); clear b2)
                    | (go_at_call 27; (with_reducible refine (HO.out _).mono ?_); rintro e w3 ⟨z3, ao3, cap3, rfl, b3⟩; have B3 := Lib.hid (B2.out.trans (b3.mono B2.out.size)); clear b3; have gf := field_row23 z3 ⟨#[]⟩ ao3 fl cap3)
                    | fail)
                  go_ret
                  exact ⟨rfl, B3.out⟩
            | false =>
              cases c2 with
              | true =>
                obtain rfl : cb = false := g3.symm
                cases kb with
                | true =>
                  have hwp : 0 < wn.size := by have := of_decide_eq_true hw; omega
                  have hwe : ¬ wn = ByteArray.empty := fun e => by rw [e] at hwp; exact absurd hwp (by decide)
                  obtain rfl : z = 0 := by rw [hz2]; rfl
                  clear hz2
                  go_enter Try.func16, Try.ntmps16
                  go_wp2_with (first
                    | (go_at_call 26; (with_reducible refine (HH.out _).mono ?_); rintro e w1 ⟨rfl, b1⟩; have B1 := Lib.hid b1; clear b1)
                    | (go_at_call 26; (with_reducible refine (HN7.out _).mono ?_); rintro e w2 ⟨rfl, b2⟩; have B2 := Lib.hid (B1.out.trans (b2.mono B1.out.size)); clear b2)
                    | (go_at_call 27; (with_reducible refine (HO.out _).mono ?_); rintro e w3 ⟨z3, ao3, cap3, rfl, b3⟩; have B3 := Lib.hid (B2.out.trans (b3.mono B2.out.size)); clear b3; have gf := field_row23 z3 wn ao3 fl cap3)
                    | fail)
                  go_ret
                  exact ⟨rfl, B3.out⟩
                | false =>
                  obtain rfl : wn = ⟨#[]⟩ := ba_nil wn (by have := of_decide_eq_false hw; omega)
                  clear hw
                  obtain rfl : z = 3 := by rw [hz2]; rfl
                  clear hz2
                  go_enter Try.func16, Try.ntmps16
                  go_wp2_with (first
                    | (go_at_call 26; (with_reducible refine (HH.out _).mono ?_); rintro e w1 ⟨rfl, b1⟩; have B1 := Lib.hid b1; clear b1)
                    | (go_at_call 26; (with_reducible refine (HN7.out _).mono ?_); rintro e w2 ⟨rfl, b2⟩; have B2 := Lib.hid (B1.out.trans (b2.mono B1.out.size)); clear b2)
                    | (go_at_call 27; (with_reducible refine (HO.out _).mono ?_); rintro e w3 ⟨z3, ao3, cap3, rfl, b3⟩; have B3 := Lib.hid (B2.out.trans (b3.mono B2.out.size)); clear b3; have gf := field_row23 z3 ⟨#[]⟩ ao3 fl cap3)
                    | fail)
                  go_ret
                  exact ⟨rfl, B3.out⟩
              | false =>
                obtain rfl : cb = false := g3.symm
                cases kb with
                | true =>
                  have hwp : 0 < wn.size := by have := of_decide_eq_true hw; omega
                  have hwe : ¬ wn = ByteArray.empty := fun e => by rw [e] at hwp; exact absurd hwp (by decide)
                  obtain rfl : z = 0 := by rw [hz2]; rfl
                  clear hz2
                  go_enter Try.func16, Try.ntmps16
                  go_wp2_with (first
                    | (go_at_call 26; (with_reducible refine (HH.out _).mono ?_); rintro e w1 ⟨rfl, b1⟩; have B1 := Lib.hid b1; clear b1)
                    | (go_at_call 26; (with_reducible refine (HN7.out _).mono ?_); rintro e w2 ⟨rfl, b2⟩; have B2 := Lib.hid (B1.out.trans (b2.mono B1.out.size)); clear b2)
                    | (go_at_call 27; (with_reducible refine (HO.out _).mono ?_); rintro e w3 ⟨z3, ao3, cap3, rfl, b3⟩; have B3 := Lib.hid (B2.out.trans (b3.mono B2.out.size)); clear b3; have gf := field_row23 z3 wn ao3 fl cap3)
                    | fail)
                  go_ret
                  exact ⟨rfl, B3.out⟩
                | false =>
                  obtain rfl : wn = ⟨#[]⟩ := ba_nil wn (by have := of_decide_eq_false hw; omega)
                  clear hw
                  obtain rfl : z = 3 := by rw [hz2]; rfl
                  clear hz2
                  go_enter Try.func16, Try.ntmps16
                  go_wp2_with (first
                    | (go_at_call 26; (with_reducible refine (HH.out _).mono ?_); rintro e w1 ⟨rfl, b1⟩; have B1 := Lib.hid b1; clear b1)
                    | (go_at_call 26; (with_reducible refine (HN7.out _).mono ?_); rintro e w2 ⟨rfl, b2⟩; have B2 := Lib.hid (B1.out.trans (b2.mono B1.out.size)); clear b2)
                    | (go_at_call 27; (with_reducible refine (HO.out _).mono ?_); rintro e w3 ⟨z3, ao3, cap3, rfl, b3⟩; have B3 := Lib.hid (B2.out.trans (b3.mono B2.out.size)); clear b3; have gf := field_row23 z3 ⟨#[]⟩ ao3 fl cap3)
                    | fail)
                  go_ret
                  exact ⟨rfl, B3.out⟩
        | false =>
          cases mb with
          | true =>
            obtain rfl : z = 1 := by rw [hz2]; rfl
            clear hz2
            go_enter Try.func16, Try.ntmps16
            go_wp2_with (first
              | (go_at_call 26; (with_reducible refine (HH.out _).mono ?_); rintro e w1 ⟨rfl, b1⟩; have B1 := Lib.hid b1; clear b1)
              | (go_at_call 26; (with_reducible refine (HN7.out _).mono ?_); rintro e w2 ⟨rfl, b2⟩; have B2 := Lib.hid (B1.out.trans (b2.mono B1.out.size)); clear b2)
              | fail)
            go_ret
            exact ⟨rfl, B2.out⟩
          | false =>
            cases c1 with
            | true =>
              cases c2 with
              | true =>
                obtain rfl : cb = true := g3.symm
                cases kb with
                | true =>
                  have hwp : 0 < wn.size := by have := of_decide_eq_true hw; omega
                  have hwe : ¬ wn = ByteArray.empty := fun e => by rw [e] at hwp; exact absurd hwp (by decide)
                  obtain rfl : z = 0 := by rw [hz2]; rfl
                  clear hz2
                  go_enter Try.func16, Try.ntmps16
                  go_wp2_with (first
                    | (go_at_call 26; (with_reducible refine (HH.out _).mono ?_); rintro e w1 ⟨rfl, b1⟩; have B1 := Lib.hid b1; clear b1)
                    | (go_at_call 26; (with_reducible refine (HN7.out _).mono ?_); rintro e w2 ⟨rfl, b2⟩; have B2 := Lib.hid (B1.out.trans (b2.mono B1.out.size)); clear b2)
                    | (go_at_call 27; (with_reducible refine (HO.out _).mono ?_); rintro e w3 ⟨z3, ao3, cap3, rfl, b3⟩; have B3 := Lib.hid (B2.out.trans (b3.mono B2.out.size)); clear b3; have gf := field_row23 z3 wn ao3 fl cap3)
                    | fail)
                  go_ret
                  exact ⟨rfl, B3.out⟩
                | false =>
                  obtain rfl : wn = ⟨#[]⟩ := ba_nil wn (by have := of_decide_eq_false hw; omega)
                  clear hw
                  obtain rfl : z = 0 := by rw [hz2]; rfl
                  clear hz2
                  go_enter Try.func16, Try.ntmps16
                  go_wp2_with (first
                    | (go_at_call 26; (with_reducible refine (HH.out _).mono ?_); rintro e w1 ⟨rfl, b1⟩; have B1 := Lib.hid b1; clear b1)
                    | (go_at_call 26; (with_reducible refine (HN7.out _).mono ?_); rintro e w2 ⟨rfl, b2⟩; have B2 := Lib.hid (B1.out.trans (b2.mono B1.out.size)); clear b2)
                    | (go_at_call 27; (with_reducible refine (HO.out _).mono ?_); rintro e w3 ⟨z3, ao3, cap3, rfl, b3⟩; have B3 := Lib.hid (B2.out.trans (b3.mono B2.out.size)); clear b3; have gf := field_row23 z3 ⟨#[]⟩ ao3 fl cap3)
                    | fail)
                  go_ret
                  exact ⟨rfl, B3.out⟩
              | false =>
                obtain rfl : cb = false := g3.symm
                cases kb with
                | true =>
                  have hwp : 0 < wn.size := by have := of_decide_eq_true hw; omega
                  have hwe : ¬ wn = ByteArray.empty := fun e => by rw [e] at hwp; exact absurd hwp (by decide)
                  obtain rfl : z = 0 := by rw [hz2]; rfl
                  clear hz2
                  go_enter Try.func16, Try.ntmps16
                  go_wp2_with (first
                    | (go_at_call 26; (with_reducible refine (HH.out _).mono ?_); rintro e w1 ⟨rfl, b1⟩; have B1 := Lib.hid b1; clear b1)
                    | (go_at_call 26; (with_reducible refine (HN7.out _).mono ?_); rintro e w2 ⟨rfl, b2⟩; have B2 := Lib.hid (B1.out.trans (b2.mono B1.out.size)); clear b2)
                    | (go_at_call 27; (with_reducible refine (HO.out _).mono ?_); rintro e w3 ⟨z3, ao3, cap3, rfl, b3⟩; have B3 := Lib.hid (B2.out.trans (b3.mono B2.out.size)); clear b3; have gf := field_row23 z3 wn ao3 fl cap3)
                    | fail)
                  go_ret
                  exact ⟨rfl, B3.out⟩
                | false =>
                  obtain rfl : wn = ⟨#[]⟩ := ba_nil wn (by have := of_decide_eq_false hw; omega)
                  clear hw
                  obtain rfl : z = 3 := by rw [hz2]; rfl
                  clear hz2
                  go_enter Try.func16, Try.ntmps16
                  go_wp2_with (first
                    | (go_at_call 26; (with_reducible refine (HH.out _).mono ?_); rintro e w1 ⟨rfl, b1⟩; have B1 := Lib.hid b1; clear b1)
                    | (go_at_call 26; (with_reducible refine (HN7.out _).mono ?_); rintro e w2 ⟨rfl, b2⟩; have B2 := Lib.hid (B1.out.trans (b2.mono B1.out.size)); clear b2)
                    | (go_at_call 27; (with_reducible refine (HO.out _).mono ?_); rintro e w3 ⟨z3, ao3, cap3, rfl, b3⟩; have B3 := Lib.hid (B2.out.trans (b3.mono B2.out.size)); clear b3; have gf := field_row23 z3 ⟨#[]⟩ ao3 fl cap3)
                    | fail)
                  go_ret
                  exact ⟨rfl, B3.out⟩
            | false =>
              cases c2 with
              | true =>
                obtain rfl : cb = false := g3.symm
                cases kb with
                | true =>
                  have hwp : 0 < wn.size := by have := of_decide_eq_true hw; omega
                  have hwe : ¬ wn = ByteArray.empty := fun e => by rw [e] at hwp; exact absurd hwp (by decide)
                  obtain rfl : z = 0 := by rw [hz2]; rfl
                  clear hz2
                  go_enter Try.func16, Try.ntmps16
                  go_wp2_with (first
                    | (go_at_call 26; (with_reducible refine (HH.out _).mono ?_); rintro e w1 ⟨rfl, b1⟩; have B1 := Lib.hid b1; clear b1)
                    | (go_at_call 26; (with_reducible refine (HN7.out _).mono ?_); rintro e w2 ⟨rfl, b2⟩; have B2 := Lib.hid (B1.out.trans (b2.mono B1.out.size)); clear b2)
                    | (go_at_call 27; (with_reducible refine (HO.out _).mono ?_); rintro e w3 ⟨z3, ao3, cap3, rfl, b3⟩; have B3 := Lib.hid (B2.out.trans (b3.mono B2.out.size)); clear b3; have gf := field_row23 z3 wn ao3 fl cap3)
                    | fail)
                  go_ret
                  exact ⟨rfl, B3.out⟩
                | false =>
                  obtain rfl : wn = ⟨#[]⟩ := ba_nil wn (by have := of_decide_eq_false hw; omega)
                  clear hw
                  obtain rfl : z = 3 := by rw [hz2]; rfl
                  clear hz2
                  go_enter Try.func16, Try.ntmps16
                  go_wp2_with (first
                    | (go_at_call 26; (with_reducible refine (HH.out _).mono ?_); rintro e w1 ⟨rfl, b1⟩; have B1 := Lib.hid b1; clear b1)
                    | (go_at_call 26; (with_reducible refine (HN7.out _).mono ?_); rintro e w2 ⟨rfl, b2⟩; have B2 := Lib.hid (B1.out.trans (b2.mono B1.out.size)); clear b2)
                    | (go_at_call 27; (with_reducible refine (HO.out _).mono ?_); rintro e w3 ⟨z3, ao3, cap3, rfl, b3⟩; have B3 := Lib.hid (B2.out.trans (b3.mono B2.out.size)); clear b3; have gf := field_row23 z3 ⟨#[]⟩ ao3 fl cap3)
                    | fail)
                  go_ret
                  exact ⟨rfl, B3.out⟩
              | false =>
                obtain rfl : cb = false := g3.symm
                cases kb with
                | true =>
                  have hwp : 0 < wn.size := by have := of_decide_eq_true hw; omega
                  have hwe : ¬ wn = ByteArray.empty := fun e => by rw [e] at hwp; exact absurd hwp (by decide)
                  obtain rfl : z = 0 := by rw [hz2]; rfl
                  clear hz2
                  go_enter Try.func16, Try.ntmps16
                  go_wp2_with (first
                    | (go_at_call 26; (with_reducible refine (HH.out _).mono ?_); rintro e w1 ⟨rfl, b1⟩; have B1 := Lib.hid b1; clear b1)
                    | (go_at_call 26; (with_reducible refine (HN7.out _).mono ?_); rintro e w2 ⟨rfl, b2⟩; have B2 := Lib.hid (B1.out.trans (b2.mono B1.out.size)); clear b2)
                    | (go_at_call 27; (with_reducible refine (HO.out _).mono ?_); rintro e w3 ⟨z3, ao3, cap3, rfl, b3⟩; have B3 := Lib.hid (B2.out.trans (b3.mono B2.out.size)); clear b3; have gf := field_row23 z3 wn ao3 fl cap3)
                    | fail)
                  go_ret
                  exact ⟨rfl, B3.out⟩
                | false =>
                  obtain rfl : wn = ⟨#[]⟩ := ba_nil wn (by have := of_decide_eq_false hw; omega)
                  clear hw
                  obtain rfl : z = 3 := by rw [hz2]; rfl
                  clear hz2
                  go_enter Try.func16, Try.ntmps16
                  go_wp2_with (first
                    | (go_at_call 26; (with_reducible refine (HH.out _).mono ?_); rintro e w1 ⟨rfl, b1⟩; have B1 := Lib.hid b1; clear b1)
                    | (go_at_call 26; (with_reducible refine (HN7.out _).mono ?_); rintro e w2 ⟨rfl, b2⟩; have B2 := Lib.hid (B1.out.trans (b2.mono B1.out.size)); clear b2)
                    | (go_at_call 27; (with_reducible refine (HO.out _).mono ?_); rintro e w3 ⟨z3, ao3, cap3, rfl, b3⟩; have B3 := Lib.hid (B2.out.trans (b3.mono B2.out.size)); clear b3; have gf := field_row23 z3 ⟨#[]⟩ ao3 fl cap3)
                    | fail)
                  go_ret
                  exact ⟨rfl, B3.out⟩
  · rw [if_neg h6] at hz
    have q6 : decide (p < 4) = true := decide_eq_true (by omega)
    have hz2 : ∀ (tk : Bool), tk = decide ((p = 1 ∧ n = 20) ∨ (p = 2 ∧ 30 ≤ n ∧ n ≤ 49) ∨ (p = 3 ∧ n = 21)) → z = if tk then 1 else if f = false ∧ sb = true then 2 else 0 := fun tk ht => by
      rw [hz, ht, hsb]
      unfold exZ
      simp only [decide_eq_true_eq]
    clear hz
    rcases (by omega : p = 1 ∨ p = 2 ∨ p = 3) with rfl | rfl | rfl
    · by_cases h20 : n = 20
      · subst h20
        obtain rfl : z = 1 := by rw [hz2 true (decide_eq_true (by omega)).symm]; rfl
        clear hz2 h1 h2 h3 h4 h5 h6 hsb
        go_enter Try.func16, Try.ntmps16
        go_wp2_with (first
          | (go_at_call 26; (with_reducible refine (HH.out _).mono ?_); rintro e w1 ⟨rfl, b1⟩; have B1 := Lib.hid b1; clear b1)
          | fail)
        go_ret
        exact ⟨rfl, B1.out⟩
      · have hz3 := hz2 false (decide_eq_false (by omega)).symm
        clear hz2
        have q20 : (n == 20) = false := beq_eq_false_iff_ne.2 h20
        clear h20 h1 h2 h3 h4 h5 h6 hsb
        cases sb with
        | true =>
          cases f with
          | true =>
            obtain rfl : z = 0 := by rw [hz3]; rfl
            clear hz3
            go_enter Try.func16, Try.ntmps16
            go_wp2_with (first
              | (go_at_call 26; (with_reducible refine (HH.out _).mono ?_); rintro e w1 ⟨rfl, b1⟩; have B1 := Lib.hid b1; clear b1)
              | fail)
            go_ret
            exact ⟨rfl, B1.out⟩
          | false =>
            obtain rfl : z = 2 := by rw [hz3]; rfl
            clear hz3
            go_enter Try.func16, Try.ntmps16
            go_wp2_with (first
              | (go_at_call 26; (with_reducible refine (HH.out _).mono ?_); rintro e w1 ⟨rfl, b1⟩; have B1 := Lib.hid b1; clear b1)
              | fail)
            go_ret
            exact ⟨rfl, B1.out⟩
        | false =>
          obtain rfl : z = 0 := by rw [hz3]; cases f <;> rfl
          clear hz3
          go_enter Try.func16, Try.ntmps16
          go_wp2_with (first
            | (go_at_call 26; (with_reducible refine (HH.out _).mono ?_); rintro e w1 ⟨rfl, b1⟩; have B1 := Lib.hid b1; clear b1)
            | fail)
          go_ret
          exact ⟨rfl, B1.out⟩
    · by_cases h20 : 30 ≤ n ∧ n ≤ 49
      · have q30 : decide (n ≥ 30) = true := decide_eq_true (by omega)
        have q49 : decide (n ≤ 49) = true := decide_eq_true (by omega)
        have H20 := Lib.hid h20
        obtain rfl : z = 1 := by rw [hz2 true (decide_eq_true (by omega)).symm]; rfl
        clear hz2 h20 h1 h2 h3 h4 h5 h6 hsb
        go_enter Try.func16, Try.ntmps16
        go_wp2_with (first
          | (go_at_call 26; (with_reducible refine (HH.out _).mono ?_); rintro e w1 ⟨rfl, b1⟩; have B1 := Lib.hid b1; clear b1)
          | fail)
        go_ret
        exact ⟨rfl, B1.out⟩
      · have hz3 := hz2 false (decide_eq_false (by omega)).symm
        clear hz2
        by_cases h30 : n ≥ 30
        · have q30 : decide (n ≥ 30) = true := decide_eq_true h30
          have q49 : decide (n ≤ 49) = false := decide_eq_false (by omega)
          clear h20 h30 h1 h2 h3 h4 h5 h6 hsb
          cases sb with
          | true =>
            cases f with
            | true =>
              obtain rfl : z = 0 := by rw [hz3]; rfl
              clear hz3
              go_enter Try.func16, Try.ntmps16
              go_wp2_with (first
                | (go_at_call 26; (with_reducible refine (HH.out _).mono ?_); rintro e w1 ⟨rfl, b1⟩; have B1 := Lib.hid b1; clear b1)
                | fail)
              go_ret
              exact ⟨rfl, B1.out⟩
            | false =>
              obtain rfl : z = 2 := by rw [hz3]; rfl
              clear hz3
              go_enter Try.func16, Try.ntmps16
              go_wp2_with (first
                | (go_at_call 26; (with_reducible refine (HH.out _).mono ?_); rintro e w1 ⟨rfl, b1⟩; have B1 := Lib.hid b1; clear b1)
                | fail)
              go_ret
              exact ⟨rfl, B1.out⟩
          | false =>
            obtain rfl : z = 0 := by rw [hz3]; cases f <;> rfl
            clear hz3
            go_enter Try.func16, Try.ntmps16
            go_wp2_with (first
              | (go_at_call 26; (with_reducible refine (HH.out _).mono ?_); rintro e w1 ⟨rfl, b1⟩; have B1 := Lib.hid b1; clear b1)
              | fail)
            go_ret
            exact ⟨rfl, B1.out⟩
        · have q30 : decide (n ≥ 30) = false := decide_eq_false h30
          clear h20 h30 h1 h2 h3 h4 h5 h6 hsb
          cases sb with
          | true =>
            cases f with
            | true =>
              obtain rfl : z = 0 := by rw [hz3]; rfl
              clear hz3
              go_enter Try.func16, Try.ntmps16
              go_wp2_with (first
                | (go_at_call 26; (with_reducible refine (HH.out _).mono ?_); rintro e w1 ⟨rfl, b1⟩; have B1 := Lib.hid b1; clear b1)
                | fail)
              go_ret
              exact ⟨rfl, B1.out⟩
            | false =>
              obtain rfl : z = 2 := by rw [hz3]; rfl
              clear hz3
              go_enter Try.func16, Try.ntmps16
              go_wp2_with (first
                | (go_at_call 26; (with_reducible refine (HH.out _).mono ?_); rintro e w1 ⟨rfl, b1⟩; have B1 := Lib.hid b1; clear b1)
                | fail)
              go_ret
              exact ⟨rfl, B1.out⟩
          | false =>
            obtain rfl : z = 0 := by rw [hz3]; cases f <;> rfl
            clear hz3
            go_enter Try.func16, Try.ntmps16
            go_wp2_with (first
              | (go_at_call 26; (with_reducible refine (HH.out _).mono ?_); rintro e w1 ⟨rfl, b1⟩; have B1 := Lib.hid b1; clear b1)
              | fail)
            go_ret
            exact ⟨rfl, B1.out⟩
    · by_cases h20 : n = 21
      · subst h20
        obtain rfl : z = 1 := by rw [hz2 true (decide_eq_true (by omega)).symm]; rfl
        clear hz2 h1 h2 h3 h4 h5 h6 hsb
        go_enter Try.func16, Try.ntmps16
        go_wp2_with (first
          | (go_at_call 26; (with_reducible refine (HH.out _).mono ?_); rintro e w1 ⟨rfl, b1⟩; have B1 := Lib.hid b1; clear b1)
          | fail)
        go_ret
        exact ⟨rfl, B1.out⟩
      · have hz3 := hz2 false (decide_eq_false (by omega)).symm
        clear hz2
        have q20 : (n == 21) = false := beq_eq_false_iff_ne.2 h20
        clear h20 h1 h2 h3 h4 h5 h6 hsb
        cases sb with
        | true =>
          cases f with
          | true =>
            obtain rfl : z = 0 := by rw [hz3]; rfl
            clear hz3
            go_enter Try.func16, Try.ntmps16
            go_wp2_with (first
              | (go_at_call 26; (with_reducible refine (HH.out _).mono ?_); rintro e w1 ⟨rfl, b1⟩; have B1 := Lib.hid b1; clear b1)
              | fail)
            go_ret
            exact ⟨rfl, B1.out⟩
          | false =>
            obtain rfl : z = 2 := by rw [hz3]; rfl
            clear hz3
            go_enter Try.func16, Try.ntmps16
            go_wp2_with (first
              | (go_at_call 26; (with_reducible refine (HH.out _).mono ?_); rintro e w1 ⟨rfl, b1⟩; have B1 := Lib.hid b1; clear b1)
              | fail)
            go_ret
            exact ⟨rfl, B1.out⟩
        | false =>
          obtain rfl : z = 0 := by rw [hz3]; cases f <;> rfl
          clear hz3
          go_enter Try.func16, Try.ntmps16
          go_wp2_with (first
            | (go_at_call 26; (with_reducible refine (HH.out _).mono ?_); rintro e w1 ⟨rfl, b1⟩; have B1 := Lib.hid b1; clear b1)
            | fail)
          go_ret
          exact ⟨rfl, B1.out⟩
end Go.Proofs.Ytbnecckgapainaa
