/- Layer 13: the finders; consume; Line, Unit, Close; broken streams and the nil stream. -/
import Derived.Test.YtlalkpgipenkaaaSx2
import Derived.Test.YtlalkpgipenkaaaLn3
import Derived.Test.YtlalkpgipenkaaaFrM
namespace Go.Proofs.Ytlalkpgipenkaaa
open Go.RowKit

/-! ### what is at the front -/
theorem lnCount_take (l : List UInt8) : lnCount (l.take 255) = min (lnCount l) 255 := by
  unfold lnCount
  generalize 255 = m
  induction l generalizing m with
  | nil => simp
  | cons b l ih =>
    cases m with
    | zero => simp
    | succ m =>
      rw [List.take_succ_cons, List.takeWhile_cons, List.takeWhile_cons]
      split
      · simp only [List.length_cons, ih]; omega
      · simp
theorem lnScan_take (l : List UInt8) : lnScan (l.take 255) = lnScan l := by
  have hc := lnCount_take l
  by_cases h : 253 < lnCount l
  · rw [lnScan_long h, lnScan_long (by omega)]
  · have he : lnCount (l.take 255) = lnCount l := by omega
    unfold lnScan
    rw [he, if_neg h, if_neg h]
    have hd : (l.take 255).drop (lnCount l) = (l.drop (lnCount l)).take (255 - lnCount l) := List.drop_take
    have hr : lnRest ((l.drop (lnCount l)).take (255 - lnCount l)) = lnRest (l.drop (lnCount l)) := by
      obtain ⟨m, hm⟩ : ∃ m, 255 - lnCount l = m + 2 := ⟨255 - lnCount l - 2, by omega⟩
      rw [hm]
      generalize l.drop (lnCount l) = r
      match r with
      | [] => rfl
      | [a] => rfl
      | [a, b] =>
        show lnRest (a :: b :: ([] : List UInt8).take m) = _
        rw [List.take_nil]
      | a :: b :: c :: d =>
        simp only [List.take_succ_cons]
        unfold lnRest
        by_cases hp : ((13 : UInt8) == a && (10 : UInt8) == b) = true
        · have h1 : ∀ x : List UInt8, ([13, 10] : List UInt8).isPrefixOf (a :: b :: x) = true := fun x => by simpa [List.isPrefixOf] using hp
          rw [if_pos (h1 _), if_pos (h1 _)]
        · have h1 : ∀ x : List UInt8, ([13, 10] : List UInt8).isPrefixOf (a :: b :: x) = false := fun x => by simpa [List.isPrefixOf] using hp
          have h2 : ∀ x : List UInt8, (a :: b :: x).isPrefixOf ([13, 10] : List UInt8) = false := fun x => by
            have hp' : ¬ (a = 13 ∧ b = 10) := fun ⟨e1, e2⟩ => hp (by rw [e1, e2]; rfl)
            by_cases e1 : a = 13
            · have e2 : b ≠ 10 := fun e2 => hp' ⟨e1, e2⟩
              have : (b == 10) = false := by simpa using e2
              simp [List.isPrefixOf, this]
            · have : (a == 13) = false := by simpa using e1
              simp [List.isPrefixOf, this]
          rw [h1, h1, h2, h2]
    rw [hd, hr, List.take_take, show min (lnCount l) 255 = lnCount l by omega]
theorem frNeedP_take (l : List UInt8) : frNeedP (l.take 4) = frNeedP l := by
  have h1 : frHd (l.take 4) = frHd l := by
    cases l <;> rfl
  have h2 : (l.take 4).length < 4 ↔ l.length < 4 := by rw [List.length_take]; omega
  unfold frNeedP
  rw [h1, List.take_take, show min 4 4 = 4 from rfl]
  simp only [h2]

/-- What a unit's finder finds: its bytes, how many, what is wrong. -/
def stUnit (l : List UInt8) : List UInt8 × Nat × Nat := if (frNeedP l).2 ≠ 0 then ([], 0, (frNeedP l).2) else if l.length < (frNeedP l).1 then ([], 0, 4) else (l.take (frNeedP l).1, (frNeedP l).1, 0)
theorem stUnit_used (l : List UInt8) : (stUnit l).2.1 ≤ l.length := by
  unfold stUnit
  split
  · exact Nat.zero_le _
  · split
    · exact Nat.zero_le _
    · simp only; omega
theorem lnScan_used (l : List UInt8) : (lnScan l).2.1 ≤ l.length := by
  unfold lnScan
  split
  · exact Nat.zero_le _
  · split
    · rename_i h
      simp only
      unfold lnRest at h
      split at h
      · rename_i hp
        have := (List.isPrefixOf_iff_prefix.1 hp).length_le
        simp at this
        have := lnCount_le l
        omega
      · split at h <;> simp at h
    · exact Nat.zero_le _

/-! ### the program's finders -/
set_option maxRecDepth 100000 in
theorem xHead_any {B : Nat} {w : World} {v : Value} {l : List UInt8} (hv : OffB w B v l) (hl : l.length ≤ 1000000) (n : Nat) (hn : n ≤ 1000000) :
    Calls Try.prog 60 #[v, .int .i64 (n : Int)] w fun r w' => r = .returned (.string (bs (l.take n))) ∧ w' = w := by
  obtain ⟨ao, cap, rfl⟩ := hv.len
  obtain ⟨k, hk⟩ : ∃ k, k = min n l.length := ⟨_, rfl⟩
  obtain ⟨hc, h2⟩ := front_off hv k (by omega)
  have hm : min (n : Int) (l.length : Int) = (k : Int) := by omega
  have ht : l.take n = l.take k := by
    rcases Nat.lt_or_ge l.length n with h | h
    · rw [List.take_of_length_le (by omega), List.take_of_length_le (by omega)]
    · rw [show k = n by omega]
  rw [ht]
  have hkc : k ≤ cap := by omega
  clear hv hl hn hk ht hc
  generalize bs (l.take k) = S at *
  generalize l.length = m at *
  go_enter Try.func60, Try.ntmps60
  go_wp2
  go_ret
  exact ⟨rfl, rfl⟩
set_option maxRecDepth 100000 in
theorem xFindLine_any {B : Nat} {w : World} {v : Value} {l : List UInt8} (hv : OffB w B v l) (hl : l.length ≤ 1000000) :
    Calls Try.prog 40 #[v] w fun r w' => r = .returned (.tuple #[.string (bs (lnScan l).1), .int .i64 ((lnScan l).2.1 : Int), .int .i64 ((lnScan l).2.2 : Int)]) ∧ Below w.heap.size w w' := by
  have HH : Hid (Calls Try.prog 60 #[v, .int .i64 255] w fun r w' => r = .returned (.string (bs (l.take 255))) ∧ w' = w) := xHead_any hv hl 255 (by omega)
  have HS := Lib.hid (fun W => lnScan_any (l.take 255) (by rw [List.length_take]; omega) W)
  rw [lnScan_take] at HS
  generalize bs (l.take 255) = S at *
  generalize bs (lnScan l).1 = T at *
  generalize (lnScan l).2.1 = a at *
  generalize (lnScan l).2.2 = b at *
  clear hv hl
  go_enter Try.func40, Try.ntmps40
  go_wp2_with (first
    | (go_at_call 60; (with_reducible refine HH.out.mono ?_); rintro r w' ⟨rfl, hw⟩; have hw := hw.symm; subst hw)
    | (go_at_call 59; (with_reducible refine (HS.out _).mono ?_); rintro r w1 ⟨rfl, b1⟩))
  go_ret3
  exact ⟨rfl, b1⟩
set_option maxRecDepth 100000 in
theorem xFindUnit_any {B : Nat} {w : World} {v : Value} {l : List UInt8} (hv : OffB w B v l) (hl : l.length ≤ 1000000) :
    Calls Try.prog 42 #[v] w fun r w' => r = .returned (.tuple #[.string (bs (stUnit l).1), .int .i64 ((stUnit l).2.1 : Int), .int .i64 ((stUnit l).2.2 : Int)]) ∧ Below w.heap.size w w' := by
  have HH : Hid (Calls Try.prog 60 #[v, .int .i64 4] w fun r w' => r = .returned (.string (bs (l.take 4))) ∧ w' = w) := xHead_any hv hl 4 (by omega)
  have HS := Lib.hid (fun W => frNeed_any (l.take 4) (by rw [List.length_take]; omega) W)
  rw [frNeedP_take] at HS
  have HZ : Hid ((⟨#[]⟩ : ByteArray) = bs []) := rfl
  by_cases h : (frNeedP l).2 = 0
  · by_cases h2 : l.length < (frNeedP l).1
    · have hu : stUnit l = ([], 0, 4) := by unfold stUnit; rw [if_neg (by simpa using h), if_pos h2]
      rw [hu]
      simp only
      obtain ⟨ao, cap, rfl⟩ := hv.len
      rw [h] at HS
      have q : decide (l.length < (frNeedP l).1) = true := decide_eq_true h2
      have hm : (frNeedP l).1 ≤ 1000000 := by unfold frNeedP; (repeat' split) <;> simp only <;> omega
      generalize bs (l.take 4) = S at *
      generalize (frNeedP l).1 = m at *
      clear hv hl h hu h2
      generalize l.length = n at *
      go_enter Try.func42, Try.ntmps42
      go_wp2_with (first
        | (go_at_call 60; (with_reducible refine HH.out.mono ?_); rintro r w' ⟨rfl, hw⟩; have hw := hw.symm; subst hw)
        | (go_at_call 62; (with_reducible refine (HS.out _).mono ?_); rintro r w1 ⟨rfl, b1⟩))
      go_ret3
      exact ⟨by rw [← HZ.out]; rfl, b1⟩
    · have hu : stUnit l = (l.take (frNeedP l).1, (frNeedP l).1, 0) := by unfold stUnit; rw [if_neg (by simpa using h), if_neg h2]
      rw [hu]
      simp only
      have hm : (frNeedP l).1 ≤ 1000000 := by omega
      have HT := Lib.hid (fun (W : World) (hW : Below w.heap.size w W) => xHead_any (hv.moves (Moves.ofBelow (S := nobody) hW) (fun _ _ h => h)) hl (frNeedP l).1 hm)
      obtain ⟨ao, cap, rfl⟩ := hv.len
      rw [h] at HS
      have q : decide (l.length < (frNeedP l).1) = false := decide_eq_false h2
      generalize bs (l.take 4) = S at *
      generalize bs (l.take (frNeedP l).1) = T at *
      generalize (frNeedP l).1 = m at *
      clear hv hl h hu h2
      generalize l.length = n at *
      go_enter Try.func42, Try.ntmps42
      go_wp2_with (first
        | (go_at_call 60; (with_reducible refine HH.out.mono ?_); rintro r w' ⟨rfl, hw⟩; have hw := hw.symm; subst hw)
        | (go_at_call 62; (with_reducible refine (HS.out _).mono ?_); rintro r w1 ⟨rfl, b1⟩)
        | (go_at_call 60; (with_reducible refine (HT.out _ b1).mono ?_); rintro r w' ⟨rfl, hw⟩; have hw := hw.symm; subst hw))
      go_ret3
      exact ⟨rfl, b1⟩
  · have hu : stUnit l = ([], 0, (frNeedP l).2) := by unfold stUnit; rw [if_pos h]
    rw [hu]
    simp only
    obtain ⟨ao, cap, rfl⟩ := hv.len
    have q : (((frNeedP l).2 : Int) == 0) = false := by rw [beq_eq_false_iff_ne]; omega
    have q2 : (((frNeedP l).2 : Int) != 0) = true := by rw [bne, q]; rfl
    generalize bs (l.take 4) = S at *
    generalize (frNeedP l).1 = m at *
    generalize (frNeedP l).2 = c at *
    clear hv hl h hu
    generalize l.length = n at *
    go_enter Try.func42, Try.ntmps42
    go_wp2_with (first
      | (go_at_call 60; (with_reducible refine HH.out.mono ?_); rintro r w' ⟨rfl, hw⟩; have hw := hw.symm; subst hw)
      | (go_at_call 62; (with_reducible refine (HS.out _).mono ?_); rintro r w1 ⟨rfl, b1⟩))
    go_ret3
    exact ⟨by rw [← HZ.out]; rfl, b1⟩

/-! ### breaking -/
theorem StAt.broke {B X : Nat} {w w1 : World} {v : Value} {a : Value} {e : Nat} {F : Nat → Prop} (hX : Holds w1 X 72 #[v, a]) (hBX : B ≤ X) (hm : Moves F w w1) (hFX : F X) :
    StLeft B X [] e F w ((w1.setCell ⟨X, 0, none⟩ (.slice none 0 0)).setCell ⟨X, 1, none⟩ (.int .i64 (e : Int))) := by
  have hs := Holds.set (Holds.set hX 0 (.slice none 0 0)) 1 (.int .i64 (e : Int))
  have hm2 := ((Moves.refl (fun k => k = X) w1).setCell (p := ⟨X, 0, none⟩) (.inl rfl) (.slice none 0 0)).setCell (p := ⟨X, 1, none⟩) (.inl rfl) (.int .i64 (e : Int))
  exact ⟨_, ⟨_, hs, OffB.nil _ _, hBX, rfl⟩, hm.trans hm2 (fun i hi => .inl (by subst hi; exact hFX)), fun k hk => by
    rcases hk with rfl | hk
    · exact .inl hFX
    · simp [Value.ownBlock] at hk⟩
set_option maxRecDepth 100000 in
theorem xFail_any {B X : Nat} {w : World} {v a : Value} {F : Nat → Prop} (hX : Holds w X 72 #[v, a]) (hBX : B ≤ X) (hFX : F X) (e : Nat) :
    Calls Try.prog 44 #[.pointer (some ⟨X, 0, none⟩), .int .i64 (e : Int)] w fun r w' => r = .returned (.tuple #[]) ∧ StLeft B X [] e F w w' := by
  have c0 := hX.cell 0
  have c1 := hX.cell 1
  have f0 := hX.frozen 0
  have f1 := hX.frozen 1
  have d0 : w.drew.cell? ⟨X, 0, none⟩ = some v := c0
  have d1 : w.drew.cell? ⟨X, 1, none⟩ = some a := c1
  have HX := Lib.hid hX
  clear hX
  go_enter Try.func44, Try.ntmps44
  go_wp2
  go_end0
  exact ⟨rfl, StAt.broke HX.out hBX (Moves.refl _ w) hFX⟩
set_option maxRecDepth 100000 in
theorem xClose_ok {B X : Nat} {l : List UInt8} {F : Nat → Prop} {w : World} (h : StAt B X l 0 F w) :
    Calls Try.prog 15 #[.pointer (some ⟨X, 0, none⟩)] w fun r w' => r = .returned (.tuple #[]) ∧ StLeft B X [] 1 F w w' := by
  have hFX := h.self
  obtain ⟨v, hX, hv, hBX, hF⟩ := h
  have HB : Hid (Calls Try.prog 18 #[.pointer (some ⟨X, 0, none⟩)] w fun r w' => r = .returned (.int .i64 0) ∧ w' = w) := xBroken_any (e := 0) (hX.cell 1)
  have HF : Hid (Calls Try.prog 44 #[.pointer (some ⟨X, 0, none⟩), .int .i64 1] w fun r w' => r = .returned (.tuple #[]) ∧ StLeft B X [] 1 F w w') := xFail_any hX hBX hFX 1
  clear hX hv hFX hF
  go_enter Try.func15, Try.ntmps15
  go_wp2_with (first
    | (go_at_call 18; (with_reducible refine HB.out.mono ?_); rintro r w' ⟨rfl, hw⟩; have hw := hw.symm; subst hw)
    | (go_at_call 44; (with_reducible refine HF.out.mono ?_); rintro r w1 ⟨rfl, h1⟩))
  go_end0
  exact ⟨rfl, h1⟩
/-- What is asked of a broken stream, or of none, changes nothing. -/
theorem stNot {e : Nat} (he : e ≠ 0) : (((e : Int)) == 0) = false ∧ (((e : Int)) != 0) = true := by
  have q : (((e : Int)) == 0) = false := by rw [beq_eq_false_iff_ne]; omega
  exact ⟨q, by rw [bne, q]; rfl⟩
set_option maxRecDepth 100000 in
theorem xFeed_no {w : World} {X e : Nat} (hc : w.cell? ⟨X, 1, none⟩ = some (.int .i64 (e : Int))) (he : e ≠ 0) (S : ByteArray) : Calls Try.prog 9 #[.pointer (some ⟨X, 0, none⟩), .string S] w fun r w' => r = .returned (.tuple #[]) ∧ w' = w := by
  have HB := Lib.hid (xBroken_any hc)
  obtain ⟨q1, q2⟩ := stNot he
  clear hc he
  go_enter Try.func9, Try.ntmps9
  go_wp2_with (go_at_call 18; (with_reducible refine HB.out.mono ?_); rintro r w' ⟨rfl, hw⟩; have hw := hw.symm; subst hw)
  go_end0
  exact ⟨rfl, rfl⟩
set_option maxRecDepth 100000 in
theorem xFeed_nil (w : World) (S : ByteArray) : Calls Try.prog 9 #[.pointer none, .string S] w fun r w' => r = .returned (.tuple #[]) ∧ w' = w := by
  have HB := Lib.hid (xBroken_nil w)
  go_enter Try.func9, Try.ntmps9
  go_wp2_with (go_at_call 18; (with_reducible refine HB.out.mono ?_); rintro r w' ⟨rfl, hw⟩; have hw := hw.symm; subst hw)
  go_end0
  exact ⟨rfl, rfl⟩
set_option maxRecDepth 100000 in
theorem xClose_no {w : World} {X e : Nat} (hc : w.cell? ⟨X, 1, none⟩ = some (.int .i64 (e : Int))) (he : e ≠ 0) : Calls Try.prog 15 #[.pointer (some ⟨X, 0, none⟩)] w fun r w' => r = .returned (.tuple #[]) ∧ w' = w := by
  have HB := Lib.hid (xBroken_any hc)
  obtain ⟨q1, q2⟩ := stNot he
  clear hc he
  go_enter Try.func15, Try.ntmps15
  go_wp2_with (go_at_call 18; (with_reducible refine HB.out.mono ?_); rintro r w' ⟨rfl, hw⟩; have hw := hw.symm; subst hw)
  go_end0
  exact ⟨rfl, rfl⟩
set_option maxRecDepth 100000 in
theorem xClose_nil (w : World) : Calls Try.prog 15 #[.pointer none] w fun r w' => r = .returned (.tuple #[]) ∧ w' = w := by
  have HB := Lib.hid (xBroken_nil w)
  go_enter Try.func15, Try.ntmps15
  go_wp2_with (go_at_call 18; (with_reducible refine HB.out.mono ?_); rintro r w' ⟨rfl, hw⟩; have hw := hw.symm; subst hw)
  go_end0
  exact ⟨rfl, rfl⟩
set_option maxRecDepth 100000 in
theorem xLine_no {w : World} {X e : Nat} (hc : w.cell? ⟨X, 1, none⟩ = some (.int .i64 (e : Int))) (he : e ≠ 0) : Calls Try.prog 11 #[.pointer (some ⟨X, 0, none⟩)] w fun r w' => r = .returned (.tuple #[.string ⟨#[]⟩, .bool false, .int .i64 (e : Int)]) ∧ w' = w := by
  have HB := Lib.hid (xBroken_any hc)
  obtain ⟨q1, q2⟩ := stNot he
  clear hc he
  have HC : Hid (Calls Try.prog 39 #[.pointer (some ⟨X, 0, none⟩), .func (.func 40) #[] #[]] w fun r w' => r = .returned (.tuple #[.string ⟨#[]⟩, .bool false, .int .i64 (e : Int)]) ∧ w' = w) := by
    go_enter Try.func39, Try.ntmps39
    go_wp2_with (go_at_call 18; (with_reducible refine HB.out.mono ?_); rintro r w' ⟨rfl, hw⟩; have hw := hw.symm; subst hw)
    go_ret3
    exact ⟨rfl, rfl⟩
  go_enter Try.func11, Try.ntmps11
  go_wp2_with (go_at_call 39; (with_reducible refine HC.out.mono ?_); rintro r w' ⟨rfl, hw⟩; have hw := hw.symm; subst hw)
  go_ret3
  exact ⟨rfl, rfl⟩
set_option maxRecDepth 100000 in
theorem xLine_nil (w : World) : Calls Try.prog 11 #[.pointer none] w fun r w' => r = .returned (.tuple #[.string ⟨#[]⟩, .bool false, .int .i64 1]) ∧ w' = w := by
  have HB := Lib.hid (xBroken_nil w)
  have HC : Hid (Calls Try.prog 39 #[.pointer none, .func (.func 40) #[] #[]] w fun r w' => r = .returned (.tuple #[.string ⟨#[]⟩, .bool false, .int .i64 1]) ∧ w' = w) := by
    go_enter Try.func39, Try.ntmps39
    go_wp2_with (go_at_call 18; (with_reducible refine HB.out.mono ?_); rintro r w' ⟨rfl, hw⟩; have hw := hw.symm; subst hw)
    go_ret3
    exact ⟨rfl, rfl⟩
  go_enter Try.func11, Try.ntmps11
  go_wp2_with (go_at_call 39; (with_reducible refine HC.out.mono ?_); rintro r w' ⟨rfl, hw⟩; have hw := hw.symm; subst hw)
  go_ret3
  exact ⟨rfl, rfl⟩
set_option maxRecDepth 100000 in
theorem xLine_done {B X : Nat} {l : List UInt8} {F : Nat → Prop} {w : World} (h : StAt B X l 0 F w) (hl : l.length ≤ 1000000) (hw : (lnScan l).2.2 = 0) :
    Calls Try.prog 11 #[.pointer (some ⟨X, 0, none⟩)] w fun r w' => r = .returned (.tuple #[.string (bs (lnScan l).1), .bool true, .int .i64 0]) ∧ StLeft B X (l.drop (lnScan l).2.1) 0 F w w' := by
  have hFX := h.self
  have hst := Lib.hid h
  obtain ⟨v, hX, hv, hBX, hF⟩ := h
  have HB : Hid (Calls Try.prog 18 #[.pointer (some ⟨X, 0, none⟩)] w fun r w' => r = .returned (.int .i64 0) ∧ w' = w) := xBroken_any (e := 0) (hX.cell 1)
  have HFi := Lib.hid (xFindLine_any hv hl)
  have c0 := hX.cell 0
  have HC : Hid (Calls Try.prog 39 #[.pointer (some ⟨X, 0, none⟩), .func (.func 40) #[] #[]] w fun r w' => r = .returned (.tuple #[.string (bs (lnScan l).1), .bool true, .int .i64 0]) ∧ StLeft B X (l.drop (lnScan l).2.1) 0 F w w') := by
    have hu := lnScan_used l
    obtain ⟨ao, cap, rfl⟩ := hv.len
    rw [hw] at HFi
    have HX := Lib.hid hX
    have HV := Lib.hid hv
    have HFi2 := Lib.hid (hF)
    have HSl : Hid (∀ W, Below w.heap.size w W → ∃ u, (Instr.slice 39 (.slice ao l.length cap) (some (.int .i64 ((lnScan l).2.1 : Int))) none none).run Try.prog W = .ok u W ∧ OffB W B u (l.drop (lnScan l).2.1) ∧ u.ownBlock = Value.ownBlock (.slice ao l.length cap)) := fun W hW =>
      slice_off (hv.moves (Moves.ofBelow (S := nobody) hW) (fun _ _ h => h)) _ hu
    have hFX2 := Lib.hid hFX
    clear hX hv hw hF hl hst hFX hu
    generalize bs (lnScan l).1 = S at *
    generalize (lnScan l).2.1 = m at *
    generalize l.length = n at *
    go_enter Try.func39, Try.ntmps39
    go_wp2_with (first
      | (go_at_call 18; (with_reducible refine HB.out.mono ?_); rintro r w' ⟨rfl, hw⟩; have hw := hw.symm; subst hw)
      | (go_at_call 40; (with_reducible refine HFi.out.mono ?_); rintro r w1 ⟨rfl, b1⟩; have B1 := Lib.hid b1; obtain ⟨u, hu1, hu2, hu3⟩ := HSl.out _ b1; obtain ⟨uo, uc, rfl⟩ := hu2.len; rw [List.length_drop] at hu1 hu2 hu3; have HU2 := Lib.hid hu2; have HU3 := Lib.hid hu3; have hX1 := Holds.moves HX.out (Moves.ofBelow (S := nobody) b1) (fun h => h); have g0 := hX1.cell 0; have k0 := hX1.frozen 0; have HX1 := Lib.hid hX1; clear hX1 hu2 hu3 b1))
    go_ret3
    exact ⟨rfl, StAt.put HX1.out HU2.out hBX (Moves.ofBelow B1.out) hFX2.out (fun k hk => .inl (by rw [HFi2.out]; exact .inr (HU3.out ▸ hk)))⟩
  clear HB HFi c0 hst hX hv hF hl hFX
  go_enter Try.func11, Try.ntmps11
  go_wp2_with (go_at_call 39; (with_reducible refine HC.out.mono ?_); rintro r w1 ⟨rfl, h1⟩)
  go_ret3
  exact ⟨rfl, h1⟩
set_option maxRecDepth 100000 in
theorem xLine_short {B X : Nat} {l : List UInt8} {F : Nat → Prop} {w : World} (h : StAt B X l 0 F w) (hl : l.length ≤ 1000000) (hw : (lnScan l).2.2 = 4) :
    Calls Try.prog 11 #[.pointer (some ⟨X, 0, none⟩)] w fun r w' => r = .returned (.tuple #[.string ⟨#[]⟩, .bool false, .int .i64 0]) ∧ StLeft B X l 0 F w w' := by
  have hFX := h.self
  have hst := Lib.hid h
  obtain ⟨v, hX, hv, hBX, hF⟩ := h
  have HB : Hid (Calls Try.prog 18 #[.pointer (some ⟨X, 0, none⟩)] w fun r w' => r = .returned (.int .i64 0) ∧ w' = w) := xBroken_any (e := 0) (hX.cell 1)
  have HFi := Lib.hid (xFindLine_any hv hl)
  have c0 := hX.cell 0
  have HC : Hid (Calls Try.prog 39 #[.pointer (some ⟨X, 0, none⟩), .func (.func 40) #[] #[]] w fun r w' => r = .returned (.tuple #[.string ⟨#[]⟩, .bool false, .int .i64 0]) ∧ StLeft B X l 0 F w w') := by
    rw [hw] at HFi
    clear hX hv hw hF hl hFX
    generalize bs (lnScan l).1 = S at *
    generalize (lnScan l).2.1 = m at *
    go_enter Try.func39, Try.ntmps39
    go_wp2_with (first
      | (go_at_call 18; (with_reducible refine HB.out.mono ?_); rintro r w' ⟨rfl, hw⟩; have hw := hw.symm; subst hw)
      | (go_at_call 40; (with_reducible refine HFi.out.mono ?_); rintro r w1 ⟨rfl, b1⟩))
    go_ret3
    exact ⟨rfl, hst.out.left b1⟩
  clear HB HFi c0 hst hX hv hF hl hFX
  go_enter Try.func11, Try.ntmps11
  go_wp2_with (go_at_call 39; (with_reducible refine HC.out.mono ?_); rintro r w1 ⟨rfl, h1⟩)
  go_ret3
  exact ⟨rfl, h1⟩
set_option maxRecDepth 100000 in
theorem xLine_wrong {B X : Nat} {l : List UInt8} {F : Nat → Prop} {w : World} (h : StAt B X l 0 F w) (hl : l.length ≤ 1000000) (h0 : (lnScan l).2.2 ≠ 0) (h4 : (lnScan l).2.2 ≠ 4) :
    Calls Try.prog 11 #[.pointer (some ⟨X, 0, none⟩)] w fun r w' => r = .returned (.tuple #[.string ⟨#[]⟩, .bool false, .int .i64 ((lnScan l).2.2 : Int)]) ∧ StLeft B X [] (lnScan l).2.2 F w w' := by
  have hFX := h.self
  have hst := Lib.hid h
  obtain ⟨v, hX, hv, hBX, hF⟩ := h
  have HB : Hid (Calls Try.prog 18 #[.pointer (some ⟨X, 0, none⟩)] w fun r w' => r = .returned (.int .i64 0) ∧ w' = w) := xBroken_any (e := 0) (hX.cell 1)
  have HFi := Lib.hid (xFindLine_any hv hl)
  have c0 := hX.cell 0
  have HC : Hid (Calls Try.prog 39 #[.pointer (some ⟨X, 0, none⟩), .func (.func 40) #[] #[]] w fun r w' => r = .returned (.tuple #[.string ⟨#[]⟩, .bool false, .int .i64 ((lnScan l).2.2 : Int)]) ∧ StLeft B X [] (lnScan l).2.2 F w w') := by
    have HFa := Lib.hid (fun (W : World) (hW : Below w.heap.size w W) => xFail_any (hX.moves (Moves.ofBelow (S := nobody) hW) (fun h => h)) hBX hFX (lnScan l).2.2)
    have q1 : (((lnScan l).2.2 : Int) == 0) = false := by rw [beq_eq_false_iff_ne]; omega
    have q2 : (((lnScan l).2.2 : Int) == 4) = false := by rw [beq_eq_false_iff_ne]; omega
    have HF := Lib.hid hst.out.lt
    clear hX hv h0 h4 hF hl hst hFX
    generalize bs (lnScan l).1 = S at *
    generalize (lnScan l).2.1 = m at *
    generalize (lnScan l).2.2 = c at *
    go_enter Try.func39, Try.ntmps39
    go_wp2_with (first
      | (go_at_call 18; (with_reducible refine HB.out.mono ?_); rintro r w' ⟨rfl, hw⟩; have hw := hw.symm; subst hw)
      | (go_at_call 40; (with_reducible refine HFi.out.mono ?_); rintro r w1 ⟨rfl, b1⟩)
      | (go_at_call 44; (with_reducible refine (HFa.out _ b1).mono ?_); rintro r w2 ⟨rfl, h2⟩))
    go_ret3
    obtain ⟨F2, s2, m2, f2⟩ := h2
    exact ⟨rfl, F2, s2, (Moves.ofBelow b1).trans m2 (fun i hi => .inl hi), fun k hk => (f2 k hk).imp_right (fun h => Nat.le_trans b1.size h)⟩
  clear HB HFi c0 hst hX hv hF hl hFX
  go_enter Try.func11, Try.ntmps11
  go_wp2_with (go_at_call 39; (with_reducible refine HC.out.mono ?_); rintro r w1 ⟨rfl, h1⟩)
  go_ret3
  exact ⟨rfl, h1⟩
set_option maxRecDepth 100000 in
theorem xUnit_no {w : World} {X e : Nat} (hc : w.cell? ⟨X, 1, none⟩ = some (.int .i64 (e : Int))) (he : e ≠ 0) : Calls Try.prog 13 #[.pointer (some ⟨X, 0, none⟩)] w fun r w' => r = .returned (.tuple #[.string ⟨#[]⟩, .bool false, .int .i64 (e : Int)]) ∧ w' = w := by
  have HB := Lib.hid (xBroken_any hc)
  obtain ⟨q1, q2⟩ := stNot he
  clear hc he
  have HC : Hid (Calls Try.prog 39 #[.pointer (some ⟨X, 0, none⟩), .func (.func 42) #[] #[]] w fun r w' => r = .returned (.tuple #[.string ⟨#[]⟩, .bool false, .int .i64 (e : Int)]) ∧ w' = w) := by
    go_enter Try.func39, Try.ntmps39
    go_wp2_with (go_at_call 18; (with_reducible refine HB.out.mono ?_); rintro r w' ⟨rfl, hw⟩; have hw := hw.symm; subst hw)
    go_ret3
    exact ⟨rfl, rfl⟩
  go_enter Try.func13, Try.ntmps13
  go_wp2_with (go_at_call 39; (with_reducible refine HC.out.mono ?_); rintro r w' ⟨rfl, hw⟩; have hw := hw.symm; subst hw)
  go_ret3
  exact ⟨rfl, rfl⟩
set_option maxRecDepth 100000 in
theorem xUnit_nil (w : World) : Calls Try.prog 13 #[.pointer none] w fun r w' => r = .returned (.tuple #[.string ⟨#[]⟩, .bool false, .int .i64 1]) ∧ w' = w := by
  have HB := Lib.hid (xBroken_nil w)
  have HC : Hid (Calls Try.prog 39 #[.pointer none, .func (.func 42) #[] #[]] w fun r w' => r = .returned (.tuple #[.string ⟨#[]⟩, .bool false, .int .i64 1]) ∧ w' = w) := by
    go_enter Try.func39, Try.ntmps39
    go_wp2_with (go_at_call 18; (with_reducible refine HB.out.mono ?_); rintro r w' ⟨rfl, hw⟩; have hw := hw.symm; subst hw)
    go_ret3
    exact ⟨rfl, rfl⟩
  go_enter Try.func13, Try.ntmps13
  go_wp2_with (go_at_call 39; (with_reducible refine HC.out.mono ?_); rintro r w' ⟨rfl, hw⟩; have hw := hw.symm; subst hw)
  go_ret3
  exact ⟨rfl, rfl⟩
set_option maxRecDepth 100000 in
theorem xUnit_done {B X : Nat} {l : List UInt8} {F : Nat → Prop} {w : World} (h : StAt B X l 0 F w) (hl : l.length ≤ 1000000) (hw : (stUnit l).2.2 = 0) :
    Calls Try.prog 13 #[.pointer (some ⟨X, 0, none⟩)] w fun r w' => r = .returned (.tuple #[.string (bs (stUnit l).1), .bool true, .int .i64 0]) ∧ StLeft B X (l.drop (stUnit l).2.1) 0 F w w' := by
  have hFX := h.self
  have hst := Lib.hid h
  obtain ⟨v, hX, hv, hBX, hF⟩ := h
  have HB : Hid (Calls Try.prog 18 #[.pointer (some ⟨X, 0, none⟩)] w fun r w' => r = .returned (.int .i64 0) ∧ w' = w) := xBroken_any (e := 0) (hX.cell 1)
  have HFi := Lib.hid (xFindUnit_any hv hl)
  have c0 := hX.cell 0
  have HC : Hid (Calls Try.prog 39 #[.pointer (some ⟨X, 0, none⟩), .func (.func 42) #[] #[]] w fun r w' => r = .returned (.tuple #[.string (bs (stUnit l).1), .bool true, .int .i64 0]) ∧ StLeft B X (l.drop (stUnit l).2.1) 0 F w w') := by
    have hu := stUnit_used l
    obtain ⟨ao, cap, rfl⟩ := hv.len
    rw [hw] at HFi
    have HX := Lib.hid hX
    have HV := Lib.hid hv
    have HFi2 := Lib.hid (hF)
    have HSl : Hid (∀ W, Below w.heap.size w W → ∃ u, (Instr.slice 39 (.slice ao l.length cap) (some (.int .i64 ((stUnit l).2.1 : Int))) none none).run Try.prog W = .ok u W ∧ OffB W B u (l.drop (stUnit l).2.1) ∧ u.ownBlock = Value.ownBlock (.slice ao l.length cap)) := fun W hW =>
      slice_off (hv.moves (Moves.ofBelow (S := nobody) hW) (fun _ _ h => h)) _ hu
    have hFX2 := Lib.hid hFX
    clear hX hv hw hF hl hst hFX hu
    generalize bs (stUnit l).1 = S at *
    generalize (stUnit l).2.1 = m at *
    generalize l.length = n at *
    go_enter Try.func39, Try.ntmps39
    go_wp2_with (first
      | (go_at_call 18; (with_reducible refine HB.out.mono ?_); rintro r w' ⟨rfl, hw⟩; have hw := hw.symm; subst hw)
      | (go_at_call 42; (with_reducible refine HFi.out.mono ?_); rintro r w1 ⟨rfl, b1⟩; have B1 := Lib.hid b1; obtain ⟨u, hu1, hu2, hu3⟩ := HSl.out _ b1; obtain ⟨uo, uc, rfl⟩ := hu2.len; rw [List.length_drop] at hu1 hu2 hu3; have HU2 := Lib.hid hu2; have HU3 := Lib.hid hu3; have hX1 := Holds.moves HX.out (Moves.ofBelow (S := nobody) b1) (fun h => h); have g0 := hX1.cell 0; have k0 := hX1.frozen 0; have HX1 := Lib.hid hX1; clear hX1 hu2 hu3 b1))
    go_ret3
    exact ⟨rfl, StAt.put HX1.out HU2.out hBX (Moves.ofBelow B1.out) hFX2.out (fun k hk => .inl (by rw [HFi2.out]; exact .inr (HU3.out ▸ hk)))⟩
  clear HB HFi c0 hst hX hv hF hl hFX
  go_enter Try.func13, Try.ntmps13
  go_wp2_with (go_at_call 39; (with_reducible refine HC.out.mono ?_); rintro r w1 ⟨rfl, h1⟩)
  go_ret3
  exact ⟨rfl, h1⟩
set_option maxRecDepth 100000 in
theorem xUnit_short {B X : Nat} {l : List UInt8} {F : Nat → Prop} {w : World} (h : StAt B X l 0 F w) (hl : l.length ≤ 1000000) (hw : (stUnit l).2.2 = 4) :
    Calls Try.prog 13 #[.pointer (some ⟨X, 0, none⟩)] w fun r w' => r = .returned (.tuple #[.string ⟨#[]⟩, .bool false, .int .i64 0]) ∧ StLeft B X l 0 F w w' := by
  have hFX := h.self
  have hst := Lib.hid h
  obtain ⟨v, hX, hv, hBX, hF⟩ := h
  have HB : Hid (Calls Try.prog 18 #[.pointer (some ⟨X, 0, none⟩)] w fun r w' => r = .returned (.int .i64 0) ∧ w' = w) := xBroken_any (e := 0) (hX.cell 1)
  have HFi := Lib.hid (xFindUnit_any hv hl)
  have c0 := hX.cell 0
  have HC : Hid (Calls Try.prog 39 #[.pointer (some ⟨X, 0, none⟩), .func (.func 42) #[] #[]] w fun r w' => r = .returned (.tuple #[.string ⟨#[]⟩, .bool false, .int .i64 0]) ∧ StLeft B X l 0 F w w') := by
    rw [hw] at HFi
    clear hX hv hw hF hl hFX
    generalize bs (stUnit l).1 = S at *
    generalize (stUnit l).2.1 = m at *
    go_enter Try.func39, Try.ntmps39
    go_wp2_with (first
      | (go_at_call 18; (with_reducible refine HB.out.mono ?_); rintro r w' ⟨rfl, hw⟩; have hw := hw.symm; subst hw)
      | (go_at_call 42; (with_reducible refine HFi.out.mono ?_); rintro r w1 ⟨rfl, b1⟩))
    go_ret3
    exact ⟨rfl, hst.out.left b1⟩
  clear HB HFi c0 hst hX hv hF hl hFX
  go_enter Try.func13, Try.ntmps13
  go_wp2_with (go_at_call 39; (with_reducible refine HC.out.mono ?_); rintro r w1 ⟨rfl, h1⟩)
  go_ret3
  exact ⟨rfl, h1⟩
set_option maxRecDepth 100000 in
theorem xUnit_wrong {B X : Nat} {l : List UInt8} {F : Nat → Prop} {w : World} (h : StAt B X l 0 F w) (hl : l.length ≤ 1000000) (h0 : (stUnit l).2.2 ≠ 0) (h4 : (stUnit l).2.2 ≠ 4) :
    Calls Try.prog 13 #[.pointer (some ⟨X, 0, none⟩)] w fun r w' => r = .returned (.tuple #[.string ⟨#[]⟩, .bool false, .int .i64 ((stUnit l).2.2 : Int)]) ∧ StLeft B X [] (stUnit l).2.2 F w w' := by
  have hFX := h.self
  have hst := Lib.hid h
  obtain ⟨v, hX, hv, hBX, hF⟩ := h
  have HB : Hid (Calls Try.prog 18 #[.pointer (some ⟨X, 0, none⟩)] w fun r w' => r = .returned (.int .i64 0) ∧ w' = w) := xBroken_any (e := 0) (hX.cell 1)
  have HFi := Lib.hid (xFindUnit_any hv hl)
  have c0 := hX.cell 0
  have HC : Hid (Calls Try.prog 39 #[.pointer (some ⟨X, 0, none⟩), .func (.func 42) #[] #[]] w fun r w' => r = .returned (.tuple #[.string ⟨#[]⟩, .bool false, .int .i64 ((stUnit l).2.2 : Int)]) ∧ StLeft B X [] (stUnit l).2.2 F w w') := by
    have HFa := Lib.hid (fun (W : World) (hW : Below w.heap.size w W) => xFail_any (hX.moves (Moves.ofBelow (S := nobody) hW) (fun h => h)) hBX hFX (stUnit l).2.2)
    have q1 : (((stUnit l).2.2 : Int) == 0) = false := by rw [beq_eq_false_iff_ne]; omega
    have q2 : (((stUnit l).2.2 : Int) == 4) = false := by rw [beq_eq_false_iff_ne]; omega
    have HF := Lib.hid hst.out.lt
    clear hX hv h0 h4 hF hl hst hFX
    generalize bs (stUnit l).1 = S at *
    generalize (stUnit l).2.1 = m at *
    generalize (stUnit l).2.2 = c at *
    go_enter Try.func39, Try.ntmps39
    go_wp2_with (first
      | (go_at_call 18; (with_reducible refine HB.out.mono ?_); rintro r w' ⟨rfl, hw⟩; have hw := hw.symm; subst hw)
      | (go_at_call 42; (with_reducible refine HFi.out.mono ?_); rintro r w1 ⟨rfl, b1⟩)
      | (go_at_call 44; (with_reducible refine (HFa.out _ b1).mono ?_); rintro r w2 ⟨rfl, h2⟩))
    go_ret3
    obtain ⟨F2, s2, m2, f2⟩ := h2
    exact ⟨rfl, F2, s2, (Moves.ofBelow b1).trans m2 (fun i hi => .inl hi), fun k hk => (f2 k hk).imp_right (fun h => Nat.le_trans b1.size h)⟩
  clear HB HFi c0 hst hX hv hF hl hFX
  go_enter Try.func13, Try.ntmps13
  go_wp2_with (go_at_call 39; (with_reducible refine HC.out.mono ?_); rintro r w1 ⟨rfl, h1⟩)
  go_ret3
  exact ⟨rfl, h1⟩
end Go.Proofs.Ytlalkpgipenkaaa
