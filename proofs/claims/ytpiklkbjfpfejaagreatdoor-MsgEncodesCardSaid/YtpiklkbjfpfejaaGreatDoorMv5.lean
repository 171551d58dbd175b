/- What is written of a value: names; any value; Value. -/
import Derived.Test.YtpiklkbjfpfejaaGreatDoorMv4
import Derived.Test.YtpiklkbjfpfejaaGreatDoorNJoin
namespace Go.Proofs.YtpiklkbjfpfejaaGreatDoor
open Go.RowKit

set_option maxRecDepth 100000 in
theorem nJoin_big {w : World} {v : Value} {xs : List (List UInt8)} (h : TextsAt w v (xs.map bs)) (hcap : ∀ ao cap, v = .slice ao xs.length cap → xs.length ≤ cap) (hl : xs.length ≤ 1000) (hs : ∀ x ∈ xs, x.length ≤ 1000000) :
    Calls Tryz.prog 62 #[v] w fun e w' => e = .returned (.tuple #[.string (if checkP xs = 0 then bs (joinL xs) else ⟨#[]⟩), .int .i64 (checkP xs : Int)]) ∧ Below w.heap.size w w' := by
  by_cases hc : checkP xs = 0
  · refine nJoin_any h hcap hl fun x hx => ?_
    have := (check_all hc).2 x hx
    unfold rightL at this
    rw [Bool.and_eq_true, decide_eq_true_eq] at this
    omega
  · have HC := Lib.hid (nCheck_any h (by unfold maxLen; omega) hs)
    rw [if_neg hc]
    obtain ⟨ao, cap, rfl, _⟩ := h
    rw [List.length_map] at *
    have hq : ((checkP xs : Int) != 0) = true := by rw [bne_iff_ne]; omega
    clear hcap hs
    generalize checkP xs = c at *
    go_enter Tryz.func62, Tryz.ntmps62
    go_wp2_with (go_at_call 87; refine HC.out.mono ?_; rintro e w1 ⟨rfl, b1⟩)
    go_ret2
    exact ⟨rfl, b1⟩

/-- A slice's elements lie within its room. -/
def Roomy (v : Value) (n : Nat) : Prop := ∀ ao cap, v = .slice ao n cap → n ≤ cap

set_option maxRecDepth 100000 in
theorem list_any (k : Int) {w : World} {v : Value} {l : List (List UInt8)} (hv : TextsAt w v (l.map bs)) (hcap : Roomy v l.length) (hl : l.length ≤ 1000) (hs : ∀ x ∈ l, x.length ≤ 1000000) :
    Calls Tryz.prog 37 #[.int .i32 k, v] w fun e w' => e = wroteV (wrList k l) ∧ Below w.heap.size w w' := by
  have HE := Lib.hid (exts_any hv (by omega) hs)
  have HJ := Lib.hid (nJoin_big hv hcap hl hs)
  unfold wroteV at *
  obtain ⟨ao, cap, rfl, _⟩ := hv
  rw [List.length_map] at *
  by_cases h101 : k = 101
  · subst h101
    have hw : wrList 101 l = extsP l := rfl
    rw [hw]
    clear hw hcap hs
    obtain ⟨S, hS⟩ : ∃ S, S = bs (extsP l).1 := ⟨_, rfl⟩
    rw [← hS] at HE
    generalize (extsP l).2 = n at *
    have HSS := Lib.hid hS
    clear hS HJ
    generalize l.length = m at *
    go_enter Tryz.func37, Tryz.ntmps37
    go_wp2_with (go_at_call 61; with_reducible refine HE.out.mono ?_; rintro e w1 ⟨rfl, b1⟩)
    go_ret2
    exact ⟨by rw [← HSS.out]; rfl, b1⟩
  have q101 : (k == 101) = false := by simpa using h101
  by_cases hc : checkP l = 0
  · have hw : wrList k l = (cnt (joinL l), 0) := by unfold wrList; rw [if_neg h101, if_pos hc]
    rw [hw]
    rw [if_pos hc, hc] at HJ
    have hjl : (joinL l).length ≤ 1000000 := by
      have h1 := joinL_le 64 l fun x hx => by
        have := (check_all hc).2 x hx
        unfold rightL at this
        rw [Bool.and_eq_true, decide_eq_true_eq] at this
        omega
      have h2 := Nat.mul_le_mul_right (64 + 1) hl
      omega
    have HT := Lib.hid (fun W => wText_any (joinL l) hjl W)
    clear hw hcap hs HE hc h101
    generalize bs (joinL l) = J at *
    generalize cnt (joinL l) = C at *
    generalize l.length = m at *
    go_enter Tryz.func37, Tryz.ntmps37
    go_wp2_with (first
      | (go_at_call 62; with_reducible refine HJ.out.mono ?_; rintro e w1 ⟨rfl, b1⟩)
      | (go_at_call 58; with_reducible refine (HT.out _).mono ?_; rintro e w2 ⟨rfl, b2⟩))
    go_ret2
    exact ⟨rfl, b1.trans (b2.mono b1.size)⟩
  · have hw : wrList k l = ([], checkP l) := by unfold wrList; rw [if_neg h101, if_neg hc]
    rw [hw]
    rw [if_neg hc] at HJ
    have hq : ((checkP l : Int) != 0) = true := by rw [bne_iff_ne]; omega
    clear hw hcap hs HE hc h101
    generalize checkP l = c at *
    generalize l.length = m at *
    go_enter Tryz.func37, Tryz.ntmps37
    go_wp2_with (go_at_call 62; with_reducible refine HJ.out.mono ?_; rintro e w1 ⟨rfl, b1⟩)
    go_ret2
    exact ⟨rfl, b1⟩

/-- What is written of x as a value of the letter k. -/
def writeP (k : Int) (x : FieldR) : Wrote :=
  if (x.kind.toNat : Int) ≠ k ∨ onlyP k x = false then ([], 3)
  else if usesP k = 1 then wrNum k x.n else if usesP k = 2 then wrBytes k x.s else if usesP k = 3 then wrList k x.l else ([], 3)
/-- What the walks ask of a value. -/
structure FieldOk (x : FieldR) : Prop where
  n : -9223372036854775808 ≤ x.n ∧ x.n ≤ 9223372036854775807
  s : x.s.length ≤ 100000
  l : x.l.length ≤ 1000
  ls : ∀ y ∈ x.l, y.length ≤ 1000000

set_option maxHeartbeats 1000000 in
set_option maxRecDepth 100000 in
theorem write_any (k : Int) {x : FieldR} {w : World} {v : Value} (hv : TextsAt w v (x.l.map bs)) (hcap : Roomy v x.l.length) (ho : FieldOk x) :
    Calls Tryz.prog 18 #[.int .i32 k, fieldV x v] w fun e w' => e = wroteV (writeP k x) ∧ Below w.heap.size w w' := by
  have HO := Lib.hid (fun (W : World) (hb : Below w.heap.size w W) => only_any k x (hv.below hb))
  have HU := Lib.hid (fun W => used_any k W)
  have HN := Lib.hid (fun W => number_any k x.n ho.n W)
  have HB := Lib.hid (fun W => bytes_any k x.s ho.s W)
  have HL := Lib.hid (fun (W : World) (hb : Below w.heap.size w W) => list_any k (hv.below hb) hcap ho.l ho.ls)
  obtain ⟨ao, cap, rfl, _⟩ := hv
  rw [List.length_map] at *
  obtain ⟨kd, n, s, l⟩ := x
  have hkd : (kd.toNat : Int) < 256 := by have := kd.toNat_lt; omega
  have hw32 : IntKind.i32.wrap (kd.toNat : Int) = (kd.toNat : Int) := IntWalk.i32_in _ (by omega)
  unfold wroteV fieldV at *
  simp only at *
  have HF := Lib.hid ((Below.refl w.heap.size w).alloc (Nat.le_refl _) (.cells #[.int .u8 (kd.toNat : Int), .int .i64 n, .string (bs s), .slice ao l.length cap] 47))
  have HH := Lib.hid (Holds.new w 47 #[.int .u8 (kd.toNat : Int), .int .i64 n, .string (bs s), .slice ao l.length cap])
  have HW : Hid (writeP k ⟨kd, n, s, l⟩ = if (kd.toNat : Int) ≠ k ∨ onlyP k ⟨kd, n, s, l⟩ = false then ([], 3) else if usesP k = 1 then wrNum k n else if usesP k = 2 then wrBytes k s else if usesP k = 3 then wrList k l else ([], 3)) := rfl
  rw [HW.out]
  clear HW hcap ho
  generalize onlyP k ⟨kd, n, s, l⟩ = o at *
  generalize wrNum k n = p1 at *
  generalize wrBytes k s = p2 at *
  generalize wrList k l = p3 at *
  obtain ⟨s1, e1⟩ := p1
  obtain ⟨s2, e2⟩ := p2
  obtain ⟨s3, e3⟩ := p3
  simp only at *
  generalize bs s = S at *
  generalize hS1 : bs s1 = S1 at *
  have HS1 := Lib.hid hS1
  clear hS1
  generalize hS2 : bs s2 = S2 at *
  have HS2 := Lib.hid hS2
  clear hS2
  generalize hS3 : bs s3 = S3 at *
  have HS3 := Lib.hid hS3
  clear hS3
  generalize l.length = m at *
  generalize kd.toNat = kn at *
  have q1 : ((usesP k : Int) == 1) = decide (usesP k = 1) := by by_cases h : usesP k = 1 <;> simp [h]; omega
  have q2 : ((usesP k : Int) == 2) = decide (usesP k = 2) := by by_cases h : usesP k = 2 <;> simp [h]; omega
  have q3 : ((usesP k : Int) == 3) = decide (usesP k = 3) := by by_cases h : usesP k = 3 <;> simp [h]; omega
  generalize usesP k = u at *
  by_cases hk : (kn : Int) = k
  · subst hk
    have hqk : ((kn : Int) != (kn : Int)) = false := by simp
    cases o with
    | false =>
      rw [if_pos (.inr rfl)]
      clear HN HB HL
      go_enter Tryz.func18, Tryz.ntmps18
      go_wp2_with (first
      | (go_at_call 33; with_reducible refine (HO.out _ HF.out).mono ?_; rintro e w1 ⟨rfl, b1⟩; have hb1 := HF.out.trans (b1.mono HF.out.size); have hH := HH.out.moves (Moves.ofBelow (S := nobody) b1) (fun h => h); have c1 := hH.cell 1; have c2 := hH.cell 2; have c3 := hH.cell 3)
      | (go_at_call 34; with_reducible refine (HU.out _).mono ?_; rintro e w2 ⟨rfl, hw⟩; have hw := hw.symm; subst hw)
      | (go_at_call 35; with_reducible refine (HN.out _).mono ?_; rintro e w3 ⟨rfl, b3⟩; have hb3 := hb1.trans (b3.mono hb1.size))
      | (go_at_call 36; with_reducible refine (HB.out _).mono ?_; rintro e w3 ⟨rfl, b3⟩; have hb3 := hb1.trans (b3.mono hb1.size))
      | (go_at_call 37; with_reducible refine (HL.out _ hb1).mono ?_; rintro e w3 ⟨rfl, b3⟩; have hb3 := hb1.trans (b3.mono hb1.size)))
      go_ret2
      exact ⟨rfl, hb1⟩
    | true =>
      rw [if_neg (by simp)]
      by_cases h1 : u = 1
      · rw [if_pos h1]
        subst h1
        go_enter Tryz.func18, Tryz.ntmps18
        go_wp2_with (first
      | (go_at_call 33; with_reducible refine (HO.out _ HF.out).mono ?_; rintro e w1 ⟨rfl, b1⟩; have hb1 := HF.out.trans (b1.mono HF.out.size); have hH := HH.out.moves (Moves.ofBelow (S := nobody) b1) (fun h => h); have c1 := hH.cell 1; have c2 := hH.cell 2; have c3 := hH.cell 3)
      | (go_at_call 34; with_reducible refine (HU.out _).mono ?_; rintro e w2 ⟨rfl, hw⟩; have hw := hw.symm; subst hw)
      | (go_at_call 35; with_reducible refine (HN.out _).mono ?_; rintro e w3 ⟨rfl, b3⟩; have hb3 := hb1.trans (b3.mono hb1.size))
      | (go_at_call 36; with_reducible refine (HB.out _).mono ?_; rintro e w3 ⟨rfl, b3⟩; have hb3 := hb1.trans (b3.mono hb1.size))
      | (go_at_call 37; with_reducible refine (HL.out _ hb1).mono ?_; rintro e w3 ⟨rfl, b3⟩; have hb3 := hb1.trans (b3.mono hb1.size)))
        go_ret2
        exact ⟨by rw [← HS1.out]; rfl, hb3⟩
      rw [if_neg h1]
      rw [decide_eq_false h1] at q1
      by_cases h2 : u = 2
      · rw [if_pos h2]
        subst h2
        go_enter Tryz.func18, Tryz.ntmps18
        go_wp2_with (first
      | (go_at_call 33; with_reducible refine (HO.out _ HF.out).mono ?_; rintro e w1 ⟨rfl, b1⟩; have hb1 := HF.out.trans (b1.mono HF.out.size); have hH := HH.out.moves (Moves.ofBelow (S := nobody) b1) (fun h => h); have c1 := hH.cell 1; have c2 := hH.cell 2; have c3 := hH.cell 3)
      | (go_at_call 34; with_reducible refine (HU.out _).mono ?_; rintro e w2 ⟨rfl, hw⟩; have hw := hw.symm; subst hw)
      | (go_at_call 35; with_reducible refine (HN.out _).mono ?_; rintro e w3 ⟨rfl, b3⟩; have hb3 := hb1.trans (b3.mono hb1.size))
      | (go_at_call 36; with_reducible refine (HB.out _).mono ?_; rintro e w3 ⟨rfl, b3⟩; have hb3 := hb1.trans (b3.mono hb1.size))
      | (go_at_call 37; with_reducible refine (HL.out _ hb1).mono ?_; rintro e w3 ⟨rfl, b3⟩; have hb3 := hb1.trans (b3.mono hb1.size)))
        go_ret2
        exact ⟨by rw [← HS2.out]; rfl, hb3⟩
      rw [if_neg h2]
      rw [decide_eq_false h2] at q2
      by_cases h3 : u = 3
      · rw [if_pos h3]
        subst h3
        go_enter Tryz.func18, Tryz.ntmps18
        go_wp2_with (first
      | (go_at_call 33; with_reducible refine (HO.out _ HF.out).mono ?_; rintro e w1 ⟨rfl, b1⟩; have hb1 := HF.out.trans (b1.mono HF.out.size); have hH := HH.out.moves (Moves.ofBelow (S := nobody) b1) (fun h => h); have c1 := hH.cell 1; have c2 := hH.cell 2; have c3 := hH.cell 3)
      | (go_at_call 34; with_reducible refine (HU.out _).mono ?_; rintro e w2 ⟨rfl, hw⟩; have hw := hw.symm; subst hw)
      | (go_at_call 35; with_reducible refine (HN.out _).mono ?_; rintro e w3 ⟨rfl, b3⟩; have hb3 := hb1.trans (b3.mono hb1.size))
      | (go_at_call 36; with_reducible refine (HB.out _).mono ?_; rintro e w3 ⟨rfl, b3⟩; have hb3 := hb1.trans (b3.mono hb1.size))
      | (go_at_call 37; with_reducible refine (HL.out _ hb1).mono ?_; rintro e w3 ⟨rfl, b3⟩; have hb3 := hb1.trans (b3.mono hb1.size)))
        go_ret2
        exact ⟨by rw [← HS3.out]; rfl, hb3⟩
      rw [if_neg h3]
      rw [decide_eq_false h3] at q3
      clear h1 h2 h3
      go_enter Tryz.func18, Tryz.ntmps18
      go_wp2_with (first
      | (go_at_call 33; with_reducible refine (HO.out _ HF.out).mono ?_; rintro e w1 ⟨rfl, b1⟩; have hb1 := HF.out.trans (b1.mono HF.out.size); have hH := HH.out.moves (Moves.ofBelow (S := nobody) b1) (fun h => h); have c1 := hH.cell 1; have c2 := hH.cell 2; have c3 := hH.cell 3)
      | (go_at_call 34; with_reducible refine (HU.out _).mono ?_; rintro e w2 ⟨rfl, hw⟩; have hw := hw.symm; subst hw)
      | (go_at_call 35; with_reducible refine (HN.out _).mono ?_; rintro e w3 ⟨rfl, b3⟩; have hb3 := hb1.trans (b3.mono hb1.size))
      | (go_at_call 36; with_reducible refine (HB.out _).mono ?_; rintro e w3 ⟨rfl, b3⟩; have hb3 := hb1.trans (b3.mono hb1.size))
      | (go_at_call 37; with_reducible refine (HL.out _ hb1).mono ?_; rintro e w3 ⟨rfl, b3⟩; have hb3 := hb1.trans (b3.mono hb1.size)))
      go_ret2
      exact ⟨rfl, hb1⟩
  · have hqk : ((kn : Int) != k) = true := by simpa using hk
    rw [if_pos (.inl hk)]
    clear hk HN HB HL HO HU
    go_enter Tryz.func18, Tryz.ntmps18
    go_wp2_with fail
    go_ret2
    exact ⟨rfl, HF.out⟩

def valueP (x : FieldR) : List UInt8 × Bool := ((writeP x.kind.toNat x).1, decide ((writeP x.kind.toNat x).2 = 0))
end Go.Proofs.YtpiklkbjfpfejaaGreatDoor
