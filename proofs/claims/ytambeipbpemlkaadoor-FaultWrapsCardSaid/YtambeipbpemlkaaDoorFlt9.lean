/- The page's example of layer 5; the walks of FaultPlain and FaultOdd. -/
import Derived.Test.YtambeipbpemlkaaDoorFlt8
import Derived.Test.YtambeipbpemlkaaDoorNSm
import Derived.Test.YtambeipbpemlkaaDoorForms
import Derived.Test.YtambeipbpemlkaaDoorRows
import Derived.LaidHandle
import Derived.Laws.Concat
namespace Go.Proofs.YtambeipbpemlkaaDoor
open Go.RowKit

theorem et_is : Tryd.prog.globalNamed "errors.errorType" = some 1 := by kernel_rfl
theorem rt_is : (Tryd.prog.cutTypes.find? (·.1 == "internal/reflectlite.rtype")).map (·.2) = some 97 := by kernel_rfl
set_option maxRecDepth 100000 in
theorem one_row : ((List.range Tryd.prog.types.size).filter fun t => Tryd.prog.rowNamed t [101, 114, 114, 111, 114]) = [26] := by kernel_rfl
def laidErr : List (String × DataW Unit) := [("errors.errorType", Rows.laid_errors_errorType)]
theorem typeOfError_of_laid {W : World} (h : laidMetH Tryd.prog laidErr W) : TypeOfError W := by
  have h' : laidMet Tryd.prog [] W ∧ handlesMet Tryd.prog laidErr W := h
  obtain ⟨name, u, ty, e1, e2, e3, e4, e5⟩ := h'.2 _ (List.mem_singleton.2 rfl)
  have en : name = [101, 114, 114, 111, 114] := (Option.some.inj e1).symm
  subst en
  obtain rfl := Option.some.inj (rt_is.symm.trans e2)
  have hm : ty ∈ (List.range Tryd.prog.types.size).filter fun t => Tryd.prog.rowNamed t [101, 114, 114, 111, 114] := List.mem_filter.2 ⟨List.mem_range.2 e3, e4⟩
  rw [one_row] at hm
  obtain rfl := List.mem_singleton.1 hm
  have hh : typeHandle Tryd.prog 26 = .pointer (some ⟨3, 26, none⟩) := by kernel_rfl
  rw [hh] at e5
  have hc : W.cell? ⟨1, 0, none⟩ = some (.iface 97 (.agg #[.pointer (some ⟨3, 26, none⟩)])) := by simpa using World.var?_cell et_is e5 0
  exact ⟨World.block_lt_of_cell? W _ hc, hc⟩

/-- At and Of, the pointer told. -/
theorem fAt_ptr {w : World} {t : TypeId} {u : Value} {path : List ByteArray} {n : Option Int} (hv : ErrAt w (.iface t u) path n) (x : ByteArray) : Calls Tryd.prog 21 #[.string x, .iface t u] w fun r w' => ∃ b, r = .returned (.iface 37 (.pointer (some ⟨b, 0, none⟩))) ∧ ErrAt w' (.iface 37 (.pointer (some ⟨b, 0, none⟩))) (x :: path) n ∧ Below w.heap.size w w' :=
  (fAt_any hv (by simp) x).mono fun r w' ⟨v', h1, h2, _, h4⟩ => by
    obtain ⟨b, rfl⟩ : ∃ b, v' = .iface 37 (.pointer (some ⟨b, 0, none⟩)) := by cases h2; exact ⟨_, rfl⟩
    exact ⟨b, h1, h2, h4⟩
theorem fOf_ptr (x : ByteArray) (e : Int) (he : e ≠ 0) (w : World) : Calls Tryd.prog 33 #[.string x, .int .i64 e] w fun r w' => ∃ b, r = .returned (.iface 37 (.pointer (some ⟨b, 0, none⟩))) ∧ ErrAt w' (.iface 37 (.pointer (some ⟨b, 0, none⟩))) [x] (some e) ∧ Below w.heap.size w w' :=
  (fOf_any x e he w).mono fun r w' ⟨v', h1, h2, _, h4⟩ => by
    obtain ⟨b, rfl⟩ : ∃ b, v' = .iface 37 (.pointer (some ⟨b, 0, none⟩)) := by cases h2; exact ⟨_, rfl⟩
    exact ⟨b, h1, h2, h4⟩

def kexS : ByteArray := ⟨#[107, 101, 120, 105, 110, 105, 116]⟩
def listS : ByteArray := ⟨#[108, 105, 115, 116]⟩
theorem tell_example : tellP [kexS, listS] (some 3) = ⟨#[107, 101, 120, 105, 110, 105, 116, 58, 32, 108, 105, 115, 116, 58, 32, 102, 111, 114, 109]⟩ := by decide +kernel
set_option maxRecDepth 100000 in
theorem awake5_any {w : World} (hg : TypeOfError w) : Calls Tryd.prog 8 #[] w fun r w' => r = .returned (.bool true) ∧ Below w.heap.size w w' := by
  have HO : Hid (Calls Tryd.prog 33 #[.string ⟨#[108, 105, 115, 116]⟩, .int .i64 3] w fun r w' => ∃ b, r = .returned (.iface 37 (.pointer (some ⟨b, 0, none⟩))) ∧ ErrAt w' (.iface 37 (.pointer (some ⟨b, 0, none⟩))) [listS] (some 3) ∧ Below w.heap.size w w') := fOf_ptr listS 3 (by decide) w
  have HA : Hid (∀ (W : World) (b : Nat), ErrAt W (.iface 37 (.pointer (some ⟨b, 0, none⟩))) [listS] (some 3) → Calls Tryd.prog 21 #[.string ⟨#[107, 101, 120, 105, 110, 105, 116]⟩, .iface 37 (.pointer (some ⟨b, 0, none⟩))] W fun r w' => ∃ b, r = .returned (.iface 37 (.pointer (some ⟨b, 0, none⟩))) ∧ ErrAt w' (.iface 37 (.pointer (some ⟨b, 0, none⟩))) [kexS, listS] (some 3) ∧ Below W.heap.size W w') := fun W b h => fAt_ptr h kexS
  have hsz : ∀ y ∈ [kexS, listS], y.size ≤ 1000 := by decide
  have HT : Hid (∀ (W : World) (b : Nat), Below w.heap.size w W → ErrAt W (.iface 37 (.pointer (some ⟨b, 0, none⟩))) [kexS, listS] (some 3) → Calls Tryd.prog 15 #[.iface 37 (.pointer (some ⟨b, 0, none⟩))] W fun r w' => r = .returned (.string (tellP [kexS, listS] (some 3))) ∧ Below W.heap.size W w') := fun W b hb h => w5Text_fault (hg.later hb) h (by simp) hsz
  have HR : Hid (∀ (W : World) (b : Nat), Below w.heap.size w W → ErrAt W (.iface 37 (.pointer (some ⟨b, 0, none⟩))) [kexS, listS] (some 3) → Calls Tryd.prog 13 #[.iface 37 (.pointer (some ⟨b, 0, none⟩))] W fun r w' => r = .returned (.int .i64 2) ∧ Below W.heap.size W w') := fun W b hb h => fReason_any (hg.later hb) h
  have hq : ((tellP [kexS, listS] (some 3)).toList == [107, 101, 120, 105, 110, 105, 116, 58, 32, 108, 105, 115, 116, 58, 32, 102, 111, 114, 109]) = true := by rw [tell_example]; decide +kernel
  clear hg hsz
  generalize tellP [kexS, listS] (some 3) = S at *
  go_enter Tryd.func8, Tryd.ntmps8
  go_wp2_with (first
    | (go_at_call 33; with_reducible refine HO.out.mono ?_; rintro r w1 ⟨b, rfl, e1, b1⟩)
    | (go_at_call 21; with_reducible refine (HA.out _ _ e1).mono ?_; rintro r w2 ⟨b', rfl, e2, b2⟩; have b12 := b1.trans (b2.mono b1.size))
    | (go_at_call 15; with_reducible refine (HT.out _ _ b12 e2).mono ?_; rintro r w3 ⟨rfl, b3⟩; have b13 := b12.trans (b3.mono b12.size); have e3 := e2.later b3)
    | (go_at_call 13; with_reducible refine (HR.out _ _ b13 e3).mono ?_; rintro r w4 ⟨rfl, b4⟩))
  go_ret
  exact ⟨rfl, b13.trans (b4.mono b13.size)⟩

set_option maxHeartbeats 2000000 in
set_option maxRecDepth 100000 in
theorem faultPlain_any {w : World} (hg : TypeOfError w) (n : Int) : Calls Tryd.prog 4 #[.int .i64 n] w fun r w' => r = .returned (.bool true) ∧ Below w.heap.size w w' := by
  have HG : Hid (∀ W, Below w.heap.size w W → TypeOfError W) := fun W hb => hg.later hb
  have HC : Hid (∀ W, Below w.heap.size w W → Calls Tryd.prog 10 #[.iface 24 (.int .i64 n)] W fun r w' => r = .returned (.int .i64 n) ∧ Below W.heap.size W w') := fun W hb => fCode_any (HG.out W hb) (ErrAt.num (w := W) n)
  have HP : Hid (∀ W, Below w.heap.size w W → Calls Tryd.prog 12 #[.iface 24 (.int .i64 n)] W fun r w' => ∃ ao cap, r = .returned (.slice ao 0 cap) ∧ Below W.heap.size W w') := fun W hb => (fPath_any (HG.out W hb) (ErrAt.num (w := W) n) (by simp)).mono fun r w' ⟨s, h1, ⟨ao, cap, h2, _⟩, h3⟩ => ⟨ao, cap, by rw [h1, h2]; rfl, h3⟩
  have HR : Hid (∀ W, Below w.heap.size w W → Calls Tryd.prog 13 #[.iface 24 (.int .i64 n)] W fun r w' => r = .returned (.int .i64 (reasonP n)) ∧ Below W.heap.size W w') := fun W hb => fReason_any (HG.out W hb) (ErrAt.num (w := W) n)
  have HRO := Lib.hid (fReasonOf_any n)
  have HRR := Lib.hid (ref5Reason_any n)
  have HI : Hid (∀ W, Calls Tryd.prog 11 #[.iface 24 (.int .i64 n), .int .i64 n] W fun r w' => r = .returned (.bool (n != 0)) ∧ Below W.heap.size W w') := fun W => (fIs_any (ErrAt.num (w := W) n) n).mono fun r w' ⟨h1, h2⟩ => ⟨by
    rw [h1]
    congr 2
    unfold isP
    by_cases h : n = 0
    · simp [h]
    · rw [if_neg h]; simp [h], h2⟩
  have HAW : Hid (∀ W, Below w.heap.size w W → Calls Tryd.prog 8 #[] W fun r w' => r = .returned (.bool true) ∧ Below W.heap.size W w') := fun W hb => awake5_any (HG.out W hb)
  have HE := Lib.hid fError_nil
  have HU := Lib.hid fUnwrap_nil
  have HAt := Lib.hid (fAt_nil ⟨#[120]⟩)
  clear hg
  generalize reasonP n = R at *
  have hn1 : (n != n) = false := by simp
  have hn2 : (R != R) = false := by simp
  go_enter Tryd.func4, Tryd.ntmps4
  go_wp2_with (first
    | (go_at_call 10; with_reducible refine (HC.out _ (Below.refl _ _)).mono ?_; rintro r w1 ⟨rfl, b1⟩)
    | (go_at_call 12; with_reducible refine (HP.out _ b1).mono ?_; rintro r w2 ⟨ao, cap, rfl, c2⟩; have b2 := b1.trans (c2.mono b1.size))
    | (go_at_call 13; with_reducible refine (HR.out _ b2).mono ?_; rintro r w3 ⟨rfl, c3⟩; have b3 := b2.trans (c3.mono b2.size))
    | (go_at_call 18; with_reducible refine (HRO.out _).mono ?_; rintro r w5 ⟨rfl, c5⟩; have b5 := b4.trans (c5.mono b4.size))
    | (go_at_call 17; with_reducible refine (HRR.out _).mono ?_; rintro r w6 ⟨rfl, c6⟩; have b6 := b5.trans (c6.mono b5.size))
    | (go_at_call 17; with_reducible refine (HRR.out _).mono ?_; rintro r w4 ⟨rfl, c4⟩; have b4 := b3.trans (c4.mono b3.size))
    | (go_at_call 8; with_reducible refine (HAW.out _ b6).mono ?_; rintro r w7 ⟨rfl, c7⟩; have b7 := b6.trans (c7.mono b6.size))
    | (go_at_call 11; with_reducible refine (HI.out _).mono ?_; rintro r w8 ⟨rfl, c8⟩; have b8 := b7.trans (c8.mono b7.size))
    | (go_at_call 19; with_reducible refine (HE.out _).mono ?_; rintro r w9 ⟨rfl, hw⟩; subst hw)
    | (go_at_call 20; with_reducible refine (HU.out _).mono ?_; rintro r w10 ⟨rfl, hw⟩; subst hw)
    | (go_at_call 21; with_reducible refine (HAt.out _).mono ?_; rintro r w11 ⟨rfl, hw⟩; subst hw))
  go_ret
  exact ⟨rfl, b8⟩

theorem tell_one (b : ByteArray) : tellP [b] none = b := by
  cases b
  simp [tellP, joinP, Lib.join]
theorem tell_two (a b : ByteArray) : tellP [a, b] none = a ++ ⟨#[58, 32]⟩ ++ b := by
  have h : (tellP [a, b] none).data = (a ++ ⟨#[58, 32]⟩ ++ b).data := by
    simp [tellP, joinP, Lib.join, List.intercalate_cons_cons, ByteArray.data_append]
  cases h1 : tellP [a, b] none
  cases h2 : a ++ ⟨#[58, 32]⟩ ++ b
  rw [h1, h2] at h
  simpa using h

set_option maxHeartbeats 4000000 in
set_option maxRecDepth 100000 in
theorem faultOdd_small {w : World} (hg : TypeOfError w) (a b : ByteArray) (ha : a.size ≤ 50) (hb : b.size ≤ 50) : Calls Tryd.prog 5 #[.string a, .string b] w fun r w' => r = .returned (.bool true) ∧ Below w.heap.size w w' := by
  have HG : Hid (∀ W, Below w.heap.size w W → TypeOfError W) := fun W hb => hg.later hb
  have hb1 : Below w.heap.size w (w.alloc (.cells #[.string b, .nilIface] 43)) := (Below.refl _ _).alloc (Nat.le_refl _) _
  have hb2 : Below w.heap.size w ((w.alloc (.cells #[.string b, .nilIface] 43)).alloc (.cells #[.string a, .iface 37 (.pointer (some ⟨w.heap.size, 0, none⟩))] 43)) := hb1.alloc (by simp) _
  have hN1 := Holds.new w 43 #[.string b, .nilIface]
  have hN1' := hN1.moves ((Moves.refl nobody _).alloc (.cells #[.string a, .iface 37 (.pointer (some ⟨w.heap.size, 0, none⟩))] 43)) (fun h => h)
  have hN2 := Holds.new (w.alloc (.cells #[.string b, .nilIface] 43)) 43 #[.string a, .iface 37 (.pointer (some ⟨w.heap.size, 0, none⟩))]
  rw [World.size_alloc] at hN2
  have hin : ErrAt ((w.alloc (.cells #[.string b, .nilIface] 43)).alloc (.cells #[.string a, .iface 37 (.pointer (some ⟨w.heap.size, 0, none⟩))] 43)) (.iface 37 (.pointer (some ⟨w.heap.size, 0, none⟩))) [b] none := .fault hN1'.lt (hN1'.cell 0) (hN1'.cell 1) .none
  have hout : ErrAt ((w.alloc (.cells #[.string b, .nilIface] 43)).alloc (.cells #[.string a, .iface 37 (.pointer (some ⟨w.heap.size, 0, none⟩))] 43)) (.iface 37 (.pointer (some ⟨w.heap.size + 1, 0, none⟩))) [a, b] none := .fault hN2.lt (hN2.cell 0) (hN2.cell 1) hin
  have HIn : Hid (∀ W, Below ((w.alloc (.cells #[.string b, .nilIface] 43)).alloc (.cells #[.string a, .iface 37 (.pointer (some ⟨w.heap.size, 0, none⟩))] 43)).heap.size ((w.alloc (.cells #[.string b, .nilIface] 43)).alloc (.cells #[.string a, .iface 37 (.pointer (some ⟨w.heap.size, 0, none⟩))] 43)) W → Below w.heap.size w W ∧ ErrAt W (.iface 37 (.pointer (some ⟨w.heap.size, 0, none⟩))) [b] none ∧ ErrAt W (.iface 37 (.pointer (some ⟨w.heap.size + 1, 0, none⟩))) [a, b] none) := fun W h => ⟨hb2.trans (h.mono hb2.size), hin.later h, hout.later h⟩
  have hs1 : ∀ y ∈ [b], y.size ≤ 1000 := by intro y hy; simp at hy; rw [hy]; omega
  have hs2 : ∀ y ∈ [a, b], y.size ≤ 1000 := by intro y hy; simp at hy; rcases hy with rfl | rfl <;> omega
  have HS1 := Lib.hid hs1
  have HS2 := Lib.hid hs2
  have hq1 := same_yes (tell_one b)
  have hq2 := same_yes (tell_two a b)
  rw [tell_one] at hq1
  rw [tell_two] at hq2
  have HT1 := Lib.hid (tell_one b)
  have HT2 := Lib.hid (tell_two a b)
  have HAW : Hid (∀ W, Below w.heap.size w W → Calls Tryd.prog 8 #[] W fun r w' => r = .returned (.bool true) ∧ Below W.heap.size W w') := fun W hb => awake5_any (HG.out W hb)
  have g1 : ∀ W : World, (Op.stringOp .add a ⟨#[58, 32]⟩).run Tryd.prog W = .ok (.string (a ++ ⟨#[58, 32]⟩)) W := fun W => run_string_add_sum (P := Tryd.prog) W a ⟨#[58, 32]⟩ (by show a.size + 2 ≤ _; omega)
  have g2 : ∀ W : World, (Op.stringOp .add (a ++ ⟨#[58, 32]⟩) b).run Tryd.prog W = .ok (.string (a ++ ⟨#[58, 32]⟩ ++ b)) W := fun W => run_string_add_sum (P := Tryd.prog) W (a ++ ⟨#[58, 32]⟩) b (by rw [ByteArray.size_append]; show a.size + 2 + b.size ≤ _; omega)
  clear hg hb1 hb2 hN1 hN1' hN2 hin hout hs1 hs2
  go_enter Tryd.func5, Tryd.ntmps5
  go_wp2_with (fail)
  generalize (w.alloc (.cells #[.string b, .nilIface] 43)).alloc (.cells #[.string a, .iface 37 (.pointer (some ⟨w.heap.size, 0, none⟩))] 43) = W0 at *
  have HE1 : Hid (∀ W, Below W0.heap.size W0 W → Calls Tryd.prog 19 #[.pointer (some ⟨w.heap.size, 0, none⟩)] W fun r w' => r = .returned (.string b) ∧ Below W.heap.size W w') := fun W h => by
    obtain ⟨h1, h2, _⟩ := HIn.out W h
    have := fError_any (HG.out W h1) h2 (by simp) HS1.out
    rwa [HT1.out] at this
  have HE2 : Hid (∀ W, Below W0.heap.size W0 W → Calls Tryd.prog 19 #[.pointer (some ⟨w.heap.size + 1, 0, none⟩)] W fun r w' => r = .returned (.string (a ++ ⟨#[58, 32]⟩ ++ b)) ∧ Below W.heap.size W w') := fun W h => by
    obtain ⟨h1, _, h2⟩ := HIn.out W h
    have := fError_any (HG.out W h1) h2 (by simp) HS2.out
    rwa [HT2.out] at this
  have HC1 : Hid (∀ W, Below W0.heap.size W0 W → Calls Tryd.prog 10 #[.iface 37 (.pointer (some ⟨w.heap.size, 0, none⟩))] W fun r w' => r = .returned (.int .i64 14) ∧ Below W.heap.size W w') := fun W h => by
    obtain ⟨h1, h2, _⟩ := HIn.out W h
    exact fCode_any (HG.out W h1) h2
  have HC2 : Hid (∀ W, Below W0.heap.size W0 W → Calls Tryd.prog 10 #[.iface 37 (.pointer (some ⟨w.heap.size + 1, 0, none⟩))] W fun r w' => r = .returned (.int .i64 14) ∧ Below W.heap.size W w') := fun W h => by
    obtain ⟨h1, _, h2⟩ := HIn.out W h
    exact fCode_any (HG.out W h1) h2
  have HR : Hid (∀ W, Below W0.heap.size W0 W → Calls Tryd.prog 13 #[.iface 37 (.pointer (some ⟨w.heap.size + 1, 0, none⟩))] W fun r w' => r = .returned (.int .i64 2) ∧ Below W.heap.size W w') := fun W h => by
    obtain ⟨h1, _, h2⟩ := HIn.out W h
    exact fReason_any (HG.out W h1) h2
  have HP : Hid (∀ W, Below W0.heap.size W0 W → Calls Tryd.prog 12 #[.iface 37 (.pointer (some ⟨w.heap.size + 1, 0, none⟩))] W fun r w' => ∃ ao cap, r = .returned (.slice ao 2 cap) ∧ TextsAt w' (.slice ao 2 cap) [a, b] ∧ Below W.heap.size W w') := fun W h => by
    obtain ⟨h1, _, h2⟩ := HIn.out W h
    exact (fPath_any (HG.out W h1) h2 (by simp)).mono fun r w' ⟨s, e1, e2, e3⟩ => by
      obtain ⟨ao, cap, rfl, hc⟩ := id e2
      exact ⟨ao, cap, e1, e2, e3⟩
  have HI : Hid (∀ W, Below W0.heap.size W0 W → Calls Tryd.prog 11 #[.iface 37 (.pointer (some ⟨w.heap.size + 1, 0, none⟩)), .int .i64 3] W fun r w' => r = .returned (.bool false) ∧ Below W.heap.size W w') := fun W h => by
    obtain ⟨_, _, h2⟩ := HIn.out W h
    exact fIs_any h2 3
  have HS : Hid (∀ (W : World) (v v' : Value), TextsAt W v [a, b] → TextsAt W v' [a, b] → Calls Tryd.prog 14 #[v, v'] W fun e w' => e = .returned (.bool true) ∧ Below W.heap.size W w') := fun W v v' h h' =>
    (same_any h h' (by unfold maxLen; simp)).mono fun e w' ⟨he, hb⟩ => ⟨by rw [he, decide_eq_true rfl], hb⟩
  have HAW' : Hid (Calls Tryd.prog 8 #[] W0 fun r w' => r = .returned (.bool true) ∧ Below W0.heap.size W0 w') := HAW.out W0 (HIn.out W0 (Below.refl _ _)).1
  have HB0 : Hid (∀ W, Below W0.heap.size W0 W → Below w.heap.size w W) := fun W h => (HIn.out W h).1
  clear HT1 HT2 HS1 HS2 HIn HG HAW
  generalize a ++ ⟨#[58, 32]⟩ ++ b = S2 at *
  generalize a ++ ⟨#[58, 32]⟩ = S1 at *
  go_wp2_with (first
    | (go_at_call 8; with_reducible refine HAW'.out.mono ?_; rintro r w1 ⟨rfl, b1⟩)
    | (go_at_call 19; with_reducible refine (HE1.out _ b1).mono ?_; rintro r w2 ⟨rfl, c2⟩; have b2 := b1.trans (c2.mono b1.size))
    | (go_at_call 19; with_reducible refine (HE2.out _ b2).mono ?_; rintro r w3 ⟨rfl, c3⟩; have b3 := b2.trans (c3.mono b2.size))
    | (go_at_call 10; with_reducible refine (HC2.out _ b3).mono ?_; rintro r w4 ⟨rfl, c4⟩; have b4 := b3.trans (c4.mono b3.size))
    | (go_at_call 10; with_reducible refine (HC1.out _ b4).mono ?_; rintro r w5 ⟨rfl, c5⟩; have b5 := b4.trans (c5.mono b4.size))
    | (go_at_call 13; with_reducible refine (HR.out _ b5).mono ?_; rintro r w6 ⟨rfl, c6⟩; have b6 := b5.trans (c6.mono b5.size))
    | (go_at_call 12; with_reducible refine (HP.out _ b6).mono ?_; rintro r w7 ⟨ao, cap, rfl, t7, c7⟩; have b7 := b6.trans (c7.mono b6.size); have t8 : TextsAt (w7.alloc (.cells #[.string a, .string b] 9)) (.slice ao 2 cap) [a, b] := t7.below (Below.alloc (Below.refl w7.heap.size w7) (Nat.le_refl _) _); have n8 := TextsAt.new2 w7 9 a b; have b8 := b7.alloc b7.size (.cells #[.string a, .string b] 9))
    | (go_at_call 14; with_reducible refine (HS.out _ _ _ t8 n8).mono ?_; rintro r w9 ⟨rfl, c9⟩; have b9 := b8.trans (c9.mono b8.size))
    | (go_at_call 11; with_reducible refine (HI.out _ b9).mono ?_; rintro r w10 ⟨rfl, c10⟩; have b10 := b9.trans (c10.mono b9.size)))
  go_ret
  exact ⟨rfl, HB0.out _ b10⟩

set_option maxRecDepth 100000 in
theorem faultOdd_any {w : World} (hg : TypeOfError w) (a b : ByteArray) (ha : a.size ≤ maxLen) (hb : b.size ≤ maxLen) : Calls Tryd.prog 5 #[.string a, .string b] w fun r w' => r = .returned (.bool true) ∧ Below w.heap.size w w' := by
  unfold maxLen at ha hb
  by_cases h1 : a.size ≤ 50
  · by_cases h2 : b.size ≤ 50
    · exact faultOdd_small hg a b h1 h2
    · have HAW := Lib.hid (awake5_any hg)
      clear hg
      go_enter Tryd.func5, Tryd.ntmps5
      go_wp2_with (go_at_call 8; with_reducible refine HAW.out.mono ?_; rintro r w1 ⟨rfl, b1⟩)
      go_ret
      exact ⟨rfl, b1⟩
  · have HAW := Lib.hid (awake5_any hg)
    clear hg
    go_enter Tryd.func5, Tryd.ntmps5
    go_wp2_with (go_at_call 8; with_reducible refine HAW.out.mono ?_; rintro r w1 ⟨rfl, b1⟩)
    go_ret
    exact ⟨rfl, b1⟩
end Go.Proofs.YtambeipbpemlkaaDoor
