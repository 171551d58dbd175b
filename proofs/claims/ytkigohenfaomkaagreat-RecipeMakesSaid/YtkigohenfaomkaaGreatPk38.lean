/- Part 38 of what the statement wants. -/
import Derived.Deep.AppendLies
import Derived.Deep.RegionLaw
import Derived.Test.YtkigohenfaomkaaGreatPk02
import Derived.Test.YtkigohenfaomkaaGreatPk05
import Derived.Test.YtkigohenfaomkaaGreatPk21
import Derived.Test.YtkigohenfaomkaaGreatPk29
import Derived.Test.YtkigohenfaomkaaGreatPk37
namespace Go.Proofs.YtkigohenfaomkaaGreat
open Go.RowKit

set_option maxHeartbeats 2000000 in
set_option maxRecDepth 100000 in
theorem r14Step_any {w : World} {vk vs vm : Value} {kt st mt : List (List UInt8)} (hk : TextsAt w vk (kt.map bs)) (hs : TextsAt w vs (st.map bs)) (hm : TextsAt w vm (mt.map bs)) (o : OpR) (hsz : o.s.length ≤ 10000)
    (hok : ∀ i, OkT (atT mt i))
    (hmore : ∀ W, Below w.heap.size w W → Calls Tryz.prog 63 #[vm, o.value] W fun e w' => e = .returned (.string (bs (moreT mt o))) ∧ Below W.heap.size W w') :
    Calls Tryz.prog 27 #[vk, vs, vm, o.value] w fun e w' => e = .returned (.string (bs (stepT kt st mt o))) ∧ Below w.heap.size w w' := by
  obtain ⟨K, a, b, c, s⟩ := o
  unfold OpR.value OpR.cells at *
  simp only at *
  have hO := Holds.new w 43 #[.int .i64 K, .int .i64 a, .int .i64 b, .int .i64 c, .string (bs s)]
  have b0 : Below w.heap.size w (w.alloc (.cells #[.int .i64 K, .int .i64 a, .int .i64 b, .int .i64 c, .string (bs s)] 43)) := (Below.refl _ w).alloc (Nat.le_refl _) _
  obtain ⟨W0, hW0⟩ : ∃ W0, Hid (W0 = w.alloc (.cells #[.int .i64 K, .int .i64 a, .int .i64 b, .int .i64 c, .string (bs s)] 43)) := ⟨_, Lib.hid rfl⟩
  obtain ⟨X, hXe⟩ : ∃ X, Hid (X = w.heap.size) := ⟨_, Lib.hid rfl⟩
  rw [← hW0.out] at hO b0
  rw [← hXe.out] at hO
  have HAk := Lib.hid (fun i => r14At_any (hk.below b0) i)
  have HAs := Lib.hid (fun i => r14At_any (hs.below b0) i)
  have HAa := Lib.hid (r14At_any (hm.below b0) a)
  have HAb := Lib.hid (r14At_any (hm.below b0) b)
  have HM := Lib.hid (hmore W0 b0)
  have HP := Lib.hid (hok a)
  have HQ := Lib.hid (hok b)
  have HB0 := Lib.hid b0
  have o0 := hO.cell 0
  have o1 := hO.cell 1
  have o2 := hO.cell 2
  have o3 := hO.cell 3
  have o4 := hO.cell 4
  have HSz := Lib.hid hsz
  clear hk hs hm hmore hok hO b0 hsz
  by_cases k0 : K = 0
  · subst k0
    have HT : Hid (stepT kt st mt ⟨0, a, b, c, s⟩ = refDataL s) := by unfold stepT Hid; simp
    rw [HT.out]
    have HC := Lib.hid (fun (W : World) => refData_any s (by have := HSz.out; omega) W)
    clear HT HM
    generalize refDataL s = T at *
    generalize atT mt a = P at *
    generalize atT mt b = Q at *
    generalize bs s = S at *
    go_enter Tryz.func27, Tryz.ntmps27
    go_wp2_with fail
    rw [← hW0.out, ← hXe.out]
    go_wp2_with (first
      | (go_at_call 62; (with_reducible refine HAa.out.mono ?_); rintro e w' ⟨rfl, hw⟩; have hw := hw.symm; subst hw)
      | (go_at_call 62; (with_reducible refine HAb.out.mono ?_); rintro e w' ⟨rfl, hw⟩; have hw := hw.symm; subst hw)
      | (go_at_call 42; (with_reducible refine (HC.out _).mono ?_); rintro e w5 ⟨rfl, b5⟩; try subst b5))
    go_ret
    exact ⟨rfl, HB0.out.trans (b5.mono HB0.out.size)⟩
  by_cases k1 : K = 1
  · subst k1
    have HT : Hid (stepT kt st mt ⟨1, a, b, c, s⟩ = refNonceL 0 a) := by unfold stepT Hid; simp
    rw [HT.out]
    have HC := Lib.hid (fun (W : World) => refNonce_any 0 a W)
    clear HT HM
    generalize refNonceL 0 a = T at *
    generalize atT mt a = P at *
    generalize atT mt b = Q at *
    generalize bs s = S at *
    go_enter Tryz.func27, Tryz.ntmps27
    go_wp2_with fail
    rw [← hW0.out, ← hXe.out]
    go_wp2_with (first
      | (go_at_call 62; (with_reducible refine HAa.out.mono ?_); rintro e w' ⟨rfl, hw⟩; have hw := hw.symm; subst hw)
      | (go_at_call 62; (with_reducible refine HAb.out.mono ?_); rintro e w' ⟨rfl, hw⟩; have hw := hw.symm; subst hw)
      | (go_at_call 43; (with_reducible refine (HC.out _).mono ?_); rintro e w5 ⟨rfl, b5⟩; try subst b5))
    go_ret
    exact ⟨rfl, HB0.out.trans (b5.mono HB0.out.size)⟩
  by_cases k2 : K = 2
  · subst k2
    have HT : Hid (stepT kt st mt ⟨2, a, b, c, s⟩ = atT kt a) := by unfold stepT Hid; simp
    rw [HT.out]
    clear HT HM
    go_enter Tryz.func27, Tryz.ntmps27
    go_wp2_with fail
    rw [← hW0.out, ← hXe.out]
    go_wp2_with (first
      | (go_at_call 62; (with_reducible refine (HAk.out _).mono ?_); rintro e w' ⟨rfl, hw⟩; have hw := hw.symm; subst hw)
      | (go_at_call 62; (with_reducible refine HAa.out.mono ?_); rintro e w' ⟨rfl, hw⟩; have hw := hw.symm; subst hw)
      | (go_at_call 62; (with_reducible refine HAb.out.mono ?_); rintro e w' ⟨rfl, hw⟩; have hw := hw.symm; subst hw))
    go_ret
    exact ⟨rfl, HB0.out⟩
  by_cases k3 : K = 3
  · subst k3
    have HT : Hid (stepT kt st mt ⟨3, a, b, c, s⟩ = atT st a) := by unfold stepT Hid; simp
    rw [HT.out]
    clear HT HM
    go_enter Tryz.func27, Tryz.ntmps27
    go_wp2_with fail
    rw [← hW0.out, ← hXe.out]
    go_wp2_with (first
      | (go_at_call 62; (with_reducible refine (HAs.out _).mono ?_); rintro e w' ⟨rfl, hw⟩; have hw := hw.symm; subst hw)
      | (go_at_call 62; (with_reducible refine HAa.out.mono ?_); rintro e w' ⟨rfl, hw⟩; have hw := hw.symm; subst hw)
      | (go_at_call 62; (with_reducible refine HAb.out.mono ?_); rintro e w' ⟨rfl, hw⟩; have hw := hw.symm; subst hw))
    go_ret
    exact ⟨rfl, HB0.out⟩
  by_cases k4 : K = 4
  · subst k4
    have HT : Hid (stepT kt st mt ⟨4, a, b, c, s⟩ = refBaseL s) := by unfold stepT Hid; simp
    rw [HT.out]
    have HC := Lib.hid (fun (W : World) => refBase_any s (by have := HSz.out; omega) W)
    clear HT HM
    generalize refBaseL s = T at *
    generalize atT mt a = P at *
    generalize atT mt b = Q at *
    generalize bs s = S at *
    go_enter Tryz.func27, Tryz.ntmps27
    go_wp2_with fail
    rw [← hW0.out, ← hXe.out]
    go_wp2_with (first
      | (go_at_call 62; (with_reducible refine HAa.out.mono ?_); rintro e w' ⟨rfl, hw⟩; have hw := hw.symm; subst hw)
      | (go_at_call 62; (with_reducible refine HAb.out.mono ?_); rintro e w' ⟨rfl, hw⟩; have hw := hw.symm; subst hw)
      | (go_at_call 46; (with_reducible refine (HC.out _).mono ?_); rintro e w5 ⟨rfl, b5⟩; try subst b5))
    go_ret
    exact ⟨rfl, HB0.out.trans (b5.mono HB0.out.size)⟩
  by_cases k5 : K = 5
  · subst k5
    have HT : Hid (stepT kt st mt ⟨5, a, b, c, s⟩ = refExpL (atT mt a) (atT mt b)) := by unfold stepT Hid; simp
    rw [HT.out]
    have HC := Lib.hid (fun (W : World) => refExp_any' (atT mt a) (atT mt b) (by have := HP.out.len; omega) HQ.out.exp HP.out.raise W)
    clear HT HM
    generalize refExpL (atT mt a) (atT mt b) = T at *
    generalize atT mt a = P at *
    generalize atT mt b = Q at *
    generalize bs s = S at *
    go_enter Tryz.func27, Tryz.ntmps27
    go_wp2_with fail
    rw [← hW0.out, ← hXe.out]
    go_wp2_with (first
      | (go_at_call 62; (with_reducible refine HAa.out.mono ?_); rintro e w' ⟨rfl, hw⟩; have hw := hw.symm; subst hw)
      | (go_at_call 62; (with_reducible refine HAb.out.mono ?_); rintro e w' ⟨rfl, hw⟩; have hw := hw.symm; subst hw)
      | (go_at_call 47; (with_reducible refine (HC.out _).mono ?_); rintro e w5 ⟨rfl, b5⟩; try subst b5))
    go_ret
    exact ⟨rfl, HB0.out.trans (b5.mono HB0.out.size)⟩
  by_cases k6 : K = 6
  · subst k6
    have HT : Hid (stepT kt st mt ⟨6, a, b, c, s⟩ = refPubL (atT mt a)) := by unfold stepT Hid; simp
    rw [HT.out]
    have HC := Lib.hid (fun (W : World) => refPub_any (atT mt a) (by have := HP.out.len; omega) W)
    clear HT HM
    generalize refPubL (atT mt a) = T at *
    generalize atT mt a = P at *
    generalize atT mt b = Q at *
    generalize bs s = S at *
    go_enter Tryz.func27, Tryz.ntmps27
    go_wp2_with fail
    rw [← hW0.out, ← hXe.out]
    go_wp2_with (first
      | (go_at_call 62; (with_reducible refine HAa.out.mono ?_); rintro e w' ⟨rfl, hw⟩; have hw := hw.symm; subst hw)
      | (go_at_call 62; (with_reducible refine HAb.out.mono ?_); rintro e w' ⟨rfl, hw⟩; have hw := hw.symm; subst hw)
      | (go_at_call 45; (with_reducible refine (HC.out _).mono ?_); rintro e w5 ⟨rfl, b5⟩; try subst b5))
    go_ret
    exact ⟨rfl, HB0.out.trans (b5.mono HB0.out.size)⟩
  by_cases k7 : K = 7
  · subst k7
    have HT : Hid (stepT kt st mt ⟨7, a, b, c, s⟩ = refSignL s (atT mt a) (atT mt b)) := by unfold stepT Hid; simp
    rw [HT.out]
    have HC := Lib.hid (fun (W : World) => refSign_any s (atT mt a) (atT mt b) (by have := HSz.out; omega) (by have := HP.out.len; omega) (by have := HQ.out.len; omega) W)
    clear HT HM
    generalize refSignL s (atT mt a) (atT mt b) = T at *
    generalize atT mt a = P at *
    generalize atT mt b = Q at *
    generalize bs s = S at *
    go_enter Tryz.func27, Tryz.ntmps27
    go_wp2_with fail
    rw [← hW0.out, ← hXe.out]
    go_wp2_with (first
      | (go_at_call 62; (with_reducible refine HAa.out.mono ?_); rintro e w' ⟨rfl, hw⟩; have hw := hw.symm; subst hw)
      | (go_at_call 62; (with_reducible refine HAb.out.mono ?_); rintro e w' ⟨rfl, hw⟩; have hw := hw.symm; subst hw)
      | (go_at_call 48; (with_reducible refine (HC.out _).mono ?_); rintro e w5 ⟨rfl, b5⟩; try subst b5))
    go_ret
    exact ⟨rfl, HB0.out.trans (b5.mono HB0.out.size)⟩
  by_cases k8 : K = 8
  · subst k8
    have HT : Hid (stepT kt st mt ⟨8, a, b, c, s⟩ = refHashL (atT mt a)) := by unfold stepT Hid; simp
    rw [HT.out]
    have HC := Lib.hid (fun (W : World) => refHash_any (atT mt a) (by have := HP.out.len; omega) W)
    clear HT HM
    generalize refHashL (atT mt a) = T at *
    generalize atT mt a = P at *
    generalize atT mt b = Q at *
    generalize bs s = S at *
    go_enter Tryz.func27, Tryz.ntmps27
    go_wp2_with fail
    rw [← hW0.out, ← hXe.out]
    go_wp2_with (first
      | (go_at_call 62; (with_reducible refine HAa.out.mono ?_); rintro e w' ⟨rfl, hw⟩; have hw := hw.symm; subst hw)
      | (go_at_call 62; (with_reducible refine HAb.out.mono ?_); rintro e w' ⟨rfl, hw⟩; have hw := hw.symm; subst hw)
      | (go_at_call 49; (with_reducible refine (HC.out _).mono ?_); rintro e w5 ⟨rfl, b5⟩; try subst b5))
    go_ret
    exact ⟨rfl, HB0.out.trans (b5.mono HB0.out.size)⟩
  by_cases k12 : K = 12
  · subst k12
    have HT : Hid (stepT kt st mt ⟨12, a, b, c, s⟩ = refListL []) := by unfold stepT Hid; simp
    rw [HT.out]
    have HC := Lib.hid (fun (W : World) => refList_any (l := []) (TextsAt.nil W) (by simp) (by simp))
    clear HT HM
    generalize refListL [] = T at *
    generalize atT mt a = P at *
    generalize atT mt b = Q at *
    generalize bs s = S at *
    go_enter Tryz.func27, Tryz.ntmps27
    go_wp2_with fail
    rw [← hW0.out, ← hXe.out]
    go_wp2_with (first
      | (go_at_call 62; (with_reducible refine HAa.out.mono ?_); rintro e w' ⟨rfl, hw⟩; have hw := hw.symm; subst hw)
      | (go_at_call 62; (with_reducible refine HAb.out.mono ?_); rintro e w' ⟨rfl, hw⟩; have hw := hw.symm; subst hw)
      | (go_at_call 52; (with_reducible refine (HC.out _).mono ?_); rintro e w5 ⟨rfl, b5⟩; try subst b5))
    go_ret
    exact ⟨rfl, HB0.out.trans (b5.mono HB0.out.size)⟩
  have HT : Hid (stepT kt st mt ⟨K, a, b, c, s⟩ = moreT mt ⟨K, a, b, c, s⟩) := by
    unfold stepT Hid
    simp only
    rw [if_neg k0, if_neg k1, if_neg k2, if_neg k3, if_neg k4, if_neg k5, if_neg k6, if_neg k7, if_neg k8, if_neg k12]
  rw [HT.out]
  have q0 : (K == 0) = false := by simpa using k0
  have q1 : (K == 1) = false := by simpa using k1
  have q2 : (K == 2) = false := by simpa using k2
  have q3 : (K == 3) = false := by simpa using k3
  have q4 : (K == 4) = false := by simpa using k4
  have q5 : (K == 5) = false := by simpa using k5
  have q6 : (K == 6) = false := by simpa using k6
  have q7 : (K == 7) = false := by simpa using k7
  have q8 : (K == 8) = false := by simpa using k8
  have q12 : (K == 12) = false := by simpa using k12
  clear HT k0 k1 k2 k3 k4 k5 k6 k7 k8 k12
  generalize moreT mt ⟨K, a, b, c, s⟩ = T at *
  generalize bs s = S at *
  go_enter Tryz.func27, Tryz.ntmps27
  go_wp2_with fail
  rw [← hW0.out, ← hXe.out]
  go_wp2_with (first
    | (go_at_call 62; (with_reducible refine HAa.out.mono ?_); rintro e w' ⟨rfl, hw⟩; have hw := hw.symm; subst hw)
    | (go_at_call 62; (with_reducible refine HAb.out.mono ?_); rintro e w' ⟨rfl, hw⟩; have hw := hw.symm; subst hw)
    | (go_at_call 63; (with_reducible refine HM.out.mono ?_); rintro e w5 ⟨rfl, b5⟩))
  go_ret
  exact ⟨rfl, HB0.out.trans (b5.mono HB0.out.size)⟩
end Go.Proofs.YtkigohenfaomkaaGreat

namespace Go.Proofs.YtkigohenfaomkaaGreat
open Go.RowKit

theorem Len_any {B A : Nat} {L : List Ent} {F : Nat → Prop} {w : World} (h : ArenaAt B A L F w) :
    Calls Tryz.prog 20 #[.pointer (some ⟨A, 0, none⟩)] w fun e w' => e = .returned (.int .i64 L.length) ∧ w = w' := by
  obtain ⟨ao, cap, mb, c0, _, hlen, _⟩ := h.read
  clear h
  go_enter Tryz.func20, Tryz.ntmps20
  go_wp2
  go_ret
  exact ⟨rfl, rfl⟩

end Go.Proofs.YtkigohenfaomkaaGreat

namespace Go.Proofs.YtkigohenfaomkaaGreat
open Go.RowKit

/-- A slice value that reads as the steps l. -/
def OpsAt (w : World) (v : Value) (l : List OpR) : Prop :=
  ∃ ao cap, v = .slice ao l.length cap ∧ (l ≠ [] → ∃ b off, ao = some ⟨b, off, none⟩ ∧ b < w.heap.size ∧ ∀ k x, l[k]? = some x →
    w.cell? ⟨b, off + k * 5, none⟩ = some (.int .i64 x.kind) ∧ w.cell? ⟨b, off + k * 5 + 1, none⟩ = some (.int .i64 x.a) ∧ w.cell? ⟨b, off + k * 5 + 2, none⟩ = some (.int .i64 x.b) ∧
    w.cell? ⟨b, off + k * 5 + 3, none⟩ = some (.int .i64 x.c) ∧ w.cell? ⟨b, off + k * 5 + 4, none⟩ = some (.string (bs x.s)))
theorem OpsAt.moves {S : Nat → Prop} {w w' : World} {v : Value} {l : List OpR} (h : OpsAt w v l) (m : Moves S w w') (hS : ∀ k, v.ownBlock = some k → ¬ S k) : OpsAt w' v l := by
  obtain ⟨ao, cap, rfl, h⟩ := h
  refine ⟨ao, cap, rfl, fun hne => ?_⟩
  obtain ⟨b, off, rfl, hb, hk⟩ := h hne
  have e : ∀ i, w'.cell? ⟨b, i, none⟩ = w.cell? ⟨b, i, none⟩ := fun i => m.cell (p := ⟨b, i, none⟩) hb (hS b rfl)
  refine ⟨b, off, rfl, Nat.lt_of_lt_of_le hb m.size, fun k x hx => ?_⟩
  simp only [e]
  exact hk k x hx
theorem OpsAt.below {w w' : World} {v : Value} {l : List OpR} (h : OpsAt w v l) (hb : Below w.heap.size w w') : OpsAt w' v l := h.moves (S := nobody) (Moves.ofBelow hb) (fun _ _ h => h)
theorem rcNeRow {B A base n : Nat} {L : List Ent} {F : Nat → Prop} {w : World} {t : TypeId} {v : Value} {xs : List Value} (h : ArenaAt B A L F w) (hr : w.ownsRow base t 1 v n xs) (h1 : t ≠ 50) (h2 : t ≠ 71) : ∀ k, v.ownBlock = some k → ¬ F k := by
  intro k hk
  rcases hr.2 with ⟨rfl, _⟩ | ⟨g, cap, cur, rfl, _, hg, _⟩
  · simp [Value.ownBlock] at hk
  · have : g = k := by simpa [Value.ownBlock] using hk
    subst this
    exact arena_ne h (show Holds w g t cur from hg) h1 h2
def idsC (l : List Int) : List Value := l.map (Value.int .i64)
theorem idsC_snoc (l : List Int) (x : Int) : idsC (l ++ [x]) = idsC l ++ [.int .i64 x] := by simp [idsC]
theorem IdsAt.ofOwn {w : World} {base : Nat} {v : Value} {l : List Int} (h : w.ownsRow base 35 1 v l.length (idsC l)) : IdsAt w v l := by
  have hown := h
  rcases h.2 with ⟨rfl, h0⟩ | ⟨g, cap', cur, rfl, hg, hh, hn, hcap, hsz, htake⟩
  · rw [List.length_eq_zero_iff.1 h0]; exact IdsAt.nil w
  · refine ⟨some ⟨g, 0, none⟩, cap', rfl, fun _ => ⟨g, 0, rfl, (Array.getElem?_eq_some_iff.1 hh).1, fun k x hk => ?_⟩⟩
    have hk' := (List.getElem?_eq_some_iff.1 hk).1
    rw [Nat.zero_add, hown.cellAt k (by omega)]
    simp [idsC, hk]

theorem cRight_any {w : World} (ao : Option Addr) (n cap : Nat) (hn : n ≤ 9223372036854775807) :
    Calls Tryz.prog 13 #[.slice ao n cap] w fun r w' => r = .returned (.bool (decide ((n : Int) ≤ 64))) ∧ w' = w := by
  go_enter Tryz.func13, Tryz.ntmps13
  go_wp2_with fail
  go_ret
  exact ⟨rfl, rfl⟩
theorem cAll_long {w : World} {A : Nat} (ao : Option Addr) (n cap : Nat) (hn : 64 < n) (hn2 : n ≤ 9223372036854775807) (vk vs : Value) :
    Calls Tryz.prog 9 #[.pointer (some ⟨A, 0, none⟩), vk, vs, .slice ao n cap] w fun r w' => r = .returned (.slice none 0 0) ∧ w' = w := by
  have HR := Lib.hid (fun W => cRight_any (w := W) ao n cap hn2)
  rw [show decide ((n : Int) ≤ 64) = false from decide_eq_false (by omega)] at HR
  go_enter Tryz.func9, Tryz.ntmps9
  go_wp2_with (go_at_call 13; (with_reducible refine (HR.out _).mono ?_); rintro r w' ⟨rfl, hw⟩; have hw := hw.symm; subst hw)
  go_ret
  exact ⟨rfl, rfl⟩
end Go.Proofs.YtkigohenfaomkaaGreat
