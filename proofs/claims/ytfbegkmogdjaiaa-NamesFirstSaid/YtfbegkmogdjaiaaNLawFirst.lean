/- The walks of the laws NamesFirst and NamesWithout. -/
import Derived.Test.YtfbegkmogdjaiaaNSame
import Derived.Deep.QuietTactic
import Derived.BigQuiet
namespace Go.Proofs.Ytfbegkmogdjaiaa
open Go.RowKit Go.Maps Go.WideMaps

theorem nodup_step {l : List ByteArray} {k : Nat} (hlt : k < l.length) : decide (l.take (k + 1)).Nodup = (decide (l.take k).Nodup && !decide (l[k] ∈ l.take k)) := by
  rw [List.take_succ_eq_append_getElem hlt]
  by_cases h1 : (l.take k).Nodup
  · by_cases h2 : l[k] ∈ l.take k
    · rw [decide_eq_true h1, decide_eq_true h2]
      exact decide_eq_false fun h => (List.nodup_append.1 h).2.2 _ h2 _ (by simp) rfl
    · rw [decide_eq_true h1, decide_eq_false h2]
      exact decide_eq_true (List.nodup_append.2 ⟨h1, by simp, fun a ha b hb => by simp at hb; subst hb; exact fun e => h2 (e ▸ ha)⟩)
  · rw [decide_eq_false h1]
    exact decide_eq_false fun h => h1 (List.nodup_append.1 h).1

theorem below_drewN {n m : Nat} {w wr : World} (h : Below n w wr) : Below n w (wr.drewN m) := ⟨h.os, h.tape, h.output, h.size, h.block⟩
theorem size_one (b : UInt8) : ByteArray.size ⟨#[b]⟩ ≤ maxLen := by show 1 ≤ _; unfold maxLen; omega
set_option maxRecDepth 100000 in
theorem awake4_any (w : World) : Calls Try.prog 6 #[] w fun e w' => e = .returned (.bool true) ∧ Below w.heap.size w w' := by
  have hF : ∀ (W : World) (g h : Nat), TextsAt W (.slice (some ⟨g, 0, none⟩) 2 2) [⟨#[97]⟩, ⟨#[98]⟩] → TextsAt W (.slice (some ⟨h, 0, none⟩) 3 3) [⟨#[98]⟩, ⟨#[99]⟩, ⟨#[97]⟩] →
      Calls Try.prog 7 #[.slice (some ⟨g, 0, none⟩) 2 2, .slice (some ⟨h, 0, none⟩) 3 3] W fun e w' => e = .returned (.tuple #[.string ⟨#[97]⟩, .bool true]) ∧ Below W.heap.size W w' := fun W g h t1 t2 =>
    (nFirst_any t1 t2 (by simp [maxLen]) (by simp) (by intro x hx; simp only [List.mem_cons, List.not_mem_nil, or_false] at hx; rcases hx with rfl | rfl <;> exact size_one _) (by intro x hx; simp only [List.mem_cons, List.not_mem_nil, or_false] at hx; rcases hx with rfl | rfl | rfl <;> exact size_one _)).mono (fun e w' ⟨he, hb⟩ => ⟨he, hb⟩)
  have HF := Lib.hid hF
  clear hF
  have TA : ∀ (W : World), TextsAt ((W.alloc (.cells #[.string ⟨#[97]⟩, .string ⟨#[98]⟩] 9)).alloc (.cells #[.string ⟨#[98]⟩, .string ⟨#[99]⟩, .string ⟨#[97]⟩] 9)) (.slice (some ⟨W.heap.size, 0, none⟩) 2 2) [⟨#[97]⟩, ⟨#[98]⟩] := by
    intro W
    refine ⟨_, 2, rfl, fun _ => ⟨_, _, rfl, by simp; omega, fun k x hk => ?_⟩⟩
    have := ((Holds.new W 9 #[.string ⟨#[97]⟩, .string ⟨#[98]⟩]).moves ((Moves.refl nobody _).alloc (.cells #[.string ⟨#[98]⟩, .string ⟨#[99]⟩, .string ⟨#[97]⟩] 9)) (fun h => h.elim)).cell (0 + k)
    rw [this]
    match k, hk with
    | 0, hk => simpa using hk
    | 1, hk => simpa using hk
  have TB : ∀ (W : World), TextsAt ((W.alloc (.cells #[.string ⟨#[97]⟩, .string ⟨#[98]⟩] 9)).alloc (.cells #[.string ⟨#[98]⟩, .string ⟨#[99]⟩, .string ⟨#[97]⟩] 9)) (.slice (some ⟨W.heap.size + 1, 0, none⟩) 3 3) [⟨#[98]⟩, ⟨#[99]⟩, ⟨#[97]⟩] := by
    intro W
    refine ⟨_, 3, rfl, fun _ => ⟨_, _, rfl, by simp, fun k x hk => ?_⟩⟩
    have := (Holds.new (W.alloc (.cells #[.string ⟨#[97]⟩, .string ⟨#[98]⟩] 9)) 9 #[.string ⟨#[98]⟩, .string ⟨#[99]⟩, .string ⟨#[97]⟩]).cell (0 + k)
    simp only [World.size_alloc] at this
    rw [this]
    match k, hk with
    | 0, hk => simpa using hk
    | 1, hk => simpa using hk
    | 2, hk => simpa using hk
  have HA := Lib.hid TA
  have HB := Lib.hid TB
  clear TA TB
  go_enter Try.func6, Try.ntmps6
  go_wp2_with (go_at_call 7; refine (HF.out _ _ _ (HA.out w) (HB.out w)).mono ?_; rintro e w1 ⟨rfl, hb⟩)
  go_ret
  exact ⟨rfl, (((Below.refl _ _).alloc (Nat.le_refl _) _).alloc (by simp) _).trans (hb.mono (by simp; omega))⟩

set_option maxRecDepth 100000 in
theorem NamesFirst_small (l o : List ByteArray) (x : ByteArray) (hl : l.length ≤ 20) (ho : o.length ≤ 20) (hs : ∀ y ∈ l, y.size ≤ 200) (hs' : ∀ y ∈ o, y.size ≤ 200) (hx : x.size ≤ 200) (v v' : Value) (w : World) (h : TextsAt w v l) (h' : TextsAt w v' o) (hcap : ∀ ao cap, v = .slice ao l.length cap → l.length ≤ cap) :
    Calls Try.prog 3 #[v, v', .string x] w fun e w' => e = .returned (.bool true) ∧ Below w.heap.size w w' := by
  have hlm : l.length ≤ maxLen := by unfold maxLen; omega
  have hom : o.length ≤ maxLen := by unfold maxLen; omega
  have hsm : ∀ y ∈ l, y.size ≤ maxLen := fun y hy => by have := hs y hy; unfold maxLen; omega
  have hsm' : ∀ y ∈ o, y.size ≤ maxLen := fun y hy => by have := hs' y hy; unfold maxLen; omega
  have f1 : fewB l 20 = true := decide_eq_true ⟨by omega, hs⟩
  have f2 : fewB o 20 = true := decide_eq_true ⟨by omega, hs'⟩
  have HF1 := Lib.hid (few_any h hlm hsm 20)
  have HF2 := Lib.hid (few_any h' hom hsm' 20)
  rw [f1] at HF1
  rw [f2] at HF2
  have HN := Lib.hid (nFirst_any h h' hlm (by omega) hsm hsm')
  have HR := Lib.hid (fun (wr : World) (hb : Below w.heap.size w wr) => rFirst_any (h.below hb) (h'.below hb) hlm hom)
  have HH := Lib.hid (fun (wr : World) (hb : Below w.heap.size w wr) => nHas_any (h.below hb) hlm x)
  have HHr := Lib.hid (fun (wr : World) (hb : Below w.heap.size w wr) => rHas_any (h.below hb) hlm x)
  have HO := Lib.hid (fun (wr : World) (hb : Below w.heap.size w wr) => nOnce_any (h.below hb) (by omega) hsm)
  have HT := Lib.hid (fun (ao : Option Addr) (cap : Nat) (hv : v = .slice ao l.length cap) (wr : World) (hb : Below w.heap.size w wr) (n : Nat) (hn : n ≤ l.length) (c : Nat) (y : ByteArray) => rHas_any ((hv ▸ h.below hb : TextsAt wr (.slice ao l.length cap) l).take hn c) (by simp [maxLen]; omega) y)
  clear f1 f2 hs hs' hsm hsm'
  obtain ⟨ao, cap, rfl, hc⟩ := h
  obtain ⟨ao', cap', rfl, hc'⟩ := h'
  clear hc'
  have HT := Lib.hid (HT.out ao cap rfl)
  have hcp := hcap ao cap rfl
  clear hcap
  generalize hq : firstIn l o = q at HN HR
  obtain ⟨q1, q2⟩ := q
  clear hq
  go_enter Try.func3, Try.ntmps3
  go_wp2_with (first
    | (go_at_call 5; with_reducible refine (HF1.out).mono ?_; rintro e w1 ⟨rfl, rfl⟩)
    | (go_at_call 5; with_reducible refine (HF2.out).mono ?_; rintro e w1 ⟨rfl, rfl⟩)
    | (go_at_call 7; refine HN.out.mono ?_; rintro e w1 ⟨rfl, hb1⟩)
    | (go_at_call 8; refine (HR.out _ hb1).mono ?_; rintro e w2 ⟨rfl, rfl⟩))
  clear ho hx hlm hom
  have HAW := Lib.hid awake4_any
  go_loopw [11, 12] (fun u i wr => ∃ k : Nat, k ≤ l.length ∧ u = .bool (decide (l.take k).Nodup) ∧ i = .int .i64 k ∧ Below w1.heap.size w1 wr) (fun _ i _ => l.length - (intOf i).toNat)
  case atStart => exact ⟨0, Nat.zero_le _, by simp, rfl, hb1⟩
  case round =>
    clear hb1
    obtain ⟨k, hk, rfl, rfl, hbel⟩ := hrel
    by_cases hlt : k < l.length
    · obtain ⟨b, off, rfl, hb, hcell⟩ := hc (by intro h; simp [h] at hlt)
      obtain ⟨y, hy⟩ : ∃ y, y = l[k] := ⟨_, rfl⟩
      have c1 : wr.cell? ⟨b, off + k, none⟩ = some (.string y) := (hbel.cell (p := ⟨b, off + k, none⟩) hb).trans (hcell k y (by simp [hlt, hy]))
      have hst := nodup_step hlt
      rw [← hy] at hst
      have HK := Lib.hid (fun (n c : Nat) => HT.out (wr.drewN n) (below_drewN hbel) k hk c y)
      have HST := Lib.hid hst
      clear hc hcell hst hy
      generalize hbd : decide (l.take k).Nodup = bd at HST
      clear hbd
      generalize hbm : decide (y ∈ l.take k) = bm at HST HK
      clear hbm
      go_wp2_with fail
      cases bd with
      | true =>
        have hkc : k ≤ cap := by omega
        go_quiet (first | (go_at_call 9; refine Calls.quiet_of_same (HK.out _ _)))
        go_wp2_with fail
        go_roundw
        case rel => exact ⟨k + 1, by omega, by rw [HST.out]; simp, by go_num, below_drewN hbel⟩
        case measure => simp [intOf]; omega
      | false =>
        go_quiet (fail)
        go_wp2_with fail
        go_roundw
        case rel => exact ⟨k + 1, by omega, by rw [HST.out]; simp, by go_num, below_drewN hbel⟩
        case measure => simp [intOf]; omega
    · have hkl : k = l.length := by omega
      subst hkl
      rw [List.take_length]
      clear hlt hc HT
      generalize decide l.Nodup = bd at HO
      generalize decide (x ∈ l) = bx at HH HHr
      go_wp2_with (first
        | (go_at_call 6; refine (HAW.out _).mono ?_; rintro e w3 ⟨rfl, hb3⟩)
        | (go_at_call 10; refine (HH.out _ (hbel.trans (hb3.mono hbel.size))).mono ?_; rintro e w4 ⟨rfl, rfl⟩)
        | (go_at_call 9; refine (HHr.out _ (hbel.trans (hb3.mono hbel.size))).mono ?_; rintro e w5 ⟨rfl, rfl⟩)
        | (go_at_call 11; refine (HO.out _ (hbel.trans (hb3.mono hbel.size))).mono ?_; rintro e w6 ⟨rfl, hb6⟩))
      go_ret
      exact ⟨rfl, (hbel.trans (hb3.mono hbel.size)).trans (hb6.mono (by have := hbel.size; have := hb3.size; omega))⟩

set_option maxRecDepth 100000 in
theorem NamesWithout_small (l o : List ByteArray) (hl : l.length ≤ 20) (ho : o.length ≤ 20) (hs : ∀ y ∈ l, y.size ≤ 200) (hs' : ∀ y ∈ o, y.size ≤ 200) (v v' : Value) (w : World) (h : TextsAt w v l) (h' : TextsAt w v' o) :
    Calls Try.prog 4 #[v, v'] w fun e w' => e = .returned (.bool true) ∧ Below w.heap.size w w' := by
  have hlm : l.length ≤ maxLen := by unfold maxLen; omega
  have hom : o.length ≤ maxLen := by unfold maxLen; omega
  have hsm : ∀ y ∈ l, y.size ≤ maxLen := fun y hy => by have := hs y hy; unfold maxLen; omega
  have hsm' : ∀ y ∈ o, y.size ≤ maxLen := fun y hy => by have := hs' y hy; unfold maxLen; omega
  have f1 : fewB l 20 = true := decide_eq_true ⟨by omega, hs⟩
  have f2 : fewB o 20 = true := decide_eq_true ⟨by omega, hs'⟩
  have HF1 := Lib.hid (few_any h hlm hsm 20)
  have HF2 := Lib.hid (few_any h' hom hsm' 20)
  rw [f1] at HF1
  rw [f2] at HF2
  have hfn : firstIn (without l o) o = (⟨#[]⟩, false) := firstIn_none fun x hx => (without_mem hx).2
  have hwl : (without l o).length ≤ 20 := Nat.le_trans (without_le l o) hl
  have HW := Lib.hid (nWithout_any h h' (by omega) (by omega) hsm hsm')
  have HR := Lib.hid (fun (wr : World) (hb : Below w.heap.size w wr) => rWithout_any (h.below hb) (h'.below hb) (by omega) hom)
  have HN := Lib.hid (fun (wr : World) (hb : Below w.heap.size w wr) (u : Value) (hu : TextsAt wr u (without l o)) => nFirst_any hu (h'.below hb) (by unfold maxLen; omega) (by omega) (fun y hy => hsm y (without_mem hy).1) hsm')
  rw [hfn] at HN
  have HS := Lib.hid (fun (wr : World) (u u' : Value) (hu : TextsAt wr u (without l o)) (hu' : TextsAt wr u' (without l o)) => same_any hu hu' (by unfold maxLen; omega))
  simp only [decide_true] at HS
  clear f1 f2 hs hs' hsm hsm' hlm hom
  obtain ⟨ao, cap, rfl, hc⟩ := h
  obtain ⟨ao', cap', rfl, hc'⟩ := h'
  clear hc hc' hfn
  generalize hq : without l o = q at HN HR HS HW hwl
  clear hq hl ho
  have HAW := Lib.hid awake4_any
  go_enter Try.func4, Try.ntmps4
  go_wp2_with (first
    | (go_at_call 5; with_reducible refine (HF1.out).mono ?_; rintro e w1 ⟨rfl, rfl⟩)
    | (go_at_call 5; with_reducible refine (HF2.out).mono ?_; rintro e w1 ⟨rfl, rfl⟩)
    | (go_at_call 12; refine HW.out.mono ?_; rintro e w2 ⟨u, rfl, hu, hb2⟩)
    | (go_at_call 7; refine (HN.out _ hb2 _ hu).mono ?_; rintro e w3 ⟨rfl, hb3⟩)
    | (go_at_call 6; refine (HAW.out _).mono ?_; rintro e w4 ⟨rfl, hb4⟩)
    | (go_at_call 14; refine (HR.out _ ((hb2.trans (hb3.mono hb2.size)).trans (hb4.mono (Nat.le_trans hb2.size hb3.size)))).mono ?_; rintro e w5 ⟨u', rfl, hu', hb5⟩)
    | (go_at_call 13; refine (HS.out _ _ _ (((hu.below hb3).below hb4).below hb5) hu').mono ?_; rintro e w6 ⟨rfl, hb6⟩))
  go_ret
  exact ⟨rfl, ((((hb2.trans (hb3.mono hb2.size)).trans (hb4.mono (Nat.le_trans hb2.size hb3.size))).trans (hb5.mono (by have := hb2.size; have := hb3.size; have := hb4.size; omega))).trans (hb6.mono (by have := hb2.size; have := hb3.size; have := hb4.size; have := hb5.size; omega)))⟩
end Go.Proofs.Ytfbegkmogdjaiaa
