/- Part 29 of what the statement wants. -/
import Derived.Test.YtjlbifpbdocahaaPk08
namespace Go.Proofs.Ytjlbifpbdocahaa
open Go.RowKit

/-- How many failures there are behind one more. -/
def failP (lim n : Int) : Int := if n ≥ lim then n else n + 1
set_option maxHeartbeats 1000000 in
set_option maxRecDepth 100000 in
theorem dFail_any {w : World} {g : Nat} {l : List GrantR} {al : List (List UInt8)} {lim n : Int} (h : GateAt w g l al lim n) (hn : 0 ≤ n) (hl : lim ≤ 20) :
    Calls Try.prog 28 #[.pointer (some ⟨g, 0, none⟩)] w fun e w' => e = .returned (.bool (decide (failP lim n ≥ lim))) ∧ GateAt w' g l al lim (failP lim n) ∧ Moves (fun i => i = g) w w' := by
  have HF := Lib.hid (dFull_any h)
  by_cases hq : n ≥ lim
  · have e1 : failP lim n = n := if_pos hq
    rw [e1, decide_eq_true hq]
    rw [decide_eq_true hq] at HF
    have HF2 := Lib.hid (fun (W : World) (hb : Below w.heap.size w W) => (dFull_any (h.below hb)).mono fun e w' ⟨h1, h2⟩ => (⟨by rw [decide_eq_true hq] at h1; exact h1, h2⟩ : e = Ending.returned (.bool true) ∧ Below W.heap.size W w'))
    have HG := Lib.hid (fun (W : World) (hb : Below w.heap.size w W) => h.below hb)
    clear h hq e1
    go_enter Try.func28, Try.ntmps28
    go_wp2_with (first
      | (go_at_call 27; (with_reducible refine HF.out.mono ?_); rintro e w1 ⟨rfl, b1⟩; have B1 := Lib.hid b1; clear b1)
      | (go_at_call 27; (with_reducible refine (HF2.out _ B1.out).mono ?_); rintro e w2 ⟨rfl, b2⟩))
    go_ret
    have b := B1.out.trans (b2.mono B1.out.size)
    exact ⟨rfl, HG.out _ b, Moves.ofBelow b⟩
  · have e1 : failP lim n = n + 1 := if_neg hq
    rw [e1]
    rw [decide_eq_false hq] at HF
    have HS := Lib.hid (fun (W : World) (hb : Below w.heap.size w W) => (h.below hb).set (n + 1))
    have HF2 := Lib.hid (fun (W : World) (hb : GateAt W g l al lim (n + 1)) => dFull_any hb)
    have HC := Lib.hid (fun (W : World) (hb : Below w.heap.size w W) => (h.below hb).open_)
    have hn2 : n < 20 := by omega
    clear h hq e1
    generalize decide (n + 1 ≥ lim) = d at *
    go_enter Try.func28, Try.ntmps28
    go_wp2_with (first
      | (go_at_call 27; (with_reducible refine HF.out.mono ?_); rintro e w1 ⟨rfl, b1⟩; obtain ⟨ag, cg, aa, ca, c0, c1, c2, c3, c4, _, _⟩ := HC.out _ b1; have HS1 := Lib.hid (HS.out _ b1))
      | (go_at_call 27; (with_reducible refine (HF2.out _ HS1.out).mono ?_); rintro e w2 ⟨rfl, b2⟩))
    go_ret
    exact ⟨rfl, HS1.out.below b2, (((Moves.ofBelow (S := fun i => i = g) b1).setCell (p := ⟨g, 3, none⟩) (.inl rfl) _).trans (Moves.ofBelow (S := nobody) b2) fun _ h => h.elim)⟩
theorem dFail_below {w : World} {g : Nat} {l : List GrantR} {al : List (List UInt8)} {lim n : Int} (h : GateAt w g l al lim n) (hn : 0 ≤ n) (hl : lim ≤ 20) {B : Nat} (hB : B ≤ g) :
    Calls Try.prog 28 #[.pointer (some ⟨g, 0, none⟩)] w fun e w' => e = .returned (.bool (decide (failP lim n ≥ lim))) ∧ GateAt w' g l al lim (failP lim n) ∧ Below B w w' :=
  (dFail_any h hn hl).mono fun e w' ⟨h1, h2, h3⟩ => ⟨h1, h2, h3.below (by have := h.lt; omega) (fun i e => by omega)⟩
set_option maxRecDepth 100000 in
theorem dFail_nil (w : World) : Calls Try.prog 28 #[.pointer none] w fun e w' => e = .returned (.bool true) ∧ Below w.heap.size w w' := by
  have HF0 := Lib.hid (dFull_nil w)
  have HF := Lib.hid (fun (W : World) (_ : Below w.heap.size w W) => dFull_nil W)
  go_enter Try.func28, Try.ntmps28
  go_wp2_with (first
    | (go_at_call 27; (with_reducible refine HF0.out.mono ?_); rintro e w1 ⟨rfl, b1⟩; have B1 := Lib.hid b1; clear b1)
    | (go_at_call 27; (with_reducible refine (HF.out _ B1.out).mono ?_); rintro e w2 ⟨rfl, b2⟩))
  go_ret
  exact ⟨rfl, B1.out.trans (b2.mono B1.out.size)⟩
set_option maxRecDepth 100000 in
theorem dFailures_nil (w : World) : Calls Try.prog 29 #[.pointer none] w fun e w' => e = .returned (.int .i64 0) ∧ w' = w := by
  go_enter Try.func29, Try.ntmps29
  go_wp2_with fail
  go_ret
  exact ⟨rfl, rfl⟩

set_option maxHeartbeats 1000000 in
set_option maxRecDepth 100000 in
theorem awake24_any (w : World) : Calls Try.prog 18 #[] w fun e w' => e = .returned (.bool true) ∧ Below w.heap.size w w' := by
  obtain ⟨al, hal⟩ : ∃ al : List (List UInt8), al = [[115, 115, 104, 45, 97]] := ⟨_, rfl⟩
  have hz : gateZ [] al 2 = 0 := by rw [hal]; decide
  have b0 : Below w.heap.size w (w.alloc (.cells #[.string ⟨#[115, 115, 104, 45, 97]⟩] 9)) := (Below.refl _ _).alloc (Nat.le_refl _) _
  have hT : TextsAt (w.alloc (.cells #[.string ⟨#[115, 115, 104, 45, 97]⟩] 9)) (.slice (some ⟨w.heap.size, 0, none⟩) 1 1) (al.map bs) := by
    rw [hal]
    have hN := Holds.new w 9 #[.string ⟨#[115, 115, 104, 45, 97]⟩]
    exact ⟨_, _, rfl, fun _ => ⟨_, 0, rfl, hN.lt, fun k x hk => by
      match k, hk with
      | 0, hk => obtain rfl := (Option.some.inj hk).symm; exact hN.cell 0
      | k + 1, hk => simp at hk⟩⟩
  have HN : Hid (Calls Try.prog 19 #[.slice none 0 0, .slice (some ⟨w.heap.size, 0, none⟩) 1 1, .int .i64 2] (w.alloc (.cells #[.string ⟨#[115, 115, 104, 45, 97]⟩] 9)) fun e w' => ∃ g, e = .returned (.tuple #[.pointer (some ⟨g, 0, none⟩), .nilIface]) ∧ w.heap.size ≤ g ∧ GateAt w' g [] al 2 0 ∧ Below w.heap.size w w') := by
    refine (dNew_any (GrantsAt.nil _) (by simp) (by simp) hT (by rw [hal]; decide) (by rw [hal]; decide) 2).mono ?_
    rintro e w' ⟨hb, ⟨h, _⟩ | ⟨_, g, h1, h2, h3⟩⟩
    · exact absurd hz h
    · exact ⟨g, h2, Nat.le_trans b0.size h1, h3, b0.trans (hb.mono b0.size)⟩
  have HF : Hid (∀ (W : World) (g : Nat), GateAt W g [] al 2 0 → Calls Try.prog 27 #[.pointer (some ⟨g, 0, none⟩)] W fun e w' => e = .returned (.bool false) ∧ GateAt w' g [] al 2 0 ∧ Below W.heap.size W w') := fun W g h => (dFull_any h).mono fun e w' ⟨h1, h2⟩ => ⟨h1, h.below h2, h2⟩
  have H1 : Hid (∀ (W : World) (g : Nat), w.heap.size ≤ g → GateAt W g [] al 2 0 → Calls Try.prog 28 #[.pointer (some ⟨g, 0, none⟩)] W fun e w' => e = .returned (.bool false) ∧ GateAt w' g [] al 2 1 ∧ Below w.heap.size W w') := fun W g hB h => dFail_below h (by decide) (by decide) hB
  have H2 : Hid (∀ (W : World) (g : Nat), w.heap.size ≤ g → GateAt W g [] al 2 1 → Calls Try.prog 28 #[.pointer (some ⟨g, 0, none⟩)] W fun e w' => e = .returned (.bool true) ∧ GateAt w' g [] al 2 2 ∧ Below w.heap.size W w') := fun W g hB h => dFail_below h (by decide) (by decide) hB
  have H3 : Hid (∀ (W : World) (g : Nat), GateAt W g [] al 2 2 → Calls Try.prog 29 #[.pointer (some ⟨g, 0, none⟩)] W fun e w' => e = .returned (.int .i64 2) ∧ w' = W) := fun W g h => dFailures_any h
  clear b0 hT hz hal
  go_enter Try.func18, Try.ntmps18
  go_wp2_with (first
    | (go_at_call 19; (with_reducible refine HN.out.mono ?_); rintro e w1 ⟨g, rfl, gB, g1, b1⟩)
    | (go_at_call 27; (with_reducible refine (HF.out _ _ g1).mono ?_); rintro e w2 ⟨rfl, g2, b2⟩)
    | (go_at_call 28; (with_reducible refine (H1.out _ _ gB g2).mono ?_); rintro e w3 ⟨rfl, g3, b3⟩)
    | (go_at_call 28; (with_reducible refine (H2.out _ _ gB g3).mono ?_); rintro e w4 ⟨rfl, g4, b4⟩)
    | (go_at_call 29; (with_reducible refine (H3.out _ _ g4).mono ?_); rintro e w5 ⟨rfl, hw⟩; have hw := hw.symm; subst hw))
  go_ret
  exact ⟨rfl, ((b1.trans (b2.mono b1.size)).trans b3).trans b4⟩

/-- A book of a size that statements go through. -/
structure FewB (l : List GrantR) (al : List (List UInt8)) : Prop where
  nl : l.length ≤ 20
  na : al.length ≤ 20
  sl : ∀ x ∈ l, x.user.length ≤ 100
  sa : ∀ x ∈ al, x.length ≤ 100
def fewB (l : List GrantR) (al : List (List UInt8)) : Bool := decide (l.length ≤ 20 ∧ al.length ≤ 20 ∧ (∀ x ∈ l, x.user.length ≤ 100) ∧ ∀ x ∈ al, x.length ≤ 100)
theorem fewB_true {l : List GrantR} {al : List (List UInt8)} (h : FewB l al) : fewB l al = true := decide_eq_true ⟨h.nl, h.na, h.sl, h.sa⟩
theorem fewB_false {l : List GrantR} {al : List (List UInt8)} (h : ¬ FewB l al) : fewB l al = false := decide_eq_false fun k => h ⟨k.1, k.2.1, k.2.2.1, k.2.2.2⟩
theorem fewB_of {l : List GrantR} {al : List (List UInt8)} (h : fewB l al = true) : FewB l al := by
  have k := of_decide_eq_true h
  exact ⟨k.1, k.2.1, k.2.2.1, k.2.2.2⟩

set_option maxHeartbeats 2000000 in
set_option maxRecDepth 100000 in
theorem few24_any {w : World} {vg va : Value} {l : List GrantR} {al : List (List UInt8)} (hg : GrantsAt w vg l) (hlg : l.length ≤ maxLen) (hsg : ∀ x ∈ l, x.user.length ≤ maxLen) (ha : TextsAt w va (al.map bs)) (hla : al.length ≤ maxLen) (hsa : ∀ x ∈ al, x.length ≤ maxLen) (lim : Int) :
    Calls Try.prog 17 #[.agg #[vg, va, .int .i64 lim]] w fun e w' => e = .returned (.bool (fewB l al)) ∧ Below w.heap.size w w' := by
  obtain ⟨ag, cg, rfl, hc⟩ := hg
  obtain ⟨aa, ca, rfl, hd⟩ := ha
  rw [List.length_map] at *
  unfold maxLen at *
  have HNo : Hid (¬ FewB l al → fewB l al = false) := fewB_false
  have HYes : Hid (FewB l al → fewB l al = true) := fewB_true
  have hb : Below w.heap.size w (w.alloc (.cells #[.slice ag l.length cg, .slice aa al.length ca, .int .i64 lim] 47)) := (Below.refl _ _).alloc (Nat.le_refl _) _
  have hN := Holds.new w 47 #[.slice ag l.length cg, .slice aa al.length ca, .int .i64 lim]
  obtain ⟨W0, hW0⟩ : ∃ W0, W0 = w.alloc (.cells #[.slice ag l.length cg, .slice aa al.length ca, .int .i64 lim] 47) := ⟨_, rfl⟩
  rw [← hW0] at hb hN
  have x0 : W0.cell? ⟨w.heap.size, 0, none⟩ = some (.slice ag l.length cg) := hN.cell 0
  have x1 : W0.cell? ⟨w.heap.size, 1, none⟩ = some (.slice aa al.length ca) := hN.cell 1
  have HC : Hid (∀ k x, l[k]? = some x → ∃ b off, ag = some ⟨b, off, none⟩ ∧ W0.cell? ⟨b, off + k * 2, none⟩ = some (.string (bs x.user))) := fun k x hk => by
    obtain ⟨b, off, e, hlt, h⟩ := hc (by intro e; rw [e] at hk; simp at hk)
    exact ⟨b, off, e, (hb.cell (p := ⟨b, off + k * 2, none⟩) hlt).trans (h k x hk).1⟩
  have HD : Hid (∀ k x, al[k]? = some x → ∃ b off, aa = some ⟨b, off, none⟩ ∧ W0.cell? ⟨b, off + k, none⟩ = some (.string (bs x))) := fun k x hk => by
    obtain ⟨b, off, e, hlt, h⟩ := hd (by intro e; rw [List.map_eq_nil_iff] at e; rw [e] at hk; simp at hk)
    exact ⟨b, off, e, (hb.cell (p := ⟨b, off + k, none⟩) hlt).trans (h k _ (by rw [List.getElem?_map, hk]; rfl))⟩
  have HB := Lib.hid hb
  subst hW0
  clear hc hd hb hN
  generalize fewB l al = z at *
  by_cases n1 : 20 < l.length
  · have q1 : decide ((l.length : Int) > 20) = true := decide_eq_true (by omega)
    have HF := Lib.hid (HNo.out fun h => by have := h.nl; omega)
    clear HC HD HNo HYes hsg hsa
    go_enter Try.func17, Try.ntmps17
    go_wp2_with fail
    go_ret
    exact ⟨by rw [HF.out]; rfl, HB.out⟩
  have q1 : decide ((l.length : Int) > 20) = false := decide_eq_false (by omega)
  by_cases n2 : 20 < al.length
  · have q2 : decide ((al.length : Int) > 20) = true := decide_eq_true (by omega)
    have HF := Lib.hid (HNo.out fun h => by have := h.na; omega)
    clear HC HD HNo HYes hsg hsa
    go_enter Try.func17, Try.ntmps17
    go_wp2_with fail
    go_ret
    exact ⟨by rw [HF.out]; rfl, HB.out⟩
  have q2 : decide ((al.length : Int) > 20) = false := decide_eq_false (by omega)
  go_enter Try.func17, Try.ntmps17
  go_wp2_with fail
  go_loopw [3] (fun i wr => ∃ k : Nat, k ≤ l.length ∧ i = .int .i64 k ∧ (∀ x ∈ l.take k, x.user.length ≤ 100) ∧ wr = w.alloc (.cells #[.slice ag l.length cg, .slice aa al.length ca, .int .i64 lim] 47)) (fun i _ => l.length - (intOf i).toNat)
  case atStart => exact ⟨0, Nat.zero_le _, rfl, by simp, rfl⟩
  case round =>
    obtain ⟨k, hk, rfl, htk, hw⟩ := hrel
    have hw := hw.symm
    subst hw
    by_cases hlt : k < l.length
    · obtain ⟨x, hx⟩ : ∃ x, x = l[k] := ⟨_, rfl⟩
      obtain ⟨b, off, rfl, c1⟩ := HC.out k x (by rw [hx]; exact List.getElem?_eq_getElem hlt)
      have hxm : x ∈ l := by rw [hx]; exact List.getElem_mem hlt
      have hsz := bs_size x.user
      have hsx := hsg x hxm
      by_cases hx1 : 100 < x.user.length
      · have qx : decide (((bs x.user).size : Int) > 100) = true := decide_eq_true (by omega)
        have HF := Lib.hid (HNo.out fun h => by have := h.sl x hxm; omega)
        clear HC HD HNo HYes hsg hsa hx htk hxm
        generalize bs x.user = X at *
        go_wp2_with fail
        go_ret
        exact ⟨by rw [HF.out]; rfl, HB.out⟩
      · have qx : decide (((bs x.user).size : Int) > 100) = false := decide_eq_false (by omega)
        have HF : Hid (∀ y ∈ l.take (k + 1), y.user.length ≤ 100) := fun y hm => by
          rw [List.take_succ_eq_append_getElem hlt, ← hx, List.mem_append] at hm
          rcases hm with hm | hm
          · exact htk y hm
          · simp at hm
            rw [hm]; omega
        clear HC HD HNo HYes hsg hsa hx htk hxm
        generalize bs x.user = X at *
        go_wp2_with fail
        go_roundw
        case rel => exact ⟨k + 1, by omega, by go_num, HF.out, trivial⟩
        case measure => simp [intOf]; omega
    · have hkl : k = l.length := by omega
      subst hkl
      rw [List.take_length] at htk
      have HA := Lib.hid htk
      clear htk hlt HC
      go_wp2_with fail
      go_loopw [4] (fun i wr => ∃ k : Nat, k ≤ al.length ∧ i = .int .i64 k ∧ (∀ x ∈ al.take k, x.length ≤ 100) ∧ wr = w.alloc (.cells #[.slice ag l.length cg, .slice aa al.length ca, .int .i64 lim] 47)) (fun i _ => al.length - (intOf i).toNat)
      case atStart => exact ⟨0, Nat.zero_le _, rfl, by simp, rfl⟩
      case round =>
        obtain ⟨k, hk, rfl, htk, hw⟩ := hrel
        have hw := hw.symm
        subst hw
        by_cases hlt : k < al.length
        · obtain ⟨x, hx⟩ : ∃ x, x = al[k] := ⟨_, rfl⟩
          obtain ⟨b, off, rfl, c1⟩ := HD.out k x (by rw [hx]; exact List.getElem?_eq_getElem hlt)
          have hxm : x ∈ al := by rw [hx]; exact List.getElem_mem hlt
          have hsz := bs_size x
          have hsx := hsa x hxm
          by_cases hx1 : 100 < x.length
          · have qx : decide (((bs x).size : Int) > 100) = true := decide_eq_true (by omega)
            have HF := Lib.hid (HNo.out fun h => by have := h.sa x hxm; omega)
            clear HD HNo HYes hsg hsa hx htk hxm HA
            generalize bs x = X at *
            go_wp2_with fail
            go_ret
            exact ⟨by rw [HF.out]; rfl, HB.out⟩
          · have qx : decide (((bs x).size : Int) > 100) = false := decide_eq_false (by omega)
            have HF : Hid (∀ y ∈ al.take (k + 1), y.length ≤ 100) := fun y hm => by
              rw [List.take_succ_eq_append_getElem hlt, ← hx, List.mem_append] at hm
              rcases hm with hm | hm
              · exact htk y hm
              · simp at hm
                rw [hm]; omega
            clear HD HNo HYes hsg hsa hx htk hxm HA
            generalize bs x = X at *
            go_wp2_with fail
            go_roundw
            case rel => exact ⟨k + 1, by omega, by go_num, HF.out, trivial⟩
            case measure => simp [intOf]; omega
        · have hkl : k = al.length := by omega
          subst hkl
          rw [List.take_length] at htk
          have HF := Lib.hid (HYes.out ⟨by omega, by omega, HA.out, htk⟩)
          clear htk hlt HD HA HNo HYes hsg hsa
          go_wp2_with fail
          go_ret
          exact ⟨by rw [HF.out]; rfl, HB.out⟩
end Go.Proofs.Ytjlbifpbdocahaa
