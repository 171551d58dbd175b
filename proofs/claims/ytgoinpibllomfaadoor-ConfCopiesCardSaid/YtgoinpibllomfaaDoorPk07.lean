/- Part 7 of what the statement wants. -/
import Derived.Test.YtgoinpibllomfaaDoorPk05
import Derived.Test.YtgoinpibllomfaaDoorPk06
namespace Go.Proofs.YtgoinpibllomfaaDoor
open Go.RowKit

theorem nodup_bs24 (l : List (List UInt8)) : decide (l.map bs).Nodup = decide l.Nodup := by
  have h : (l.map bs).Nodup ↔ l.Nodup := by
    unfold List.Nodup
    rw [List.pairwise_map]
    exact ⟨fun h => h.imp fun hne e => hne (by rw [e]), fun h => h.imp fun hne e => hne (bs_inj e)⟩
  by_cases hn : l.Nodup
  · rw [decide_eq_true hn, decide_eq_true (h.2 hn)]
  · rw [decide_eq_false hn, decide_eq_false (fun e => hn (h.1 e))]

set_option maxHeartbeats 1000000 in
set_option maxRecDepth 100000 in
theorem dGrants_any {w : World} {v : Value} {l : List GrantR} (h : GrantsAt w v l) (hl : l.length ≤ maxLen) (hs : ∀ x ∈ l, x.user.length ≤ 1000000) :
    Calls Tryd.prog 29 #[v] w fun e w' => e = .returned (.int .i64 (grantsZ l)) ∧ Below w.heap.size w w' := by
  obtain ⟨ao, cap, rfl, hc⟩ := h
  unfold maxLen at hl
  by_cases h16 : 16 < l.length
  · have HR : Hid (grantsZ l = 2) := if_pos h16
    have q : decide ((l.length : Int) > 16) = true := decide_eq_true (by omega)
    have HB0 := Lib.hid (Below.refl w.heap.size w)
    generalize grantsZ l = z at *
    clear hc hs
    go_enter Tryd.func29, Tryd.ntmps29
    go_wp2_with fail
    go_ret
    exact ⟨by rw [HR.out]; rfl, HB0.out⟩
  have q : decide ((l.length : Int) > 16) = false := decide_eq_false (by omega)
  have HU := Lib.hid (fun (x : GrantR) (hx : x ∈ l) (W : World) => dUser_any x.user (hs x hx) W)
  have HBad : Hid (∀ k (hk : k < l.length), (∀ x ∈ l.take k, grantZ x = 0) → grantZ l[k] ≠ 0 → grantsZ l = grantZ l[k]) := fun k hk h hx => grants_bad h16 hk h hx
  have HOk : Hid ((∀ x ∈ l, grantZ x = 0) → grantsZ l = 0) := grants_ok h16
  have HC := Lib.hid hc
  clear hc hs
  generalize grantsZ l = z at *
  go_enter Tryd.func29, Tryd.ntmps29
  go_wp2_with fail
  go_loopw [10] (fun i wr => ∃ k : Nat, k ≤ l.length ∧ i = .int .i64 k ∧ (∀ x ∈ l.take k, grantZ x = 0) ∧ Below w.heap.size w wr) (fun i _ => l.length - (intOf i).toNat)
  case atStart => exact ⟨0, Nat.zero_le _, rfl, by simp, Below.refl _ _⟩
  case round =>
    obtain ⟨k, hk, rfl, htk, hbel⟩ := hrel
    by_cases hlt : k < l.length
    · obtain ⟨b, off, rfl, hb, hcell⟩ := HC.out (by intro h; simp [h] at hlt)
      obtain ⟨x, hx⟩ : ∃ x, x = l[k] := ⟨_, rfl⟩
      obtain ⟨g1, g2⟩ := hcell k x (by rw [hx]; exact List.getElem?_eq_getElem hlt)
      have c1 := (hbel.cell (p := ⟨b, off + k * 2, none⟩) hb).trans g1
      have c2 := (hbel.cell (p := ⟨b, off + k * 2 + 1, none⟩) hb).trans g2
      have HUx := Lib.hid (HU.out x (by rw [hx]; exact List.getElem_mem hlt))
      have HN : Hid (grantZ x = 0 → ∀ y ∈ l.take (k + 1), grantZ y = 0) := fun e => grant_take hlt htk (by rw [← hx]; exact e)
      have HE : Hid (grantZ x ≠ 0 → z = grantZ x) := fun e => by rw [hx]; exact HBad.out k hlt htk (by rw [← hx]; exact e)
      have HZ : Hid (grantZ x = if userP x.user = false then 3 else if 0 ≤ x.who ∧ x.who ≤ 15 then 0 else 5) := rfl
      have HB := Lib.hid hbel
      clear hcell htk hx hbel g1 g2 HC HU HBad HOk
      generalize grantZ x = gz at *
      generalize userP x.user = m at *
      generalize bs x.user = U at *
      generalize x.who = y at *
      cases m with
      | false =>
        have HF : Hid (z = 3) := by
          have e : gz = 3 := by rw [HZ.out]; rfl
          show z = 3
          rw [HE.out (by omega), e]
        clear HZ HE HN
        go_wp2_with (go_at_call 8; (with_reducible refine (HUx.out _).mono ?_); rintro e w1 ⟨rfl, hw⟩; have hw := hw.symm; subst hw)
        go_ret
        exact ⟨by rw [HF.out]; rfl, HB.out.alloc HB.out.size _⟩
      | true =>
        by_cases y0 : y < 0
        · have q0 : decide (y < 0) = true := decide_eq_true y0
          have HF : Hid (z = 5) := by
            have e : gz = 5 := by rw [HZ.out, if_neg (by simp), if_neg (by omega)]
            show z = 5
            rw [HE.out (by omega), e]
          clear HZ HE HN
          go_wp2_with (go_at_call 8; (with_reducible refine (HUx.out _).mono ?_); rintro e w1 ⟨rfl, hw⟩; have hw := hw.symm; subst hw)
          go_ret
          exact ⟨by rw [HF.out]; rfl, HB.out.alloc HB.out.size _⟩
        have q0 : decide (y < 0) = false := decide_eq_false y0
        by_cases y1 : 16 ≤ y
        · have q1 : decide (y ≥ 16) = true := decide_eq_true y1
          have HF : Hid (z = 5) := by
            have e : gz = 5 := by rw [HZ.out, if_neg (by simp), if_neg (by omega)]
            show z = 5
            rw [HE.out (by omega), e]
          clear HZ HE HN
          go_wp2_with (go_at_call 8; (with_reducible refine (HUx.out _).mono ?_); rintro e w1 ⟨rfl, hw⟩; have hw := hw.symm; subst hw)
          go_ret
          exact ⟨by rw [HF.out]; rfl, HB.out.alloc HB.out.size _⟩
        have q1 : decide (y ≥ 16) = false := decide_eq_false (by omega)
        have HF := Lib.hid (HN.out (by rw [HZ.out, if_neg (by simp), if_pos (by omega)]))
        clear HZ HE HN
        go_wp2_with (go_at_call 8; (with_reducible refine (HUx.out _).mono ?_); rintro e w1 ⟨rfl, hw⟩; have hw := hw.symm; subst hw)
        go_roundw
        case rel => exact ⟨k + 1, by omega, by go_num, HF.out, HB.out.alloc HB.out.size _⟩
        case measure => simp [intOf]; omega
    · have hkl : k = l.length := by omega
      subst hkl
      rw [List.take_length] at htk
      have HF := Lib.hid (HOk.out htk)
      clear htk hlt HC HU HBad HOk
      go_wp2_with fail
      go_ret
      exact ⟨by rw [HF.out]; rfl, hbel⟩

set_option maxHeartbeats 1000000 in
set_option maxRecDepth 100000 in
theorem dCAlgs_any {w : World} {v : Value} {l : List (List UInt8)} (h : TextsAt w v (l.map bs)) (hl : l.length ≤ maxLen) (hs : ∀ x ∈ l, x.length ≤ 1000000) :
    Calls Tryd.prog 31 #[v] w fun e w' => e = .returned (.int .i64 (algsZ l)) ∧ Below w.heap.size w w' := by
  have HOn := fun (hle : l.length ≤ 15) => nOnce_any h (by rw [List.length_map]; omega) (fun x hx => by obtain ⟨y, hy, rfl⟩ := List.mem_map.1 hx; rw [bs_size]; have := hs y hy; unfold maxLen; omega)
  rw [nodup_bs24] at HOn
  obtain ⟨ao, cap, rfl, hc⟩ := h
  rw [List.length_map] at *
  unfold maxLen at hl
  have HB0 := Lib.hid (Below.refl w.heap.size w)
  by_cases h0 : l.length = 0
  · have HR : Hid (algsZ l = 6) := if_pos h0
    have q0 : ((l.length : Int) == 0) = true := by rw [beq_iff_eq]; omega
    generalize algsZ l = z at *
    clear hc hs HOn
    go_enter Tryd.func31, Tryd.ntmps31
    go_wp2_with fail
    go_ret
    exact ⟨by rw [HR.out]; rfl, HB0.out⟩
  have q0 : ((l.length : Int) == 0) = false := by rw [beq_eq_false_iff_ne]; omega
  by_cases h15 : 15 < l.length
  · have HR : Hid (algsZ l = 2) := by
      show algsZ l = 2
      unfold algsZ
      rw [if_neg h0, if_pos h15]
    have q1 : decide ((l.length : Int) > 15) = true := decide_eq_true (by omega)
    generalize algsZ l = z at *
    clear hc hs h0 HOn
    go_enter Tryd.func31, Tryd.ntmps31
    go_wp2_with fail
    go_ret
    exact ⟨by rw [HR.out]; rfl, HB0.out⟩
  have q1 : decide ((l.length : Int) > 15) = false := decide_eq_false (by omega)
  have HO := HOn (by omega)
  have hz : algsZ l = if (∀ x ∈ l, rightL x = true) ∧ l.Nodup then 0 else 3 := by
    unfold algsZ
    rw [if_neg h0, if_neg h15]
  by_cases hn : l.Nodup
  · rw [decide_eq_true hn] at HO
    have HO := Lib.hid HO
    have H0 : Hid ((∀ x ∈ l, rightL x = true) → algsZ l = 0) := fun h => by rw [hz, if_pos ⟨h, hn⟩]
    have H3 : Hid (∀ x ∈ l, rightL x = false → algsZ l = 3) := fun x hx e => by rw [hz, if_neg (fun hh => by rw [hh.1 x hx] at e; cases e)]
    have HRt := Lib.hid (fun (x : List UInt8) (hx : x ∈ l) (W : World) => nRight_any x (hs x hx) W)
    have HC := Lib.hid hc
    clear hc hs hz hn HOn
    generalize algsZ l = z at *
    go_enter Tryd.func31, Tryd.ntmps31
    go_wp2_with (go_at_call 47; (with_reducible refine HO.out.mono ?_); rintro e w1 ⟨rfl, b1⟩)
    go_loopw [19] (fun i wr => ∃ k : Nat, k ≤ l.length ∧ i = .int .i64 k ∧ (∀ x ∈ l.take k, rightL x = true) ∧ Below w.heap.size w wr) (fun i _ => l.length - (intOf i).toNat)
    case atStart => exact ⟨0, Nat.zero_le _, rfl, by simp, b1⟩
    case round =>
      obtain ⟨k, hk, rfl, htk, hbel⟩ := hrel
      by_cases hlt : k < l.length
      · obtain ⟨b, off, rfl, hb, hcell⟩ := HC.out (by intro h; simp at h; simp [h] at hlt)
        obtain ⟨x, hx⟩ : ∃ x, x = l[k] := ⟨_, rfl⟩
        have hxm : x ∈ l := by rw [hx]; exact List.getElem_mem hlt
        have c1 : wr.cell? ⟨b, off + k, none⟩ = some (.string (bs x)) := (hbel.cell (p := ⟨b, off + k, none⟩) hb).trans <| hcell k _ (by rw [List.getElem?_map, List.getElem?_eq_getElem hlt, hx]; rfl)
        have HR := Lib.hid (HRt.out x hxm)
        have HE := Lib.hid (H3.out x hxm)
        have HN : Hid (rightL x = true → ∀ y ∈ l.take (k + 1), rightL y = true) := fun e y hy => by
          rw [List.take_succ_eq_append_getElem hlt, ← hx, List.mem_append] at hy
          rcases hy with hy | hy
          · exact htk y hy
          · simp at hy
            rw [hy]; exact e
        have HB := Lib.hid hbel
        clear hcell htk hx hxm hbel HC HRt H0 H3 b1
        generalize rightL x = m at *
        generalize bs x = X at *
        cases m with
        | false =>
          have HF := Lib.hid (HE.out rfl)
          clear HE HN
          go_wp2_with (go_at_call 48; (with_reducible refine (HR.out _).mono ?_); rintro e w2 ⟨rfl, b2⟩)
          go_ret
          exact ⟨by rw [HF.out]; rfl, HB.out.trans (b2.mono HB.out.size)⟩
        | true =>
          have HF := Lib.hid (HN.out rfl)
          clear HE HN
          go_wp2_with (go_at_call 48; (with_reducible refine (HR.out _).mono ?_); rintro e w2 ⟨rfl, b2⟩)
          go_roundw
          case rel => exact ⟨k + 1, by omega, by go_num, HF.out, HB.out.trans (b2.mono HB.out.size)⟩
          case measure => simp [intOf]; omega
      · have hkl : k = l.length := by omega
        subst hkl
        rw [List.take_length] at htk
        have HF := Lib.hid (H0.out htk)
        clear htk hlt HC HRt H0 H3
        go_wp2_with fail
        go_ret
        exact ⟨by rw [HF.out]; rfl, hbel⟩
  · rw [decide_eq_false hn] at HO
    have HO := Lib.hid HO
    have HR : Hid (algsZ l = 3) := by
      show algsZ l = 3
      rw [hz, if_neg (fun hh => hn hh.2)]
    generalize algsZ l = z at *
    clear hc hs hz hn HOn
    go_enter Tryd.func31, Tryd.ntmps31
    go_wp2_with (go_at_call 47; (with_reducible refine HO.out.mono ?_); rintro e w1 ⟨rfl, b1⟩)
    go_ret
    exact ⟨by rw [HR.out]; rfl, b1⟩
end Go.Proofs.YtgoinpibllomfaaDoor
