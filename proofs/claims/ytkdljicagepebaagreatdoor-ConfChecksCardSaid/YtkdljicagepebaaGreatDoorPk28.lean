/- Part 28 of what the statement wants. -/
import Derived.BigQuiet
import Derived.Test.YtkdljicagepebaaGreatDoorPk27
namespace Go.Proofs.YtkdljicagepebaaGreatDoor
open Go.RowKit

def Room24 (v : Value) : Prop := ∀ a n c, v = .slice a n c → n ≤ c
theorem drewN24 {n m : Nat} {w wr : World} (h : Below n w wr) : Below n w (wr.drewN m) := ⟨h.os, h.tape, h.output, h.size, h.block⟩
theorem nodup_take24 {l : List (List UInt8)} {k : Nat} (hk : k < l.length) (h : (l.take k).Nodup) (hx : l[k] ∉ l.take k) : (l.take (k + 1)).Nodup := by
  rw [List.take_succ_eq_append_getElem hk]
  rw [List.nodup_append]
  refine ⟨h, by simp, fun a ha b hb => ?_⟩
  simp at hb
  intro e
  exact hx (by rw [← hb, ← e]; exact ha)
theorem nodup_not24 {l : List (List UInt8)} {k : Nat} (hk : k < l.length) (hx : l[k] ∈ l.take k) : ¬ l.Nodup := fun hn => by
  have h := hn
  rw [← List.take_append_drop k l, List.nodup_append] at h
  have hd : l[k] ∈ l.drop k := by
    rw [List.drop_eq_getElem_cons hk]
    exact List.mem_cons_self
  exact h.2.2 _ hx _ hd rfl
theorem memR24 {x : List UInt8} {l : List (List UInt8)} : bs x ∈ l.map bs ↔ x ∈ l := by
  rw [List.mem_map]
  exact ⟨fun ⟨y, hy, e⟩ => by rw [← bs_inj e]; exact hy, fun h => ⟨x, h, rfl⟩⟩

set_option maxHeartbeats 2000000 in
set_option maxRecDepth 100000 in
theorem r24Algs_any {w : World} {v : Value} {l : List (List UInt8)} (h : TextsAt w v (l.map bs)) (hr : Room24 v) (hl : l.length ≤ maxLen) (hs : ∀ x ∈ l, x.length ≤ 1000000) :
    Calls Tryz.prog 45 #[v] w fun e w' => e = .returned (.int .i64 (algsZ l)) ∧ Below w.heap.size w w' := by
  have HT : Hid (∀ k, k ≤ l.length → ∀ (c : Nat) (x : List UInt8) (W : World), Below w.heap.size w W → ∀ a, v = .slice a l.length c → Calls Tryz.prog 64 #[.slice a k c, .string (bs x)] W fun e w' => e = .returned (.bool (decide (x ∈ l.take k))) ∧ w' = W) := fun k hk c x W hb a e => by
    subst e
    have hx : TextsAt W (.slice a (l.map bs).length c) (l.map bs) := by rw [List.length_map]; exact h.below hb
    have ht := hx.take (n := k) (by rw [List.length_map]; exact hk) c
    rw [← List.map_take] at ht
    have := rHas_any ht (by rw [List.length_map, List.length_take]; unfold maxLen at hl ⊢; omega) (bs x)
    rw [show decide (bs x ∈ (l.take k).map bs) = decide (x ∈ l.take k) from by simp only [memR24]] at this
    exact this
  have HRt := Lib.hid (fun (x : List UInt8) (hx : x ∈ l) (W : World) => rRight_any x (hs x hx) W)
  obtain ⟨ao, cap, rfl, hc⟩ := h
  rw [List.length_map] at *
  have hlc := hr _ _ _ rfl
  unfold maxLen at hl
  have HC := Lib.hid hc
  clear hc hs hr
  have HB0 := Lib.hid (Below.refl w.heap.size w)
  by_cases h0 : l.length = 0
  · have e : algsZ l = 6 := by unfold algsZ; rw [if_pos h0]
    rw [e]
    have q0 : ((l.length : Int) == 0) = true := by rw [beq_iff_eq]; omega
    clear HT HRt HC e
    go_enter Tryz.func45, Tryz.ntmps45
    go_wp2_with fail
    go_ret
    exact ⟨rfl, HB0.out⟩
  have q0 : ((l.length : Int) == 0) = false := by rw [beq_eq_false_iff_ne]; omega
  by_cases h15 : 15 < l.length
  · have e : algsZ l = 2 := by unfold algsZ; rw [if_neg h0, if_pos h15]
    rw [e]
    have q1 : decide ((l.length : Int) > 15) = true := decide_eq_true (by omega)
    clear HT HRt HC e h0
    go_enter Tryz.func45, Tryz.ntmps45
    go_wp2_with fail
    go_ret
    exact ⟨rfl, HB0.out⟩
  have q1 : decide ((l.length : Int) > 15) = false := decide_eq_false (by omega)
  have hz : algsZ l = if (∀ x ∈ l, rightL x = true) ∧ l.Nodup then 0 else 3 := by
    unfold algsZ
    rw [if_neg h0, if_neg h15]
  have H3 : Hid (¬ ((∀ x ∈ l, rightL x = true) ∧ l.Nodup) → algsZ l = 3) := fun h => by rw [hz, if_neg h]
  have H4 : Hid ((∀ x ∈ l, rightL x = true) → l.Nodup → algsZ l = 0) := fun ha hn => by rw [hz, if_pos ⟨ha, hn⟩]
  generalize algsZ l = m at *
  clear hz
  go_enter Tryz.func45, Tryz.ntmps45
  go_wp2_with fail
  go_loopw [3] (fun i wr => ∃ k : Nat, k ≤ l.length ∧ i = .int .i64 k ∧ (∀ x ∈ l.take k, rightL x = true) ∧ (l.take k).Nodup ∧ Below w.heap.size w wr) (fun i _ => l.length - (intOf i).toNat)
  case atStart => exact ⟨0, Nat.zero_le _, rfl, by simp, by simp, HB0.out⟩
  case round =>
    obtain ⟨k, hk, rfl, htk, hnk, hbel⟩ := hrel
    by_cases hlt : k < l.length
    · obtain ⟨b, off, rfl, hb, hcell⟩ := HC.out (by intro h; simp at h; simp [h] at hlt)
      obtain ⟨x, hx⟩ : ∃ x, x = l[k] := ⟨_, rfl⟩
      have hxm : x ∈ l := by rw [hx]; exact List.getElem_mem hlt
      have c1 : wr.cell? ⟨b, off + k, none⟩ = some (.string (bs x)) := (hbel.cell (p := ⟨b, off + k, none⟩) hb).trans <| hcell k _ (by rw [List.getElem?_map, List.getElem?_eq_getElem hlt, hx]; rfl)
      have HR := Lib.hid (fun n => HRt.out x hxm (wr.drewN n))
      have HK := Lib.hid (fun n => HT.out k hk cap x (wr.drewN n) (drewN24 hbel) _ rfl)
      have HBl := Lib.hid hbel
      have HBadR : Hid (rightL x = false → m = 3) := fun e => H3.out fun hh => by rw [hh.1 x hxm] at e; cases e
      have HBadD : Hid (decide (x ∈ l.take k) = true → m = 3) := fun e => H3.out fun hh => nodup_not24 hlt (by rw [← hx]; exact of_decide_eq_true e) hh.2
      have HNr : Hid (rightL x = true → ∀ y ∈ l.take (k + 1), rightL y = true) := fun e y hy => by
        rw [List.take_succ_eq_append_getElem hlt, ← hx, List.mem_append] at hy
        rcases hy with hy | hy
        · exact htk y hy
        · simp at hy
          rw [hy]; exact e
      have HNd : Hid (decide (x ∈ l.take k) = false → (l.take (k + 1)).Nodup) := fun e => nodup_take24 hlt hnk (by rw [← hx]; exact of_decide_eq_false e)
      clear hcell htk hnk hx hxm hbel HC HT HRt H3 H4
      generalize rightL x = rx at *
      generalize decide (x ∈ l.take k) = dx at *
      generalize bs x = X at *
      have hkc : k ≤ cap := by omega
      go_wp2_with fail
      cases rx with
      | false =>
        have HE := Lib.hid (HBadR.out rfl)
        clear HBadR HBadD HNr HNd
        go_quiet (first | (go_at_call 63; refine Calls.quiet_of_same (HR.out _)) | (go_at_call 64; refine Calls.quiet_of_same (HK.out _)))
        go_wp2_with fail
        go_ret
        exact ⟨by rw [HE.out]; rfl, drewN24 HBl.out⟩
      | true =>
        cases dx with
        | true =>
          have HE := Lib.hid (HBadD.out rfl)
          clear HBadR HBadD HNr HNd
          go_quiet (first | (go_at_call 63; refine Calls.quiet_of_same (HR.out _)) | (go_at_call 64; refine Calls.quiet_of_same (HK.out _)))
          go_wp2_with fail
          go_ret
          exact ⟨by rw [HE.out]; rfl, drewN24 HBl.out⟩
        | false =>
          have HE := Lib.hid (HNr.out rfl)
          have HE2 := Lib.hid (HNd.out rfl)
          clear HBadR HBadD HNr HNd
          go_quiet (first | (go_at_call 63; refine Calls.quiet_of_same (HR.out _)) | (go_at_call 64; refine Calls.quiet_of_same (HK.out _)))
          go_wp2_with fail
          go_roundw
          case rel => exact ⟨k + 1, by omega, by go_num, HE.out, HE2.out, drewN24 HBl.out⟩
          case measure => simp [intOf]; omega
    · have hkl : k = l.length := by omega
      subst hkl
      rw [List.take_length] at htk hnk
      have HF := Lib.hid (H4.out htk hnk)
      clear hlt htk hnk H3 H4 HT HRt hlc
      go_wp2_with fail
      go_ret
      exact ⟨by rw [HF.out]; rfl, hbel⟩

set_option maxHeartbeats 2000000 in
set_option maxRecDepth 100000 in
theorem r24Check_any {w : World} {vg va : Value} {l : List GrantR} {al : List (List UInt8)} (hg : GrantsAt w vg l) (hlg : l.length ≤ maxLen) (hsg : ∀ x ∈ l, x.user.length ≤ 1000000) (ha : TextsAt w va (al.map bs)) (hr : Room24 va) (hla : al.length ≤ maxLen) (hsa : ∀ x ∈ al, x.length ≤ 1000000) (lim : Int) :
    Calls Tryz.prog 18 #[vg, va, .int .i64 lim] w fun e w' => e = .returned (.tuple #[.int .i64 (gateZ l al lim), .string (gateS (gateI l al lim))]) ∧ Below w.heap.size w w' := by
  have HA := Lib.hid (fun (W : World) (hb : Below w.heap.size w W) => r24Algs_any (ha.below hb) hr hla hsa)
  have HZ0 : Hid (grantsZ l ≠ 0 → gateZ l al lim = grantsZ l ∧ gateI l al lim = 0) := gate0
  have HZ1 : Hid (grantsZ l = 0 → algsZ al ≠ 0 → gateZ l al lim = algsZ al ∧ gateI l al lim = 1) := gate1
  have HZ2 : Hid (grantsZ l = 0 → algsZ al = 0 → ¬ (1 ≤ lim ∧ lim ≤ 20) → gateZ l al lim = 5 ∧ gateI l al lim = 2) := gate2
  have HZ3 : Hid (grantsZ l = 0 → algsZ al = 0 → (1 ≤ lim ∧ lim ≤ 20) → gateZ l al lim = 0 ∧ gateI l al lim = 3) := gate3
  have HS : Hid (gateS 0 = ⟨#[103, 114, 97, 110, 116, 115]⟩ ∧ gateS 1 = ⟨#[97, 108, 103, 115]⟩ ∧ gateS 2 = ⟨#[108, 105, 109, 105, 116]⟩ ∧ gateS 3 = ⟨#[]⟩) := ⟨rfl, rfl, rfl, rfl⟩
  obtain ⟨ag, cg, rfl, hc⟩ := hg
  obtain ⟨aa, ca, rfl, _⟩ := ha
  rw [List.length_map] at *
  unfold maxLen at hlg
  have HB0 := Lib.hid (Below.refl w.heap.size w)
  generalize gateZ l al lim = Z at *
  generalize gateI l al lim = I at *
  by_cases h16 : 16 < l.length
  · have e : grantsZ l = 2 := if_pos h16
    obtain ⟨e1, e2⟩ := HZ0.out (by rw [e]; decide)
    rw [e1, e2, e, HS.out.1]
    have q : decide ((l.length : Int) > 16) = true := decide_eq_true (by omega)
    clear HA HZ0 HZ1 HZ2 HZ3 HS hc hsg hsa hr e e1 e2
    go_enter Tryz.func18, Tryz.ntmps18
    go_wp2_with fail
    go_ret2
    exact ⟨rfl, HB0.out⟩
  have q : decide ((l.length : Int) > 16) = false := decide_eq_false (by omega)
  have HU := Lib.hid (fun (x : GrantR) (hx : x ∈ l) (W : World) => r24User_any x.user (hsg x hx) W)
  have HBad : Hid (∀ k (hk : k < l.length), (∀ x ∈ l.take k, grantZ x = 0) → grantZ l[k] ≠ 0 → Z = grantZ l[k] ∧ I = 0) := fun k hk h hx => by
    have e := grants_bad h16 hk h hx
    have := HZ0.out (by rw [e]; exact hx)
    rw [e] at this
    exact this
  have HOk : Hid ((∀ x ∈ l, grantZ x = 0) → grantsZ l = 0) := grants_ok h16
  have HC := Lib.hid hc
  clear hc hsg hsa hr HZ0
  generalize grantsZ l = gz at *
  go_enter Tryz.func18, Tryz.ntmps18
  go_wp2_with fail
  go_loopw [8] (fun i wr => ∃ k : Nat, k ≤ l.length ∧ i = .int .i64 k ∧ (∀ x ∈ l.take k, grantZ x = 0) ∧ Below w.heap.size w wr) (fun i _ => l.length - (intOf i).toNat)
  case atStart => exact ⟨0, Nat.zero_le _, rfl, by simp, HB0.out⟩
  case round =>
    obtain ⟨k, hk, rfl, htk, hbel⟩ := hrel
    by_cases hlt : k < l.length
    · obtain ⟨b, off, rfl, hb, hcell⟩ := HC.out (by intro h; simp [h] at hlt)
      obtain ⟨x, hx⟩ : ∃ x, x = l[k] := ⟨_, rfl⟩
      obtain ⟨g1, g2⟩ := hcell k x (by rw [hx]; exact List.getElem?_eq_getElem hlt)
      have c1 := (hbel.cell (p := ⟨b, off + k * 2, none⟩) hb).trans g1
      have c2 := (hbel.cell (p := ⟨b, off + k * 2 + 1, none⟩) hb).trans g2
      have HUx := Lib.hid (HU.out x (by rw [hx]; exact List.getElem_mem hlt))
      have HN : Hid (grantZ x = 0 → ∀ y ∈ l.take (k + 1), grantZ y = 0) := fun e => grant_take hlt htk (by rw [← hx]; exact e)
      have HE : Hid (grantZ x ≠ 0 → Z = grantZ x ∧ I = 0) := fun e => by rw [hx]; exact HBad.out k hlt htk (by rw [← hx]; exact e)
      have HZ : Hid (grantZ x = if userP x.user = false then 3 else if 0 ≤ x.who ∧ x.who ≤ 15 then 0 else 5) := rfl
      have HB := Lib.hid hbel
      have HSG := Lib.hid HS.out.1
      clear hcell htk hx hbel g1 g2 HC HU HBad HOk HA HZ1 HZ2 HZ3 HS
      generalize grantZ x = gx at *
      generalize userP x.user = m at *
      generalize bs x.user = U at *
      generalize x.who = y at *
      cases m with
      | false =>
        have HF : Hid (Z = 3 ∧ I = 0) := by
          have e : gx = 3 := by rw [HZ.out]; rfl
          have := HE.out (by omega)
          rw [e] at this
          exact this
        clear HZ HE HN
        go_wp2_with (go_at_call 44; (with_reducible refine (HUx.out _).mono ?_); rintro e w1 ⟨rfl, hw⟩; have hw := hw.symm; subst hw)
        go_ret2
        exact ⟨by rw [HF.out.1, HF.out.2, HSG.out]; rfl, HB.out⟩
      | true =>
        by_cases y0 : y < 0
        · have q0 : decide (y < 0) = true := decide_eq_true y0
          have HF : Hid (Z = 5 ∧ I = 0) := by
            have e : gx = 5 := by rw [HZ.out, if_neg (by simp), if_neg (by omega)]
            have := HE.out (by omega)
            rw [e] at this
            exact this
          clear HZ HE HN
          go_wp2_with (go_at_call 44; (with_reducible refine (HUx.out _).mono ?_); rintro e w1 ⟨rfl, hw⟩; have hw := hw.symm; subst hw)
          go_ret2
          exact ⟨by rw [HF.out.1, HF.out.2, HSG.out]; rfl, HB.out⟩
        have q0 : decide (y < 0) = false := decide_eq_false y0
        by_cases y1 : 15 < y
        · have q1 : decide (y > 15) = true := decide_eq_true y1
          have HF : Hid (Z = 5 ∧ I = 0) := by
            have e : gx = 5 := by rw [HZ.out, if_neg (by simp), if_neg (by omega)]
            have := HE.out (by omega)
            rw [e] at this
            exact this
          clear HZ HE HN
          go_wp2_with (go_at_call 44; (with_reducible refine (HUx.out _).mono ?_); rintro e w1 ⟨rfl, hw⟩; have hw := hw.symm; subst hw)
          go_ret2
          exact ⟨by rw [HF.out.1, HF.out.2, HSG.out]; rfl, HB.out⟩
        have q1 : decide (y > 15) = false := decide_eq_false (by omega)
        have HF := Lib.hid (HN.out (by rw [HZ.out, if_neg (by simp), if_pos (by omega)]))
        clear HZ HE HN
        go_wp2_with (go_at_call 44; (with_reducible refine (HUx.out _).mono ?_); rintro e w1 ⟨rfl, hw⟩; have hw := hw.symm; subst hw)
        go_roundw
        case rel => exact ⟨k + 1, by omega, by go_num, HF.out, HB.out⟩
        case measure => simp [intOf]; omega
    · have hkl : k = l.length := by omega
      subst hkl
      rw [List.take_length] at htk
      have h0 := HOk.out htk
      have HAw := Lib.hid (HA.out wr hbel)
      have HB := Lib.hid hbel
      obtain ⟨s0, s1, s2, s3⟩ := HS.out
      clear htk hlt HC HU HBad HOk HA hbel HS s0
      by_cases h1 : algsZ al ≠ 0
      · obtain ⟨e1, e2⟩ := HZ1.out h0 h1
        have HF : Hid (Z = algsZ al ∧ gateS I = ⟨#[97, 108, 103, 115]⟩) := ⟨e1, by rw [e2, s1]⟩
        have qz : (algsZ al != 0) = true := by simpa using h1
        have qz' : (algsZ al == 0) = false := by simpa using h1
        clear e1 e2 s1 s2 s3 HZ1 HZ2 HZ3 h0 h1
        generalize algsZ al = az at *
        go_wp2_with (go_at_call 45; (with_reducible refine HAw.out.mono ?_); rintro e w1 ⟨rfl, b1⟩)
        go_ret2
        exact ⟨by rw [HF.out.1, HF.out.2]; rfl, HB.out.trans (b1.mono HB.out.size)⟩
      have h1 : algsZ al = 0 := by omega
      rw [h1] at HAw
      by_cases h2 : 1 ≤ lim ∧ lim ≤ 20
      · obtain ⟨e1, e2⟩ := HZ3.out h0 h1 h2
        have HF : Hid (Z = 0 ∧ gateS I = ⟨#[]⟩) := ⟨e1, by rw [e2, s3]⟩
        have q1 : decide (lim < 1) = false := decide_eq_false (by omega)
        have q2 : decide (lim > 20) = false := decide_eq_false (by omega)
        clear e1 e2 s1 s2 s3 HZ1 HZ2 HZ3 h0 h1 h2
        go_wp2_with (go_at_call 45; (with_reducible refine HAw.out.mono ?_); rintro e w1 ⟨rfl, b1⟩)
        go_ret2
        exact ⟨by rw [HF.out.1, HF.out.2]; rfl, HB.out.trans (b1.mono HB.out.size)⟩
      · obtain ⟨e1, e2⟩ := HZ2.out h0 h1 h2
        have HF : Hid (Z = 5 ∧ gateS I = ⟨#[108, 105, 109, 105, 116]⟩) := ⟨e1, by rw [e2, s2]⟩
        by_cases h3 : lim < 1
        · have q1 : decide (lim < 1) = true := decide_eq_true h3
          clear e1 e2 s1 s2 s3 HZ1 HZ2 HZ3 h0 h1 h2 h3
          go_wp2_with (go_at_call 45; (with_reducible refine HAw.out.mono ?_); rintro e w1 ⟨rfl, b1⟩)
          go_ret2
          exact ⟨by rw [HF.out.1, HF.out.2]; rfl, HB.out.trans (b1.mono HB.out.size)⟩
        · have q1 : decide (lim < 1) = false := decide_eq_false h3
          have q2 : decide (lim > 20) = true := decide_eq_true (by omega)
          clear e1 e2 s1 s2 s3 HZ1 HZ2 HZ3 h0 h1 h2 h3
          go_wp2_with (go_at_call 45; (with_reducible refine HAw.out.mono ?_); rintro e w1 ⟨rfl, b1⟩)
          go_ret2
          exact ⟨by rw [HF.out.1, HF.out.2]; rfl, HB.out.trans (b1.mono HB.out.size)⟩
end Go.Proofs.YtkdljicagepebaaGreatDoor
