/- Part 30 of what the statement wants. -/
import Derived.Test.YtkdljicagepebaaGreatDoorPk29
namespace Go.Proofs.YtkdljicagepebaaGreatDoor
open Go.RowKit

theorem one_three {i : Nat} {l : List (List UInt8)} (h0 : l.length ≠ 0) (h15 : ¬ 15 < l.length) (h : ¬ ((∀ x ∈ l, rightL x = true) ∧ l.Nodup)) : oneP i l = 3 := by
  unfold oneP
  rw [if_neg h0, if_neg h15, if_pos h]
theorem nodup_take {l : List (List UInt8)} {k : Nat} (hk : k < l.length) (h : (l.take k).Nodup) (hx : l[k] ∉ l.take k) : (l.take (k + 1)).Nodup := by
  rw [List.take_succ_eq_append_getElem hk]
  rw [List.nodup_append]
  refine ⟨h, by simp, fun a ha b hb => ?_⟩
  simp at hb
  intro e
  exact hx (by rw [← hb, ← e]; exact ha)
theorem nodup_not {l : List (List UInt8)} {k : Nat} (hk : k < l.length) (hx : l[k] ∈ l.take k) : ¬ l.Nodup := fun hn => by
  have h := hn
  rw [← List.take_append_drop k l, List.nodup_append] at h
  have hd : l[k] ∈ l.drop k := by
    rw [List.drop_eq_getElem_cons hk]
    exact List.mem_cons_self
  exact h.2.2 _ hx _ hd rfl
theorem mem_bs {x : List UInt8} {l : List (List UInt8)} : bs x ∈ l.map bs ↔ x ∈ l := by
  rw [List.mem_map]
  exact ⟨fun ⟨y, hy, e⟩ => by rw [← bs_inj e]; exact hy, fun h => ⟨x, h, rfl⟩⟩

set_option maxHeartbeats 2000000 in
set_option maxRecDepth 100000 in
theorem r15wrong_any {w : World} {v : Value} {l : List (List UInt8)} (h : TextsAt w v (l.map bs)) (hr : Room15 v) (hl : l.length ≤ maxLen) (hs : ∀ x ∈ l, x.length ≤ 1000000) (i : Nat) :
    Calls Tryz.prog 43 #[v, .bool (decide (i = 0))] w fun e w' => e = .returned (.int .i64 (oneP i l)) ∧ Below w.heap.size w w' := by
  have HT : Hid (∀ k, k ≤ l.length → ∀ (c : Nat) (x : List UInt8) (W : World), Below w.heap.size w W → ∀ a, v = .slice a l.length c → Calls Tryz.prog 64 #[.slice a k c, .string (bs x)] W fun e w' => e = .returned (.bool (decide (x ∈ l.take k))) ∧ w' = W) := fun k hk c x W hb a e => by
    subst e
    have hx : TextsAt W (.slice a (l.map bs).length c) (l.map bs) := by rw [List.length_map]; exact h.below hb
    have ht := hx.take (n := k) (by rw [List.length_map]; exact hk) c
    rw [← List.map_take] at ht
    have := rHas_any ht (by rw [List.length_map, List.length_take]; unfold maxLen at hl ⊢; omega) (bs x)
    rw [show decide (bs x ∈ (l.take k).map bs) = decide (x ∈ l.take k) from by simp only [mem_bs]] at this
    exact this
  have HRt := Lib.hid (fun (x : List UInt8) (hx : x ∈ l) (W : World) => rRight_any x (hs x hx) W)
  have HMe := Lib.hid (fun (x : List UInt8) (W : World) => r15Method_any x W)
  obtain ⟨ao, cap, rfl, hc⟩ := h
  rw [List.length_map] at *
  have hlc := hr _ _ _ rfl
  unfold maxLen at hl
  have HC := Lib.hid hc
  clear hc hs hr
  have HB0 := Lib.hid (Below.refl w.heap.size w)
  by_cases h0 : l.length = 0
  · have e : oneP i l = 6 := by unfold oneP; rw [if_pos h0]
    rw [e]
    have q0 : ((l.length : Int) == 0) = true := by rw [beq_iff_eq]; omega
    clear HT HRt HMe HC e
    generalize decide (i = 0) = b at *
    go_enter Tryz.func43, Tryz.ntmps43
    go_wp2_with fail
    go_ret
    exact ⟨rfl, HB0.out⟩
  have q0 : ((l.length : Int) == 0) = false := by rw [beq_eq_false_iff_ne]; omega
  by_cases h15 : 15 < l.length
  · have e : oneP i l = 2 := by unfold oneP; rw [if_neg h0, if_pos h15]
    rw [e]
    have q1 : decide ((l.length : Int) > 15) = true := decide_eq_true (by omega)
    clear HT HRt HMe HC e h0
    generalize decide (i = 0) = b at *
    go_enter Tryz.func43, Tryz.ntmps43
    go_wp2_with fail
    go_ret
    exact ⟨rfl, HB0.out⟩
  have q1 : decide ((l.length : Int) > 15) = false := decide_eq_false (by omega)
  have H3 : Hid (¬ ((∀ x ∈ l, rightL x = true) ∧ l.Nodup) → oneP i l = 3) := one_three h0 h15
  have H4 : Hid ((∀ x ∈ l, rightL x = true) → l.Nodup → oneP i l = if i = 0 ∧ ¬ (∀ x ∈ l, methodP x ≠ 0) then 10 else 0) := fun ha hn => by
    unfold oneP
    rw [if_neg h0, if_neg h15, if_neg (fun hh => hh ⟨ha, hn⟩)]
  obtain ⟨bi, hbi⟩ : ∃ bi, bi = decide (i = 0) := ⟨_, rfl⟩
  rw [← hbi]
  have HBi := Lib.hid hbi
  clear hbi
  generalize hone : oneP i l = m at *
  clear hone
  go_enter Tryz.func43, Tryz.ntmps43
  go_wp2_with fail
  go_loopw [5] (fun i wr => ∃ k : Nat, k ≤ l.length ∧ i = .int .i64 k ∧ (∀ x ∈ l.take k, rightL x = true) ∧ (l.take k).Nodup ∧ Below w.heap.size w wr) (fun i _ => l.length - (intOf i).toNat)
  case atStart => exact ⟨0, Nat.zero_le _, rfl, by simp, by simp, HB0.out⟩
  case round =>
    obtain ⟨k, hk, rfl, htk, hnk, hbel⟩ := hrel
    by_cases hlt : k < l.length
    · obtain ⟨b, off, rfl, hb, hcell⟩ := HC.out (by intro h; simp at h; simp [h] at hlt)
      obtain ⟨x, hx⟩ : ∃ x, x = l[k] := ⟨_, rfl⟩
      have hxm : x ∈ l := by rw [hx]; exact List.getElem_mem hlt
      have c1 : wr.cell? ⟨b, off + k, none⟩ = some (.string (bs x)) := (hbel.cell (p := ⟨b, off + k, none⟩) hb).trans <| hcell k _ (by rw [List.getElem?_map, List.getElem?_eq_getElem hlt, hx]; rfl)
      have HR := Lib.hid (fun n => HRt.out x hxm (wr.drewN n))
      have HK := Lib.hid (fun n => HT.out k hk cap x (wr.drewN n) (drewN15 hbel) _ rfl)
      have HBl := Lib.hid hbel
      have HBadR : Hid (rightL x = false → m = 3) := fun e => H3.out fun hh => by rw [hh.1 x hxm] at e; cases e
      have HBadD : Hid (decide (x ∈ l.take k) = true → m = 3) := fun e => H3.out fun hh => nodup_not hlt (by rw [← hx]; exact of_decide_eq_true e) hh.2
      have HNr : Hid (rightL x = true → ∀ y ∈ l.take (k + 1), rightL y = true) := fun e y hy => by
        rw [List.take_succ_eq_append_getElem hlt, ← hx, List.mem_append] at hy
        rcases hy with hy | hy
        · exact htk y hy
        · simp at hy
          rw [hy]; exact e
      have HNd : Hid (decide (x ∈ l.take k) = false → (l.take (k + 1)).Nodup) := fun e => nodup_take hlt hnk (by rw [← hx]; exact of_decide_eq_false e)
      clear hcell htk hnk hx hxm hbel HC HT HRt HMe H3 H4 HBi
      generalize rightL x = rx at *
      generalize decide (x ∈ l.take k) = dx at *
      generalize bs x = X at *
      have hkc : k ≤ cap := by omega
      go_wp2_with fail
      cases rx with
      | false =>
        have HE := Lib.hid (HBadR.out rfl)
        clear HBadR HBadD HNr HNd
        go_quiet (first | (go_at_call 63; refine Calls.quiet_of_same (HR.out _)) | (go_at_call 64; refine Calls.quiet_of_same (HK.out _)))
        go_wp2_with fail
        go_ret
        exact ⟨by rw [HE.out]; rfl, drewN15 HBl.out⟩
      | true =>
        cases dx with
        | true =>
          have HE := Lib.hid (HBadD.out rfl)
          clear HBadR HBadD HNr HNd
          go_quiet (first | (go_at_call 63; refine Calls.quiet_of_same (HR.out _)) | (go_at_call 64; refine Calls.quiet_of_same (HK.out _)))
          go_wp2_with fail
          go_ret
          exact ⟨by rw [HE.out]; rfl, drewN15 HBl.out⟩
        | false =>
          have HE := Lib.hid (HNr.out rfl)
          have HE2 := Lib.hid (HNd.out rfl)
          clear HBadR HBadD HNr HNd
          go_quiet (first | (go_at_call 63; refine Calls.quiet_of_same (HR.out _)) | (go_at_call 64; refine Calls.quiet_of_same (HK.out _)))
          go_wp2_with fail
          go_roundw
          case rel => exact ⟨k + 1, by omega, by go_num, HE.out, HE2.out, drewN15 HBl.out⟩
          case measure => simp [intOf]; omega
    · have hkl : k = l.length := by omega
      subst hkl
      rw [List.take_length] at htk hnk
      have HF := Lib.hid (H4.out htk hnk)
      clear hlt htk hnk H3 H4 HT HRt hlc
      go_wp2_with fail
      go_loopw [6] (fun i wr => ∃ k : Nat, k ≤ l.length ∧ i = .int .i64 k ∧ (bi = true → ∀ x ∈ l.take k, methodP x ≠ 0) ∧ Below w.heap.size w wr) (fun i _ => l.length - (intOf i).toNat)
      case atStart => exact ⟨0, Nat.zero_le _, rfl, by simp, hbel⟩
      case round =>
        clear hbel
        obtain ⟨k, hk, rfl, htk, hbel⟩ := hrel
        by_cases hlt : k < l.length
        · obtain ⟨b, off, rfl, hb, hcell⟩ := HC.out (by intro h; simp at h; simp [h] at hlt)
          obtain ⟨x, hx⟩ : ∃ x, x = l[k] := ⟨_, rfl⟩
          have hxm : x ∈ l := by rw [hx]; exact List.getElem_mem hlt
          have c2 := (hbel.cell (p := ⟨b, off + k, none⟩) hb).trans <| hcell k (bs x) (by rw [List.getElem?_map, List.getElem?_eq_getElem hlt, hx]; rfl)
          have HR := Lib.hid (fun W => HMe.out x W)
          have HBl := Lib.hid hbel
          have HNx : Hid (bi = true → methodP x ≠ 0 → ∀ y ∈ l.take (k + 1), methodP y ≠ 0) := fun e0 e y hy => by
            rw [List.take_succ_eq_append_getElem hlt, ← hx, List.mem_append] at hy
            rcases hy with hy | hy
            · exact htk e0 y hy
            · simp at hy
              rw [hy]; exact e
          have HTen : Hid (bi = true → methodP x = 0 → m = 10) := fun e0 e => by
            have hi : i = 0 := of_decide_eq_true (HBi.out.symm.trans e0)
            rw [HF.out, if_pos ⟨hi, fun hh => hh x hxm e⟩]
          clear hcell htk hx hxm hbel HC HMe HF HBi
          cases bi with
          | false =>
            clear HNx HTen
            generalize bs x = X at *
            go_wp2_with fail
            go_roundw
            case rel => exact ⟨k + 1, by omega, by go_num, (fun h => by cases h), HBl.out⟩
            case measure => simp [intOf]; omega
          | true =>
            by_cases hz : methodP x = 0
            · have HE := Lib.hid (HTen.out rfl hz)
              rw [hz] at HR
              clear HNx HTen hz
              generalize bs x = X at *
              go_wp2_with (go_at_call 65; (with_reducible refine (HR.out _).mono ?_); rintro e w3 ⟨rfl, b3⟩)
              go_ret
              exact ⟨by rw [HE.out]; rfl, HBl.out.trans (b3.mono HBl.out.size)⟩
            · have HE := Lib.hid (HNx.out rfl hz)
              have qz : (methodP x == 0) = false := by simpa using hz
              clear HNx HTen hz
              generalize methodP x = mx at HR qz
              generalize bs x = X at *
              go_wp2_with (go_at_call 65; (with_reducible refine (HR.out _).mono ?_); rintro e w3 ⟨rfl, b3⟩)
              go_roundw
              case rel => exact ⟨k + 1, by omega, by go_num, (fun _ => HE.out), HBl.out.trans (b3.mono HBl.out.size)⟩
              case measure => simp [intOf]; omega
        · have hkl : k = l.length := by omega
          subst hkl
          rw [List.take_length] at htk
          have HE : Hid (m = 0) := by
            show m = 0
            rw [HF.out]
            refine if_neg fun hh => hh.2 (htk ?_)
            rw [HBi.out]; exact decide_eq_true hh.1
          clear htk hlt HF HBi HC HMe
          go_wp2_with fail
          go_ret
          exact ⟨by rw [HE.out]; rfl, hbel⟩
end Go.Proofs.YtkdljicagepebaaGreatDoor
