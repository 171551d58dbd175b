/- Layer 31: the document's Partners. -/
import Derived.Test.YtfjbpaigbphbbaaEv9a
import Derived.Test.YtfjbpaigbphbbaaEvQ
namespace Go.Proofs.Ytfjbpaigbphbbaa
open Go.RowKit

def pairB (x y : EvV) : Bool := x.ki + y.ki == 3 && decide (x.dn = y.dn)
def pairO : Option EvV → Option EvV → Bool
  | some x, some y => pairB x y
  | _, _ => false
/-- Are two sessions partners? -/
def partnersB (l : List EvV) (a b : Int) : Bool := pairO (firstE l a) (firstE l b)
theorem first_ki {s : Int} {x : EvV} (h : firstP s x = true) : x.ki = 1 ∨ x.ki = 2 := by
  simp only [firstP, beginsP, isExP, Bool.and_eq_true, Bool.or_eq_true, beq_iff_eq] at h
  exact h.1.1
theorem pairO_none (o : Option EvV) : pairO o none = false := by cases o <;> rfl
set_option maxRecDepth 100000 in
theorem guardDone : Try.prog.eqGuardType Try.prog.depth 36 = false := by kernel_rfl
set_option maxHeartbeats 4000000 in
set_option maxRecDepth 100000 in
theorem rpartners_any {w : World} {v : Value} {l : List EvV} (h : EventsAt w v l) (hl : l.length ≤ maxLen) (a b : Int) :
    Calls Try.prog 18 #[v, .int .i64 a, .int .i64 b] w fun e w' => e = .returned (.bool (partnersB l a b)) ∧ ∃ n, w' = w.drewN n := by
  have H1 := Lib.hid (rfirst_any h hl a)
  have H2 := Lib.hid (rfirst_any h hl b)
  obtain ⟨ao, cap, rfl, hc⟩ := h
  unfold maxLen at hl
  rcases idxP_cases (firstP a) l with ⟨hz, h0⟩ | ⟨i, hi, hz, h1, h0⟩
  · have HP : Hid (partnersB l a b = false) := by
      show partnersB l a b = false
      unfold partnersB
      rw [firstE_none h0]
      rfl
    rw [hz] at H1
    have hzb : Hid (∃ z, z = idxP (firstP b) l) := ⟨_, rfl⟩
    generalize idxP (firstP b) l = zb at *
    clear hz h0 hc hzb
    generalize partnersB l a b = q at *
    go_enter Try.func18, Try.ntmps18
    go_upto_region 3 with (first
      | (go_at_call 20; (with_reducible refine H1.out.mono ?_); rintro e w1 ⟨rfl, hw⟩; have hw := hw.symm; subst hw)
      | (go_at_call 20; (with_reducible refine H2.out.mono ?_); rintro e w2 ⟨rfl, hw⟩; have hw := hw.symm; subst hw))
    refine wp_region_quiet_gen (by kernel_rfl) (by kernel_rfl) ?_
    intro O hO
    refine wpQuiet_plain rfl (fun K hK => ?_)
    go_simp
    refine hK _ ?_
    clear hK K
    refine wpQuiet_plain rfl (fun K hK => ?_)
    go_simp
    refine hK _ ?_
    clear hK K
    refine wpQuiet_plain rfl (fun K hK => ?_)
    go_simp
    refine hK _ ?_
    clear hK K
    refine wpQuiet_skip (by rw [hO]; kernel_rfl) ?_
    refine wpQuiet_skip (by rw [hO]; kernel_rfl) ?_
    refine wpQuiet_plain rfl (fun K hK => ?_)
    go_simp
    refine hK _ ?_
    clear hK K
    refine wpQuiet_plain rfl (fun K hK => ?_)
    go_simp
    refine hK _ ?_
    clear hK K
    refine wpQuiet_skip (by rw [hO]; kernel_rfl) ?_
    refine wpQuiet_skip (by rw [hO]; kernel_rfl) ?_
    refine wpQuiet_skip (by rw [hO]; kernel_rfl) ?_
    refine wpQuiet_skip (by rw [hO]; kernel_rfl) ?_
    refine wpQuiet_skip (by rw [hO]; kernel_rfl) ?_
    refine wpQuiet_skip (by rw [hO]; kernel_rfl) ?_
    refine wpQuiet_skip (by rw [hO]; kernel_rfl) ?_
    refine wpQuiet_skip (by rw [hO]; kernel_rfl) ?_
    refine wpQuiet_skip (by rw [hO]; kernel_rfl) ?_
    refine wpQuiet_skip (by rw [hO]; kernel_rfl) ?_
    refine wpQuiet_skip (by rw [hO]; kernel_rfl) ?_
    refine wpQuiet_skip (by rw [hO]; kernel_rfl) ?_
    refine wpQuiet_plain rfl (fun K hK => ?_)
    go_simp
    refine hK _ ?_
    clear hK K
    refine wpQuiet_plain rfl (fun K hK => ?_)
    go_simp
    refine hK _ ?_
    clear hK K
    refine wpQuiet_skip (by rw [hO]; kernel_rfl) ?_
    refine wpQuiet_skip (by rw [hO]; kernel_rfl) ?_
    refine wpQuiet_skip (by rw [hO]; kernel_rfl) ?_
    refine wpQuiet_skip (by rw [hO]; kernel_rfl) ?_
    refine wpQuiet_skip (by rw [hO]; kernel_rfl) ?_
    refine wpQuiet_skip (by rw [hO]; kernel_rfl) ?_
    refine wpQuiet_skip (by rw [hO]; kernel_rfl) ?_
    refine wpQuiet_skip (by rw [hO]; kernel_rfl) ?_
    refine wpQuiet_skip (by rw [hO]; kernel_rfl) ?_
    refine wpQuiet_skip (by rw [hO]; kernel_rfl) ?_
    refine wpQuiet_skip (by rw [hO]; kernel_rfl) ?_
    refine wpQuiet_plain rfl (fun K hK => ?_)
    go_simp
    refine hK _ ?_
    clear hK K
    refine wpQuiet_plain rfl (fun K hK => ?_)
    go_simp
    refine hK _ ?_
    clear hK K
    refine wpQuiet_nil ?_
    intro _ hw'
    obtain ⟨nq, hw''⟩ := hw'
    subst hw''
    clear hO O
    go_wp2_with fail
    go_ret
    exact ⟨by rw [HP.out]; rfl, nq, rfl⟩
  have hF1 := firstE_some hi h1 h0
  rcases idxP_cases (firstP b) l with ⟨hy, g0⟩ | ⟨k, hk, hy, g1, g0⟩
  · have HP : Hid (partnersB l a b = false) := by
      show partnersB l a b = false
      unfold partnersB
      rw [firstE_none g0]
      exact pairO_none _
    rw [hz] at H1
    rw [hy] at H2
    have q0 : decide ((i : Int) ≥ 0) = true := decide_eq_true (by omega)
    clear hz h0 hc hy g0 hF1 h1
    generalize partnersB l a b = q at *
    go_enter Try.func18, Try.ntmps18
    go_upto_region 3 with (first
      | (go_at_call 20; (with_reducible refine H1.out.mono ?_); rintro e w1 ⟨rfl, hw⟩; have hw := hw.symm; subst hw)
      | (go_at_call 20; (with_reducible refine H2.out.mono ?_); rintro e w2 ⟨rfl, hw⟩; have hw := hw.symm; subst hw))
    refine wp_region_quiet_gen (by kernel_rfl) (by kernel_rfl) ?_
    intro O hO
    refine wpQuiet_plain rfl (fun K hK => ?_)
    go_simp
    refine hK _ ?_
    clear hK K
    refine wpQuiet_plain rfl (fun K hK => ?_)
    go_simp
    refine hK _ ?_
    clear hK K
    refine wpQuiet_plain rfl (fun K hK => ?_)
    go_simp
    refine hK _ ?_
    clear hK K
    refine wpQuiet_take (by rw [hO]; kernel_rfl) (fun K hK => ?_)
    go_simp
    refine hK _ ?_
    clear hK K
    refine wpQuiet_take (by rw [hO]; kernel_rfl) (fun K hK => ?_)
    go_simp
    refine hK _ ?_
    clear hK K
    refine wpQuiet_plain rfl (fun K hK => ?_)
    go_simp
    refine hK _ ?_
    clear hK K
    refine wpQuiet_plain rfl (fun K hK => ?_)
    go_simp
    refine hK _ ?_
    clear hK K
    refine wpQuiet_skip (by rw [hO]; kernel_rfl) ?_
    refine wpQuiet_skip (by rw [hO]; kernel_rfl) ?_
    refine wpQuiet_skip (by rw [hO]; kernel_rfl) ?_
    refine wpQuiet_skip (by rw [hO]; kernel_rfl) ?_
    refine wpQuiet_skip (by rw [hO]; kernel_rfl) ?_
    refine wpQuiet_skip (by rw [hO]; kernel_rfl) ?_
    refine wpQuiet_skip (by rw [hO]; kernel_rfl) ?_
    refine wpQuiet_skip (by rw [hO]; kernel_rfl) ?_
    refine wpQuiet_skip (by rw [hO]; kernel_rfl) ?_
    refine wpQuiet_skip (by rw [hO]; kernel_rfl) ?_
    refine wpQuiet_skip (by rw [hO]; kernel_rfl) ?_
    refine wpQuiet_skip (by rw [hO]; kernel_rfl) ?_
    refine wpQuiet_plain rfl (fun K hK => ?_)
    go_simp
    refine hK _ ?_
    clear hK K
    refine wpQuiet_plain rfl (fun K hK => ?_)
    go_simp
    refine hK _ ?_
    clear hK K
    refine wpQuiet_skip (by rw [hO]; kernel_rfl) ?_
    refine wpQuiet_skip (by rw [hO]; kernel_rfl) ?_
    refine wpQuiet_skip (by rw [hO]; kernel_rfl) ?_
    refine wpQuiet_skip (by rw [hO]; kernel_rfl) ?_
    refine wpQuiet_skip (by rw [hO]; kernel_rfl) ?_
    refine wpQuiet_skip (by rw [hO]; kernel_rfl) ?_
    refine wpQuiet_skip (by rw [hO]; kernel_rfl) ?_
    refine wpQuiet_skip (by rw [hO]; kernel_rfl) ?_
    refine wpQuiet_skip (by rw [hO]; kernel_rfl) ?_
    refine wpQuiet_skip (by rw [hO]; kernel_rfl) ?_
    refine wpQuiet_skip (by rw [hO]; kernel_rfl) ?_
    refine wpQuiet_plain rfl (fun K hK => ?_)
    go_simp
    refine hK _ ?_
    clear hK K
    refine wpQuiet_plain rfl (fun K hK => ?_)
    go_simp
    refine hK _ ?_
    clear hK K
    refine wpQuiet_nil ?_
    intro _ hw'
    obtain ⟨nq, hw''⟩ := hw'
    subst hw''
    clear hO O
    go_wp2_with fail
    go_ret
    exact ⟨by rw [HP.out]; rfl, nq, rfl⟩
  have HP : Hid (partnersB l a b = ((l[i]).ki + (l[k]).ki == 3 && decide ((l[i]).dn = (l[k]).dn))) := by
    show partnersB l a b = _
    unfold partnersB
    rw [hF1, firstE_some hk g1 g0]
    rfl
  obtain ⟨bb, off, rfl, hb, hcell⟩ := hc (by intro h; simp [h] at hk)
  have c1 : w.cell? ⟨bb, off + i * 34, none⟩ = some (.int .i64 (l[i]).ki) := hcell i _ (List.getElem?_eq_getElem hi) 0 _ (EvV.row_ki _)
  have c2 : w.cell? ⟨bb, off + k * 34, none⟩ = some (.int .i64 (l[k]).ki) := hcell k _ (List.getElem?_eq_getElem hk) 0 _ (EvV.row_ki _)
  have HL1 : Hid (∀ j u, (l[i]).dn.row.toArray[j]? = some u → w.cell? ((⟨bb, off + i * 34 + 8, none⟩ : Addr).add j) = some u) := fun j u hj => by
    rw [Addr.add_lit, Nat.add_assoc]
    exact hcell i _ (List.getElem?_eq_getElem hi) (8 + j) u (row_dn _ j u hj)
  have HL2 : Hid (∀ j u, (l[k]).dn.row.toArray[j]? = some u → w.cell? ((⟨bb, off + k * 34 + 8, none⟩ : Addr).add j) = some u) := fun j u hj => by
    rw [Addr.add_lit, Nat.add_assoc]
    exact hcell k _ (List.getElem?_eq_getElem hk) (8 + j) u (row_dn _ j u hj)
  have HD : Hid ((l[i]).dn.row.toArray.size = 26 ∧ (l[k]).dn.row.toArray.size = 26) := ⟨rfl, rfl⟩
  have HEq := Lib.hid (doneEq31 (l[i]).dn (l[k]).dn)
  have hki := first_ki h1
  have hkk := first_ki g1
  rw [hz] at H1
  rw [hy] at H2
  have q0 : decide ((i : Int) ≥ 0) = true := decide_eq_true (by omega)
  have q1 : decide ((k : Int) ≥ 0) = true := decide_eq_true (by omega)
  clear hz h0 hc hy g0 hF1 h1 hcell g1
  generalize partnersB l a b = q at *
  generalize decide ((l[i]).dn = (l[k]).dn) = de at *
  generalize (l[i]).dn.row.toArray = D1 at *
  generalize (l[k]).dn.row.toArray = D2 at *
  generalize (l[i]).ki = ki at *
  generalize (l[k]).ki = kk at *
  rcases hki with hki | hki <;> rcases hkk with hkk | hkk <;> subst hki <;> subst hkk
  · go_enter Try.func18, Try.ntmps18
    go_upto_region 3 with (first
      | (go_at_call 20; (with_reducible refine H1.out.mono ?_); rintro e w1 ⟨rfl, hw⟩; have hw := hw.symm; subst hw)
      | (go_at_call 20; (with_reducible refine H2.out.mono ?_); rintro e w2 ⟨rfl, hw⟩; have hw := hw.symm; subst hw))
    refine wp_region_quiet_gen (by kernel_rfl) (by kernel_rfl) ?_
    intro O hO
    refine wpQuiet_plain rfl (fun K hK => ?_)
    go_simp
    refine hK _ ?_
    clear hK K
    refine wpQuiet_plain rfl (fun K hK => ?_)
    go_simp
    refine hK _ ?_
    clear hK K
    refine wpQuiet_plain rfl (fun K hK => ?_)
    go_simp
    refine hK _ ?_
    clear hK K
    refine wpQuiet_take (by rw [hO]; kernel_rfl) (fun K hK => ?_)
    go_simp
    refine hK _ ?_
    clear hK K
    refine wpQuiet_take (by rw [hO]; kernel_rfl) (fun K hK => ?_)
    go_simp
    refine hK _ ?_
    clear hK K
    refine wpQuiet_plain rfl (fun K hK => ?_)
    go_simp
    refine hK _ ?_
    clear hK K
    refine wpQuiet_plain rfl (fun K hK => ?_)
    go_simp
    refine hK _ ?_
    clear hK K
    refine wpQuiet_take (by rw [hO]; kernel_rfl) (fun K hK => ?_)
    go_simp
    refine hK _ ?_
    clear hK K
    refine wpQuiet_take (by rw [hO]; kernel_rfl) (fun K hK => ?_)
    go_simp
    refine hK _ ?_
    clear hK K
    refine wpQuiet_take (by rw [hO]; kernel_rfl) (fun K hK => ?_)
    go_simp
    refine hK _ ?_
    clear hK K
    refine wpQuiet_take (by rw [hO]; kernel_rfl) (fun K hK => ?_)
    go_simp
    refine hK _ ?_
    clear hK K
    refine wpQuiet_take (by rw [hO]; kernel_rfl) (fun K hK => ?_)
    go_simp
    refine hK _ ?_
    clear hK K
    refine wpQuiet_take (by rw [hO]; kernel_rfl) (fun K hK => ?_)
    go_simp
    refine hK _ ?_
    clear hK K
    refine wpQuiet_take (by rw [hO]; kernel_rfl) (fun K hK => ?_)
    go_simp
    refine hK _ ?_
    clear hK K
    refine wpQuiet_take (by rw [hO]; kernel_rfl) (fun K hK => ?_)
    go_simp
    refine hK _ ?_
    clear hK K
    refine wpQuiet_take (by rw [hO]; kernel_rfl) (fun K hK => ?_)
    go_simp
    refine hK _ ?_
    clear hK K
    refine wpQuiet_take (by rw [hO]; kernel_rfl) (fun K hK => ?_)
    go_simp
    refine hK _ ?_
    clear hK K
    refine wpQuiet_take (by rw [hO]; kernel_rfl) (fun K hK => ?_)
    go_simp
    refine hK _ ?_
    clear hK K
    refine wpQuiet_take (by rw [hO]; kernel_rfl) (fun K hK => ?_)
    go_simp
    refine hK _ ?_
    clear hK K
    refine wpQuiet_plain rfl (fun K hK => ?_)
    go_simp
    refine hK _ ?_
    clear hK K
    refine wpQuiet_plain rfl (fun K hK => ?_)
    go_simp
    refine hK _ ?_
    clear hK K
    refine wpQuiet_skip (by rw [hO]; kernel_rfl) ?_
    refine wpQuiet_skip (by rw [hO]; kernel_rfl) ?_
    refine wpQuiet_skip (by rw [hO]; kernel_rfl) ?_
    refine wpQuiet_skip (by rw [hO]; kernel_rfl) ?_
    refine wpQuiet_skip (by rw [hO]; kernel_rfl) ?_
    refine wpQuiet_skip (by rw [hO]; kernel_rfl) ?_
    refine wpQuiet_skip (by rw [hO]; kernel_rfl) ?_
    refine wpQuiet_skip (by rw [hO]; kernel_rfl) ?_
    refine wpQuiet_skip (by rw [hO]; kernel_rfl) ?_
    refine wpQuiet_skip (by rw [hO]; kernel_rfl) ?_
    refine wpQuiet_skip (by rw [hO]; kernel_rfl) ?_
    refine wpQuiet_plain rfl (fun K hK => ?_)
    go_simp
    refine hK _ ?_
    clear hK K
    refine wpQuiet_plain rfl (fun K hK => ?_)
    go_simp
    refine hK _ ?_
    clear hK K
    refine wpQuiet_nil ?_
    intro _ hw'
    obtain ⟨nq, hw''⟩ := hw'
    subst hw''
    clear hO O
    go_wp2_with fail
    go_ret
    exact ⟨by rw [HP.out]; rfl, nq, rfl⟩
  · go_enter Try.func18, Try.ntmps18
    go_upto_region 3 with (first
      | (go_at_call 20; (with_reducible refine H1.out.mono ?_); rintro e w1 ⟨rfl, hw⟩; have hw := hw.symm; subst hw)
      | (go_at_call 20; (with_reducible refine H2.out.mono ?_); rintro e w2 ⟨rfl, hw⟩; have hw := hw.symm; subst hw))
    refine wp_region_quiet_gen (by kernel_rfl) (by kernel_rfl) ?_
    intro O hO
    refine wpQuiet_plain rfl (fun K hK => ?_)
    go_simp
    refine hK _ ?_
    clear hK K
    refine wpQuiet_plain rfl (fun K hK => ?_)
    go_simp
    refine hK _ ?_
    clear hK K
    refine wpQuiet_plain rfl (fun K hK => ?_)
    go_simp
    refine hK _ ?_
    clear hK K
    refine wpQuiet_take (by rw [hO]; kernel_rfl) (fun K hK => ?_)
    go_simp
    refine hK _ ?_
    clear hK K
    refine wpQuiet_take (by rw [hO]; kernel_rfl) (fun K hK => ?_)
    go_simp
    refine hK _ ?_
    clear hK K
    refine wpQuiet_plain rfl (fun K hK => ?_)
    go_simp
    refine hK _ ?_
    clear hK K
    refine wpQuiet_plain rfl (fun K hK => ?_)
    go_simp
    refine hK _ ?_
    clear hK K
    refine wpQuiet_take (by rw [hO]; kernel_rfl) (fun K hK => ?_)
    go_simp
    refine hK _ ?_
    clear hK K
    refine wpQuiet_take (by rw [hO]; kernel_rfl) (fun K hK => ?_)
    go_simp
    refine hK _ ?_
    clear hK K
    refine wpQuiet_take (by rw [hO]; kernel_rfl) (fun K hK => ?_)
    go_simp
    refine hK _ ?_
    clear hK K
    refine wpQuiet_take (by rw [hO]; kernel_rfl) (fun K hK => ?_)
    go_simp
    refine hK _ ?_
    clear hK K
    refine wpQuiet_take (by rw [hO]; kernel_rfl) (fun K hK => ?_)
    go_simp
    refine hK _ ?_
    clear hK K
    refine wpQuiet_take (by rw [hO]; kernel_rfl) (fun K hK => ?_)
    go_simp
    refine hK _ ?_
    clear hK K
    refine wpQuiet_take (by rw [hO]; kernel_rfl) (fun K hK => ?_)
    go_simp
    refine hK _ ?_
    clear hK K
    refine wpQuiet_take (by rw [hO]; kernel_rfl) (fun K hK => ?_)
    go_simp
    refine hK _ ?_
    clear hK K
    refine wpQuiet_take (by rw [hO]; kernel_rfl) (fun K hK => ?_)
    go_simp
    refine hK _ ?_
    clear hK K
    refine wpQuiet_take (by rw [hO]; kernel_rfl) (fun K hK => ?_)
    go_simp
    refine hK _ ?_
    clear hK K
    refine wpQuiet_take (by rw [hO]; kernel_rfl) (fun K hK => ?_)
    go_simp
    refine hK _ ?_
    clear hK K
    refine wpQuiet_take (by rw [hO]; kernel_rfl) (fun K hK => ?_)
    go_simp
    refine hK _ ?_
    clear hK K
    refine wpQuiet_plain rfl (fun K hK => ?_)
    go_simp
    refine hK _ ?_
    clear hK K
    refine wpQuiet_plain rfl (fun K hK => ?_)
    go_simp
    refine hK _ ?_
    clear hK K
    refine wpQuiet_take (by rw [hO]; kernel_rfl) (fun K hK => ?_)
    go_simp
    refine hK _ ?_
    clear hK K
    refine wpQuiet_take (by rw [hO]; kernel_rfl) (fun K hK => ?_)
    go_simp
    refine hK _ ?_
    clear hK K
    refine wpQuiet_take (by rw [hO]; kernel_rfl) (fun K hK => ?_)
    go_simp
    refine hK _ ?_
    clear hK K
    refine wpQuiet_take (by rw [hO]; kernel_rfl) (fun K hK => ?_)
    go_simp
    refine hK _ ?_
    clear hK K
    refine wpQuiet_load (by rw [hO]; kernel_rfl) 36 _ rfl ⟨bb, off + i * 34 + 8, none⟩ rfl D1 _ HL1.out Try.underlying36 rfl (by rw [HD.out.1]; exact sizeDone) ?_
    refine wpQuiet_take (by rw [hO]; kernel_rfl) (fun K hK => ?_)
    go_simp
    refine hK _ ?_
    clear hK K
    refine wpQuiet_take (by rw [hO]; kernel_rfl) (fun K hK => ?_)
    go_simp
    refine hK _ ?_
    clear hK K
    refine wpQuiet_take (by rw [hO]; kernel_rfl) (fun K hK => ?_)
    go_simp
    refine hK _ ?_
    clear hK K
    refine wpQuiet_take (by rw [hO]; kernel_rfl) (fun K hK => ?_)
    go_simp
    refine hK _ ?_
    clear hK K
    refine wpQuiet_load (by rw [hO]; kernel_rfl) 36 _ rfl ⟨bb, off + k * 34 + 8, none⟩ rfl D2 _ HL2.out Try.underlying36 rfl (by rw [HD.out.2]; exact sizeDone) ?_
    refine wpQuiet_eql (by rw [hO]; kernel_rfl) 36 _ _ _ rfl D1 D2 rfl rfl guardDone de HEq.out ?_
    refine wpQuiet_plain rfl (fun K hK => ?_)
    go_simp
    refine hK _ ?_
    clear hK K
    refine wpQuiet_plain rfl (fun K hK => ?_)
    go_simp
    refine hK _ ?_
    clear hK K
    refine wpQuiet_nil ?_
    intro _ hw'
    obtain ⟨nq, hw''⟩ := hw'
    subst hw''
    clear hO O
    go_wp2_with fail
    go_ret
    exact ⟨by rw [HP.out]; rfl, nq, rfl⟩
  · go_enter Try.func18, Try.ntmps18
    go_upto_region 3 with (first
      | (go_at_call 20; (with_reducible refine H1.out.mono ?_); rintro e w1 ⟨rfl, hw⟩; have hw := hw.symm; subst hw)
      | (go_at_call 20; (with_reducible refine H2.out.mono ?_); rintro e w2 ⟨rfl, hw⟩; have hw := hw.symm; subst hw))
    refine wp_region_quiet_gen (by kernel_rfl) (by kernel_rfl) ?_
    intro O hO
    refine wpQuiet_plain rfl (fun K hK => ?_)
    go_simp
    refine hK _ ?_
    clear hK K
    refine wpQuiet_plain rfl (fun K hK => ?_)
    go_simp
    refine hK _ ?_
    clear hK K
    refine wpQuiet_plain rfl (fun K hK => ?_)
    go_simp
    refine hK _ ?_
    clear hK K
    refine wpQuiet_take (by rw [hO]; kernel_rfl) (fun K hK => ?_)
    go_simp
    refine hK _ ?_
    clear hK K
    refine wpQuiet_take (by rw [hO]; kernel_rfl) (fun K hK => ?_)
    go_simp
    refine hK _ ?_
    clear hK K
    refine wpQuiet_plain rfl (fun K hK => ?_)
    go_simp
    refine hK _ ?_
    clear hK K
    refine wpQuiet_plain rfl (fun K hK => ?_)
    go_simp
    refine hK _ ?_
    clear hK K
    refine wpQuiet_take (by rw [hO]; kernel_rfl) (fun K hK => ?_)
    go_simp
    refine hK _ ?_
    clear hK K
    refine wpQuiet_take (by rw [hO]; kernel_rfl) (fun K hK => ?_)
    go_simp
    refine hK _ ?_
    clear hK K
    refine wpQuiet_take (by rw [hO]; kernel_rfl) (fun K hK => ?_)
    go_simp
    refine hK _ ?_
    clear hK K
    refine wpQuiet_take (by rw [hO]; kernel_rfl) (fun K hK => ?_)
    go_simp
    refine hK _ ?_
    clear hK K
    refine wpQuiet_take (by rw [hO]; kernel_rfl) (fun K hK => ?_)
    go_simp
    refine hK _ ?_
    clear hK K
    refine wpQuiet_take (by rw [hO]; kernel_rfl) (fun K hK => ?_)
    go_simp
    refine hK _ ?_
    clear hK K
    refine wpQuiet_take (by rw [hO]; kernel_rfl) (fun K hK => ?_)
    go_simp
    refine hK _ ?_
    clear hK K
    refine wpQuiet_take (by rw [hO]; kernel_rfl) (fun K hK => ?_)
    go_simp
    refine hK _ ?_
    clear hK K
    refine wpQuiet_take (by rw [hO]; kernel_rfl) (fun K hK => ?_)
    go_simp
    refine hK _ ?_
    clear hK K
    refine wpQuiet_take (by rw [hO]; kernel_rfl) (fun K hK => ?_)
    go_simp
    refine hK _ ?_
    clear hK K
    refine wpQuiet_take (by rw [hO]; kernel_rfl) (fun K hK => ?_)
    go_simp
    refine hK _ ?_
    clear hK K
    refine wpQuiet_take (by rw [hO]; kernel_rfl) (fun K hK => ?_)
    go_simp
    refine hK _ ?_
    clear hK K
    refine wpQuiet_plain rfl (fun K hK => ?_)
    go_simp
    refine hK _ ?_
    clear hK K
    refine wpQuiet_plain rfl (fun K hK => ?_)
    go_simp
    refine hK _ ?_
    clear hK K
    refine wpQuiet_take (by rw [hO]; kernel_rfl) (fun K hK => ?_)
    go_simp
    refine hK _ ?_
    clear hK K
    refine wpQuiet_take (by rw [hO]; kernel_rfl) (fun K hK => ?_)
    go_simp
    refine hK _ ?_
    clear hK K
    refine wpQuiet_take (by rw [hO]; kernel_rfl) (fun K hK => ?_)
    go_simp
    refine hK _ ?_
    clear hK K
    refine wpQuiet_take (by rw [hO]; kernel_rfl) (fun K hK => ?_)
    go_simp
    refine hK _ ?_
    clear hK K
    refine wpQuiet_load (by rw [hO]; kernel_rfl) 36 _ rfl ⟨bb, off + i * 34 + 8, none⟩ rfl D1 _ HL1.out Try.underlying36 rfl (by rw [HD.out.1]; exact sizeDone) ?_
    refine wpQuiet_take (by rw [hO]; kernel_rfl) (fun K hK => ?_)
    go_simp
    refine hK _ ?_
    clear hK K
    refine wpQuiet_take (by rw [hO]; kernel_rfl) (fun K hK => ?_)
    go_simp
    refine hK _ ?_
    clear hK K
    refine wpQuiet_take (by rw [hO]; kernel_rfl) (fun K hK => ?_)
    go_simp
    refine hK _ ?_
    clear hK K
    refine wpQuiet_take (by rw [hO]; kernel_rfl) (fun K hK => ?_)
    go_simp
    refine hK _ ?_
    clear hK K
    refine wpQuiet_load (by rw [hO]; kernel_rfl) 36 _ rfl ⟨bb, off + k * 34 + 8, none⟩ rfl D2 _ HL2.out Try.underlying36 rfl (by rw [HD.out.2]; exact sizeDone) ?_
    refine wpQuiet_eql (by rw [hO]; kernel_rfl) 36 _ _ _ rfl D1 D2 rfl rfl guardDone de HEq.out ?_
    refine wpQuiet_plain rfl (fun K hK => ?_)
    go_simp
    refine hK _ ?_
    clear hK K
    refine wpQuiet_plain rfl (fun K hK => ?_)
    go_simp
    refine hK _ ?_
    clear hK K
    refine wpQuiet_nil ?_
    intro _ hw'
    obtain ⟨nq, hw''⟩ := hw'
    subst hw''
    clear hO O
    go_wp2_with fail
    go_ret
    exact ⟨by rw [HP.out]; rfl, nq, rfl⟩
  · go_enter Try.func18, Try.ntmps18
    go_upto_region 3 with (first
      | (go_at_call 20; (with_reducible refine H1.out.mono ?_); rintro e w1 ⟨rfl, hw⟩; have hw := hw.symm; subst hw)
      | (go_at_call 20; (with_reducible refine H2.out.mono ?_); rintro e w2 ⟨rfl, hw⟩; have hw := hw.symm; subst hw))
    refine wp_region_quiet_gen (by kernel_rfl) (by kernel_rfl) ?_
    intro O hO
    refine wpQuiet_plain rfl (fun K hK => ?_)
    go_simp
    refine hK _ ?_
    clear hK K
    refine wpQuiet_plain rfl (fun K hK => ?_)
    go_simp
    refine hK _ ?_
    clear hK K
    refine wpQuiet_plain rfl (fun K hK => ?_)
    go_simp
    refine hK _ ?_
    clear hK K
    refine wpQuiet_take (by rw [hO]; kernel_rfl) (fun K hK => ?_)
    go_simp
    refine hK _ ?_
    clear hK K
    refine wpQuiet_take (by rw [hO]; kernel_rfl) (fun K hK => ?_)
    go_simp
    refine hK _ ?_
    clear hK K
    refine wpQuiet_plain rfl (fun K hK => ?_)
    go_simp
    refine hK _ ?_
    clear hK K
    refine wpQuiet_plain rfl (fun K hK => ?_)
    go_simp
    refine hK _ ?_
    clear hK K
    refine wpQuiet_take (by rw [hO]; kernel_rfl) (fun K hK => ?_)
    go_simp
    refine hK _ ?_
    clear hK K
    refine wpQuiet_take (by rw [hO]; kernel_rfl) (fun K hK => ?_)
    go_simp
    refine hK _ ?_
    clear hK K
    refine wpQuiet_take (by rw [hO]; kernel_rfl) (fun K hK => ?_)
    go_simp
    refine hK _ ?_
    clear hK K
    refine wpQuiet_take (by rw [hO]; kernel_rfl) (fun K hK => ?_)
    go_simp
    refine hK _ ?_
    clear hK K
    refine wpQuiet_take (by rw [hO]; kernel_rfl) (fun K hK => ?_)
    go_simp
    refine hK _ ?_
    clear hK K
    refine wpQuiet_take (by rw [hO]; kernel_rfl) (fun K hK => ?_)
    go_simp
    refine hK _ ?_
    clear hK K
    refine wpQuiet_take (by rw [hO]; kernel_rfl) (fun K hK => ?_)
    go_simp
    refine hK _ ?_
    clear hK K
    refine wpQuiet_take (by rw [hO]; kernel_rfl) (fun K hK => ?_)
    go_simp
    refine hK _ ?_
    clear hK K
    refine wpQuiet_take (by rw [hO]; kernel_rfl) (fun K hK => ?_)
    go_simp
    refine hK _ ?_
    clear hK K
    refine wpQuiet_take (by rw [hO]; kernel_rfl) (fun K hK => ?_)
    go_simp
    refine hK _ ?_
    clear hK K
    refine wpQuiet_take (by rw [hO]; kernel_rfl) (fun K hK => ?_)
    go_simp
    refine hK _ ?_
    clear hK K
    refine wpQuiet_take (by rw [hO]; kernel_rfl) (fun K hK => ?_)
    go_simp
    refine hK _ ?_
    clear hK K
    refine wpQuiet_plain rfl (fun K hK => ?_)
    go_simp
    refine hK _ ?_
    clear hK K
    refine wpQuiet_plain rfl (fun K hK => ?_)
    go_simp
    refine hK _ ?_
    clear hK K
    refine wpQuiet_skip (by rw [hO]; kernel_rfl) ?_
    refine wpQuiet_skip (by rw [hO]; kernel_rfl) ?_
    refine wpQuiet_skip (by rw [hO]; kernel_rfl) ?_
    refine wpQuiet_skip (by rw [hO]; kernel_rfl) ?_
    refine wpQuiet_skip (by rw [hO]; kernel_rfl) ?_
    refine wpQuiet_skip (by rw [hO]; kernel_rfl) ?_
    refine wpQuiet_skip (by rw [hO]; kernel_rfl) ?_
    refine wpQuiet_skip (by rw [hO]; kernel_rfl) ?_
    refine wpQuiet_skip (by rw [hO]; kernel_rfl) ?_
    refine wpQuiet_skip (by rw [hO]; kernel_rfl) ?_
    refine wpQuiet_skip (by rw [hO]; kernel_rfl) ?_
    refine wpQuiet_plain rfl (fun K hK => ?_)
    go_simp
    refine hK _ ?_
    clear hK K
    refine wpQuiet_plain rfl (fun K hK => ?_)
    go_simp
    refine hK _ ?_
    clear hK K
    refine wpQuiet_nil ?_
    intro _ hw'
    obtain ⟨nq, hw''⟩ := hw'
    subst hw''
    clear hO O
    go_wp2_with fail
    go_ret
    exact ⟨by rw [HP.out]; rfl, nq, rfl⟩
end Go.Proofs.Ytfjbpaigbphbbaa
