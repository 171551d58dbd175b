/- Layer 18: the laws GexPicks and GexTable. -/
import Derived.Test.YtihkhcocfhbekaaDoorGxC
import Derived.Test.YtihkhcocfhbekaaDoorGx3
import Derived.Deep.RegionHeld3
namespace Go.Proofs.YtihkhcocfhbekaaDoor
open Go.RowKit

/-- What is picked passes the check of who asked. -/
theorem pick_check (a b c : Nat) : ∀ k, pickP a b c = some k → k < 4 ∧ rightB a b c = true ∧ inB a c (szK k) = true := by
  intro k h
  unfold pickP at h
  split at h
  · rename_i hr
    have hord : a ≤ b ∧ b ≤ c := by
      simp only [rightB, Bool.and_eq_true, decide_eq_true_eq] at hr
      omega
    split at h
    · rename_i hu
      have hk := Option.some.inj h
      have hin : ∀ j, inB b c (szK j) = true → inB a c (szK j) = true := fun j e => by
        simp only [inB, Bool.and_eq_true, decide_eq_true_eq] at e ⊢
        omega
      subst hk
      unfold upZ idxZ at hu ⊢
      by_cases h0 : inB b c (szK 0) = true
      · simp only [h0, if_true]; exact ⟨by decide, hr, hin 0 h0⟩
      · by_cases h1 : inB b c (szK 1) = true
        · simp only [h0, h1, if_true]; exact ⟨by decide, hr, hin 1 h1⟩
        · by_cases h2 : inB b c (szK 2) = true
          · simp only [h0, h1, h2, if_true]; exact ⟨by decide, hr, hin 2 h2⟩
          · by_cases h3 : inB b c (szK 3) = true
            · simp only [h0, h1, h2, h3, if_true]; exact ⟨by decide, hr, hin 3 h3⟩
            · simp [h0, h1, h2, h3] at hu
    · split at h
      · rename_i hd
        have hk := Option.some.inj h
        subst hk
        unfold downZ idxZ at hd ⊢
        by_cases h0 : inB a c (szK (3 - 0)) = true
        · simp only [h0, if_true]; exact ⟨by decide, hr, h0⟩
        · by_cases h1 : inB a c (szK (3 - 1)) = true
          · simp only [h0, h1, if_true]; exact ⟨by decide, hr, h1⟩
          · by_cases h2 : inB a c (szK (3 - 2)) = true
            · simp only [h0, h1, h2, if_true]; exact ⟨by decide, hr, h2⟩
            · by_cases h3 : inB a c (szK (3 - 3)) = true
              · simp only [h0, h1, h2, h3, if_true]; exact ⟨by decide, hr, h3⟩
              · simp [h0, h1, h2, h3] at hd
      · cases h
  · cases h
theorem table_right : ∀ k, k < 4 → inB 1024 8192 (szK k) = true ∧ modB (modL (szK k) (szK k / 8)) = true ∧ genB (modL (szK k) (szK k / 8)) [2] = true := by decide +kernel
theorem table_check (lo hi k : Nat) (hk : k < 4) (h : inB lo hi (szK k) = true) : checkB lo hi (modL (szK k) (szK k / 8)) [2] = true := by
  obtain ⟨h1, h2, h3⟩ := table_right k hk
  unfold checkB
  rw [bits_table k hk, h, h1, h2, h3]
  rfl
theorem szK_ge (k : Nat) : 1024 ≤ szK k := by unfold szK; omega
theorem szK_le (k : Nat) (hk : k < 4) : szK k ≤ 4096 := by unfold szK; omega

theorem grp_cells (w : World) (P G : ByteArray) : ∀ W, Below (w.alloc (.cells #[.string P, .string G] 51)).heap.size (w.alloc (.cells #[.string P, .string G] 51)) W → W.cell? ⟨w.heap.size, 0, none⟩ = some (.string P) ∧ W.cell? ⟨w.heap.size, 1, none⟩ = some (.string G) := fun W hb => by
  have h := (Holds.new w 51 #[.string P, .string G]).moves (Moves.ofBelow (S := nobody) hb) (fun h => h)
  exact ⟨(h.cell 0).trans rfl, (h.cell 1).trans rfl⟩

set_option maxHeartbeats 4000000 in
set_option maxRecDepth 100000 in
theorem GexPicks_any {w : World} (hS : Siz w) (hg : TypeOfError w) (a b c : Nat) (ha : a < 4294967296) (hb : b < 4294967296) (hc : c < 4294967296) :
    Calls Tryd.prog 6 #[.int .u32 (a : Int), .int .u32 (b : Int), .int .u32 (c : Int)] w fun e w' => e = .returned (.bool true) ∧ Below w.heap.size w w' := by
  have HAw : Hid (∀ W, Below w.heap.size w W → Calls Tryd.prog 29 #[] W fun e w' => e = .returned (.bool true) ∧ Below W.heap.size W w') := fun W hb => awake18_any (hS.below hb)
  have HR1 := Lib.hid (gxRight_any a b c)
  have HR2 := Lib.hid (r18Right_any a b c)
  have HRp := Lib.hid (r18Pick_any a b c)
  have hpk := pick_any hS a b c ha hb hc
  have hpc := pick_check a b c
  have hbt : pickBits a b c = match pickP a b c with
    | some k => szK k
    | none => 0 := rfl
  have ha1 : 0 ≤ (a : Int) := by omega
  have hb1 : 0 ≤ (b : Int) := by omega
  have hc1 : 0 ≤ (c : Int) := by omega
  have ha2 : (a : Int) ≤ 4294967295 := by omega
  have hb2 : (b : Int) ≤ 4294967295 := by omega
  have hc2 : (c : Int) ≤ 4294967295 := by omega
  cases hP : pickP a b c with
  | none =>
    rw [hP] at hpk hbt
    have HP : Hid (Calls Tryd.prog 25 #[.int .u32 (a : Int), .int .u32 (b : Int), .int .u32 (c : Int)] w fun e w' => ∃ t u, e = .returned (.tuple #[.agg #[.string ⟨#[]⟩, .string ⟨#[]⟩], .iface t u]) ∧ ErrAt w' (.iface t u) [gexS] (some 5) ∧ Below w.heap.size w w') := hpk.mono fun e w' ⟨⟨t, u, h1, h2⟩, h3⟩ => ⟨t, u, h1, h2, h3⟩
    have HWr : Hid (∀ (W : World) (t : TypeId) (u : Value), Below w.heap.size w W → ErrAt W (.iface t u) [gexS] (some 5) → Calls Tryd.prog 30 #[.iface t u] W fun e w' => e = .returned (.bool true) ∧ Below W.heap.size W w') := fun W t u hb he => wrong18_any (hg.later hb) he
    rw [show pickBits a b c = 0 from hbt] at HRp
    clear hpk hpc hbt hP hS hg ha hb hc
    generalize rightB a b c = R at *
    generalize (a : Int) = A at *
    generalize (b : Int) = B at *
    generalize (c : Int) = C at *
    have qR : (R == R) = true := by simp
    go_enter Tryd.func6, Tryd.ntmps6
    go_wp2_with (first
      | (go_at_call 25; (with_reducible refine HP.out.mono ?_); rintro e w1 ⟨t, u, rfl, he, g1⟩; have HE := Lib.hid (he.later ((Below.refl _ _).alloc (Nat.le_refl _) (.cells #[.string ⟨#[]⟩, .string ⟨#[]⟩] 51))); have B1 := Lib.hid (g1.alloc g1.size (.cells #[.string ⟨#[]⟩, .string ⟨#[]⟩] 51)); have HX := Lib.hid (grp_cells w1 ⟨#[]⟩ ⟨#[]⟩); clear he g1)
      | (go_at_call 26; (with_reducible refine (HRp.out _).mono ?_); rintro e w2 ⟨rfl, rfl⟩)
      | (go_at_call 27; (with_reducible refine (HR1.out _).mono ?_); rintro e w3 ⟨rfl, rfl⟩)
      | (go_at_call 28; (with_reducible refine (HR2.out _).mono ?_); rintro e w4 ⟨rfl, rfl⟩)
      | (go_at_call 29; (with_reducible refine (HAw.out _ B1.out).mono ?_); rintro e w5 ⟨rfl, b5⟩; have H5 := Lib.hid b5; clear b5)
      | (go_at_call 30; (with_reducible refine (HWr.out _ _ _ (B1.out.trans (H5.out.mono B1.out.size)) (HE.out.later H5.out)).mono ?_); rintro e w6 ⟨rfl, b6⟩; have H6 := Lib.hid (H5.out.trans (b6.mono H5.out.size)); obtain ⟨c0, c1⟩ := HX.out _ H6.out; clear b6)
      | fail)
    go_ret
    exact ⟨rfl, B1.out.trans (H6.out.mono B1.out.size)⟩
  | some k =>
    obtain ⟨hk, hr, hin⟩ := hpc k hP
    rw [hP] at hpk hbt
    have HP : Hid (Calls Tryd.prog 25 #[.int .u32 (a : Int), .int .u32 (b : Int), .int .u32 (c : Int)] w fun e w' => e = .returned (.tuple #[.agg #[.string (gP k), .string ⟨#[2]⟩], .nilIface]) ∧ Below w.heap.size w w') := hpk.mono fun e w' ⟨⟨_, h1⟩, h3⟩ => ⟨h1, h3⟩
    rw [show pickBits a b c = szK k from hbt] at HRp
    have HGr : Hid (∀ W : World, Calls Tryd.prog 31 #[.int .i64 (szK k : Int)] W fun e w' => e = .returned (.agg #[.string (gP k), .string ⟨#[2]⟩]) ∧ Below W.heap.size W w') := fun W => r18Group_any (szK k) (szK_ge k) (szK_le k hk) W
    have HBi : Hid (∀ W : World, Calls Tryd.prog 32 #[.agg #[.string (gP k), .string ⟨#[2]⟩]] W fun e w' => e = .returned (.int .i64 (szK k : Int)) ∧ Below W.heap.size W w') := fun W => by
      have h := gxBits_any (modL (szK k) (szK k / 8)) ⟨#[2]⟩ (by rw [modL_len]; have := szK_le k hk; omega) W
      rw [bits_table k hk] at h
      exact h
    have HCh : Hid (∀ W : World, Calls Tryd.prog 33 #[.int .u32 (a : Int), .int .u32 (c : Int), .agg #[.string (gP k), .string ⟨#[2]⟩]] W fun e w' => e = .returned .nilIface ∧ Below W.heap.size W w') := fun W => (gxCheck_any a c ha hc (modL (szK k) (szK k / 8)) [2] (by rw [modL_len]; have := szK_le k hk; omega) (by simp) W).mono fun e w' ⟨h1, _, h3⟩ => ⟨h1 (table_check a c k hk hin), h3⟩
    have hz : ((szK k : Int) == 0) = false := by rw [beq_eq_false_iff_ne]; have := szK_ge k; omega
    have hz2 : ((szK k : Int) == (szK k : Int)) = true := by simp
    have hz3 : (szK k : Int) ≤ 5000 := by have := szK_le k hk; omega
    clear hpk hpc hbt hP hS hg ha hb hc hin hr
    have qG : ((gP k).toList == (gP k).toList) = true := by simp
    generalize rightB a b c = R at *
    generalize (a : Int) = A at *
    generalize (b : Int) = B at *
    generalize (c : Int) = C at *
    generalize (szK k : Int) = Z at *
    generalize gP k = F at *
    have qR : (R == R) = true := by simp
    go_enter Tryd.func6, Tryd.ntmps6
    go_wp2_with (first
      | (go_at_call 25; (with_reducible refine HP.out.mono ?_); rintro e w1 ⟨rfl, g1⟩; have B1 := Lib.hid (g1.alloc g1.size (.cells #[.string F, .string ⟨#[2]⟩] 51)); have HX := Lib.hid (grp_cells w1 F ⟨#[2]⟩); clear g1)
      | (go_at_call 26; (with_reducible refine (HRp.out _).mono ?_); rintro e w2 ⟨rfl, rfl⟩)
      | (go_at_call 27; (with_reducible refine (HR1.out _).mono ?_); rintro e w3 ⟨rfl, rfl⟩)
      | (go_at_call 28; (with_reducible refine (HR2.out _).mono ?_); rintro e w4 ⟨rfl, rfl⟩)
      | fail)
    have H0 : Hid (Below (w1.alloc (.cells #[.string F, .string ⟨#[2]⟩] 51)).heap.size (w1.alloc (.cells #[.string F, .string ⟨#[2]⟩] 51)) (w1.alloc (.cells #[.string F, .string ⟨#[2]⟩] 51)).drew) := (Below.refl _ _).drew
    have B0 : Hid (Below w.heap.size w (w1.alloc (.cells #[.string F, .string ⟨#[2]⟩] 51)).drew) := B1.out.trans (H0.out.mono B1.out.size)
    obtain ⟨c0, c1⟩ := HX.out _ H0.out
    go_region_held3 (fun w' => w'.cell? ⟨w1.heap.size, 0, none⟩ = some (.string F) ∧ w'.cell? ⟨w1.heap.size, 1, none⟩ = some (.string ⟨#[2]⟩))
      (first | with_reducible exact ⟨c0, c1⟩ | with_reducible exact ⟨d0, d1⟩ | with_reducible exact ⟨e0, e1⟩ | with_reducible exact ⟨f0, f1⟩ | with_reducible exact ⟨g0, g1⟩ | go_keep)
      (first
        | (go_at_call 29; (with_reducible refine (HAw.out _ B0.out).mono ?_); rintro e w5 ⟨rfl, b5⟩; have H5 := Lib.hid (H0.out.trans (b5.mono H0.out.size)); obtain ⟨d0, d1⟩ := HX.out _ H5.out; clear b5)
        | (go_at_call 31; (with_reducible refine (HGr.out _).mono ?_); rintro e w6 ⟨rfl, b6⟩; have H6 := Lib.hid (H5.out.trans (b6.mono H5.out.size)); obtain ⟨e0, e1⟩ := HX.out _ H6.out; clear b6)
        | (go_at_call 32; (with_reducible refine (HBi.out _).mono ?_); rintro e w7 ⟨rfl, b7⟩; have H7 := Lib.hid (H6.out.trans (b7.mono H6.out.size)); obtain ⟨f0, f1⟩ := HX.out _ H7.out; clear b7)
        | (go_at_call 33; (with_reducible refine (HCh.out _).mono ?_); rintro e w8 ⟨rfl, b8⟩; have H8 := Lib.hid (H7.out.trans (b8.mono H7.out.size)); obtain ⟨g0, g1⟩ := HX.out _ H8.out; clear b8)
        | fail)
    all_goals
      go_wp2_with fail
      go_ret
      exact ⟨rfl, B1.out.trans (H8.out.mono B1.out.size)⟩
end Go.Proofs.YtihkhcocfhbekaaDoor
