/- Layer 18: the law GexChecks. -/
import Derived.Test.YtihkhcocfhbekaaDoorGxC
import Derived.Test.YtihkhcocfhbekaaDoorGxA
import Derived.Deep.RegionHeld3
namespace Go.Proofs.YtihkhcocfhbekaaDoor
open Go.RowKit

theorem grp_cells2 (w : World) (P G : ByteArray) : ∀ W, Below (w.alloc (.cells #[.string P, .string G] 51)).heap.size (w.alloc (.cells #[.string P, .string G] 51)) W → W.cell? ⟨w.heap.size, 0, none⟩ = some (.string P) ∧ W.cell? ⟨w.heap.size, 1, none⟩ = some (.string G) := fun W hb => by
  have h := (Holds.new w 51 #[.string P, .string G]).moves (Moves.ofBelow (S := nobody) hb) (fun h => h)
  exact ⟨(h.cell 0).trans rfl, (h.cell 1).trans rfl⟩

set_option maxHeartbeats 4000000 in
set_option maxRecDepth 100000 in
theorem GexChecks_small {w : World} (hS : Siz w) (hg : TypeOfError w) (a b : Nat) (ha : a < 4294967296) (hb : b < 4294967296) (p g : List UInt8) (h1 : p.length ≤ 2000) (h2 : g.length ≤ 2000) :
    Calls Tryd.prog 7 #[.int .u32 (a : Int), .int .u32 (b : Int), .agg #[.string (bs p), .string (bs g)]] w fun e w' => e = .returned (.bool true) ∧ Below w.heap.size w w' := by
  have hs1 := bs_size p
  have hs2 := bs_size g
  have HAw : Hid (∀ W, Below w.heap.size w W → Calls Tryd.prog 29 #[] W fun e w' => e = .returned (.bool true) ∧ Below W.heap.size W w') := fun W hb => awake18_any (hS.below hb)
  have HWr : Hid (∀ (W : World) (t : TypeId) (u : Value), Below w.heap.size w W → ErrAt W (.iface t u) [gexS] (some 5) → Calls Tryd.prog 30 #[.iface t u] W fun e w' => e = .returned (.bool true) ∧ Below W.heap.size W w') := fun W t u hb he => wrong18_any (hg.later hb) he
  have hck := fun W => gxCheck_any a b ha hb p g (by omega) (by omega) W
  have HRc := Lib.hid (fun W => r18Check_any a b ha hb p g (by omega) (by omega) W)
  have HRn := Lib.hid (fun W => r18Name_any p g (by omega) (by omega) W)
  obtain ⟨S, hSd⟩ : ∃ S, S = nameP p g := ⟨_, rfl⟩
  obtain ⟨E, hE⟩ : ∃ E : Int, E = if 8 + p.length + g.length ≤ 2100 then 0 else 2 := ⟨_, rfl⟩
  have HNm : Hid (∀ W : World, Calls Tryd.prog 34 #[.agg #[.string (bs p), .string (bs g)]] W fun e w' => e = .returned (.tuple #[.string S, .int .i64 E]) ∧ Below W.heap.size W w') := fun W => (gxName_any p g (by omega) (by omega) W).mono fun e w' ⟨h1, h2, h3⟩ => by
    refine ⟨?_, h3⟩
    rw [hSd, hE]
    unfold nameP
    by_cases hl : 8 + p.length + g.length ≤ 2100
    · rw [if_pos hl, if_pos hl]; exact h1 hl
    · rw [if_neg hl, if_neg hl]; exact h2 (by omega)
  have hT : (E = 0 ∧ S.toList.isEmpty = false) ∨ (E = 2 ∧ S.toList.isEmpty = true) := by
    rw [hSd, hE]
    unfold nameP
    by_cases hl : 8 + p.length + g.length ≤ 2100
    · rw [if_pos hl, if_pos hl]
      refine .inl ⟨rfl, ?_⟩
      rw [ba_toList]
      show (nameL p g).isEmpty = false
      simp [nameL]
    · rw [if_neg hl, if_neg hl]
      exact .inr ⟨rfl, by rw [ba_toList]; rfl⟩
  rw [← hSd] at HRn
  obtain ⟨c, hc⟩ : ∃ c, c = checkB a b p g := ⟨_, rfl⟩
  rw [← hc] at hck HRc
  have HX := Lib.hid (grp_cells2 w (bs p) (bs g))
  have HB0 : Hid (Below w.heap.size w (w.alloc (.cells #[.string (bs p), .string (bs g)] 51))) := (Below.refl _ _).alloc (Nat.le_refl _) _
  have BR : Hid (Below (w.alloc (.cells #[.string (bs p), .string (bs g)] 51)).heap.size (w.alloc (.cells #[.string (bs p), .string (bs g)] 51)) (w.alloc (.cells #[.string (bs p), .string (bs g)] 51))) := Below.refl _ _
  have u1 : decide (((bs p).size : Int) > 2000) = false := decide_eq_false (by omega)
  have u2 : decide (((bs g).size : Int) > 2000) = false := decide_eq_false (by omega)
  have m1 : (bs p).size ≤ 2000 := by omega
  have m2 : (bs g).size ≤ 2000 := by omega
  have ha1 : 0 ≤ (a : Int) := by omega
  have hb1 : 0 ≤ (b : Int) := by omega
  have ha2 : (a : Int) ≤ 4294967295 := by omega
  have hb2 : (b : Int) ≤ 4294967295 := by omega
  have qS : (S.toList == S.toList) = true := by simp
  obtain ⟨W0, hW0⟩ : ∃ W0, W0 = w.alloc (.cells #[.string (bs p), .string (bs g)] 51) := ⟨_, rfl⟩
  rw [← hW0] at HX HB0 BR
  have HW0 := Lib.hid hW0.symm
  clear hW0 hE hSd hc hS hg ha hb h1 h2 hs1 hs2
  generalize (a : Int) = A at *
  generalize (b : Int) = B at *
  generalize bs p = P at *
  generalize bs g = G at *
  rcases hT with ⟨rfl, qE⟩ | ⟨rfl, qE⟩
  all_goals
    cases c with
    | true =>
      have HCk : Hid (∀ W : World, Calls Tryd.prog 33 #[.int .u32 A, .int .u32 B, .agg #[.string P, .string G]] W fun e w' => e = .returned .nilIface ∧ Below W.heap.size W w') := fun W => (hck W).mono fun e w' ⟨h1, _, h3⟩ => ⟨h1 rfl, h3⟩
      clear hck HWr
      go_enter Tryd.func7, Tryd.ntmps7
      go_wp2_with (first
        | (go_at_call 33; rw [HW0.out]; (with_reducible refine (HCk.out _).mono ?_); rintro e w1 ⟨rfl, b1⟩; have B1 := Lib.hid (BR.out.trans (b1.mono BR.out.size)); obtain ⟨k0, k1⟩ := HX.out _ B1.out; clear b1)
        | (go_at_call 34; (with_reducible refine (HNm.out _).mono ?_); rintro e w2 ⟨rfl, b2⟩; have B2 := Lib.hid (B1.out.trans (b2.mono B1.out.size)); obtain ⟨l0, l1⟩ := HX.out _ B2.out; clear b2)
        | (go_at_call 35; (with_reducible refine (HRn.out _).mono ?_); rintro e w3 ⟨rfl, b3⟩; have B3 := Lib.hid (B2.out.trans (b3.mono B2.out.size)); obtain ⟨n0, n1⟩ := HX.out _ B3.out; clear b3)
        | (go_at_call 36; (with_reducible refine (HRc.out _).mono ?_); rintro e w4 ⟨rfl, b4⟩; have B4 := Lib.hid (B3.out.trans (b4.mono B3.out.size)); clear b4)
        | (go_at_call 29; (with_reducible refine (HAw.out _ (HB0.out.trans (B4.out.mono HB0.out.size))).mono ?_); rintro e w5 ⟨rfl, b5⟩; have B5 := Lib.hid (B4.out.trans (b5.mono B4.out.size)); clear b5)
        | fail)
      go_ret
      exact ⟨rfl, HB0.out.trans (B5.out.mono HB0.out.size)⟩
    | false =>
      have HCk : Hid (∀ W : World, Calls Tryd.prog 33 #[.int .u32 A, .int .u32 B, .agg #[.string P, .string G]] W fun e w' => ∃ t u, e = .returned (.iface t u) ∧ ErrAt w' (.iface t u) [gexS] (some 5) ∧ Below W.heap.size W w') := fun W => (hck W).mono fun e w' ⟨_, h2, h3⟩ => by
        obtain ⟨t, u, he, ht⟩ := h2 rfl
        exact ⟨t, u, he, ht, h3⟩
      clear hck
      go_enter Tryd.func7, Tryd.ntmps7
      go_wp2_with (first
        | (go_at_call 33; rw [HW0.out]; (with_reducible refine (HCk.out _).mono ?_); rintro e w1 ⟨t, u, rfl, he, b1⟩; have HE := Lib.hid he; have B1 := Lib.hid (BR.out.trans (b1.mono BR.out.size)); obtain ⟨k0, k1⟩ := HX.out _ B1.out; have R1 : Hid (Below w1.heap.size w1 w1) := Below.refl _ _; clear b1 he)
        | (go_at_call 34; (with_reducible refine (HNm.out _).mono ?_); rintro e w2 ⟨rfl, b2⟩; have B2 := Lib.hid (B1.out.trans (b2.mono B1.out.size)); have R2 := Lib.hid b2; obtain ⟨l0, l1⟩ := HX.out _ B2.out; clear b2)
        | (go_at_call 35; (with_reducible refine (HRn.out _).mono ?_); rintro e w3 ⟨rfl, b3⟩; have B3 := Lib.hid (B2.out.trans (b3.mono B2.out.size)); have R3 := Lib.hid (R2.out.trans (b3.mono R2.out.size)); obtain ⟨n0, n1⟩ := HX.out _ B3.out; clear b3)
        | (go_at_call 36; (with_reducible refine (HRc.out _).mono ?_); rintro e w4 ⟨rfl, b4⟩; have B4 := Lib.hid (B3.out.trans (b4.mono B3.out.size)); have R4 := Lib.hid (R3.out.trans (b4.mono R3.out.size)); clear b4)
        | (go_at_call 29; (with_reducible refine (HAw.out _ (HB0.out.trans (B4.out.mono HB0.out.size))).mono ?_); rintro e w5 ⟨rfl, b5⟩; have B5 := Lib.hid (B4.out.trans (b5.mono B4.out.size)); have R5 := Lib.hid (R4.out.trans (b5.mono R4.out.size)); clear b5)
        | (go_at_call 30; (with_reducible refine (HWr.out _ _ _ (HB0.out.trans (B5.out.mono HB0.out.size)) (HE.out.later R5.out)).mono ?_); rintro e w6 ⟨rfl, b6⟩; have B6 := Lib.hid (B5.out.trans (b6.mono B5.out.size)); clear b6)
        | fail)
      go_ret
      exact ⟨rfl, HB0.out.trans (B6.out.mono HB0.out.size)⟩

set_option maxHeartbeats 2000000 in
set_option maxRecDepth 100000 in
theorem GexChecks_long {w : World} (hS : Siz w) (a b : Int) (P G : ByteArray) (r1 r2 : Bool) (h1 : decide ((P.size : Int) > 2000) = r1) (h2 : decide ((G.size : Int) > 2000) = r2) (hr : (r1 || r2) = true) (m1 : P.size ≤ maxLen) (m2 : G.size ≤ maxLen) :
    Calls Tryd.prog 7 #[.int .u32 a, .int .u32 b, .agg #[.string P, .string G]] w fun e w' => e = .returned (.bool true) ∧ Below w.heap.size w w' := by
  unfold maxLen at m1 m2
  have HB0 : Hid (Below w.heap.size w (w.alloc (.cells #[.string P, .string G] 51))) := (Below.refl _ _).alloc (Nat.le_refl _) _
  have HAw : Hid (∀ W, Below w.heap.size w W → Calls Tryd.prog 29 #[] W fun e w' => e = .returned (.bool true) ∧ Below W.heap.size W w') := fun W hb => awake18_any (hS.below hb)
  clear hS
  cases r1 with
  | true =>
    go_enter Tryd.func7, Tryd.ntmps7
    go_wp2_with (go_at_call 29; (with_reducible refine (HAw.out _ HB0.out).mono ?_); rintro e w5 ⟨rfl, b5⟩; have B5 := Lib.hid (HB0.out.trans (b5.mono HB0.out.size)); clear b5)
    go_ret
    exact ⟨rfl, B5.out⟩
  | false =>
  cases r2 with
  | true =>
    go_enter Tryd.func7, Tryd.ntmps7
    go_wp2_with (go_at_call 29; (with_reducible refine (HAw.out _ HB0.out).mono ?_); rintro e w5 ⟨rfl, b5⟩; have B5 := Lib.hid (HB0.out.trans (b5.mono HB0.out.size)); clear b5)
    go_ret
    exact ⟨rfl, B5.out⟩
  | false => simp at hr

theorem GexChecks_any {w : World} (hS : Siz w) (hg : TypeOfError w) (a b : Nat) (ha : a < 4294967296) (hb : b < 4294967296) (P G : ByteArray) (m1 : P.size ≤ maxLen) (m2 : G.size ≤ maxLen) :
    Calls Tryd.prog 7 #[.int .u32 (a : Int), .int .u32 (b : Int), .agg #[.string P, .string G]] w fun e w' => e = .returned (.bool true) ∧ Below w.heap.size w w' := by
  by_cases h : P.size ≤ 2000 ∧ G.size ≤ 2000
  · obtain ⟨h1, h2⟩ := h
    have := GexChecks_small hS hg a b ha hb P.data.toList G.data.toList (by rw [Array.length_toList]; exact h1) (by rw [Array.length_toList]; exact h2)
    rwa [bs_list, bs_list] at this
  · refine GexChecks_long hS _ _ P G _ _ rfl rfl ?_ m1 m2
    simp only [Bool.or_eq_true, decide_eq_true_eq]
    omega
end Go.Proofs.YtihkhcocfhbekaaDoor
