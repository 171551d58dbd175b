/- Layer 18: the law GexTable. -/
import Derived.Test.YtihkhcocfhbekaaDoorGx9
import Derived.Test.YtihkhcocfhbekaaDoorGx3
import Derived.Test.YtihkhcocfhbekaaDoorGx8
import Derived.Test.YtihkhcocfhbekaaDoorGxD
import Derived.Deep.RegionHeld3
namespace Go.Proofs.YtihkhcocfhbekaaDoor
open Go.RowKit

theorem pick_same : ∀ k, k < 4 → pickP (szK k) (szK k) (szK k) = some k := by decide +kernel
theorem pick_own {w : World} (hS : Siz w) (k : Nat) (hk : k < 4) (z : Int) (hz : z = (szK k : Nat)) : Calls Tryd.prog 25 #[.int .u32 z, .int .u32 z, .int .u32 z] w fun e w' => e = .returned (.tuple #[.agg #[.string (gP k), .string ⟨#[2]⟩], .nilIface]) ∧ Below w.heap.size w w' := by
  subst hz
  have hl := szK_le k hk
  have h := pick_any hS (szK k) (szK k) (szK k) (by omega) (by omega) (by omega)
  rw [pick_same k hk] at h
  exact h.mono fun e w' ⟨⟨_, h1⟩, h2⟩ => ⟨h1, h2⟩
theorem check_own (k : Nat) (hk : k < 4) (W : World) : Calls Tryd.prog 33 #[.int .u32 1024, .int .u32 8192, .agg #[.string (gP k), .string ⟨#[2]⟩]] W fun e w' => e = .returned .nilIface ∧ Below W.heap.size W w' :=
  (gxCheck_any 1024 8192 (by omega) (by omega) (modL (szK k) (szK k / 8)) [2] (by rw [modL_len]; have := szK_le k hk; omega) (by simp) W).mono fun e w' ⟨h1, _, h3⟩ => ⟨h1 (table_check 1024 8192 k hk (table_right k hk).1), h3⟩

set_option maxHeartbeats 4000000 in
set_option maxRecDepth 100000 in
theorem GexTable_at {w : World} (hS : Siz w) (z : Int) (k : Nat) (hk : k < 4) (hz : Int.tmod z 4 = k) (h0 : 0 ≤ z) (h1 : z ≤ 255) (m : Int) :
    Calls Tryd.prog 8 #[.int .u8 z, .int .i64 m] w fun e w' => e = .returned (.bool true) ∧ Below w.heap.size w w' := by
  have HAw : Hid (∀ W, Below w.heap.size w W → Calls Tryd.prog 29 #[] W fun e w' => e = .returned (.bool true) ∧ Below W.heap.size W w') := fun W hb => awake18_any (hS.below hb)
  have HT : Hid (∀ W, Below w.heap.size w W → Calls Tryd.prog 37 #[] W fun e w' => ∃ g c, e = .returned (.slice (some ⟨g, 0, none⟩) 4 c) ∧ w'.ownsRow W.heap.size 51 2 (.slice (some ⟨g, 0, none⟩) 4 c) 4 (grV gP ⟨#[2]⟩) ∧ Below W.heap.size W w') := fun W hb => table_any (hS.below hb)
  have HC := Lib.hid (gxCurve_any m)
  have HCh := Lib.hid (check_own k hk)
  have hcast : (1024 * ((k : Int) + 1)) = ((szK k : Nat) : Int) := by unfold szK; omega
  have HGr : Hid (∀ W : World, Calls Tryd.prog 31 #[.int .i64 (1024 * ((k : Int) + 1))] W fun e w' => e = .returned (.agg #[.string (gP k), .string ⟨#[2]⟩]) ∧ Below W.heap.size W w') := fun W => by
    rw [hcast]
    exact r18Group_any (szK k) (szK_ge k) (szK_le k hk) W
  have HPk : Hid (∀ W, Below w.heap.size w W → Calls Tryd.prog 25 #[.int .u32 (1024 * ((k : Int) + 1)), .int .u32 (1024 * ((k : Int) + 1)), .int .u32 (1024 * ((k : Int) + 1))] W fun e w' => e = .returned (.tuple #[.agg #[.string (gP k), .string ⟨#[2]⟩], .nilIface]) ∧ Below W.heap.size W w') := fun W hb => pick_own (hS.below hb) k hk _ hcast
  have HRC : Hid (∀ {W W' : World} {B g c : Nat}, W.ownsRow B 51 2 (.slice (some ⟨g, 0, none⟩) 4 c) 4 (grV gP ⟨#[2]⟩) → Below W.heap.size W W' → W'.cell? ⟨g, k * 2, none⟩ = some (.string (gP k)) ∧ W'.cell? ⟨g, k * 2 + 1, none⟩ = some (.string ⟨#[2]⟩)) := fun h hb => row_cells h hb k hk
  have qG : ((gP k).toList == (gP k).toList) = true := by simp
  have hb0 : Hid (Below w.heap.size w w) := Below.refl _ _
  have hk0 : (0 : Int) ≤ (k : Int) := by omega
  have hk4 : (k : Int) < 4 := by omega
  clear hS hcast
  generalize gP k = F at HCh HGr HPk qG HRC ⊢
  rcases (show m = 1 ∨ m = 2 ∨ (m ≠ 1 ∧ m ≠ 2) by omega) with rfl | rfl | ⟨n1, n2⟩
  case' inr.inr =>
    have q1 : (m == 1) = false := by rw [beq_eq_false_iff_ne]; exact n1
    have q2 : (m == 2) = false := by rw [beq_eq_false_iff_ne]; exact n2
    have HC2 : Hid (∀ W : World, Calls Tryd.prog 38 #[.int .i64 m] W fun e w' => e = .returned (.tuple #[.string ⟨#[]⟩, .bool false]) ∧ w' = W) := by
      have h := HC.out
      unfold curveP at h
      rw [if_neg n1, if_neg n2] at h
      exact h
    clear HC n1 n2
  case' inl =>
    have HC2 : Hid (∀ W : World, Calls Tryd.prog 38 #[.int .i64 1] W fun e w' => e = .returned (.tuple #[.string curveS, .bool true]) ∧ w' = W) := HC.out
    clear HC
    unfold curveS at HC2
  case' inr.inl =>
    have HC2 : Hid (∀ W : World, Calls Tryd.prog 38 #[.int .i64 2] W fun e w' => e = .returned (.tuple #[.string nistS, .bool true]) ∧ w' = W) := HC.out
    clear HC
    unfold nistS at HC2
  all_goals
    go_enter Tryd.func8, Tryd.ntmps8
    go_wp2_with (first
      | (go_at_call 37; (with_reducible refine (HT.out _ hb0.out).mono ?_); rintro e w1 ⟨g, c, rfl, hr, b1⟩; have B1 := Lib.hid b1; have HRw := Lib.hid hr; clear hr b1)
      | (go_at_call 25; (with_reducible refine (HPk.out _ B1.out).mono ?_); rintro e w2 ⟨rfl, b2⟩; have H2 := Lib.hid (b2.alloc b2.size (.cells #[.string F, .string ⟨#[2]⟩] 51)); have HX := Lib.hid (grp_cells w2 F ⟨#[2]⟩); have B2 := Lib.hid (B1.out.trans (H2.out.mono B1.out.size)); clear b2)
      | (go_at_call 38; (with_reducible refine (HC2.out _).mono ?_); rintro e w4 ⟨rfl, rfl⟩)
      | fail)
    have H0 : Hid (Below (w2.alloc (.cells #[.string F, .string ⟨#[2]⟩] 51)).heap.size (w2.alloc (.cells #[.string F, .string ⟨#[2]⟩] 51)) (w2.alloc (.cells #[.string F, .string ⟨#[2]⟩] 51)).drew) := (Below.refl _ _).drew
    have T0 : Hid (Below w1.heap.size w1 (w2.alloc (.cells #[.string F, .string ⟨#[2]⟩] 51)).drew) := H2.out.trans (H0.out.mono H2.out.size)
    have B0 : Hid (Below w.heap.size w (w2.alloc (.cells #[.string F, .string ⟨#[2]⟩] 51)).drew) := B2.out.trans (H0.out.mono B2.out.size)
    obtain ⟨c0, c1⟩ := HX.out _ H0.out
    obtain ⟨c2, c3⟩ := HRC.out HRw.out T0.out
    go_region_held3 (fun w' => w'.cell? ⟨w2.heap.size, 0, none⟩ = some (.string F) ∧ w'.cell? ⟨w2.heap.size, 1, none⟩ = some (.string ⟨#[2]⟩) ∧ w'.cell? ⟨g, k * 2, none⟩ = some (.string F) ∧ w'.cell? ⟨g, k * 2 + 1, none⟩ = some (.string ⟨#[2]⟩))
      (first | with_reducible exact ⟨c0, c1, c2, c3⟩ | with_reducible exact ⟨d0, d1, d2, d3⟩ | with_reducible exact ⟨e0, e1, e2, e3⟩ | with_reducible exact ⟨f0, f1, f2, f3⟩ | go_keep)
      (first
        | (go_at_call 29; (with_reducible refine (HAw.out _ B0.out).mono ?_); rintro e w5 ⟨rfl, b5⟩; have H5 := Lib.hid (H0.out.trans (b5.mono H0.out.size)); have T5 := Lib.hid (T0.out.trans (b5.mono T0.out.size)); obtain ⟨d0, d1⟩ := HX.out _ H5.out; obtain ⟨d2, d3⟩ := HRC.out HRw.out T5.out; clear b5)
        | (go_at_call 31; (with_reducible refine (HGr.out _).mono ?_); rintro e w6 ⟨rfl, b6⟩; have H6 := Lib.hid (H5.out.trans (b6.mono H5.out.size)); have T6 := Lib.hid (T5.out.trans (b6.mono T5.out.size)); obtain ⟨e0, e1⟩ := HX.out _ H6.out; obtain ⟨e2, e3⟩ := HRC.out HRw.out T6.out; clear b6)
        | (go_at_call 33; (with_reducible refine (HCh.out _).mono ?_); rintro e w8 ⟨rfl, b8⟩; have H8 := Lib.hid (H6.out.trans (b8.mono H6.out.size)); have T8 := Lib.hid (T6.out.trans (b8.mono T6.out.size)); obtain ⟨f0, f1⟩ := HX.out _ H8.out; obtain ⟨f2, f3⟩ := HRC.out HRw.out T8.out; clear b8)
        | fail)
    all_goals
      go_wp2_with fail
      go_ret
      exact ⟨rfl, B2.out.trans (H8.out.mono B2.out.size)⟩

theorem GexTable_any {w : World} (hS : Siz w) (z m : Int) (h0 : 0 ≤ z) (h1 : z ≤ 255) :
    Calls Tryd.prog 8 #[.int .u8 z, .int .i64 m] w fun e w' => e = .returned (.bool true) ∧ Below w.heap.size w w' := by
  have hk : Int.tmod z 4 = z % 4 := Int.tmod_eq_emod_of_nonneg h0
  exact GexTable_at hS z (z % 4).toNat (by omega) (by rw [hk]; omega) h0 h1 m
end Go.Proofs.YtihkhcocfhbekaaDoor
