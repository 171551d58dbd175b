/- Layer 21: the keys of the directions. -/
import Derived.Test.YtemhifeddejkjaaKy1
namespace Go.Proofs.Ytemhifeddejkjaa
open Go.RowKit

def wayL (b : Bool) (t0 t1 t2 t3 t4 t5 : List UInt8) : List UInt8 := if b = true then refListL [t0, t2, t4] else refListL [t1, t3, t5]
section
variable {B A n : Nat} {w0 W : World} {P : List (Int × List UInt8)}
set_option maxHeartbeats 2000000 in
set_option maxRecDepth 100000 in
theorem kWay_true (h : Ta B w0 A P n W) (hn : n ≤ 10000) {k0 k1 k2 k3 k4 k5 : Int} {a b c : List UInt8} (h0 : (k0, a) ∈ P) (h1 : (k2, b) ∈ P) (h2 : (k4, c) ∈ P) :
    Calls Try.prog 15 #[.pointer (some ⟨A, 0, none⟩), .agg #[.int .i64 k0, .int .i64 k1, .int .i64 k2, .int .i64 k3, .int .i64 k4, .int .i64 k5], .bool true] W (TaPost B w0 A P (n + 1) W (refListL [a, b, c])) := by
  obtain ⟨W2, hW2⟩ : ∃ W2, W2 = (W.alloc (.cells #[.int .i64 k0, .int .i64 k1, .int .i64 k2, .int .i64 k3, .int .i64 k4, .int .i64 k5] 36)).alloc (.cells #[.int .i64 k0, .int .i64 k2, .int .i64 k4] 33) := ⟨_, rfl⟩
  have b2 : Below W.heap.size W W2 := by rw [hW2]; exact ((Below.refl _ _).alloc (Nat.le_refl _) _).alloc (by simp) _
  have hI : IdsAt W2 (.slice (some ⟨W.heap.size + 1, 0, none⟩) 3 3) [k0, k2, k4] := by
    have := ids_new (W.alloc (.cells #[.int .i64 k0, .int .i64 k1, .int .i64 k2, .int .i64 k3, .int .i64 k4, .int .i64 k5] 36)) [k0, k2, k4] 33
    rw [World.size_alloc] at this
    rw [hW2]
    exact this
  have HL : Hid (Calls Try.prog 26 #[.pointer (some ⟨A, 0, none⟩), .slice (some ⟨W.heap.size + 1, 0, none⟩) 3 3] W2 (TaPost B w0 A P (n + 1) W (refListL [a, b, c]))) :=
    (taList (h.below b2) (by omega) [(k0, a), (k2, b), (k4, c)] hI (by simp) (fun q hq => by
      simp only [List.mem_cons, List.not_mem_nil, or_false] at hq
      rcases hq with rfl | rfl | rfl
      · exact h0
      · exact h1
      · exact h2)).mono fun r w' ⟨i, e1, e2, e3⟩ => ⟨i, e1, e2, (Kept.ofBelow b2).trans e3⟩
  generalize refListL [a, b, c] = T at *
  clear hI b2 h h0 h1 h2
  go_enter Try.func15, Try.ntmps15
  go_wp2_with (go_at_call 26; rw [← hW2]; (with_reducible refine HL.out.mono ?_); rintro e w' ⟨i, rfl, t1, k1⟩)
  go_ret
  exact ⟨i, rfl, t1, k1⟩
set_option maxHeartbeats 2000000 in
set_option maxRecDepth 100000 in
theorem kWay_false (h : Ta B w0 A P n W) (hn : n ≤ 10000) {k0 k1 k2 k3 k4 k5 : Int} {a b c : List UInt8} (h0 : (k1, a) ∈ P) (h1 : (k3, b) ∈ P) (h2 : (k5, c) ∈ P) :
    Calls Try.prog 15 #[.pointer (some ⟨A, 0, none⟩), .agg #[.int .i64 k0, .int .i64 k1, .int .i64 k2, .int .i64 k3, .int .i64 k4, .int .i64 k5], .bool false] W (TaPost B w0 A P (n + 1) W (refListL [a, b, c])) := by
  obtain ⟨W2, hW2⟩ : ∃ W2, W2 = (W.alloc (.cells #[.int .i64 k0, .int .i64 k1, .int .i64 k2, .int .i64 k3, .int .i64 k4, .int .i64 k5] 36)).alloc (.cells #[.int .i64 k1, .int .i64 k3, .int .i64 k5] 33) := ⟨_, rfl⟩
  have b2 : Below W.heap.size W W2 := by rw [hW2]; exact ((Below.refl _ _).alloc (Nat.le_refl _) _).alloc (by simp) _
  have hI : IdsAt W2 (.slice (some ⟨W.heap.size + 1, 0, none⟩) 3 3) [k1, k3, k5] := by
    have := ids_new (W.alloc (.cells #[.int .i64 k0, .int .i64 k1, .int .i64 k2, .int .i64 k3, .int .i64 k4, .int .i64 k5] 36)) [k1, k3, k5] 33
    rw [World.size_alloc] at this
    rw [hW2]
    exact this
  have HL : Hid (Calls Try.prog 26 #[.pointer (some ⟨A, 0, none⟩), .slice (some ⟨W.heap.size + 1, 0, none⟩) 3 3] W2 (TaPost B w0 A P (n + 1) W (refListL [a, b, c]))) :=
    (taList (h.below b2) (by omega) [(k1, a), (k3, b), (k5, c)] hI (by simp) (fun q hq => by
      simp only [List.mem_cons, List.not_mem_nil, or_false] at hq
      rcases hq with rfl | rfl | rfl
      · exact h0
      · exact h1
      · exact h2)).mono fun r w' ⟨i, e1, e2, e3⟩ => ⟨i, e1, e2, (Kept.ofBelow b2).trans e3⟩
  generalize refListL [a, b, c] = T at *
  clear hI b2 h h0 h1 h2
  go_enter Try.func15, Try.ntmps15
  go_wp2_with (go_at_call 26; rw [← hW2]; (with_reducible refine HL.out.mono ?_); rintro e w' ⟨i, rfl, t1, k1⟩)
  go_ret
  exact ⟨i, rfl, t1, k1⟩
set_option maxHeartbeats 4000000 in
set_option maxRecDepth 100000 in
theorem kBoth_any (h : Ta B w0 A P n W) (hn : n ≤ 1000) {i j k : Int} {x y z : List UInt8} (hi : (i, x) ∈ P) (hj : (j, y) ∈ P) (hk : (k, z) ∈ P) :
    Calls Try.prog 13 #[.pointer (some ⟨A, 0, none⟩), .int .i64 i, .int .i64 j, .int .i64 k] W fun r w' => ∃ p q : Int, r = .returned (.tuple #[.int .i64 p, .int .i64 q]) ∧
      Ta B w0 A ((q, refListL [refDeriveL 66 x y z, refDeriveL 68 x y z, refDeriveL 70 x y z]) :: (p, refListL [refDeriveL 65 x y z, refDeriveL 67 x y z, refDeriveL 69 x y z]) :: P) (n + 8) w' ∧ Kept W w' := by
  have HS := Lib.hid (kSix_any h (by omega) hi hj hk)
  have HU : Hid (∀ (k0 k1 k2 k3 k4 k5 : Int) (W1 : World), Ta B w0 A (sixP x y z [k0, k1, k2, k3, k4, k5] ++ P) (n + 6) W1 → Calls Try.prog 15 #[.pointer (some ⟨A, 0, none⟩), .agg #[.int .i64 k0, .int .i64 k1, .int .i64 k2, .int .i64 k3, .int .i64 k4, .int .i64 k5], .bool true] W1 (TaPost B w0 A (sixP x y z [k0, k1, k2, k3, k4, k5] ++ P) (n + 7) W1 (refListL [refDeriveL 65 x y z, refDeriveL 67 x y z, refDeriveL 69 x y z]))) := fun k0 k1 k2 k3 k4 k5 W1 h1 =>
    kWay_true h1 (by omega) (List.mem_append_left _ (sixP_mem (j := 0) rfl)) (List.mem_append_left _ (sixP_mem (j := 2) rfl)) (List.mem_append_left _ (sixP_mem (j := 4) rfl))
  have HV : Hid (∀ (k0 k1 k2 k3 k4 k5 p : Int) (W1 : World), Ta B w0 A ((p, refListL [refDeriveL 65 x y z, refDeriveL 67 x y z, refDeriveL 69 x y z]) :: (sixP x y z [k0, k1, k2, k3, k4, k5] ++ P)) (n + 7) W1 → Calls Try.prog 15 #[.pointer (some ⟨A, 0, none⟩), .agg #[.int .i64 k0, .int .i64 k1, .int .i64 k2, .int .i64 k3, .int .i64 k4, .int .i64 k5], .bool false] W1 fun r w' => ∃ q : Int, r = .returned (.int .i64 q) ∧ Ta B w0 A ((q, refListL [refDeriveL 66 x y z, refDeriveL 68 x y z, refDeriveL 70 x y z]) :: (p, refListL [refDeriveL 65 x y z, refDeriveL 67 x y z, refDeriveL 69 x y z]) :: P) (n + 8) w' ∧ Kept W1 w') := fun k0 k1 k2 k3 k4 k5 p W1 h1 =>
    (kWay_false h1 (by omega) (.tail _ (List.mem_append_left _ (sixP_mem (j := 1) rfl))) (.tail _ (List.mem_append_left _ (sixP_mem (j := 3) rfl))) (.tail _ (List.mem_append_left _ (sixP_mem (j := 5) rfl)))).mono fun r w' ⟨q, e1, e2, e3⟩ => ⟨q, e1, e2.mono (Nat.le_refl _) (fun s hs => by
      rcases List.mem_cons.1 hs with rfl | hs
      · exact .head _
      · rcases List.mem_cons.1 hs with rfl | hs
        · exact .tail _ (.head _)
        · exact .tail _ (.tail _ (List.mem_append_right _ hs))), e3⟩
  generalize refListL [refDeriveL 65 x y z, refDeriveL 67 x y z, refDeriveL 69 x y z] = U at *
  generalize refListL [refDeriveL 66 x y z, refDeriveL 68 x y z, refDeriveL 70 x y z] = V at *
  clear h hi hj hk
  go_enter Try.func13, Try.ntmps13
  go_upto_region 2 with (go_at_call 10; (with_reducible refine HS.out.mono ?_); rintro e w1 ⟨k0, k1, k2, k3, k4, k5, rfl, t1, kk1⟩)
  obtain ⟨W2, hW2⟩ : ∃ W2, W2 = w1.alloc (.cells #[.int .i64 k0, .int .i64 k1, .int .i64 k2, .int .i64 k3, .int .i64 k4, .int .i64 k5] 36) := ⟨_, rfl⟩
  rw [← hW2]
  have t2 : Ta B w0 A (sixP x y z [k0, k1, k2, k3, k4, k5] ++ P) (n + 6) W2.drew := by rw [hW2]; exact (t1.alloc _).drew
  have K2 : Kept W W2.drew := by rw [hW2]; exact kk1.trans (Kept.ofBelow ((Below.refl _ _).alloc (Nat.le_refl _) _).drew)
  have hB2 : Holds W2.drew w1.heap.size 36 #[.int .i64 k0, .int .i64 k1, .int .i64 k2, .int .i64 k3, .int .i64 k4, .int .i64 k5] := by rw [hW2]; exact Holds.new w1 _ _
  generalize w1.heap.size = N at *
  have HC : Hid (∀ W3, Kept W2.drew W3 → W3.cell? ⟨N, 0, none⟩ = some (.int .i64 k0) ∧ W3.cell? ⟨N, 1, none⟩ = some (.int .i64 k1) ∧ W3.cell? ⟨N, 2, none⟩ = some (.int .i64 k2) ∧ W3.cell? ⟨N, 3, none⟩ = some (.int .i64 k3) ∧ W3.cell? ⟨N, 4, none⟩ = some (.int .i64 k4) ∧ W3.cell? ⟨N, 5, none⟩ = some (.int .i64 k5)) := fun W3 hk => by
    have h := hk.hold _ _ _ (by decide) (by decide) hB2
    exact ⟨h.cell 0, h.cell 1, h.cell 2, h.cell 3, h.cell 4, h.cell 5⟩
  obtain ⟨y0, y1, y2, y3, y4, y5⟩ := HC.out _ (Kept.refl _)
  have HR := Kept.refl W2.drew
  have HK2 := Lib.hid K2
  have ht2 := t2
  clear hW2 hB2 K2 t1 kk1 HS
  go_region_held3 (fun w' => w'.cell? ⟨N, 0, none⟩ = some (.int .i64 k0) ∧ w'.cell? ⟨N, 1, none⟩ = some (.int .i64 k1) ∧ w'.cell? ⟨N, 2, none⟩ = some (.int .i64 k2) ∧ w'.cell? ⟨N, 3, none⟩ = some (.int .i64 k3) ∧ w'.cell? ⟨N, 4, none⟩ = some (.int .i64 k4) ∧ w'.cell? ⟨N, 5, none⟩ = some (.int .i64 k5))
    (first | with_reducible exact HC.out _ HR | with_reducible exact HC.out _ k3' | with_reducible exact HC.out _ k4' | go_keep)
    (first
      | (go_at_call 15; (with_reducible refine (HU.out _ _ _ _ _ _ _ t2).mono ?_); rintro e w3 ⟨p, rfl, t3, k3'⟩; obtain ⟨z0, z1, z2, z3, z4, z5⟩ := HC.out _ k3')
      | (go_at_call 15; (with_reducible refine (HV.out _ _ _ _ _ _ _ _ t3).mono ?_); rintro e w4 ⟨q, rfl, t4, k4⟩; have k4' := k3'.trans k4; obtain ⟨u0, u1, u2, u3, u4, u5⟩ := HC.out _ k4'))
  all_goals
    go_wp2_with fail
    go_ret2
    exact ⟨p, q, rfl, t4, HK2.out.trans k4'⟩
end
end Go.Proofs.Ytemhifeddejkjaa
