/- Layer 21: the document's keys; the page's example. -/
import Derived.Test.YtemhifeddejkjaaKy2
import Derived.Test.YtemhifeddejkjaaStrs
namespace Go.Proofs.Ytemhifeddejkjaa
open Go.RowKit

set_option maxRecDepth 100000 in
theorem r21Key_any (c : UInt8) (x y z : List UInt8) (hx : x.length ≤ 1000000) (hy : y.length ≤ 1000000) (hz : z.length ≤ 1000000) (w : World) : Calls Try.prog 12 #[.int .u8 (c.toNat : Int), .string (bs x), .string (bs y), .string (bs z)] w fun e w' => e = .returned (.string (bs (refDeriveL c x y z))) ∧ Below w.heap.size w w' := by
  have HD := Lib.hid (refDerive_any c x y z hx hy hz w)
  generalize bs (refDeriveL c x y z) = T at *
  generalize (c.toNat : Int) = C at *
  generalize bs x = X at *
  generalize bs y = Y at *
  generalize bs z = Z at *
  clear hx hy hz
  go_enter Try.func12, Try.ntmps12
  go_wp2_with (go_at_call 24; (with_reducible refine HD.out.mono ?_); rintro e w1 ⟨rfl, b1⟩)
  go_ret
  exact ⟨rfl, b1⟩
theorem fits_le (l : List UInt8) : (fitsL l).length ≤ 131072 := by
  unfold fitsL
  split
  · simp
  · omega
theorem derive_le (c : UInt8) (x y z : List UInt8) : (refDeriveL c x y z).length ≤ 131072 := by
  unfold refDeriveL
  split
  · exact fits_le _
  · simp
set_option maxHeartbeats 4000000 in
set_option maxRecDepth 100000 in
theorem r21Way_true (x y z : List UInt8) (hx : x.length ≤ 1000000) (hy : y.length ≤ 1000000) (hz : z.length ≤ 1000000) (w : World) : Calls Try.prog 14 #[.string (bs x), .string (bs y), .string (bs z), .bool true] w fun e w' => e = .returned (.string (bs (refListL [refDeriveL 65 x y z, refDeriveL 67 x y z, refDeriveL 69 x y z]))) ∧ Below w.heap.size w w' := by
  have H0 : Hid (∀ W : World, Calls Try.prog 12 #[.int .u8 65, .string (bs x), .string (bs y), .string (bs z)] W fun e w' => e = .returned (.string (bs (refDeriveL 65 x y z))) ∧ Below W.heap.size W w') := fun W => r21Key_any 65 x y z hx hy hz W
  have H1 : Hid (∀ W : World, Calls Try.prog 12 #[.int .u8 67, .string (bs x), .string (bs y), .string (bs z)] W fun e w' => e = .returned (.string (bs (refDeriveL 67 x y z))) ∧ Below W.heap.size W w') := fun W => r21Key_any 67 x y z hx hy hz W
  have H2 : Hid (∀ W : World, Calls Try.prog 12 #[.int .u8 69, .string (bs x), .string (bs y), .string (bs z)] W fun e w' => e = .returned (.string (bs (refDeriveL 69 x y z))) ∧ Below W.heap.size W w') := fun W => r21Key_any 69 x y z hx hy hz W
  have HL : Hid (∀ (W : World) (v : Value), TextsAt W v ([refDeriveL 65 x y z, refDeriveL 67 x y z, refDeriveL 69 x y z].map bs) → Calls Try.prog 25 #[v] W fun e w' => e = .returned (.string (bs (refListL [refDeriveL 65 x y z, refDeriveL 67 x y z, refDeriveL 69 x y z]))) ∧ Below W.heap.size W w') := fun W v h => refList_any h (by simp) (fun t ht => by
    simp only [List.mem_cons, List.not_mem_nil, or_false] at ht
    rcases ht with rfl | rfl | rfl
    all_goals exact Nat.le_trans (derive_le _ _ _ _) (by omega))
  generalize refDeriveL 65 x y z = D0 at *
  generalize refDeriveL 67 x y z = D1 at *
  generalize refDeriveL 69 x y z = D2 at *
  obtain ⟨i0, hi, hz0, hz1, hz2⟩ := info_parts infoStr
  clear hx hy hz
  simp only [List.map_cons, List.map_nil] at HL
  generalize bs (refListL [D0, D1, D2]) = T at *
  generalize bs x = X at *
  generalize bs y = Y at *
  generalize bs z = Z at *
  generalize bs D0 = E0 at *
  generalize bs D1 = E1 at *
  generalize bs D2 = E2 at *
  go_enter Try.func14, Try.ntmps14
  go_wp2_with fail
  go_loopw [10, 11] (fun u i wr => ∃ (k : Nat), k ≤ 3 ∧ i = .int .i64 (k : Int) ∧ wr.ownsRow w.heap.size 9 1 u k (strs (([E0, E1, E2] : List ByteArray).take k)) ∧ (k = 0 → u = .slice none 0 0) ∧ Below w.heap.size w wr) (fun _ i _ => 3 - (intOf i).toNat)
  case atStart => exact ⟨0, by omega, rfl, World.ownsRow_nil _ _ _ _, fun _ => rfl, Below.refl _ _⟩
  case round =>
    obtain ⟨k, hk, rfl, hrow, hnil, hbel⟩ := hrel
    have hc : k = 0 ∨ k = 1 ∨ k = 2 ∨ k = 3 := by omega
    rcases hc with rfl | rfl | rfl | rfl
    · have hix : ∀ W : World, (Instr.index 9 (.string ⟨#[65, 67, 69]⟩) (.int .i64 0)).run Try.prog W = .ok (.int .u8 65) W := fun W => by simp [go_sem, Try.underlying9] <;> rfl
      have HBel := Lib.hid hbel
      obtain ⟨ao, nn, cc, rfl⟩ := row_slice hrow
      have hbs := hbel.size
      clear hnil hk hbel
      go_wp2_with (first
        | (go_at_call 12; (with_reducible refine (H0.out _).mono ?_); rintro e w2 ⟨rfl, b2⟩; have hrow2 := owns_moves hrow (Moves.ofBelow (S := nobody) b2) (fun _ _ h => h); have hbs2 := b2.size)
        | (at_builtin; refine wpList_append_own _ rfl _ _ 29 rfl w.heap.size 9 i0 (.string ⟨#[]⟩) 1 16 Try.underlying29 hi hz0 hz1 hz2 rfl (by decide) _ _ _ rfl (hrow2.alloc _) ⟨w2.heap.size, 0, none⟩ 1 1 [.string E0] rfl rfl (cell_one_new _ _ _) (str_one E0) (by unfold maxLen; omega) (by omega) (by simp; omega) ?_; intro v' w3 hown' hgrow2 hnil2)
        | go_in)
      go_roundw
      case rel =>
        refine ⟨1, by omega, by go_num, ?_, fun e => by omega, ?_⟩
        · simpa [strs] using hown'
        · have hb2 := HBel.out.trans (b2.mono HBel.out.size)
          exact (hb2.alloc hb2.size _).grown hgrow2 (by have := hb2.size; simp; omega) (fun j hj => (hrow.lt j hj).1)
      case measure => simp [intOf]
    · have hix : ∀ W : World, (Instr.index 9 (.string ⟨#[65, 67, 69]⟩) (.int .i64 1)).run Try.prog W = .ok (.int .u8 67) W := fun W => by simp [go_sem, Try.underlying9] <;> rfl
      have HBel := Lib.hid hbel
      obtain ⟨ao, nn, cc, rfl⟩ := row_slice hrow
      have hbs := hbel.size
      clear hnil hk hbel
      go_wp2_with (first
        | (go_at_call 12; (with_reducible refine (H1.out _).mono ?_); rintro e w2 ⟨rfl, b2⟩; have hrow2 := owns_moves hrow (Moves.ofBelow (S := nobody) b2) (fun _ _ h => h); have hbs2 := b2.size)
        | (at_builtin; refine wpList_append_own _ rfl _ _ 29 rfl w.heap.size 9 i0 (.string ⟨#[]⟩) 1 16 Try.underlying29 hi hz0 hz1 hz2 rfl (by decide) _ _ _ rfl (hrow2.alloc _) ⟨w2.heap.size, 0, none⟩ 1 1 [.string E1] rfl rfl (cell_one_new _ _ _) (str_one E1) (by unfold maxLen; omega) (by omega) (by simp; omega) ?_; intro v' w3 hown' hgrow2 hnil2)
        | go_in)
      go_roundw
      case rel =>
        refine ⟨2, by omega, by go_num, ?_, fun e => by omega, ?_⟩
        · simpa [strs] using hown'
        · have hb2 := HBel.out.trans (b2.mono HBel.out.size)
          exact (hb2.alloc hb2.size _).grown hgrow2 (by have := hb2.size; simp; omega) (fun j hj => (hrow.lt j hj).1)
      case measure => simp [intOf]
    · have hix : ∀ W : World, (Instr.index 9 (.string ⟨#[65, 67, 69]⟩) (.int .i64 2)).run Try.prog W = .ok (.int .u8 69) W := fun W => by simp [go_sem, Try.underlying9] <;> rfl
      have HBel := Lib.hid hbel
      obtain ⟨ao, nn, cc, rfl⟩ := row_slice hrow
      have hbs := hbel.size
      clear hnil hk hbel
      go_wp2_with (first
        | (go_at_call 12; (with_reducible refine (H2.out _).mono ?_); rintro e w2 ⟨rfl, b2⟩; have hrow2 := owns_moves hrow (Moves.ofBelow (S := nobody) b2) (fun _ _ h => h); have hbs2 := b2.size)
        | (at_builtin; refine wpList_append_own _ rfl _ _ 29 rfl w.heap.size 9 i0 (.string ⟨#[]⟩) 1 16 Try.underlying29 hi hz0 hz1 hz2 rfl (by decide) _ _ _ rfl (hrow2.alloc _) ⟨w2.heap.size, 0, none⟩ 1 1 [.string E2] rfl rfl (cell_one_new _ _ _) (str_one E2) (by unfold maxLen; omega) (by omega) (by simp; omega) ?_; intro v' w3 hown' hgrow2 hnil2)
        | go_in)
      go_roundw
      case rel =>
        refine ⟨3, by omega, by go_num, ?_, fun e => by omega, ?_⟩
        · simpa [strs] using hown'
        · have hb2 := HBel.out.trans (b2.mono HBel.out.size)
          exact (hb2.alloc hb2.size _).grown hgrow2 (by have := hb2.size; simp; omega) (fun j hj => (hrow.lt j hj).1)
      case measure => simp [intOf]
    · obtain ⟨ao, nn, cc, rfl⟩ := row_slice hrow
      have hT : TextsAt wr (.slice ao nn cc) [E0, E1, E2] := TextsAt.ofRow hrow (by simp)
      have HLL := Lib.hid (HL.out wr _ hT)
      have HBel := Lib.hid hbel
      clear hT hrow hnil hk hbel
      go_wp2_with (go_at_call 25; (with_reducible refine HLL.out.mono ?_); rintro e w2 ⟨rfl, b2⟩)
      go_ret
      exact ⟨rfl, HBel.out.trans (b2.mono HBel.out.size)⟩
set_option maxHeartbeats 4000000 in
set_option maxRecDepth 100000 in
theorem r21Way_false (x y z : List UInt8) (hx : x.length ≤ 1000000) (hy : y.length ≤ 1000000) (hz : z.length ≤ 1000000) (w : World) : Calls Try.prog 14 #[.string (bs x), .string (bs y), .string (bs z), .bool false] w fun e w' => e = .returned (.string (bs (refListL [refDeriveL 66 x y z, refDeriveL 68 x y z, refDeriveL 70 x y z]))) ∧ Below w.heap.size w w' := by
  have H0 : Hid (∀ W : World, Calls Try.prog 12 #[.int .u8 66, .string (bs x), .string (bs y), .string (bs z)] W fun e w' => e = .returned (.string (bs (refDeriveL 66 x y z))) ∧ Below W.heap.size W w') := fun W => r21Key_any 66 x y z hx hy hz W
  have H1 : Hid (∀ W : World, Calls Try.prog 12 #[.int .u8 68, .string (bs x), .string (bs y), .string (bs z)] W fun e w' => e = .returned (.string (bs (refDeriveL 68 x y z))) ∧ Below W.heap.size W w') := fun W => r21Key_any 68 x y z hx hy hz W
  have H2 : Hid (∀ W : World, Calls Try.prog 12 #[.int .u8 70, .string (bs x), .string (bs y), .string (bs z)] W fun e w' => e = .returned (.string (bs (refDeriveL 70 x y z))) ∧ Below W.heap.size W w') := fun W => r21Key_any 70 x y z hx hy hz W
  have HL : Hid (∀ (W : World) (v : Value), TextsAt W v ([refDeriveL 66 x y z, refDeriveL 68 x y z, refDeriveL 70 x y z].map bs) → Calls Try.prog 25 #[v] W fun e w' => e = .returned (.string (bs (refListL [refDeriveL 66 x y z, refDeriveL 68 x y z, refDeriveL 70 x y z]))) ∧ Below W.heap.size W w') := fun W v h => refList_any h (by simp) (fun t ht => by
    simp only [List.mem_cons, List.not_mem_nil, or_false] at ht
    rcases ht with rfl | rfl | rfl
    all_goals exact Nat.le_trans (derive_le _ _ _ _) (by omega))
  generalize refDeriveL 66 x y z = D0 at *
  generalize refDeriveL 68 x y z = D1 at *
  generalize refDeriveL 70 x y z = D2 at *
  obtain ⟨i0, hi, hz0, hz1, hz2⟩ := info_parts infoStr
  clear hx hy hz
  simp only [List.map_cons, List.map_nil] at HL
  generalize bs (refListL [D0, D1, D2]) = T at *
  generalize bs x = X at *
  generalize bs y = Y at *
  generalize bs z = Z at *
  generalize bs D0 = E0 at *
  generalize bs D1 = E1 at *
  generalize bs D2 = E2 at *
  go_enter Try.func14, Try.ntmps14
  go_wp2_with fail
  go_loopw [10, 11] (fun u i wr => ∃ (k : Nat), k ≤ 3 ∧ i = .int .i64 (k : Int) ∧ wr.ownsRow w.heap.size 9 1 u k (strs (([E0, E1, E2] : List ByteArray).take k)) ∧ (k = 0 → u = .slice none 0 0) ∧ Below w.heap.size w wr) (fun _ i _ => 3 - (intOf i).toNat)
  case atStart => exact ⟨0, by omega, rfl, World.ownsRow_nil _ _ _ _, fun _ => rfl, Below.refl _ _⟩
  case round =>
    obtain ⟨k, hk, rfl, hrow, hnil, hbel⟩ := hrel
    have hc : k = 0 ∨ k = 1 ∨ k = 2 ∨ k = 3 := by omega
    rcases hc with rfl | rfl | rfl | rfl
    · have hix : ∀ W : World, (Instr.index 9 (.string ⟨#[66, 68, 70]⟩) (.int .i64 0)).run Try.prog W = .ok (.int .u8 66) W := fun W => by simp [go_sem, Try.underlying9] <;> rfl
      have HBel := Lib.hid hbel
      obtain ⟨ao, nn, cc, rfl⟩ := row_slice hrow
      have hbs := hbel.size
      clear hnil hk hbel
      go_wp2_with (first
        | (go_at_call 12; (with_reducible refine (H0.out _).mono ?_); rintro e w2 ⟨rfl, b2⟩; have hrow2 := owns_moves hrow (Moves.ofBelow (S := nobody) b2) (fun _ _ h => h); have hbs2 := b2.size)
        | (at_builtin; refine wpList_append_own _ rfl _ _ 29 rfl w.heap.size 9 i0 (.string ⟨#[]⟩) 1 16 Try.underlying29 hi hz0 hz1 hz2 rfl (by decide) _ _ _ rfl (hrow2.alloc _) ⟨w2.heap.size, 0, none⟩ 1 1 [.string E0] rfl rfl (cell_one_new _ _ _) (str_one E0) (by unfold maxLen; omega) (by omega) (by simp; omega) ?_; intro v' w3 hown' hgrow2 hnil2)
        | go_in)
      go_roundw
      case rel =>
        refine ⟨1, by omega, by go_num, ?_, fun e => by omega, ?_⟩
        · simpa [strs] using hown'
        · have hb2 := HBel.out.trans (b2.mono HBel.out.size)
          exact (hb2.alloc hb2.size _).grown hgrow2 (by have := hb2.size; simp; omega) (fun j hj => (hrow.lt j hj).1)
      case measure => simp [intOf]
    · have hix : ∀ W : World, (Instr.index 9 (.string ⟨#[66, 68, 70]⟩) (.int .i64 1)).run Try.prog W = .ok (.int .u8 68) W := fun W => by simp [go_sem, Try.underlying9] <;> rfl
      have HBel := Lib.hid hbel
      obtain ⟨ao, nn, cc, rfl⟩ := row_slice hrow
      have hbs := hbel.size
      clear hnil hk hbel
      go_wp2_with (first
        | (go_at_call 12; (with_reducible refine (H1.out _).mono ?_); rintro e w2 ⟨rfl, b2⟩; have hrow2 := owns_moves hrow (Moves.ofBelow (S := nobody) b2) (fun _ _ h => h); have hbs2 := b2.size)
        | (at_builtin; refine wpList_append_own _ rfl _ _ 29 rfl w.heap.size 9 i0 (.string ⟨#[]⟩) 1 16 Try.underlying29 hi hz0 hz1 hz2 rfl (by decide) _ _ _ rfl (hrow2.alloc _) ⟨w2.heap.size, 0, none⟩ 1 1 [.string E1] rfl rfl (cell_one_new _ _ _) (str_one E1) (by unfold maxLen; omega) (by omega) (by simp; omega) ?_; intro v' w3 hown' hgrow2 hnil2)
        | go_in)
      go_roundw
      case rel =>
        refine ⟨2, by omega, by go_num, ?_, fun e => by omega, ?_⟩
        · simpa [strs] using hown'
        · have hb2 := HBel.out.trans (b2.mono HBel.out.size)
          exact (hb2.alloc hb2.size _).grown hgrow2 (by have := hb2.size; simp; omega) (fun j hj => (hrow.lt j hj).1)
      case measure => simp [intOf]
    · have hix : ∀ W : World, (Instr.index 9 (.string ⟨#[66, 68, 70]⟩) (.int .i64 2)).run Try.prog W = .ok (.int .u8 70) W := fun W => by simp [go_sem, Try.underlying9] <;> rfl
      have HBel := Lib.hid hbel
      obtain ⟨ao, nn, cc, rfl⟩ := row_slice hrow
      have hbs := hbel.size
      clear hnil hk hbel
      go_wp2_with (first
        | (go_at_call 12; (with_reducible refine (H2.out _).mono ?_); rintro e w2 ⟨rfl, b2⟩; have hrow2 := owns_moves hrow (Moves.ofBelow (S := nobody) b2) (fun _ _ h => h); have hbs2 := b2.size)
        | (at_builtin; refine wpList_append_own _ rfl _ _ 29 rfl w.heap.size 9 i0 (.string ⟨#[]⟩) 1 16 Try.underlying29 hi hz0 hz1 hz2 rfl (by decide) _ _ _ rfl (hrow2.alloc _) ⟨w2.heap.size, 0, none⟩ 1 1 [.string E2] rfl rfl (cell_one_new _ _ _) (str_one E2) (by unfold maxLen; omega) (by omega) (by simp; omega) ?_; intro v' w3 hown' hgrow2 hnil2)
        | go_in)
      go_roundw
      case rel =>
        refine ⟨3, by omega, by go_num, ?_, fun e => by omega, ?_⟩
        · simpa [strs] using hown'
        · have hb2 := HBel.out.trans (b2.mono HBel.out.size)
          exact (hb2.alloc hb2.size _).grown hgrow2 (by have := hb2.size; simp; omega) (fun j hj => (hrow.lt j hj).1)
      case measure => simp [intOf]
    · obtain ⟨ao, nn, cc, rfl⟩ := row_slice hrow
      have hT : TextsAt wr (.slice ao nn cc) [E0, E1, E2] := TextsAt.ofRow hrow (by simp)
      have HLL := Lib.hid (HL.out wr _ hT)
      have HBel := Lib.hid hbel
      clear hT hrow hnil hk hbel
      go_wp2_with (go_at_call 25; (with_reducible refine HLL.out.mono ?_); rintro e w2 ⟨rfl, b2⟩)
      go_ret
      exact ⟨rfl, HBel.out.trans (b2.mono HBel.out.size)⟩
theorem key_plain : (nodeOf (refDeriveL 68 (refKeyL 1) (refKeyL 1) (refKeyL 1))).b = 68 ∧ kindL (refDeriveL 68 (refKeyL 1) (refKeyL 1) (refKeyL 1)) = 8 := by decide +kernel
set_option maxHeartbeats 2000000 in
set_option maxRecDepth 100000 in
theorem awake21_any (w : World) : Calls Try.prog 6 #[] w fun e w' => e = .returned (.bool true) ∧ Below w.heap.size w w' := by
  obtain ⟨p1, p2⟩ := key_plain
  have HN := Lib.hid (taNew w)
  have HK : Hid (∀ (A : Nat) (W : World), Ta w.heap.size w A [] 0 W → Calls Try.prog 17 #[.pointer (some ⟨A, 0, none⟩), .int .i64 1] W (TaPost w.heap.size w A [] 1 W (refKeyL 1))) := fun A W h => taKey h (by omega) 1
  have HS : Hid (∀ (A : Nat) (k : Int) (W : World), Ta w.heap.size w A [(k, refKeyL 1)] 1 W → Calls Try.prog 10 #[.pointer (some ⟨A, 0, none⟩), .int .i64 k, .int .i64 k, .int .i64 k] W fun r w' => ∃ k0 k1 k2 k3 k4 k5 : Int, r = .returned (.agg #[.int .i64 k0, .int .i64 k1, .int .i64 k2, .int .i64 k3, .int .i64 k4, .int .i64 k5]) ∧ Ta w.heap.size w A [(k3, refDeriveL 68 (refKeyL 1) (refKeyL 1) (refKeyL 1))] 7 w') := fun A k W h =>
    (kSix_any h (by omega) (.head _) (.head _) (.head _)).mono fun r w' ⟨k0, k1, k2, k3, k4, k5, h1, h2, _⟩ => ⟨k0, k1, k2, k3, k4, k5, h1, h2.mono (Nat.le_refl _) (fun p hp => by
      rw [List.mem_singleton.1 hp]
      exact List.mem_append_left _ (sixP_mem (j := 3) rfl))⟩
  have HV : Hid (∀ (A : Nat) (k : Int) (W : World), Ta w.heap.size w A [(k, refDeriveL 68 (refKeyL 1) (refKeyL 1) (refKeyL 1))] 7 W → Calls Try.prog 18 #[.pointer (some ⟨A, 0, none⟩), .int .i64 k] W fun r w' => ∃ (a : Int) (s : ByteArray) (ao : Option Addr) (m c : Nat), r = .returned (.tuple #[.agg #[.int .i64 8, .int .i64 a, .int .i64 68, .string s, .slice ao m c], .bool true]) ∧ Below W.heap.size W w') := fun A k W h =>
    (taView h (.head _)).mono fun r w' ⟨a, b, s, ao, m, c, h1, h2, _, _, h5⟩ => by
      have hne : refDeriveL 68 (refKeyL 1) (refKeyL 1) (refKeyL 1) ≠ [] := by intro e; rw [e] at p2; simp [kindL] at p2
      obtain ⟨h6, _⟩ := h2 hne
      have hb : b = 68 := by rw [h6] at p1; exact p1
      have he : (refDeriveL 68 (refKeyL 1) (refKeyL 1) (refKeyL 1)).isEmpty = false := by
        cases hh : refDeriveL 68 (refKeyL 1) (refKeyL 1) (refKeyL 1) with
        | nil => exact absurd hh hne
        | cons => rfl
      refine ⟨a, bs s, ao, m, c, ?_, h5⟩
      rw [h1, p2, hb, he]
      rfl
  clear p1 p2
  generalize refDeriveL 68 (refKeyL 1) (refKeyL 1) (refKeyL 1) = D at *
  generalize refKeyL 1 = K at *
  go_enter Try.func6, Try.ntmps6
  go_wp2_with (first
    | (go_at_call 7; (with_reducible refine HN.out.mono ?_); rintro e w1 ⟨A, rfl, t1⟩)
    | (go_at_call 17; (with_reducible refine (HK.out _ _ t1).mono ?_); rintro e w2 ⟨k, rfl, t2, _⟩)
    | (go_at_call 10; (with_reducible refine (HS.out _ _ _ t2).mono ?_); rintro e w3 ⟨k0, k1, k2, k3, k4, k5, rfl, t3⟩; have t4 := t3.alloc (.cells #[.int .i64 k0, .int .i64 k1, .int .i64 k2, .int .i64 k3, .int .i64 k4, .int .i64 k5] 36))
    | (go_at_call 18; (with_reducible refine (HV.out _ _ _ t4).mono ?_); rintro e w5 ⟨a, s, ao, m, c, rfl, b5⟩; have t5 := Lib.hid (fun o => ((t4.below b5).alloc o).bel); clear b5))
  go_ret
  exact ⟨rfl, t5.out _⟩
end Go.Proofs.Ytemhifeddejkjaa
