/- Layer 21: the six keys and those of the directions, over an arena with texts. -/
import Derived.Test.YtemhifeddejkjaaTa
import Derived.Deep.RegionHeld3
namespace Go.Proofs.Ytemhifeddejkjaa
open Go.RowKit

/-- The six keys of three terms. -/
def sixP (x y z : List UInt8) (ks : List Int) : List (Int × List UInt8) := (ks.mapIdx fun j k => (k, refDeriveL (UInt8.ofNat (65 + j)) x y z)).reverse
theorem sixP_snoc (x y z : List UInt8) (ks : List Int) (k : Int) : sixP x y z (ks ++ [k]) = (k, refDeriveL (UInt8.ofNat (65 + ks.length)) x y z) :: sixP x y z ks := by
  unfold sixP
  rw [List.mapIdx_append]
  simp
theorem sixP_mem {x y z : List UInt8} {ks : List Int} {j : Nat} {k : Int} (h : ks[j]? = some k) : (k, refDeriveL (UInt8.ofNat (65 + j)) x y z) ∈ sixP x y z ks := by
  unfold sixP
  rw [List.mem_reverse]
  refine List.mem_iff_getElem?.2 ⟨j, ?_⟩
  rw [List.getElem?_mapIdx, h]
  rfl
/-- Six numbers in a row, as far as they are there. -/
def sixRow (ks : List Int) : Array Value := ((ks ++ List.replicate (6 - ks.length) 0).map (Value.int .i64)).toArray
structure SixInv (B : Nat) (w0 : World) (A : Nat) (P : List (Int × List UInt8)) (n : Nat) (x y z : List UInt8) (R M : Nat) (W0 : World) (ks : List Int) (W : World) : Prop where
  ta : Ta B w0 A (sixP x y z ks ++ P) (n + ks.length) W
  kept : Kept W0 W
  row : Holds W M 36 (sixRow ks)
  res : Holds W R 36 (sixRow [])
section
variable {B A n : Nat} {w0 W : World} {P : List (Int × List UInt8)}
theorem SixInv.step {x y z : List UInt8} {R M : Nat} {W0 W W2 : World} {ks : List Int} {k : Int} (h : SixInv B w0 A P n x y z R M W0 ks W) (hM : W0.heap.size ≤ M) (hR : R ≠ M) (hB : B ≤ M) (t2 : Ta B w0 A ((k, refDeriveL (UInt8.ofNat (65 + ks.length)) x y z) :: (sixP x y z ks ++ P)) (n + ks.length + 1) W2) (k2 : Kept W W2) (hrow : (sixRow ks).setIfInBounds ks.length (.int .i64 k) = sixRow (ks ++ [k])) :
    SixInv B w0 A P n x y z R M W0 (ks ++ [k]) (W2.setCell ⟨M, ks.length, none⟩ (.int .i64 k)) := by
  have hrow2 := k2.hold _ _ _ (by decide) (by decide) h.row
  have hres2 := k2.hold _ _ _ (by decide) (by decide) h.res
  have mv : Moves (fun i => i = M) W2 (W2.setCell ⟨M, ks.length, none⟩ (.int .i64 k)) := (Moves.refl (fun i => i = M) W2).setCell (p := ⟨M, ks.length, none⟩) (.inl rfl) (.int .i64 k)
  have kk := h.kept.trans k2
  refine ⟨?_, ⟨Nat.le_trans kk.size mv.size, fun g t cs h1 h2 h3 => ?_⟩, ?_, hres2.moves mv (fun e => hR e)⟩
  · rw [sixP_snoc, List.length_append]
    exact t2.set hrow2 (by decide) (by decide) hB _ _
  · exact (kk.hold g t cs h1 h2 h3).moves mv (fun e => by have := h3.lt; omega)
  · have := Holds.set hrow2 ks.length (.int .i64 k)
    rwa [hrow] at this
/-- What Six leaves. -/
abbrev SixPost (B : Nat) (w0 : World) (A : Nat) (P : List (Int × List UInt8)) (n : Nat) (W : World) (x y z : List UInt8) (r : Ending) (w' : World) : Prop :=
  ∃ k0 k1 k2 k3 k4 k5 : Int, r = .returned (.agg #[.int .i64 k0, .int .i64 k1, .int .i64 k2, .int .i64 k3, .int .i64 k4, .int .i64 k5]) ∧ Ta B w0 A (sixP x y z [k0, k1, k2, k3, k4, k5] ++ P) (n + 6) w' ∧ Kept W w'
theorem six_done {x y z : List UInt8} {R M : Nat} {W0 W : World} {ks : List Int} (h : SixInv B w0 A P n x y z R M W0 ks W) (hk : ks.length = 6) (hR : W0.heap.size ≤ R) (hB : B ≤ R) :
    ∃ k0 k1 k2 k3 k4 k5 : Int, Holds W M 36 #[.int .i64 k0, .int .i64 k1, .int .i64 k2, .int .i64 k3, .int .i64 k4, .int .i64 k5] ∧ Holds W R 36 #[.int .i64 0, .int .i64 0, .int .i64 0, .int .i64 0, .int .i64 0, .int .i64 0] ∧ ∀ W2 : World, Moves (fun i => i = R) W W2 → Ta B w0 A (sixP x y z [k0, k1, k2, k3, k4, k5] ++ P) (n + 6) W2 ∧ Kept W0 W2 := by
  match ks, hk with
  | [k0, k1, k2, k3, k4, k5], _ =>
    refine ⟨k0, k1, k2, k3, k4, k5, h.row, h.res, fun W2 mv => ⟨?_, ⟨Nat.le_trans h.kept.size mv.size, fun g t cs h1 h2 h3 => (h.kept.hold g t cs h1 h2 h3).moves mv fun e => by have := h3.lt; omega⟩⟩⟩
    obtain ⟨⟨L, F, ha, h3⟩, h4⟩ := h.ta
    have hl := h.ta.lt
    have hn := arena_ne ha h.res (by decide) (by decide)
    exact ⟨⟨L, F, ha.moves mv (fun k hk e => hn (e ▸ hk)), h3⟩, h4.trans (mv.below (Nat.le_of_lt hl) (fun i e => by rw [e]; exact hB))⟩
theorem sixRow_get {ks : List Int} (h : ks.length ≤ 5) : (sixRow ks)[ks.length]? = some (.int .i64 0) := by
  match ks, h with
  | [], _ => rfl
  | [_], _ => rfl
  | [_, _], _ => rfl
  | [_, _, _], _ => rfl
  | [_, _, _, _], _ => rfl
  | [_, _, _, _, _], _ => rfl
  | _ :: _ :: _ :: _ :: _ :: _ :: _, h => simp at h
theorem sixRow_set {ks : List Int} (h : ks.length ≤ 5) (k : Int) : (sixRow ks).setIfInBounds ks.length (.int .i64 k) = sixRow (ks ++ [k]) := by
  match ks, h with
  | [], _ => rfl
  | [_], _ => rfl
  | [_, _], _ => rfl
  | [_, _, _], _ => rfl
  | [_, _, _, _], _ => rfl
  | [_, _, _, _, _], _ => rfl
  | _ :: _ :: _ :: _ :: _ :: _ :: _, h => simp at h
set_option maxRecDepth 100000 in
theorem sizeSix : (Try.prog.info? 36).map (·.size) = some 6 := by kernel_rfl
theorem ky_u8 (x : Nat) (hx : x ≤ 255) (W : World) : (convert 3 5 (.int .i64 (x : Int))).run Try.prog W = .ok (.int .u8 (x : Int)) W := by
  have h : IntKind.u8.wrap (x : Int) = (x : Int) := by
    simp only [IntKind.wrap, IntKind.signed, IntKind.bits]
    simp
    omega
  simp [go_sem, Try.underlying5, Try.underlying3, h]
theorem ky_wrap (L : Nat) (h : L ≤ 5) : IntKind.u8.wrap (65 + (L : Int)) = 65 + (L : Int) := by
  simp only [IntKind.wrap, IntKind.signed, IntKind.bits]
  simp
  omega
set_option maxHeartbeats 4000000 in
set_option maxRecDepth 100000 in
theorem kSix_any (h : Ta B w0 A P n W) (hn : n ≤ 10000) {i j k : Int} {x y z : List UInt8} (hi : (i, x) ∈ P) (hj : (j, y) ∈ P) (hk : (k, z) ∈ P) :
    Calls Try.prog 10 #[.pointer (some ⟨A, 0, none⟩), .int .i64 i, .int .i64 j, .int .i64 k] W (SixPost B w0 A P n W x y z) := by
  obtain ⟨W1, hW1⟩ : ∃ W1, W1 = (W.alloc (.cells #[.int .i64 0, .int .i64 0, .int .i64 0, .int .i64 0, .int .i64 0, .int .i64 0] 36)).alloc (.cells #[.int .i64 0, .int .i64 0, .int .i64 0, .int .i64 0, .int .i64 0, .int .i64 0] 36) := ⟨_, rfl⟩
  obtain ⟨R, hR⟩ : ∃ R, Hid (R = W.heap.size) := ⟨_, Lib.hid rfl⟩
  obtain ⟨M, hM⟩ : ∃ M, Hid (M = W.heap.size + 1) := ⟨_, Lib.hid rfl⟩
  have hBR : B ≤ R := by have := h.lt; have := hR.out; omega
  have hRM : R + 1 = M := by rw [hR.out, hM.out]
  have hWR : W.heap.size ≤ R := Nat.le_of_eq hR.out.symm
  have hI : SixInv B w0 A P n x y z R M W [] W1 := by
    have b1 : Below W.heap.size W W1 := by rw [hW1]; exact ((Below.refl _ _).alloc (Nat.le_refl _) _).alloc (by simp) _
    refine ⟨h.below b1, Kept.ofBelow b1, ?_, ?_⟩
    · rw [hW1, hM.out]
      have := Holds.new (W.alloc (.cells #[.int .i64 0, .int .i64 0, .int .i64 0, .int .i64 0, .int .i64 0, .int .i64 0] 36)) 36 #[.int .i64 0, .int .i64 0, .int .i64 0, .int .i64 0, .int .i64 0, .int .i64 0]
      rwa [World.size_alloc] at this
    · rw [hW1, hR.out]
      exact (Holds.new W 36 #[.int .i64 0, .int .i64 0, .int .i64 0, .int .i64 0, .int .i64 0, .int .i64 0]).moves ((Moves.refl nobody _).alloc _) (fun h => h)
  have hs1 : W.heap.size = R := hR.out.symm
  have hs2 : W.heap.size + 1 = M := hM.out.symm
  have HI := Lib.hid hI
  have HD : Hid (∀ (ks : List Int) (W' : World), ks.length ≤ 5 → SixInv B w0 A P n x y z R M W ks W' → Calls Try.prog 21 #[.pointer (some ⟨A, 0, none⟩), .int .u8 ((65 + ks.length : Nat) : Int), .int .i64 i, .int .i64 j, .int .i64 k] W' (TaPost B w0 A (sixP x y z ks ++ P) (n + ks.length + 1) W' (refDeriveL (UInt8.ofNat (65 + ks.length)) x y z))) := fun ks W' hl hv => by
    have := taDerive hv.ta (by omega) (UInt8.ofNat (65 + ks.length)) (List.mem_append_right _ hi) (List.mem_append_right _ hj) (List.mem_append_right _ hk)
    rwa [show (UInt8.ofNat (65 + ks.length)).toNat = 65 + ks.length by simp; omega] at this
  clear hI h hn hi hj hk
  have hsR := Lib.hid hs1
  have hsM := Lib.hid hs2
  clear hs1 hs2
  go_enter Try.func10, Try.ntmps10
  go_wp2_with fail
  rw [← hW1, hsM.out, hsR.out]
  clear hW1
  go_loopw [11] (fun v wr => ∃ ks : List Int, ks.length ≤ 6 ∧ v = .int .i64 (ks.length : Int) ∧ SixInv B w0 A P n x y z R M W ks wr) (fun v _ => 6 - (intOf v).toNat)
  case atStart => exact ⟨[], by simp, rfl, HI.out⟩
  case round =>
    obtain ⟨ks, hks, rfl, hv⟩ := hrel
    by_cases hlt : ks.length = 6
    · obtain ⟨k0, k1, k2, k3, k4, k5, hrow, hres, hpost⟩ := six_done hv hlt hWR hBR
      have y0 := hres.cell 0
      have y1 := hres.cell 1
      have y2 := hres.cell 2
      have y3 := hres.cell 3
      have y4 := hres.cell 4
      have y5 := hres.cell 5
      have g0 := hres.frozen 0
      have g1 := hres.frozen 1
      have g2 := hres.frozen 2
      have g3 := hres.frozen 3
      have g4 := hres.frozen 4
      have g5 := hres.frozen 5
      have mv : Moves (fun i => i = R) wr ((((((wr.setCell ⟨R, 0, none⟩ (.int .i64 k0)).setCell ⟨R, 1, none⟩ (.int .i64 k1)).setCell ⟨R, 2, none⟩ (.int .i64 k2)).setCell ⟨R, 3, none⟩ (.int .i64 k3)).setCell ⟨R, 4, none⟩ (.int .i64 k4)).setCell ⟨R, 5, none⟩ (.int .i64 k5)) := ((((((Moves.refl (fun i => i = R) wr).setCell (p := ⟨R, 0, none⟩) (.inl rfl) (.int .i64 k0)).setCell (p := ⟨R, 1, none⟩) (.inl rfl) (.int .i64 k1)).setCell (p := ⟨R, 2, none⟩) (.inl rfl) (.int .i64 k2)).setCell (p := ⟨R, 3, none⟩) (.inl rfl) (.int .i64 k3)).setCell (p := ⟨R, 4, none⟩) (.inl rfl) (.int .i64 k4)).setCell (p := ⟨R, 5, none⟩) (.inl rfl) (.int .i64 k5)
      have hRf : Holds ((((((wr.setCell ⟨R, 0, none⟩ (.int .i64 k0)).setCell ⟨R, 1, none⟩ (.int .i64 k1)).setCell ⟨R, 2, none⟩ (.int .i64 k2)).setCell ⟨R, 3, none⟩ (.int .i64 k3)).setCell ⟨R, 4, none⟩ (.int .i64 k4)).setCell ⟨R, 5, none⟩ (.int .i64 k5)) R 36 #[.int .i64 k0, .int .i64 k1, .int .i64 k2, .int .i64 k3, .int .i64 k4, .int .i64 k5] := (Holds.set (Holds.set (Holds.set (Holds.set (Holds.set (Holds.set hres 0 (.int .i64 k0)) 1 (.int .i64 k1)) 2 (.int .i64 k2)) 3 (.int .i64 k3)) 4 (.int .i64 k4)) 5 (.int .i64 k5))
      obtain ⟨hp1, hp2⟩ := hpost _ mv
      have q1 : decide ((ks.length : Int) < 6) = false := decide_eq_false (by omega)
      have HP1 := Lib.hid hp1
      have HP2 := Lib.hid hp2
      have HRf := Lib.hid hRf
      clear hp1 hp2 hpost hres hv HD HI mv hRf hlt
      generalize (ks.length : Int) = L at *
      go_wp2_with (refine wpList_load_row rfl 36 _ rfl M rfl 36 _ (0, 0) _ hrow Try.underlying36 rfl sizeSix ?_)
      refine bodyPost_ret (v := .agg #[.int .i64 k0, .int .i64 k1, .int .i64 k2, .int .i64 k3, .int .i64 k4, .int .i64 k5]) ?_ rfl ⟨k0, k1, k2, k3, k4, k5, rfl, HP1.out, HP2.out⟩
      exact results_cell_row rfl _ _ R _ _ (0, 0) _ rfl HRf.out Try.underlying36 rfl (by kernel_rfl)
    · have hks5 : ks.length ≤ 5 := by omega
      have hrow := hv.row
      have hD := HD.out ks wr hks5 hv
      have hStep : ∀ (k' : Int) (W2 : World), Ta B w0 A ((k', refDeriveL (UInt8.ofNat (65 + ks.length)) x y z) :: (sixP x y z ks ++ P)) (n + ks.length + 1) W2 → Kept wr W2 → W2.cell? ⟨M, ks.length, none⟩ = some (.int .i64 0) ∧ W2.frozen? ⟨M, ks.length, none⟩ = false ∧ SixInv B w0 A P n x y z R M W (ks ++ [k']) (W2.setCell ⟨M, ks.length, none⟩ (.int .i64 k')) := fun k' W2 t2 kk => by
        have h := kk.hold _ _ _ (by decide) (by decide) hrow
        exact ⟨by rw [h.cell]; exact sixRow_get hks5, h.frozen _, hv.step (by omega) (by omega) (by omega) t2 kk (sixRow_set hks5 k')⟩
      rw [show ((65 + ks.length : Nat) : Int) = 65 + (ks.length : Int) by omega] at hD
      generalize hT : refDeriveL (UInt8.ofNat (65 + ks.length)) x y z = T at *
      have HR : Hid (∀ (k' : Int) (W3 : World), SixInv B w0 A P n x y z R M W (ks ++ [k']) W3 → ∃ ks2 : List Int, ks2.length ≤ 6 ∧ (Value.int .i64 ((ks.length : Int) + 1)) = .int .i64 (ks2.length : Int) ∧ SixInv B w0 A P n x y z R M W ks2 W3) := fun k' W3 h => ⟨ks ++ [k'], by simp; omega, by simp, h⟩
      have HS := Lib.hid hStep
      have HDk := Lib.hid hD
      have q1 : decide ((ks.length : Int) < 6) = true := decide_eq_true (by omega)
      clear hT hStep hD hrow hv HD HI hlt hks
      generalize ks.length = L at *
      have cv : ∀ W, (convert 3 5 (.int .i64 (L : Int))).run Try.prog W = .ok (.int .u8 (L : Int)) W := ky_u8 L (by omega)
      have q2 : IntKind.u8.wrap (65 + (L : Int)) = 65 + (L : Int) := ky_wrap L hks5
      go_wp2_with (go_at_call 21; (with_reducible refine HDk.out.mono ?_); rintro e w2 ⟨k', rfl, t2, k2⟩; obtain ⟨y0, g0, hs⟩ := HS.out _ _ t2 k2; have HSS := Lib.hid hs; clear hs)
      go_roundw
      case rel => exact HR.out _ _ HSS.out
      case measure => simp [intOf]; omega
end
end Go.Proofs.Ytemhifeddejkjaa
