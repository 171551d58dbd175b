/- Part 18 of what the statement wants. -/
import Derived.Test.YtbhekicoohcaeaaPk17
namespace Go.Proofs.Ytbhekicoohcaeaa
open Go.RowKit

def twoT (g y x : List UInt8) : List UInt8 := 245 :: (cnt g ++ pack4 (insL y [x]).length ++ (insL y [x]).flatten)
theorem ta_secret {B A n : Nat} {w0 W : World} {P : List (Int × List UInt8)} (h : Ta B w0 A P n W) {i : Int} {g o x y : List UInt8} (h1 : 1 ≤ g.length) (h2 : g.length ≤ 2100) (hk : kindL x = 2) (hx : x.length = 9) (hy : kindL y = 2) (hy9 : y.length = 9) (hi : (i, offerL g x) ∈ P) :
    secretZ o (offerL g x) y = (if g = o then 0 else 5) ∧ secretL o (offerL g x) y = if g = o then twoT g y x else [] := by
  obtain ⟨⟨L, F, ha, hG, _, h3⟩, _⟩ := h
  exact offer_secret hG h1 h2 hk hx hy hy9 (h3 _ hi)
theorem two_len (x y : List UInt8) : (insL y [x]).length = 2 := (insL_len y [x]).1
theorem twoT_inj {g o x y z : List UInt8} (hg : g.length ≤ 100) (ho : o.length ≤ 100) (hx : x.length = 9) (hy : y.length = 9) (hz : z.length = 9) (h : twoT g y x = twoT o z x) : g = o ∧ y = z := by
  have l1 := two_len x y
  have l2 := two_len x z
  obtain ⟨e1, _, e3⟩ := share_cut (by omega) (by omega) (by omega) (by omega) h
  exact ⟨e1, ins_inj (flat_inj _ _ (ins_nine hy hx) (ins_nine hz hx) e3)⟩
theorem sh_u16 (x : Nat) (hx : x ≤ 65535) (W : World) : (convert 48 3 (.int .u16 (x : Int))).run Try.prog W = .ok (.int .i64 (x : Int)) W := by
  have h : IntKind.i64.wrap (x : Int) = (x : Int) := IntWalk.i64_in _ (by omega)
  simp [go_sem, Try.underlying48, Try.underlying3, h]

set_option maxHeartbeats 8000000 in
set_option maxRecDepth 100000 in
theorem ShareAgrees_same {w : World} (g : List UInt8) (hg1 : 1 ≤ g.length) (hg2 : g.length ≤ 100) (a0 a1 a2 a3 a4 a5 : Nat) (h0 : a0 ≤ 65535) (h1 : a1 ≤ 65535) (h2 : a2 ≤ 65535) (h3 : a3 ≤ 65535) (h4 : a4 ≤ 65535) (h5 : a5 ≤ 65535) :
    Calls Try.prog 4 #[.string (bs g), .string (bs g), .agg #[.int .u16 (a0 : Int), .int .u16 (a1 : Int), .int .u16 (a2 : Int), .int .u16 (a3 : Int), .int .u16 (a4 : Int), .int .u16 (a5 : Int)]] w fun e w' => e = .returned (.bool true) ∧ Below w.heap.size w w' := by
  have b0 : Below w.heap.size w (w.alloc (.cells #[.int .u16 (a0 : Int), .int .u16 (a1 : Int), .int .u16 (a2 : Int), .int .u16 (a3 : Int), .int .u16 (a4 : Int), .int .u16 (a5 : Int)] 50)) := (Below.refl _ _).alloc (Nat.le_refl _) _
  have hX := Holds.new w 50 #[.int .u16 (a0 : Int), .int .u16 (a1 : Int), .int .u16 (a2 : Int), .int .u16 (a3 : Int), .int .u16 (a4 : Int), .int .u16 (a5 : Int)]
  obtain ⟨W0, hW0⟩ : ∃ W0, Hid (W0 = w.alloc (.cells #[.int .u16 (a0 : Int), .int .u16 (a1 : Int), .int .u16 (a2 : Int), .int .u16 (a3 : Int), .int .u16 (a4 : Int), .int .u16 (a5 : Int)] 50)) := ⟨_, Lib.hid rfl⟩
  rw [← hW0.out] at b0 hX
  have HC : Hid (∀ W, Kept W0 W → W.cell? ⟨w.heap.size, 0, none⟩ = some (.int .u16 (a0 : Int)) ∧ W.cell? ⟨w.heap.size, 1, none⟩ = some (.int .u16 (a1 : Int)) ∧ W.cell? ⟨w.heap.size, 2, none⟩ = some (.int .u16 (a2 : Int)) ∧ W.cell? ⟨w.heap.size, 3, none⟩ = some (.int .u16 (a3 : Int)) ∧ W.cell? ⟨w.heap.size, 4, none⟩ = some (.int .u16 (a4 : Int)) ∧ W.cell? ⟨w.heap.size, 5, none⟩ = some (.int .u16 (a5 : Int))) := fun W hk => by
    have h := hk.hold _ _ _ (by decide) (by decide) hX
    exact ⟨h.cell 0, h.cell 1, h.cell 2, h.cell 3, h.cell 4, h.cell 5⟩
  have HN : Hid (Calls Try.prog 10 #[] W0 fun e w' => ∃ A, e = .returned (.pointer (some ⟨A, 0, none⟩)) ∧ Ta W0.heap.size W0 A [] 0 w' ∧ Kept W0 w') := (taNew W0).mono fun e w' ⟨A, h1, h2⟩ => ⟨A, h1, h2, Kept.ofBelow h2.bel⟩
  obtain ⟨Tp, hTp⟩ : ∃ T, Hid (nonceT (a0 + 1) a1 = T) := ⟨_, Lib.hid rfl⟩
  obtain ⟨Tq, hTq⟩ : ∃ T, Hid (nonceT (a2 + 1) a3 = T) := ⟨_, Lib.hid rfl⟩
  obtain ⟨Tr, hTr⟩ : ∃ T, Hid (nonceT (a4 + 1) a5 = T) := ⟨_, Lib.hid rfl⟩
  obtain ⟨To1, hTo1⟩ : ∃ T, Hid (offerL g Tq = T) := ⟨_, Lib.hid rfl⟩
  obtain ⟨Ts, hTs⟩ : ∃ T, Hid (twoT g Tp Tq = T) := ⟨_, Lib.hid rfl⟩
  obtain ⟨To2, hTo2⟩ : ∃ T, Hid (offerL g Tp = T) := ⟨_, Lib.hid rfl⟩
  obtain ⟨Tt, hTt⟩ : ∃ T, Hid (twoT g Tq Tp = T) := ⟨_, Lib.hid rfl⟩
  obtain ⟨To3, hTo3⟩ : ∃ T, Hid (offerL g Tq = T) := ⟨_, Lib.hid rfl⟩
  obtain ⟨Tu, hTu⟩ : ∃ T, Hid (twoT g Tr Tq = T) := ⟨_, Lib.hid rfl⟩
  obtain ⟨To4, hTo4⟩ : ∃ T, Hid (offerL g Tq = T) := ⟨_, Lib.hid rfl⟩
  obtain ⟨Tv, hTv⟩ : ∃ T, Hid (twoT g Tp Tq = T) := ⟨_, Lib.hid rfl⟩
  obtain ⟨To5, hTo5⟩ : ∃ T, Hid (offerL g Tq = T) := ⟨_, Lib.hid rfl⟩
  obtain ⟨Tz, hTz⟩ : ∃ T, Hid (twoT g Tp Tq = T) := ⟨_, Lib.hid rfl⟩
  have hkp : kindL Tp = 2 := by rw [← hTp.out]; exact nonceT_kind _ _
  have hlp : Tp.length = 9 := by rw [← hTp.out]; exact nonceT_len _ _
  have hkq : kindL Tq = 2 := by rw [← hTq.out]; exact nonceT_kind _ _
  have hlq : Tq.length = 9 := by rw [← hTq.out]; exact nonceT_len _ _
  have hkr : kindL Tr = 2 := by rw [← hTr.out]; exact nonceT_kind _ _
  have hlr : Tr.length = 9 := by rw [← hTr.out]; exact nonceT_len _ _
  have Hp : Hid (∀ (A : Nat) (W : World), Ta W0.heap.size W0 A [] 0 W → Calls Try.prog 20 #[.pointer (some ⟨A, 0, none⟩), .int .i64 (a0 : Int), .int .i64 (a1 : Int)] W (TaPost W0.heap.size W0 A [] 1 W Tp)) := fun A W h => by
    have h0 := hFresh_any h (by omega) (a0 : Int) (a1 : Int) (by omega)
    rw [freshL_nat a0 a1 (by omega) (by omega), hTp.out] at h0
    exact h0
  have Hq : Hid (∀ (A : Nat) (ip : Int) (W : World), Ta W0.heap.size W0 A [(ip, Tp)] 1 W → Calls Try.prog 20 #[.pointer (some ⟨A, 0, none⟩), .int .i64 (a2 : Int), .int .i64 (a3 : Int)] W (TaPost W0.heap.size W0 A [(ip, Tp)] 2 W Tq)) := fun A ip W h => by
    have h0 := hFresh_any h (by omega) (a2 : Int) (a3 : Int) (by omega)
    rw [freshL_nat a2 a3 (by omega) (by omega), hTq.out] at h0
    exact h0
  have Hr : Hid (∀ (A : Nat) (ip iq : Int) (W : World), Ta W0.heap.size W0 A [(iq, Tq), (ip, Tp)] 2 W → Calls Try.prog 20 #[.pointer (some ⟨A, 0, none⟩), .int .i64 (a4 : Int), .int .i64 (a5 : Int)] W (TaPost W0.heap.size W0 A [(iq, Tq), (ip, Tp)] 3 W Tr)) := fun A ip iq W h => by
    have h0 := hFresh_any h (by omega) (a4 : Int) (a5 : Int) (by omega)
    rw [freshL_nat a4 a5 (by omega) (by omega), hTr.out] at h0
    exact h0
  have Ho1 : Hid (∀ (A : Nat) (ip iq ir : Int) (W : World), Ta W0.heap.size W0 A [(ir, Tr), (iq, Tq), (ip, Tp)] 3 W → Calls Try.prog 18 #[.pointer (some ⟨A, 0, none⟩), .string (bs g), .int .i64 iq] W (TaPost W0.heap.size W0 A [(ir, Tr), (iq, Tq), (ip, Tp)] 5 W To1)) := fun A ip iq ir W h => by
    have h0 := hOffer_any h (by omega) g (by omega) (.tail _ (.head _))
    rw [hTo1.out] at h0
    exact h0
  have Hs : Hid (∀ (A : Nat) (ip iq ir io1 : Int) (W : World), Ta W0.heap.size W0 A [(io1, To1), (ir, Tr), (iq, Tq), (ip, Tp)] 5 W → Calls Try.prog 13 #[.pointer (some ⟨A, 0, none⟩), .string (bs g), .int .i64 io1, .int .i64 ip] W fun e w' => ∃ is : Int, e = .returned (.tuple #[.int .i64 is, .int .i64 0]) ∧ Ta W0.heap.size W0 A [(is, Ts), (io1, To1), (ir, Tr), (iq, Tq), (ip, Tp)] 6 w' ∧ Kept W w') := fun A ip iq ir io1 W h => by
    have hs := ta_secret h (g := g) (o := g) (by omega) (by omega) hkq hlq hkp hlp (i := io1) (by rw [hTo1.out]; exact .head _)
    refine (hSecret_any h (by omega) g (.head _) (.tail _ (.tail _ (.tail _ (.head _))))).mono fun e w' ⟨k, h1, h2, h3⟩ => ⟨k, ?_, ?_, h3⟩
    · rw [h1, ← hTo1.out, hs.1, if_pos rfl]
    · rw [← hTo1.out, hs.2, if_pos rfl, hTs.out, hTo1.out] at h2
      exact h2
  have Ho2 : Hid (∀ (A : Nat) (ip iq ir io1 is : Int) (W : World), Ta W0.heap.size W0 A [(is, Ts), (io1, To1), (ir, Tr), (iq, Tq), (ip, Tp)] 6 W → Calls Try.prog 18 #[.pointer (some ⟨A, 0, none⟩), .string (bs g), .int .i64 ip] W (TaPost W0.heap.size W0 A [(is, Ts), (io1, To1), (ir, Tr), (iq, Tq), (ip, Tp)] 8 W To2)) := fun A ip iq ir io1 is W h => by
    have h0 := hOffer_any h (by omega) g (by omega) (.tail _ (.tail _ (.tail _ (.tail _ (.head _)))))
    rw [hTo2.out] at h0
    exact h0
  have Ht : Hid (∀ (A : Nat) (ip iq ir io1 is io2 : Int) (W : World), Ta W0.heap.size W0 A [(io2, To2), (is, Ts), (io1, To1), (ir, Tr), (iq, Tq), (ip, Tp)] 8 W → Calls Try.prog 13 #[.pointer (some ⟨A, 0, none⟩), .string (bs g), .int .i64 io2, .int .i64 iq] W fun e w' => ∃ it : Int, e = .returned (.tuple #[.int .i64 it, .int .i64 0]) ∧ Ta W0.heap.size W0 A [(it, Tt), (io2, To2), (is, Ts), (io1, To1), (ir, Tr), (iq, Tq), (ip, Tp)] 9 w' ∧ Kept W w') := fun A ip iq ir io1 is io2 W h => by
    have hs := ta_secret h (g := g) (o := g) (by omega) (by omega) hkp hlp hkq hlq (i := io2) (by rw [hTo2.out]; exact .head _)
    refine (hSecret_any h (by omega) g (.head _) (.tail _ (.tail _ (.tail _ (.tail _ (.head _)))))).mono fun e w' ⟨k, h1, h2, h3⟩ => ⟨k, ?_, ?_, h3⟩
    · rw [h1, ← hTo2.out, hs.1, if_pos rfl]
    · rw [← hTo2.out, hs.2, if_pos rfl, hTt.out, hTo2.out] at h2
      exact h2
  have Ho3 : Hid (∀ (A : Nat) (ip iq ir io1 is io2 it : Int) (W : World), Ta W0.heap.size W0 A [(it, Tt), (io2, To2), (is, Ts), (io1, To1), (ir, Tr), (iq, Tq), (ip, Tp)] 9 W → Calls Try.prog 18 #[.pointer (some ⟨A, 0, none⟩), .string (bs g), .int .i64 iq] W (TaPost W0.heap.size W0 A [(it, Tt), (io2, To2), (is, Ts), (io1, To1), (ir, Tr), (iq, Tq), (ip, Tp)] 11 W To3)) := fun A ip iq ir io1 is io2 it W h => by
    have h0 := hOffer_any h (by omega) g (by omega) (.tail _ (.tail _ (.tail _ (.tail _ (.tail _ (.head _))))))
    rw [hTo3.out] at h0
    exact h0
  have Hu : Hid (∀ (A : Nat) (ip iq ir io1 is io2 it io3 : Int) (W : World), Ta W0.heap.size W0 A [(io3, To3), (it, Tt), (io2, To2), (is, Ts), (io1, To1), (ir, Tr), (iq, Tq), (ip, Tp)] 11 W → Calls Try.prog 13 #[.pointer (some ⟨A, 0, none⟩), .string (bs g), .int .i64 io3, .int .i64 ir] W fun e w' => ∃ iu : Int, e = .returned (.tuple #[.int .i64 iu, .int .i64 0]) ∧ Ta W0.heap.size W0 A [(iu, Tu), (io3, To3), (it, Tt), (io2, To2), (is, Ts), (io1, To1), (ir, Tr), (iq, Tq), (ip, Tp)] 12 w' ∧ Kept W w') := fun A ip iq ir io1 is io2 it io3 W h => by
    have hs := ta_secret h (g := g) (o := g) (by omega) (by omega) hkq hlq hkr hlr (i := io3) (by rw [hTo3.out]; exact .head _)
    refine (hSecret_any h (by omega) g (.head _) (.tail _ (.tail _ (.tail _ (.tail _ (.tail _ (.head _))))))).mono fun e w' ⟨k, h1, h2, h3⟩ => ⟨k, ?_, ?_, h3⟩
    · rw [h1, ← hTo3.out, hs.1, if_pos rfl]
    · rw [← hTo3.out, hs.2, if_pos rfl, hTu.out, hTo3.out] at h2
      exact h2
  have Ho4 : Hid (∀ (A : Nat) (ip iq ir io1 is io2 it io3 iu : Int) (W : World), Ta W0.heap.size W0 A [(iu, Tu), (io3, To3), (it, Tt), (io2, To2), (is, Ts), (io1, To1), (ir, Tr), (iq, Tq), (ip, Tp)] 12 W → Calls Try.prog 18 #[.pointer (some ⟨A, 0, none⟩), .string (bs g), .int .i64 iq] W (TaPost W0.heap.size W0 A [(iu, Tu), (io3, To3), (it, Tt), (io2, To2), (is, Ts), (io1, To1), (ir, Tr), (iq, Tq), (ip, Tp)] 14 W To4)) := fun A ip iq ir io1 is io2 it io3 iu W h => by
    have h0 := hOffer_any h (by omega) g (by omega) (.tail _ (.tail _ (.tail _ (.tail _ (.tail _ (.tail _ (.tail _ (.head _))))))))
    rw [hTo4.out] at h0
    exact h0
  have Hv : Hid (∀ (A : Nat) (ip iq ir io1 is io2 it io3 iu io4 : Int) (W : World), Ta W0.heap.size W0 A [(io4, To4), (iu, Tu), (io3, To3), (it, Tt), (io2, To2), (is, Ts), (io1, To1), (ir, Tr), (iq, Tq), (ip, Tp)] 14 W → Calls Try.prog 13 #[.pointer (some ⟨A, 0, none⟩), .string (bs g), .int .i64 io4, .int .i64 ip] W fun e w' => ∃ iv : Int, e = .returned (.tuple #[.int .i64 iv, .int .i64 0]) ∧ Ta W0.heap.size W0 A [(iv, Tv), (io4, To4), (iu, Tu), (io3, To3), (it, Tt), (io2, To2), (is, Ts), (io1, To1), (ir, Tr), (iq, Tq), (ip, Tp)] 15 w' ∧ Kept W w') := fun A ip iq ir io1 is io2 it io3 iu io4 W h => by
    have hs := ta_secret h (g := g) (o := g) (by omega) (by omega) hkq hlq hkp hlp (i := io4) (by rw [hTo4.out]; exact .head _)
    refine (hSecret_any h (by omega) g (.head _) (.tail _ (.tail _ (.tail _ (.tail _ (.tail _ (.tail _ (.tail _ (.tail _ (.tail _ (.head _))))))))))).mono fun e w' ⟨k, h1, h2, h3⟩ => ⟨k, ?_, ?_, h3⟩
    · rw [h1, ← hTo4.out, hs.1, if_pos rfl]
    · rw [← hTo4.out, hs.2, if_pos rfl, hTv.out, hTo4.out] at h2
      exact h2
  have Ho5 : Hid (∀ (A : Nat) (ip iq ir io1 is io2 it io3 iu io4 iv : Int) (W : World), Ta W0.heap.size W0 A [(iv, Tv), (io4, To4), (iu, Tu), (io3, To3), (it, Tt), (io2, To2), (is, Ts), (io1, To1), (ir, Tr), (iq, Tq), (ip, Tp)] 15 W → Calls Try.prog 18 #[.pointer (some ⟨A, 0, none⟩), .string (bs g), .int .i64 iq] W (TaPost W0.heap.size W0 A [(iv, Tv), (io4, To4), (iu, Tu), (io3, To3), (it, Tt), (io2, To2), (is, Ts), (io1, To1), (ir, Tr), (iq, Tq), (ip, Tp)] 17 W To5)) := fun A ip iq ir io1 is io2 it io3 iu io4 iv W h => by
    have h0 := hOffer_any h (by omega) g (by omega) (.tail _ (.tail _ (.tail _ (.tail _ (.tail _ (.tail _ (.tail _ (.tail _ (.tail _ (.head _))))))))))
    rw [hTo5.out] at h0
    exact h0
  have Hz : Hid (∀ (A : Nat) (ip iq ir io1 is io2 it io3 iu io4 iv io5 : Int) (W : World), Ta W0.heap.size W0 A [(io5, To5), (iv, Tv), (io4, To4), (iu, Tu), (io3, To3), (it, Tt), (io2, To2), (is, Ts), (io1, To1), (ir, Tr), (iq, Tq), (ip, Tp)] 17 W → Calls Try.prog 13 #[.pointer (some ⟨A, 0, none⟩), .string (bs g), .int .i64 io5, .int .i64 ip] W fun e w' => ∃ iz : Int, e = .returned (.tuple #[.int .i64 iz, .int .i64 0]) ∧ Ta W0.heap.size W0 A [(iz, Tz), (io5, To5), (iv, Tv), (io4, To4), (iu, Tu), (io3, To3), (it, Tt), (io2, To2), (is, Ts), (io1, To1), (ir, Tr), (iq, Tq), (ip, Tp)] 18 w' ∧ Kept W w') := fun A ip iq ir io1 is io2 it io3 iu io4 iv io5 W h => by
    have hs := ta_secret h (g := g) (o := g) (by omega) (by omega) hkq hlq hkp hlp (i := io5) (by rw [hTo5.out]; exact .head _)
    refine (hSecret_any h (by omega) g (.head _) (.tail _ (.tail _ (.tail _ (.tail _ (.tail _ (.tail _ (.tail _ (.tail _ (.tail _ (.tail _ (.tail _ (.head _))))))))))))).mono fun e w' ⟨k, h1, h2, h3⟩ => ⟨k, ?_, ?_, h3⟩
    · rw [h1, ← hTo5.out, hs.1, if_pos rfl]
    · rw [← hTo5.out, hs.2, if_pos rfl, hTz.out, hTo5.out] at h2
      exact h2
  have HFin : Hid (∀ (A : Nat) (ip iq ir io1 is io2 it io3 iu io4 iv io5 iz : Int) (W : World), Ta W0.heap.size W0 A [(iz, Tz), (io5, To5), (iv, Tv), (io4, To4), (iu, Tu), (io3, To3), (it, Tt), (io2, To2), (is, Ts), (io1, To1), (ir, Tr), (iq, Tq), (ip, Tp)] 18 W → it = is ∧ ∃ b : Bool, (iu == is) = b ∧ (ip == ir) = b ∧ (iv == is) = true ∧ ((bs g).toList == (bs g).toList) = true) := fun A ip iq ir io1 is io2 it io3 iu io4 iv io5 iz W h => by
    have e1 := h.same (.tail _ (.tail _ (.tail _ (.tail _ (.tail _ (.tail _ (.head _))))))) (.tail _ (.tail _ (.tail _ (.tail _ (.tail _ (.tail _ (.tail _ (.tail _ (.head _)))))))))
    have e2 := h.same (.tail _ (.tail _ (.tail _ (.tail _ (.head _))))) (.tail _ (.tail _ (.tail _ (.tail _ (.tail _ (.tail _ (.tail _ (.tail _ (.head _)))))))))
    have e3 := h.same (.tail _ (.tail _ (.tail _ (.tail _ (.tail _ (.tail _ (.tail _ (.tail _ (.tail _ (.tail _ (.tail _ (.tail _ (.head _))))))))))))) (.tail _ (.tail _ (.tail _ (.tail _ (.tail _ (.tail _ (.tail _ (.tail _ (.tail _ (.tail _ (.head _)))))))))))
    have e4 := h.same (.tail _ (.tail _ (.head _))) (.tail _ (.tail _ (.tail _ (.tail _ (.tail _ (.tail _ (.tail _ (.tail _ (.head _)))))))))
    have c1 : Tt = Ts := by
      rw [← hTt.out, ← hTs.out]
      unfold twoT
      rw [← hTp.out, ← hTq.out, ins_comm (by omega) (by omega) (by omega) (by omega)]
    have c2 : Tu = Ts ↔ Tp = Tr := by
      rw [← hTu.out, ← hTs.out]
      exact ⟨fun e => (twoT_inj (by omega) (by omega) hlq hlr hlp e).2.symm, fun e => by rw [e]⟩
    have c3 : Tv = Ts := by rw [← hTv.out, ← hTs.out]
    refine ⟨e1.2 c1, decide (iu = is), rfl, ?_, by simpa using e4.2 c3, by simp⟩
    have e5 : ip = ir ↔ iu = is := e3.trans (c2.symm.trans e2.symm)
    by_cases hh : ip = ir
    · rw [decide_eq_true (e5.1 hh), hh]; simp
    · rw [decide_eq_false (fun e => hh (e5.2 e))]; simpa using hh
  have HA := Lib.hid awake19_any
  have hgs := bs_size g
  have qg : decide (((bs g).size : Int) < 1) = false := decide_eq_false (by omega)
  have pg : decide (((bs g).size : Int) > 100) = false := decide_eq_false (by omega)
  have cv0 := sh_u16 a0 h0
  have cv1 := sh_u16 a1 h1
  have cv2 := sh_u16 a2 h2
  have cv3 := sh_u16 a3 h3
  have cv4 := sh_u16 a4 h4
  have cv5 := sh_u16 a5 h5
  have HB0 := Lib.hid b0
  clear hTp hTq hTr hTo1 hTs hTo2 hTt hTo3 hTu hTo4 hTv hTo5 hTz hkp hlp hkq hlq hkr hlr hgs hX b0 h0 h1 h2 h3 h4 h5 hg1 hg2
  generalize bs g = GB at *
  have hbb : ∀ b : Bool, (b == b) = true := by simp
  have hii : ∀ i : Int, (i == i) = true := by simp
  go_enter Try.func4, Try.ntmps4
  go_upto_region 4 with (go_at_call 10; rw [← hW0.out]; (with_reducible refine HN.out.mono ?_); rintro e w0 ⟨A, rfl, t0, K0⟩)
  have K0 := K0.trans (Kept.ofBelow (Below.refl _ w0).drew)
  have t0 := t0.drew
  obtain ⟨y0, y1, y2, y3, y4, y5⟩ := HC.out _ K0
  go_region_held3 (fun w' => w'.cell? ⟨w.heap.size, 0, none⟩ = some (.int .u16 (a0 : Int)) ∧ w'.cell? ⟨w.heap.size, 1, none⟩ = some (.int .u16 (a1 : Int)) ∧ w'.cell? ⟨w.heap.size, 2, none⟩ = some (.int .u16 (a2 : Int)) ∧ w'.cell? ⟨w.heap.size, 3, none⟩ = some (.int .u16 (a3 : Int)) ∧ w'.cell? ⟨w.heap.size, 4, none⟩ = some (.int .u16 (a4 : Int)) ∧ w'.cell? ⟨w.heap.size, 5, none⟩ = some (.int .u16 (a5 : Int)))
    (first | with_reducible exact HC.out _ K0 | with_reducible exact HC.out _ K1 | with_reducible exact HC.out _ K2 | with_reducible exact HC.out _ K3 | go_keep)
    (first
      | (go_at_call 20; (with_reducible refine (Hp.out _ _ t0).mono ?_); rintro e w1 ⟨ip, rfl, t1, k1⟩; have K1 := K0.trans k1; obtain ⟨z00, z01, z02, z03, z04, z05⟩ := HC.out _ K1)
      | (go_at_call 20; (with_reducible refine (Hq.out _ _ _ t1).mono ?_); rintro e w2 ⟨iq, rfl, t2, k2⟩; have K2 := K1.trans k2; obtain ⟨z10, z11, z12, z13, z14, z15⟩ := HC.out _ K2)
      | (go_at_call 20; (with_reducible refine (Hr.out _ _ _ _ t2).mono ?_); rintro e w3 ⟨ir, rfl, t3, k3⟩; have K3 := K2.trans k3; obtain ⟨z20, z21, z22, z23, z24, z25⟩ := HC.out _ K3))
  all_goals
    clear cv0 cv1 cv2 cv3 cv4 cv5
    go_wp2_with (first
      | (go_at_call 18; (with_reducible refine (Ho1.out _ _ _ _ _ t3).mono ?_); rintro e w4 ⟨io1, rfl, t4, k4⟩)
      | (go_at_call 13; (with_reducible refine (Hs.out _ _ _ _ _ _ t4).mono ?_); rintro e w5 ⟨is, rfl, t5, k5⟩)
      | (go_at_call 18; (with_reducible refine (Ho2.out _ _ _ _ _ _ _ t5).mono ?_); rintro e w6 ⟨io2, rfl, t6, k6⟩)
      | (go_at_call 13; (with_reducible refine (Ht.out _ _ _ _ _ _ _ _ t6).mono ?_); rintro e w7 ⟨it, rfl, t7, k7⟩)
      | (go_at_call 18; (with_reducible refine (Ho3.out _ _ _ _ _ _ _ _ _ t7).mono ?_); rintro e w8 ⟨io3, rfl, t8, k8⟩)
      | (go_at_call 13; (with_reducible refine (Hu.out _ _ _ _ _ _ _ _ _ _ t8).mono ?_); rintro e w9 ⟨iu, rfl, t9, k9⟩)
      | (go_at_call 18; (with_reducible refine (Ho4.out _ _ _ _ _ _ _ _ _ _ _ t9).mono ?_); rintro e w10 ⟨io4, rfl, t10, k10⟩)
      | (go_at_call 13; (with_reducible refine (Hv.out _ _ _ _ _ _ _ _ _ _ _ _ t10).mono ?_); rintro e w11 ⟨iv, rfl, t11, k11⟩)
      | (go_at_call 18; (with_reducible refine (Ho5.out _ _ _ _ _ _ _ _ _ _ _ _ _ t11).mono ?_); rintro e w12 ⟨io5, rfl, t12, k12⟩)
      | (go_at_call 13; (with_reducible refine (Hz.out _ _ _ _ _ _ _ _ _ _ _ _ _ _ t12).mono ?_); rintro e w13 ⟨iz, rfl, t13, k13⟩; obtain ⟨hst, b, q1, q2, q3, q4⟩ := HFin.out _ _ _ _ _ _ _ _ _ _ _ _ _ _ _ t13; subst hst)
      | (go_at_call 9; (with_reducible refine (HA.out _).mono ?_); rintro e w14 ⟨rfl, b14⟩))
    go_ret
    exact ⟨rfl, HB0.out.trans ((t13.below b14).bel.mono HB0.out.size)⟩

set_option maxHeartbeats 8000000 in
set_option maxRecDepth 100000 in
theorem ShareAgrees_other {w : World} (g o : List UInt8) (hg1 : 1 ≤ g.length) (hg2 : g.length ≤ 100) (ho1 : 1 ≤ o.length) (ho2 : o.length ≤ 100) (hne' : g ≠ o) (a0 a1 a2 a3 a4 a5 : Nat) (h0 : a0 ≤ 65535) (h1 : a1 ≤ 65535) (h2 : a2 ≤ 65535) (h3 : a3 ≤ 65535) (h4 : a4 ≤ 65535) (h5 : a5 ≤ 65535) :
    Calls Try.prog 4 #[.string (bs g), .string (bs o), .agg #[.int .u16 (a0 : Int), .int .u16 (a1 : Int), .int .u16 (a2 : Int), .int .u16 (a3 : Int), .int .u16 (a4 : Int), .int .u16 (a5 : Int)]] w fun e w' => e = .returned (.bool true) ∧ Below w.heap.size w w' := by
  have hne : ¬ o = g := fun e => hne' e.symm
  have b0 : Below w.heap.size w (w.alloc (.cells #[.int .u16 (a0 : Int), .int .u16 (a1 : Int), .int .u16 (a2 : Int), .int .u16 (a3 : Int), .int .u16 (a4 : Int), .int .u16 (a5 : Int)] 50)) := (Below.refl _ _).alloc (Nat.le_refl _) _
  have hX := Holds.new w 50 #[.int .u16 (a0 : Int), .int .u16 (a1 : Int), .int .u16 (a2 : Int), .int .u16 (a3 : Int), .int .u16 (a4 : Int), .int .u16 (a5 : Int)]
  obtain ⟨W0, hW0⟩ : ∃ W0, Hid (W0 = w.alloc (.cells #[.int .u16 (a0 : Int), .int .u16 (a1 : Int), .int .u16 (a2 : Int), .int .u16 (a3 : Int), .int .u16 (a4 : Int), .int .u16 (a5 : Int)] 50)) := ⟨_, Lib.hid rfl⟩
  rw [← hW0.out] at b0 hX
  have HC : Hid (∀ W, Kept W0 W → W.cell? ⟨w.heap.size, 0, none⟩ = some (.int .u16 (a0 : Int)) ∧ W.cell? ⟨w.heap.size, 1, none⟩ = some (.int .u16 (a1 : Int)) ∧ W.cell? ⟨w.heap.size, 2, none⟩ = some (.int .u16 (a2 : Int)) ∧ W.cell? ⟨w.heap.size, 3, none⟩ = some (.int .u16 (a3 : Int)) ∧ W.cell? ⟨w.heap.size, 4, none⟩ = some (.int .u16 (a4 : Int)) ∧ W.cell? ⟨w.heap.size, 5, none⟩ = some (.int .u16 (a5 : Int))) := fun W hk => by
    have h := hk.hold _ _ _ (by decide) (by decide) hX
    exact ⟨h.cell 0, h.cell 1, h.cell 2, h.cell 3, h.cell 4, h.cell 5⟩
  have HN : Hid (Calls Try.prog 10 #[] W0 fun e w' => ∃ A, e = .returned (.pointer (some ⟨A, 0, none⟩)) ∧ Ta W0.heap.size W0 A [] 0 w' ∧ Kept W0 w') := (taNew W0).mono fun e w' ⟨A, h1, h2⟩ => ⟨A, h1, h2, Kept.ofBelow h2.bel⟩
  obtain ⟨Tp, hTp⟩ : ∃ T, Hid (nonceT (a0 + 1) a1 = T) := ⟨_, Lib.hid rfl⟩
  obtain ⟨Tq, hTq⟩ : ∃ T, Hid (nonceT (a2 + 1) a3 = T) := ⟨_, Lib.hid rfl⟩
  obtain ⟨Tr, hTr⟩ : ∃ T, Hid (nonceT (a4 + 1) a5 = T) := ⟨_, Lib.hid rfl⟩
  obtain ⟨To1, hTo1⟩ : ∃ T, Hid (offerL g Tq = T) := ⟨_, Lib.hid rfl⟩
  obtain ⟨Ts, hTs⟩ : ∃ T, Hid (twoT g Tp Tq = T) := ⟨_, Lib.hid rfl⟩
  obtain ⟨To2, hTo2⟩ : ∃ T, Hid (offerL g Tp = T) := ⟨_, Lib.hid rfl⟩
  obtain ⟨Tt, hTt⟩ : ∃ T, Hid (twoT g Tq Tp = T) := ⟨_, Lib.hid rfl⟩
  obtain ⟨To3, hTo3⟩ : ∃ T, Hid (offerL g Tq = T) := ⟨_, Lib.hid rfl⟩
  obtain ⟨Tu, hTu⟩ : ∃ T, Hid (twoT g Tr Tq = T) := ⟨_, Lib.hid rfl⟩
  obtain ⟨To4, hTo4⟩ : ∃ T, Hid (offerL o Tq = T) := ⟨_, Lib.hid rfl⟩
  obtain ⟨Tv, hTv⟩ : ∃ T, Hid (twoT o Tp Tq = T) := ⟨_, Lib.hid rfl⟩
  obtain ⟨To5, hTo5⟩ : ∃ T, Hid (offerL o Tq = T) := ⟨_, Lib.hid rfl⟩
  obtain ⟨Tz, hTz⟩ : ∃ T, Hid ([] = T) := ⟨_, Lib.hid rfl⟩
  have hkp : kindL Tp = 2 := by rw [← hTp.out]; exact nonceT_kind _ _
  have hlp : Tp.length = 9 := by rw [← hTp.out]; exact nonceT_len _ _
  have hkq : kindL Tq = 2 := by rw [← hTq.out]; exact nonceT_kind _ _
  have hlq : Tq.length = 9 := by rw [← hTq.out]; exact nonceT_len _ _
  have hkr : kindL Tr = 2 := by rw [← hTr.out]; exact nonceT_kind _ _
  have hlr : Tr.length = 9 := by rw [← hTr.out]; exact nonceT_len _ _
  have Hp : Hid (∀ (A : Nat) (W : World), Ta W0.heap.size W0 A [] 0 W → Calls Try.prog 20 #[.pointer (some ⟨A, 0, none⟩), .int .i64 (a0 : Int), .int .i64 (a1 : Int)] W (TaPost W0.heap.size W0 A [] 1 W Tp)) := fun A W h => by
    have h0 := hFresh_any h (by omega) (a0 : Int) (a1 : Int) (by omega)
    rw [freshL_nat a0 a1 (by omega) (by omega), hTp.out] at h0
    exact h0
  have Hq : Hid (∀ (A : Nat) (ip : Int) (W : World), Ta W0.heap.size W0 A [(ip, Tp)] 1 W → Calls Try.prog 20 #[.pointer (some ⟨A, 0, none⟩), .int .i64 (a2 : Int), .int .i64 (a3 : Int)] W (TaPost W0.heap.size W0 A [(ip, Tp)] 2 W Tq)) := fun A ip W h => by
    have h0 := hFresh_any h (by omega) (a2 : Int) (a3 : Int) (by omega)
    rw [freshL_nat a2 a3 (by omega) (by omega), hTq.out] at h0
    exact h0
  have Hr : Hid (∀ (A : Nat) (ip iq : Int) (W : World), Ta W0.heap.size W0 A [(iq, Tq), (ip, Tp)] 2 W → Calls Try.prog 20 #[.pointer (some ⟨A, 0, none⟩), .int .i64 (a4 : Int), .int .i64 (a5 : Int)] W (TaPost W0.heap.size W0 A [(iq, Tq), (ip, Tp)] 3 W Tr)) := fun A ip iq W h => by
    have h0 := hFresh_any h (by omega) (a4 : Int) (a5 : Int) (by omega)
    rw [freshL_nat a4 a5 (by omega) (by omega), hTr.out] at h0
    exact h0
  have Ho1 : Hid (∀ (A : Nat) (ip iq ir : Int) (W : World), Ta W0.heap.size W0 A [(ir, Tr), (iq, Tq), (ip, Tp)] 3 W → Calls Try.prog 18 #[.pointer (some ⟨A, 0, none⟩), .string (bs g), .int .i64 iq] W (TaPost W0.heap.size W0 A [(ir, Tr), (iq, Tq), (ip, Tp)] 5 W To1)) := fun A ip iq ir W h => by
    have h0 := hOffer_any h (by omega) g (by omega) (.tail _ (.head _))
    rw [hTo1.out] at h0
    exact h0
  have Hs : Hid (∀ (A : Nat) (ip iq ir io1 : Int) (W : World), Ta W0.heap.size W0 A [(io1, To1), (ir, Tr), (iq, Tq), (ip, Tp)] 5 W → Calls Try.prog 13 #[.pointer (some ⟨A, 0, none⟩), .string (bs g), .int .i64 io1, .int .i64 ip] W fun e w' => ∃ is : Int, e = .returned (.tuple #[.int .i64 is, .int .i64 0]) ∧ Ta W0.heap.size W0 A [(is, Ts), (io1, To1), (ir, Tr), (iq, Tq), (ip, Tp)] 6 w' ∧ Kept W w') := fun A ip iq ir io1 W h => by
    have hs := ta_secret h (g := g) (o := g) (by omega) (by omega) hkq hlq hkp hlp (i := io1) (by rw [hTo1.out]; exact .head _)
    refine (hSecret_any h (by omega) g (.head _) (.tail _ (.tail _ (.tail _ (.head _))))).mono fun e w' ⟨k, h1, h2, h3⟩ => ⟨k, ?_, ?_, h3⟩
    · rw [h1, ← hTo1.out, hs.1, if_pos rfl]
    · rw [← hTo1.out, hs.2, if_pos rfl, hTs.out, hTo1.out] at h2
      exact h2
  have Ho2 : Hid (∀ (A : Nat) (ip iq ir io1 is : Int) (W : World), Ta W0.heap.size W0 A [(is, Ts), (io1, To1), (ir, Tr), (iq, Tq), (ip, Tp)] 6 W → Calls Try.prog 18 #[.pointer (some ⟨A, 0, none⟩), .string (bs g), .int .i64 ip] W (TaPost W0.heap.size W0 A [(is, Ts), (io1, To1), (ir, Tr), (iq, Tq), (ip, Tp)] 8 W To2)) := fun A ip iq ir io1 is W h => by
    have h0 := hOffer_any h (by omega) g (by omega) (.tail _ (.tail _ (.tail _ (.tail _ (.head _)))))
    rw [hTo2.out] at h0
    exact h0
  have Ht : Hid (∀ (A : Nat) (ip iq ir io1 is io2 : Int) (W : World), Ta W0.heap.size W0 A [(io2, To2), (is, Ts), (io1, To1), (ir, Tr), (iq, Tq), (ip, Tp)] 8 W → Calls Try.prog 13 #[.pointer (some ⟨A, 0, none⟩), .string (bs g), .int .i64 io2, .int .i64 iq] W fun e w' => ∃ it : Int, e = .returned (.tuple #[.int .i64 it, .int .i64 0]) ∧ Ta W0.heap.size W0 A [(it, Tt), (io2, To2), (is, Ts), (io1, To1), (ir, Tr), (iq, Tq), (ip, Tp)] 9 w' ∧ Kept W w') := fun A ip iq ir io1 is io2 W h => by
    have hs := ta_secret h (g := g) (o := g) (by omega) (by omega) hkp hlp hkq hlq (i := io2) (by rw [hTo2.out]; exact .head _)
    refine (hSecret_any h (by omega) g (.head _) (.tail _ (.tail _ (.tail _ (.tail _ (.head _)))))).mono fun e w' ⟨k, h1, h2, h3⟩ => ⟨k, ?_, ?_, h3⟩
    · rw [h1, ← hTo2.out, hs.1, if_pos rfl]
    · rw [← hTo2.out, hs.2, if_pos rfl, hTt.out, hTo2.out] at h2
      exact h2
  have Ho3 : Hid (∀ (A : Nat) (ip iq ir io1 is io2 it : Int) (W : World), Ta W0.heap.size W0 A [(it, Tt), (io2, To2), (is, Ts), (io1, To1), (ir, Tr), (iq, Tq), (ip, Tp)] 9 W → Calls Try.prog 18 #[.pointer (some ⟨A, 0, none⟩), .string (bs g), .int .i64 iq] W (TaPost W0.heap.size W0 A [(it, Tt), (io2, To2), (is, Ts), (io1, To1), (ir, Tr), (iq, Tq), (ip, Tp)] 11 W To3)) := fun A ip iq ir io1 is io2 it W h => by
    have h0 := hOffer_any h (by omega) g (by omega) (.tail _ (.tail _ (.tail _ (.tail _ (.tail _ (.head _))))))
    rw [hTo3.out] at h0
    exact h0
  have Hu : Hid (∀ (A : Nat) (ip iq ir io1 is io2 it io3 : Int) (W : World), Ta W0.heap.size W0 A [(io3, To3), (it, Tt), (io2, To2), (is, Ts), (io1, To1), (ir, Tr), (iq, Tq), (ip, Tp)] 11 W → Calls Try.prog 13 #[.pointer (some ⟨A, 0, none⟩), .string (bs g), .int .i64 io3, .int .i64 ir] W fun e w' => ∃ iu : Int, e = .returned (.tuple #[.int .i64 iu, .int .i64 0]) ∧ Ta W0.heap.size W0 A [(iu, Tu), (io3, To3), (it, Tt), (io2, To2), (is, Ts), (io1, To1), (ir, Tr), (iq, Tq), (ip, Tp)] 12 w' ∧ Kept W w') := fun A ip iq ir io1 is io2 it io3 W h => by
    have hs := ta_secret h (g := g) (o := g) (by omega) (by omega) hkq hlq hkr hlr (i := io3) (by rw [hTo3.out]; exact .head _)
    refine (hSecret_any h (by omega) g (.head _) (.tail _ (.tail _ (.tail _ (.tail _ (.tail _ (.head _))))))).mono fun e w' ⟨k, h1, h2, h3⟩ => ⟨k, ?_, ?_, h3⟩
    · rw [h1, ← hTo3.out, hs.1, if_pos rfl]
    · rw [← hTo3.out, hs.2, if_pos rfl, hTu.out, hTo3.out] at h2
      exact h2
  have Ho4 : Hid (∀ (A : Nat) (ip iq ir io1 is io2 it io3 iu : Int) (W : World), Ta W0.heap.size W0 A [(iu, Tu), (io3, To3), (it, Tt), (io2, To2), (is, Ts), (io1, To1), (ir, Tr), (iq, Tq), (ip, Tp)] 12 W → Calls Try.prog 18 #[.pointer (some ⟨A, 0, none⟩), .string (bs o), .int .i64 iq] W (TaPost W0.heap.size W0 A [(iu, Tu), (io3, To3), (it, Tt), (io2, To2), (is, Ts), (io1, To1), (ir, Tr), (iq, Tq), (ip, Tp)] 14 W To4)) := fun A ip iq ir io1 is io2 it io3 iu W h => by
    have h0 := hOffer_any h (by omega) o (by omega) (.tail _ (.tail _ (.tail _ (.tail _ (.tail _ (.tail _ (.tail _ (.head _))))))))
    rw [hTo4.out] at h0
    exact h0
  have Hv : Hid (∀ (A : Nat) (ip iq ir io1 is io2 it io3 iu io4 : Int) (W : World), Ta W0.heap.size W0 A [(io4, To4), (iu, Tu), (io3, To3), (it, Tt), (io2, To2), (is, Ts), (io1, To1), (ir, Tr), (iq, Tq), (ip, Tp)] 14 W → Calls Try.prog 13 #[.pointer (some ⟨A, 0, none⟩), .string (bs o), .int .i64 io4, .int .i64 ip] W fun e w' => ∃ iv : Int, e = .returned (.tuple #[.int .i64 iv, .int .i64 0]) ∧ Ta W0.heap.size W0 A [(iv, Tv), (io4, To4), (iu, Tu), (io3, To3), (it, Tt), (io2, To2), (is, Ts), (io1, To1), (ir, Tr), (iq, Tq), (ip, Tp)] 15 w' ∧ Kept W w') := fun A ip iq ir io1 is io2 it io3 iu io4 W h => by
    have hs := ta_secret h (g := o) (o := o) (by omega) (by omega) hkq hlq hkp hlp (i := io4) (by rw [hTo4.out]; exact .head _)
    refine (hSecret_any h (by omega) o (.head _) (.tail _ (.tail _ (.tail _ (.tail _ (.tail _ (.tail _ (.tail _ (.tail _ (.tail _ (.head _))))))))))).mono fun e w' ⟨k, h1, h2, h3⟩ => ⟨k, ?_, ?_, h3⟩
    · rw [h1, ← hTo4.out, hs.1, if_pos rfl]
    · rw [← hTo4.out, hs.2, if_pos rfl, hTv.out, hTo4.out] at h2
      exact h2
  have Ho5 : Hid (∀ (A : Nat) (ip iq ir io1 is io2 it io3 iu io4 iv : Int) (W : World), Ta W0.heap.size W0 A [(iv, Tv), (io4, To4), (iu, Tu), (io3, To3), (it, Tt), (io2, To2), (is, Ts), (io1, To1), (ir, Tr), (iq, Tq), (ip, Tp)] 15 W → Calls Try.prog 18 #[.pointer (some ⟨A, 0, none⟩), .string (bs o), .int .i64 iq] W (TaPost W0.heap.size W0 A [(iv, Tv), (io4, To4), (iu, Tu), (io3, To3), (it, Tt), (io2, To2), (is, Ts), (io1, To1), (ir, Tr), (iq, Tq), (ip, Tp)] 17 W To5)) := fun A ip iq ir io1 is io2 it io3 iu io4 iv W h => by
    have h0 := hOffer_any h (by omega) o (by omega) (.tail _ (.tail _ (.tail _ (.tail _ (.tail _ (.tail _ (.tail _ (.tail _ (.tail _ (.head _))))))))))
    rw [hTo5.out] at h0
    exact h0
  have Hz : Hid (∀ (A : Nat) (ip iq ir io1 is io2 it io3 iu io4 iv io5 : Int) (W : World), Ta W0.heap.size W0 A [(io5, To5), (iv, Tv), (io4, To4), (iu, Tu), (io3, To3), (it, Tt), (io2, To2), (is, Ts), (io1, To1), (ir, Tr), (iq, Tq), (ip, Tp)] 17 W → Calls Try.prog 13 #[.pointer (some ⟨A, 0, none⟩), .string (bs g), .int .i64 io5, .int .i64 ip] W fun e w' => ∃ iz : Int, e = .returned (.tuple #[.int .i64 iz, .int .i64 5]) ∧ Ta W0.heap.size W0 A [(iz, Tz), (io5, To5), (iv, Tv), (io4, To4), (iu, Tu), (io3, To3), (it, Tt), (io2, To2), (is, Ts), (io1, To1), (ir, Tr), (iq, Tq), (ip, Tp)] 18 w' ∧ Kept W w') := fun A ip iq ir io1 is io2 it io3 iu io4 iv io5 W h => by
    have hs := ta_secret h (g := o) (o := g) (by omega) (by omega) hkq hlq hkp hlp (i := io5) (by rw [hTo5.out]; exact .head _)
    refine (hSecret_any h (by omega) g (.head _) (.tail _ (.tail _ (.tail _ (.tail _ (.tail _ (.tail _ (.tail _ (.tail _ (.tail _ (.tail _ (.tail _ (.head _))))))))))))).mono fun e w' ⟨k, h1, h2, h3⟩ => ⟨k, ?_, ?_, h3⟩
    · rw [h1, ← hTo5.out, hs.1, if_neg hne]
    · rw [← hTo5.out, hs.2, if_neg hne, hTz.out, hTo5.out] at h2
      exact h2
  have HFin : Hid (∀ (A : Nat) (ip iq ir io1 is io2 it io3 iu io4 iv io5 iz : Int) (W : World), Ta W0.heap.size W0 A [(iz, Tz), (io5, To5), (iv, Tv), (io4, To4), (iu, Tu), (io3, To3), (it, Tt), (io2, To2), (is, Ts), (io1, To1), (ir, Tr), (iq, Tq), (ip, Tp)] 18 W → it = is ∧ ∃ b : Bool, (iu == is) = b ∧ (ip == ir) = b ∧ (iv == is) = false ∧ ((bs g).toList == (bs o).toList) = false) := fun A ip iq ir io1 is io2 it io3 iu io4 iv io5 iz W h => by
    have e1 := h.same (.tail _ (.tail _ (.tail _ (.tail _ (.tail _ (.tail _ (.head _))))))) (.tail _ (.tail _ (.tail _ (.tail _ (.tail _ (.tail _ (.tail _ (.tail _ (.head _)))))))))
    have e2 := h.same (.tail _ (.tail _ (.tail _ (.tail _ (.head _))))) (.tail _ (.tail _ (.tail _ (.tail _ (.tail _ (.tail _ (.tail _ (.tail _ (.head _)))))))))
    have e3 := h.same (.tail _ (.tail _ (.tail _ (.tail _ (.tail _ (.tail _ (.tail _ (.tail _ (.tail _ (.tail _ (.tail _ (.tail _ (.head _))))))))))))) (.tail _ (.tail _ (.tail _ (.tail _ (.tail _ (.tail _ (.tail _ (.tail _ (.tail _ (.tail _ (.head _)))))))))))
    have e4 := h.same (.tail _ (.tail _ (.head _))) (.tail _ (.tail _ (.tail _ (.tail _ (.tail _ (.tail _ (.tail _ (.tail _ (.head _)))))))))
    have c1 : Tt = Ts := by
      rw [← hTt.out, ← hTs.out]
      unfold twoT
      rw [← hTp.out, ← hTq.out, ins_comm (by omega) (by omega) (by omega) (by omega)]
    have c2 : Tu = Ts ↔ Tp = Tr := by
      rw [← hTu.out, ← hTs.out]
      exact ⟨fun e => (twoT_inj (by omega) (by omega) hlq hlr hlp e).2.symm, fun e => by rw [e]⟩
    have c3 : ¬ Tv = Ts := fun e => by
      rw [← hTv.out, ← hTs.out] at e
      exact hne (twoT_inj (by omega) (by omega) hlq hlp hlp e).1
    refine ⟨e1.2 c1, decide (iu = is), rfl, ?_, by simpa using fun e => c3 (e4.1 e), same_no fun e => hne' (bs_inj e)⟩
    have e5 : ip = ir ↔ iu = is := e3.trans (c2.symm.trans e2.symm)
    by_cases hh : ip = ir
    · rw [decide_eq_true (e5.1 hh), hh]; simp
    · rw [decide_eq_false (fun e => hh (e5.2 e))]; simpa using hh
  have HA := Lib.hid awake19_any
  have hgs := bs_size g
  have hos := bs_size o
  have qg : decide (((bs g).size : Int) < 1) = false := decide_eq_false (by omega)
  have pg : decide (((bs g).size : Int) > 100) = false := decide_eq_false (by omega)
  have qo : decide (((bs o).size : Int) < 1) = false := decide_eq_false (by omega)
  have po : decide (((bs o).size : Int) > 100) = false := decide_eq_false (by omega)
  have cv0 := sh_u16 a0 h0
  have cv1 := sh_u16 a1 h1
  have cv2 := sh_u16 a2 h2
  have cv3 := sh_u16 a3 h3
  have cv4 := sh_u16 a4 h4
  have cv5 := sh_u16 a5 h5
  have HB0 := Lib.hid b0
  clear hTp hTq hTr hTo1 hTs hTo2 hTt hTo3 hTu hTo4 hTv hTo5 hTz hkp hlp hkq hlq hkr hlr hgs hX b0 h0 h1 h2 h3 h4 h5 hg1 hg2 ho1 ho2 hos hne hne'
  generalize bs g = GB at *
  generalize bs o = OB at *
  have hbb : ∀ b : Bool, (b == b) = true := by simp
  have hii : ∀ i : Int, (i == i) = true := by simp
  go_enter Try.func4, Try.ntmps4
  go_upto_region 4 with (go_at_call 10; rw [← hW0.out]; (with_reducible refine HN.out.mono ?_); rintro e w0 ⟨A, rfl, t0, K0⟩)
  have K0 := K0.trans (Kept.ofBelow (Below.refl _ w0).drew)
  have t0 := t0.drew
  obtain ⟨y0, y1, y2, y3, y4, y5⟩ := HC.out _ K0
  go_region_held3 (fun w' => w'.cell? ⟨w.heap.size, 0, none⟩ = some (.int .u16 (a0 : Int)) ∧ w'.cell? ⟨w.heap.size, 1, none⟩ = some (.int .u16 (a1 : Int)) ∧ w'.cell? ⟨w.heap.size, 2, none⟩ = some (.int .u16 (a2 : Int)) ∧ w'.cell? ⟨w.heap.size, 3, none⟩ = some (.int .u16 (a3 : Int)) ∧ w'.cell? ⟨w.heap.size, 4, none⟩ = some (.int .u16 (a4 : Int)) ∧ w'.cell? ⟨w.heap.size, 5, none⟩ = some (.int .u16 (a5 : Int)))
    (first | with_reducible exact HC.out _ K0 | with_reducible exact HC.out _ K1 | with_reducible exact HC.out _ K2 | with_reducible exact HC.out _ K3 | go_keep)
    (first
      | (go_at_call 20; (with_reducible refine (Hp.out _ _ t0).mono ?_); rintro e w1 ⟨ip, rfl, t1, k1⟩; have K1 := K0.trans k1; obtain ⟨z00, z01, z02, z03, z04, z05⟩ := HC.out _ K1)
      | (go_at_call 20; (with_reducible refine (Hq.out _ _ _ t1).mono ?_); rintro e w2 ⟨iq, rfl, t2, k2⟩; have K2 := K1.trans k2; obtain ⟨z10, z11, z12, z13, z14, z15⟩ := HC.out _ K2)
      | (go_at_call 20; (with_reducible refine (Hr.out _ _ _ _ t2).mono ?_); rintro e w3 ⟨ir, rfl, t3, k3⟩; have K3 := K2.trans k3; obtain ⟨z20, z21, z22, z23, z24, z25⟩ := HC.out _ K3))
  all_goals
    clear cv0 cv1 cv2 cv3 cv4 cv5
    go_wp2_with (first
      | (go_at_call 18; (with_reducible refine (Ho1.out _ _ _ _ _ t3).mono ?_); rintro e w4 ⟨io1, rfl, t4, k4⟩)
      | (go_at_call 13; (with_reducible refine (Hs.out _ _ _ _ _ _ t4).mono ?_); rintro e w5 ⟨is, rfl, t5, k5⟩)
      | (go_at_call 18; (with_reducible refine (Ho2.out _ _ _ _ _ _ _ t5).mono ?_); rintro e w6 ⟨io2, rfl, t6, k6⟩)
      | (go_at_call 13; (with_reducible refine (Ht.out _ _ _ _ _ _ _ _ t6).mono ?_); rintro e w7 ⟨it, rfl, t7, k7⟩)
      | (go_at_call 18; (with_reducible refine (Ho3.out _ _ _ _ _ _ _ _ _ t7).mono ?_); rintro e w8 ⟨io3, rfl, t8, k8⟩)
      | (go_at_call 13; (with_reducible refine (Hu.out _ _ _ _ _ _ _ _ _ _ t8).mono ?_); rintro e w9 ⟨iu, rfl, t9, k9⟩)
      | (go_at_call 18; (with_reducible refine (Ho4.out _ _ _ _ _ _ _ _ _ _ _ t9).mono ?_); rintro e w10 ⟨io4, rfl, t10, k10⟩)
      | (go_at_call 13; (with_reducible refine (Hv.out _ _ _ _ _ _ _ _ _ _ _ _ t10).mono ?_); rintro e w11 ⟨iv, rfl, t11, k11⟩)
      | (go_at_call 18; (with_reducible refine (Ho5.out _ _ _ _ _ _ _ _ _ _ _ _ _ t11).mono ?_); rintro e w12 ⟨io5, rfl, t12, k12⟩)
      | (go_at_call 13; (with_reducible refine (Hz.out _ _ _ _ _ _ _ _ _ _ _ _ _ _ t12).mono ?_); rintro e w13 ⟨iz, rfl, t13, k13⟩; obtain ⟨hst, b, q1, q2, q3, q4⟩ := HFin.out _ _ _ _ _ _ _ _ _ _ _ _ _ _ _ t13; subst hst)
      | (go_at_call 9; (with_reducible refine (HA.out _).mono ?_); rintro e w14 ⟨rfl, b14⟩))
    go_ret
    exact ⟨rfl, HB0.out.trans ((t13.below b14).bel.mono HB0.out.size)⟩
end Go.Proofs.Ytbhekicoohcaeaa
