/- Part 18 of what the statement wants. -/
import Derived.OpenShut
import Derived.Deep.Slices
import Derived.WideKeyArgs
import Derived.Test.YtbhekicoohcaeaaPk00
import Derived.Test.YtbhekicoohcaeaaPk14
import Derived.Test.YtbhekicoohcaeaaPk17
namespace Go.Proofs.Ytbhekicoohcaeaa
open Go.RowKit

theorem bs_snoc (g : List UInt8) : bs g ++ ⟨#[120]⟩ = bs (g ++ [120]) := by
  apply ByteArray.ext
  simp [bs, ByteArray.data_append]
/-- None of these is an acceptable share of the group. -/
theorem bad_right {B A n : Nat} {w0 W : World} {P : List (Int × List UInt8)} (h : Ta B w0 A P n W) {g x : List UInt8} (h1 : 1 ≤ g.length) (h2 : g.length ≤ 100) (hk : kindL x = 2) (hx : x.length = 9) {o2 : Int} (ho : (o2, offerL (g ++ [120]) x) ∈ P) :
    ∀ t ∈ [refBaseL g, refDataL g, x, refKeyL 0, refHashL (offerL g x), [], offerL (g ++ [120]) x], secretZ g t x = 5 ∧ secretL g t x = [] := by
  have key : ∀ t, rightB g t = false → secretZ g t x = 5 ∧ secretL g t x = [] := fun t ht => ⟨if_neg (by rw [ht]; simp), if_neg (by rw [ht]; simp)⟩
  have kind : ∀ t, kindL t ≠ 5 → rightB g t = false := fun t ht => decide_eq_false fun hh => ht hh.1
  intro t ht
  simp only [List.mem_cons, List.not_mem_nil, or_false] at ht
  rcases ht with rfl | rfl | rfl | rfl | rfl | rfl | rfl
  · refine key _ (decide_eq_false fun hh => ?_)
    rw [(base_node h1 (by omega)).2.2] at hh
    simp at hh
  · refine key _ (kind _ ?_)
    unfold refDataL fitsL
    split
    · simp [kindL]
    · split
      · simp [kindL]
      · simp [kindL, tagL]
  · exact key _ (kind _ (by rw [hk]; simp))
  · refine key _ (kind _ ?_)
    decide +kernel
  · refine key _ (kind _ ?_)
    unfold refHashL fitsL
    split
    · simp [kindL]
    · split
      · simp [kindL]
      · simp [kindL, tagL]
  · exact key _ (kind _ (by simp [kindL]))
  · have := ta_secret (o := g) (y := x) h (by simp) (by simp; omega) hk hx hk hx ho
    rw [if_neg (by intro e; have := congrArg List.length e; simp at this), if_neg (by intro e; have := congrArg List.length e; simp at this)] at this
    exact this

set_option maxHeartbeats 4000000 in
set_option maxRecDepth 100000 in
theorem ShareKeeps_small {w : World} (g : List UInt8) (hg1 : 1 ≤ g.length) (hg2 : g.length ≤ 100) (a n : Nat) (ha : a ≤ 65535) (hn : n ≤ 65535) :
    Calls Try.prog 5 #[.string (bs g), .int .u16 (a : Int), .int .u16 (n : Int)] w fun e w' => e = .returned (.bool true) ∧ Below w.heap.size w w' := by
  obtain ⟨X, hX⟩ : ∃ X, Hid (nonceT (a + 1) n = X) := ⟨_, Lib.hid rfl⟩
  have hk : kindL X = 2 := by rw [← hX.out]; exact nonceT_kind _ _
  have hl : X.length = 9 := by rw [← hX.out]; exact nonceT_len _ _
  have HN := Lib.hid (taNew w)
  have HF : Hid (∀ (A : Nat) (W : World), Ta w.heap.size w A [] 0 W → Calls Try.prog 20 #[.pointer (some ⟨A, 0, none⟩), .int .i64 (a : Int), .int .i64 (n : Int)] W (TaPost w.heap.size w A [] 1 W X)) := fun A W h => by
    have h0 := hFresh_any h (by omega) (a : Int) (n : Int) (by omega)
    rw [freshL_nat a n (by omega) (by omega), hX.out] at h0
    exact h0
  have HB : Hid (∀ (A : Nat) (x : Int) (W : World), Ta w.heap.size w A [(x, X)] 1 W → Calls Try.prog 22 #[.pointer (some ⟨A, 0, none⟩), .string (bs g)] W (TaPost w.heap.size w A [(x, X)] 2 W (refBaseL g))) := fun A x W h => taBase h (by omega) g (by omega)
  have HD : Hid (∀ (A : Nat) (x b : Int) (W : World), Ta w.heap.size w A [(b, refBaseL g), (x, X)] 2 W → Calls Try.prog 23 #[.pointer (some ⟨A, 0, none⟩), .string (bs g)] W (TaPost w.heap.size w A [(b, refBaseL g), (x, X)] 3 W (refDataL g))) := fun A x b W h => taData h (by omega) g (by omega)
  have HK : Hid (∀ (A : Nat) (x b d : Int) (W : World), Ta w.heap.size w A [(d, refDataL g), (b, refBaseL g), (x, X)] 3 W → Calls Try.prog 24 #[.pointer (some ⟨A, 0, none⟩), .int .i64 0] W (TaPost w.heap.size w A [(d, refDataL g), (b, refBaseL g), (x, X)] 4 W (refKeyL 0))) := fun A x b d W h => taKey h (by omega) 0
  have HO : Hid (∀ (A : Nat) (x b d k : Int) (W : World), Ta w.heap.size w A [(k, refKeyL 0), (d, refDataL g), (b, refBaseL g), (x, X)] 4 W → Calls Try.prog 18 #[.pointer (some ⟨A, 0, none⟩), .string (bs g), .int .i64 x] W (TaPost w.heap.size w A [(k, refKeyL 0), (d, refDataL g), (b, refBaseL g), (x, X)] 6 W (offerL g X))) := fun A x b d k W h => hOffer_any h (by omega) g (by omega) (.tail _ (.tail _ (.tail _ (.head _))))
  have HH : Hid (∀ (A : Nat) (x b d k o : Int) (W : World), Ta w.heap.size w A [(o, offerL g X), (k, refKeyL 0), (d, refDataL g), (b, refBaseL g), (x, X)] 6 W → Calls Try.prog 25 #[.pointer (some ⟨A, 0, none⟩), .int .i64 o] W (TaPost w.heap.size w A [(o, offerL g X), (k, refKeyL 0), (d, refDataL g), (b, refBaseL g), (x, X)] 7 W (refHashL (offerL g X)))) := fun A x b d k o W h => taHash h (by omega) (.head _)
  have HO2 : Hid (∀ (A : Nat) (x b d k o h : Int) (W : World), Ta w.heap.size w A [(h, refHashL (offerL g X)), (o, offerL g X), (k, refKeyL 0), (d, refDataL g), (b, refBaseL g), (x, X)] 7 W → Calls Try.prog 18 #[.pointer (some ⟨A, 0, none⟩), .string (bs g ++ ⟨#[120]⟩), .int .i64 x] W (TaPost w.heap.size w A [(h, refHashL (offerL g X)), (o, offerL g X), (k, refKeyL 0), (d, refDataL g), (b, refBaseL g), (x, X)] 9 W (offerL (g ++ [120]) X))) := fun A x b d k o h W ht => by
    rw [bs_snoc]
    exact hOffer_any ht (by omega) _ (by simp; omega) (.tail _ (.tail _ (.tail _ (.tail _ (.tail _ (.head _))))))
  have HL : Hid (∀ (A : Nat) (x b d k o h q : Int) (m : Nat) (W : World), m ≤ 100 → Ta w.heap.size w A [(q, offerL (g ++ [120]) X), (h, refHashL (offerL g X)), (o, offerL g X), (k, refKeyL 0), (d, refDataL g), (b, refBaseL g), (x, X)] m W → ∀ (j : Nat) (i : Int), [b, d, x, k, h, -1, q][j]? = some i →
      Calls Try.prog 13 #[.pointer (some ⟨A, 0, none⟩), .string (bs g), .int .i64 i, .int .i64 x] W fun e w' => e = .returned (.tuple #[.int .i64 (-1), .int .i64 5]) ∧ Ta w.heap.size w A [(q, offerL (g ++ [120]) X), (h, refHashL (offerL g X)), (o, offerL g X), (k, refKeyL 0), (d, refDataL g), (b, refBaseL g), (x, X)] (m + 1) w' ∧ Kept W w') := fun A x b d k o h q m W hm ht j i hj => by
    have hbad := bad_right ht hg1 hg2 hk hl (.head _)
    have hx : (x, X) ∈ ((-1, []) :: [(q, offerL (g ++ [120]) X), (h, refHashL (offerL g X)), (o, offerL g X), (k, refKeyL 0), (d, refDataL g), (b, refBaseL g), (x, X)] : List (Int × List UInt8)) := .tail _ (.tail _ (.tail _ (.tail _ (.tail _ (.tail _ (.tail _ (.head _)))))))
    have ht2 := ht.cons (p := (-1, [])) (.inr rfl)
    have go : ∀ (t : List UInt8), (i, t) ∈ ((-1, []) :: [(q, offerL (g ++ [120]) X), (h, refHashL (offerL g X)), (o, offerL g X), (k, refKeyL 0), (d, refDataL g), (b, refBaseL g), (x, X)] : List (Int × List UInt8)) → t ∈ [refBaseL g, refDataL g, X, refKeyL 0, refHashL (offerL g X), [], offerL (g ++ [120]) X] → Calls Try.prog 13 #[.pointer (some ⟨A, 0, none⟩), .string (bs g), .int .i64 i, .int .i64 x] W fun e w' => e = .returned (.tuple #[.int .i64 (-1), .int .i64 5]) ∧ Ta w.heap.size w A [(q, offerL (g ++ [120]) X), (h, refHashL (offerL g X)), (o, offerL g X), (k, refKeyL 0), (d, refDataL g), (b, refBaseL g), (x, X)] (m + 1) w' ∧ Kept W w' := fun t hi htm => by
      obtain ⟨e1, e2⟩ := hbad t htm
      refine (hSecret_any ht2 (by omega) g hi hx).mono fun e w' ⟨z, h1, h2, h3⟩ => ?_
      rw [e2] at h2
      have hz : z = -1 := (h2.none (.head _)).2 rfl
      exact ⟨by rw [h1, e1, hz], h2.mono (Nat.le_refl _) (fun p hp => .tail _ (.tail _ hp)), h3⟩
    match j, hj with
    | 0, hj => exact go (refBaseL g) (by simp at hj; subst hj; simp) (by simp)
    | 1, hj => exact go (refDataL g) (by simp at hj; subst hj; simp) (by simp)
    | 2, hj => exact go X (by simp at hj; subst hj; simp) (by simp)
    | 3, hj => exact go (refKeyL 0) (by simp at hj; subst hj; simp) (by simp)
    | 4, hj => exact go (refHashL (offerL g X)) (by simp at hj; subst hj; simp) (by simp)
    | 5, hj => exact go [] (by simp at hj; subst hj; simp) (by simp)
    | 6, hj => exact go (offerL (g ++ [120]) X) (by simp at hj; subst hj; simp) (by simp)
    | j + 7, hj => simp at hj
  have HA := Lib.hid awake19_any
  have hgs := bs_size g
  have q0 : decide (((bs g).size : Int) < 1) = false := decide_eq_false (by omega)
  have q1 : decide (((bs g).size : Int) > 100) = false := decide_eq_false (by omega)
  have cv0 := sh_u16 a ha
  have cv1 := sh_u16 n hn
  have hsz : (bs g).size ≤ 100 := by omega
  clear hk hl hX hg1 hg2 hgs ha hn
  generalize offerL (g ++ [120]) X = O2 at *
  generalize refHashL (offerL g X) = H1 at *
  generalize offerL g X = O1 at *
  generalize refKeyL 0 = K1 at *
  generalize refDataL g = D1 at *
  generalize refBaseL g = B1 at *
  generalize bs g = GB at *
  go_enter Try.func5, Try.ntmps5
  go_upto_region 6 with (first
    | (go_at_call 10; (with_reducible refine HN.out.mono ?_); rintro e w0 ⟨A, rfl, t0⟩)
    | (go_at_call 20; (with_reducible refine (HF.out _ _ t0).mono ?_); rintro e w1 ⟨x, rfl, t1, _⟩)
    | (go_at_call 22; (with_reducible refine (HB.out _ _ _ t1).mono ?_); rintro e w2 ⟨b, rfl, t2, _⟩)
    | (go_at_call 23; (with_reducible refine (HD.out _ _ _ _ t2).mono ?_); rintro e w3 ⟨d, rfl, t3, _⟩)
    | (go_at_call 24; (with_reducible refine (HK.out _ _ _ _ _ t3).mono ?_); rintro e w4 ⟨k, rfl, t4, _⟩)
    | (go_at_call 18; (with_reducible refine (HO2.out _ _ _ _ _ _ _ _ t6).mono ?_); rintro e w7 ⟨q, rfl, t7, _⟩)
    | (go_at_call 18; (with_reducible refine (HO.out _ _ _ _ _ _ t4).mono ?_); rintro e w5 ⟨o, rfl, t5, _⟩)
    | (go_at_call 25; (with_reducible refine (HH.out _ _ _ _ _ _ _ t5).mono ?_); rintro e w6 ⟨h, rfl, t6, _⟩))
  obtain ⟨W8, hW8⟩ : ∃ W8, W8 = w7.alloc (.cells #[.int .i64 b, .int .i64 d, .int .i64 x, .int .i64 k, .int .i64 h, .int .i64 (-1), .int .i64 q] 33) := ⟨_, rfl⟩
  rw [← hW8]
  have hS : Holds W8 w7.heap.size 33 #[.int .i64 b, .int .i64 d, .int .i64 x, .int .i64 k, .int .i64 h, .int .i64 (-1), .int .i64 q] := by rw [hW8]; exact Holds.new w7 _ _
  have t8 : Ta w.heap.size w A [(q, O2), (h, H1), (o, O1), (k, K1), (d, D1), (b, B1), (x, X)] 9 W8 := by rw [hW8]; exact t7.alloc _
  have HL2 := Lib.hid (fun (m : Nat) (W : World) (hm : m ≤ 100) (ht) (j : Nat) (i : Int) (hj) => HL.out A x b d k o h q m W hm ht j i hj)
  have HS : Hid (∀ W, Kept W8 W → ∀ (j : Nat) (i : Int), [b, d, x, k, h, -1, q][j]? = some i → W.cell? ⟨w7.heap.size, j, none⟩ = some (.int .i64 i)) := fun W hk j i hj => by
    have h := hk.hold _ _ _ (by decide) (by decide) hS
    rw [h.cell j]
    match j, hj with
    | 0, hj => simp at hj; subst hj; rfl
    | 1, hj => simp at hj; subst hj; rfl
    | 2, hj => simp at hj; subst hj; rfl
    | 3, hj => simp at hj; subst hj; rfl
    | 4, hj => simp at hj; subst hj; rfl
    | 5, hj => simp at hj; subst hj; rfl
    | 6, hj => simp at hj; subst hj; rfl
    | j + 7, hj => simp at hj
  have HB8 : Hid (∀ j : Nat, j < 7 → ∃ i, [b, d, x, k, h, -1, q][j]? = some i) := fun j hj => ⟨_, List.getElem?_eq_getElem (by simpa using hj)⟩
  have T8 := Lib.hid t8
  clear hW8 hS HL HO2 HH HO HK HD HB HF HN t0 t1 t2 t3 t4 t5 t6 t7 t8 cv0 cv1 q0 q1 hsz
  generalize w7.heap.size = N at *
  go_wp2_with fail
  go_loopw [10] (fun i wr => ∃ j : Nat, j ≤ 7 ∧ i = .int .i64 (j : Int) ∧ Ta w.heap.size w A [(q, O2), (h, H1), (o, O1), (k, K1), (d, D1), (b, B1), (x, X)] (9 + j) wr ∧ Kept W8 wr) (fun i _ => 7 - (intOf i).toNat)
  case atStart => exact ⟨0, by omega, rfl, T8.out, Kept.refl _⟩
  case round =>
    obtain ⟨j, hj, rfl, hta, hk⟩ := hrel
    by_cases hlt : j < 7
    · obtain ⟨i, hi⟩ := HB8.out j hlt
      have y0 := HS.out wr hk j i hi
      have HSe := Lib.hid (HL2.out (9 + j) wr (by omega) hta j i hi)
      have HK := Lib.hid hk
      have q1 : decide ((j : Int) < 7) = true := decide_eq_true (by omega)
      clear hi hta hk
      go_wp2_with (go_at_call 13; (with_reducible refine HSe.out.mono ?_); rintro e w9 ⟨rfl, t9, k9⟩; have K9 := HK.out.trans k9; have T9 := Lib.hid t9)
      go_roundw
      case rel => exact ⟨j + 1, by omega, by go_num, T9.out, K9⟩
      case measure => simp [intOf]; omega
    · have hj7 : j = 7 := by omega
      subst hj7
      clear hlt hj
      have HT := Lib.hid hta
      clear hta
      go_wp2_with (go_at_call 9; (with_reducible refine (HA.out _).mono ?_); rintro e w10 ⟨rfl, b10⟩)
      go_ret
      exact ⟨rfl, (HT.out.below b10).bel⟩
end Go.Proofs.Ytbhekicoohcaeaa

namespace Go.Proofs.Ytbhekicoohcaeaa
open Go.RowKit

theorem MakesAt.below {w w' : World} {v : Value} {l : List MakeR} (hM : MakesAt w v l) (b0 : Below w.heap.size w w') : MakesAt w' v l := by
  obtain ⟨ao, cap, rfl, hc⟩ := hM
  refine ⟨ao, cap, rfl, fun hne => ?_⟩
  obtain ⟨b, off, e1, hb, h⟩ := hc hne
  refine ⟨b, off, e1, Nat.lt_of_lt_of_le hb b0.size, fun k x hk => ?_⟩
  obtain ⟨c0, c1, c2, c3, c4⟩ := h k x hk
  exact ⟨(b0.cell (p := ⟨b, off + k * 5, none⟩) hb).trans c0, (b0.cell (p := ⟨b, off + k * 5 + 1, none⟩) hb).trans c1, (b0.cell (p := ⟨b, off + k * 5 + 2, none⟩) hb).trans c2, (b0.cell (p := ⟨b, off + k * 5 + 3, none⟩) hb).trans c3, (b0.cell (p := ⟨b, off + k * 5 + 4, none⟩) hb).trans c4⟩
set_option maxRecDepth 100000 in
theorem ShareKeeps_any {w : World} (g : ByteArray) (hg : g.size ≤ maxLen) (a n : Nat) (ha : a ≤ 65535) (hn : n ≤ 65535) :
    Calls Try.prog 5 #[.string g, .int .u16 (a : Int), .int .u16 (n : Int)] w fun e w' => e = .returned (.bool true) ∧ Below w.heap.size w w' := by
  unfold maxLen at hg
  by_cases g1 : g.size < 1
  · have HA := Lib.hid awake19_any
    have q1 : decide ((g.size : Int) < 1) = true := decide_eq_true (by omega)
    clear ha hn
    go_enter Try.func5, Try.ntmps5
    go_wp2_with (go_at_call 9; (with_reducible refine (HA.out _).mono ?_); rintro e w8 ⟨rfl, b8⟩)
    go_ret
    exact ⟨rfl, b8⟩
  · by_cases g2 : g.size > 100
    · have HA := Lib.hid awake19_any
      have q1 : decide ((g.size : Int) < 1) = false := decide_eq_false (by omega)
      have q2 : decide ((g.size : Int) > 100) = true := decide_eq_true (by omega)
      clear ha hn
      go_enter Try.func5, Try.ntmps5
      go_wp2_with (go_at_call 9; (with_reducible refine (HA.out _).mono ?_); rintro e w8 ⟨rfl, b8⟩)
      go_ret
      exact ⟨rfl, b8⟩
    · have h := ShareKeeps_small (w := w) g.data.toList (by rw [s_len]; omega) (by rw [s_len]; omega) a n ha hn
      rw [bs_list] at h
      exact h
end Go.Proofs.Ytbhekicoohcaeaa

namespace Go.Proofs.Ytbhekicoohcaeaa
open Go.RowKit Go.WideShapes Go.ChangeShapes Go.Deep

section
variable {H : Type} {enc : TypeId × Value → H} {w : World} {base : Nat} {spare : Nat → Bool} {held : Bool}
end
end Go.Proofs.Ytbhekicoohcaeaa

namespace Go.Proofs.Ytbhekicoohcaeaa
open Go.RowKit Go.WideShapes Go.ChangeShapes Go.Deep
section
variable {H : Type} {enc : TypeId × Value → H} {w : World} {base : Nat} {spare : Nat → Bool} {held : Bool}
end
end Go.Proofs.Ytbhekicoohcaeaa
