/- Part 17 of what the statement wants. -/
import Derived.Deep.RegionHeld3
import Derived.Test.YtbhekicoohcaeaaPk16
namespace Go.Proofs.Ytbhekicoohcaeaa
open Go.RowKit

theorem nodeOf_nil : (nodeOf []).args = [] := by decide +kernel
theorem TAt.args {L : List Ent} (hG : Good L) {i : Int} {t : List UInt8} (h : TAt L i t) : ∀ x ∈ (nodeOf t).args, x ≠ [] := by
  rcases h with ⟨_, rfl⟩ | ⟨n, _, hn, rfl⟩
  · rw [nodeOf_nil]; simp
  · have he : L[n]? = some L[n] := List.getElem?_eq_getElem hn
    rw [nodeOf_enc hG he]
    intro x hx
    obtain ⟨u, hu, rfl⟩ := List.mem_map.1 hx
    exact enc_ne hG (Nat.lt_trans ((hG.wf.ok n _ he).args u hu) hn)
/-- The parts of a share's text. -/
theorem TAt.share {L : List Ent} (hG : Good L) {i : Int} {t : List UInt8} (h : TAt L i t) (h5 : kindL t = 5) :
    t = 245 :: (cnt (nodeOf t).s ++ pack4 (nodeOf t).args.length ++ (nodeOf t).args.flatten) ∧ (∀ x ∈ (nodeOf t).args, x.length = 9) ∧ (nodeOf t).args.length ≤ 8 ∧ (nodeOf t).s.length ≤ 2100 := by
  rcases h with ⟨_, rfl⟩ | ⟨n, _, hn, rfl⟩
  · simp [kindL] at h5
  · have he : L[n]? = some L[n] := List.getElem?_eq_getElem hn
    have hs := hG.sh n _ he
    rw [hG.enc_eq he, kind_head hs] at h5
    rw [nodeOf_enc hG he, hG.enc_eq he]
    generalize L[n].sh = sh at *
    cases hs with
    | share s l h1 h2 h3 h4 _ =>
      refine ⟨by simp [nodeSh, headL], fun x hx => ?_, by simpa [nodeSh] using h3, by simp only [nodeSh]; rw [s_len]; exact h2⟩
      obtain ⟨u, hu, rfl⟩ := List.mem_map.1 hx
      exact nonce_nine hG (h4 u hu)
    | _ => simp at h5
theorem flat_inj : ∀ (l m : List (List UInt8)), (∀ x ∈ l, x.length = 9) → (∀ x ∈ m, x.length = 9) → l.flatten = m.flatten → l = m
  | [], [], _, _, _ => rfl
  | [], y :: m, _, h, e => by
    have := congrArg List.length e
    rw [List.flatten_cons, List.length_append, h y (by simp)] at this
    simp at this
    omega
  | x :: l, [], h, _, e => by
    have := congrArg List.length e
    rw [List.flatten_cons, List.length_append, h x (by simp)] at this
    simp at this
  | x :: l, y :: m, h, k, e => by
    rw [List.flatten_cons, List.flatten_cons] at e
    obtain ⟨e1, e2⟩ := List.append_inj e (by rw [h x (by simp), k y (by simp)])
    rw [e1, flat_inj l m (fun z hz => h z (by simp [hz])) (fun z hz => k z (by simp [hz])) e2]
theorem insL_len (x : List UInt8) : ∀ l : List (List UInt8), (insL x l).length = l.length + 1 ∧ (insL x l).flatten.length = x.length + l.flatten.length
  | [] => by simp [insL]
  | y :: l => by
    unfold insL
    split
    · simp
    · have := insL_len x l
      simp only [List.length_cons, List.flatten_cons, List.length_append]
      omega
theorem shareT_ne (s : List UInt8) (l : List (List UInt8)) (h : 9 + s.length + l.flatten.length ≤ 131072) : refShareL s l = 245 :: (cnt s ++ pack4 l.length ++ l.flatten) := by
  unfold refShareL fitsL
  have h1 : (tagL 5).length = 1 := rfl
  have h2 : ∀ n, (pack4 n).length = 4 := fun _ => rfl
  rw [if_neg (by simp only [List.length_append, h1, h2]; omega)]
  simp [tagL, cnt]
end Go.Proofs.Ytbhekicoohcaeaa

namespace Go.Proofs.Ytbhekicoohcaeaa
open Go.RowKit

set_option maxRecDepth 100000 in
theorem sh_plain : secretZ [103] (offerL [103] (freshL 1 0)) (freshL 0 0) = 0 ∧ secretZ [103] (offerL [103] (freshL 0 0)) (freshL 1 0) = 0 ∧ secretL [103] (offerL [103] (freshL 0 0)) (freshL 1 0) = secretL [103] (offerL [103] (freshL 1 0)) (freshL 0 0) ∧ freshL 0 0 ≠ freshL 1 0 ∧ kindL (secretL [103] (offerL [103] (freshL 1 0)) (freshL 0 0)) = 5 := by decide +kernel
set_option maxHeartbeats 2000000 in
set_option maxRecDepth 100000 in
theorem awake19_any (w : World) : Calls Try.prog 9 #[] w fun e w' => e = .returned (.bool true) ∧ Below w.heap.size w w' := by
  obtain ⟨p1, p2, p3, p4, p5⟩ := sh_plain
  have HN := Lib.hid (taNew w)
  have HX : Hid (∀ (A : Nat) (W : World), Ta w.heap.size w A [] 0 W → Calls Try.prog 20 #[.pointer (some ⟨A, 0, none⟩), .int .i64 0, .int .i64 0] W (TaPost w.heap.size w A [] 1 W (freshL 0 0))) := fun A W h => hFresh_any h (by omega) 0 0 (by omega)
  have HY : Hid (∀ (A : Nat) (i : Int) (W : World), Ta w.heap.size w A [(i, freshL 0 0)] 1 W → Calls Try.prog 20 #[.pointer (some ⟨A, 0, none⟩), .int .i64 1, .int .i64 0] W (TaPost w.heap.size w A [(i, freshL 0 0)] 2 W (freshL 1 0))) := fun A i W h => hFresh_any h (by omega) 1 0 (by omega)
  have HO1 : Hid (∀ (A : Nat) (i j : Int) (W : World), Ta w.heap.size w A [(j, freshL 1 0), (i, freshL 0 0)] 2 W → Calls Try.prog 18 #[.pointer (some ⟨A, 0, none⟩), .string ⟨#[103]⟩, .int .i64 j] W (TaPost w.heap.size w A [(j, freshL 1 0), (i, freshL 0 0)] 4 W (offerL [103] (freshL 1 0)))) := fun A i j W h => hOffer_any h (by omega) [103] (by simp) (.head _)
  have HS1 : Hid (∀ (A : Nat) (i j o : Int) (W : World), Ta w.heap.size w A [(o, offerL [103] (freshL 1 0)), (j, freshL 1 0), (i, freshL 0 0)] 4 W → Calls Try.prog 13 #[.pointer (some ⟨A, 0, none⟩), .string ⟨#[103]⟩, .int .i64 o, .int .i64 i] W fun e w' => ∃ k : Int, e = .returned (.tuple #[.int .i64 k, .int .i64 0]) ∧ Ta w.heap.size w A [(k, secretL [103] (offerL [103] (freshL 1 0)) (freshL 0 0)), (o, offerL [103] (freshL 1 0)), (j, freshL 1 0), (i, freshL 0 0)] 5 w') := fun A i j o W h =>
    (hSecret_any h (by omega) [103] (.head _) (.tail _ (.tail _ (.head _)))).mono fun e w' ⟨k, h1, h2, _⟩ => ⟨k, by rw [h1, p1], h2⟩
  have HO2 : Hid (∀ (A : Nat) (i j o k : Int) (W : World), Ta w.heap.size w A [(k, secretL [103] (offerL [103] (freshL 1 0)) (freshL 0 0)), (o, offerL [103] (freshL 1 0)), (j, freshL 1 0), (i, freshL 0 0)] 5 W → Calls Try.prog 18 #[.pointer (some ⟨A, 0, none⟩), .string ⟨#[103]⟩, .int .i64 i] W fun e w' => ∃ q : Int, e = .returned (.int .i64 q) ∧ Ta w.heap.size w A [(q, offerL [103] (freshL 0 0)), (k, secretL [103] (offerL [103] (freshL 1 0)) (freshL 0 0)), (o, offerL [103] (freshL 1 0)), (j, freshL 1 0), (i, freshL 0 0)] 7 w') := fun A i j o k W h =>
    (hOffer_any h (by omega) [103] (by simp) (.tail _ (.tail _ (.tail _ (.head _))))).mono fun e w' ⟨q, h1, h2, _⟩ => ⟨q, h1, h2⟩
  have HS2 : Hid (∀ (A : Nat) (i j o k q : Int) (W : World), Ta w.heap.size w A [(q, offerL [103] (freshL 0 0)), (k, secretL [103] (offerL [103] (freshL 1 0)) (freshL 0 0)), (o, offerL [103] (freshL 1 0)), (j, freshL 1 0), (i, freshL 0 0)] 7 W → Calls Try.prog 13 #[.pointer (some ⟨A, 0, none⟩), .string ⟨#[103]⟩, .int .i64 q, .int .i64 j] W fun e w' => e = .returned (.tuple #[.int .i64 k, .int .i64 0]) ∧ (i != j) = true ∧ Ta w.heap.size w A [(k, secretL [103] (offerL [103] (freshL 1 0)) (freshL 0 0))] 8 w') := fun A i j o k q W h =>
    (hSecret_any h (by omega) [103] (.head _) (.tail _ (.tail _ (.tail _ (.head _))))).mono fun e w' ⟨k', h1, h2, _⟩ => by
      have hk : k' = k := (h2.same (.head _) (.tail _ (.tail _ (.head _)))).2 p3
      have hij : i ≠ j := fun e => p4 ((h2.same (.tail _ (.tail _ (.tail _ (.tail _ (.tail _ (.head _)))))) (.tail _ (.tail _ (.tail _ (.tail _ (.head _)))))).1 e)
      refine ⟨by rw [h1, p2, hk], by simpa using hij, h2.mono (Nat.le_refl _) fun p hp => ?_⟩
      rw [List.mem_singleton.1 hp]
      exact .tail _ (.tail _ (.head _))
  have HK : Hid (∀ (A : Nat) (k : Int) (W : World), Ta w.heap.size w A [(k, secretL [103] (offerL [103] (freshL 1 0)) (freshL 0 0))] 8 W → Calls Try.prog 33 #[.pointer (some ⟨A, 0, none⟩), .int .i64 k] W fun e w' => e = .returned (.int .i64 5) ∧ W = w') := fun A k W h => by
    have := taKind h (.head _)
    rwa [p5] at this
  clear p1 p2 p3 p4 p5
  generalize secretL [103] (offerL [103] (freshL 1 0)) (freshL 0 0) = S at *
  generalize offerL [103] (freshL 1 0) = O1 at *
  generalize offerL [103] (freshL 0 0) = O2 at *
  generalize freshL 0 0 = X at *
  generalize freshL 1 0 = Y at *
  go_enter Try.func9, Try.ntmps9
  go_wp2_with (first
    | (go_at_call 10; with_reducible refine HN.out.mono ?_; rintro e w1 ⟨A, rfl, t1⟩)
    | (go_at_call 20; with_reducible refine (HY.out _ _ _ t2).mono ?_; rintro e w3 ⟨j, rfl, t3, _⟩)
    | (go_at_call 20; with_reducible refine (HX.out _ _ t1).mono ?_; rintro e w2 ⟨i, rfl, t2, _⟩)
    | (go_at_call 18; with_reducible refine (HO2.out _ _ _ _ _ _ t5).mono ?_; rintro e w6 ⟨q, rfl, t6⟩)
    | (go_at_call 18; with_reducible refine (HO1.out _ _ _ _ t3).mono ?_; rintro e w4 ⟨o, rfl, t4, _⟩)
    | (go_at_call 13; with_reducible refine (HS2.out _ _ _ _ _ _ _ t6).mono ?_; rintro e w7 ⟨rfl, hij, t7⟩)
    | (go_at_call 13; with_reducible refine (HS1.out _ _ _ _ _ t4).mono ?_; rintro e w5 ⟨k, rfl, t5⟩)
    | (go_at_call 33; with_reducible refine (HK.out _ _ _ t7).mono ?_; rintro e w8 ⟨rfl, hw⟩; have hw := hw.symm; subst hw))
  go_ret
  exact ⟨rfl, t7.bel⟩
end Go.Proofs.Ytbhekicoohcaeaa

namespace Go.Proofs.Ytbhekicoohcaeaa
open Go.RowKit

end Go.Proofs.Ytbhekicoohcaeaa

namespace Go.Proofs.Ytbhekicoohcaeaa
open Go.RowKit

def nonceT (a b : Nat) : List UInt8 := 242 :: (pack4 a ++ pack4 b)
theorem nonceT_kind (a b : Nat) : kindL (nonceT a b) = 2 := by simp [nonceT, kindL]
theorem nonceT_len (a b : Nat) : (nonceT a b).length = 9 := by simp [nonceT, pack4]
theorem freshL_nat (a n : Nat) (ha : a ≤ 65535) (hn : n ≤ 65535) : freshL a n = nonceT (a + 1) n := by
  unfold freshL
  rw [if_neg (by omega)]
  have h1 : numZ ((a : Int) + 1) = true := decide_eq_true (by omega)
  have h2 : numZ (n : Int) = true := decide_eq_true (by omega)
  unfold refNonceL
  rw [if_pos ⟨h1, h2⟩]
  have : ((a : Int) + 1).toNat = a + 1 := by omega
  simp [nonceT, tagL, this]
theorem share_cut {g s : List UInt8} {l m : List (List UInt8)} (hg : g.length < 4294967296) (hs : s.length < 4294967296) (hl : l.length < 4294967296) (hm : m.length < 4294967296) (h : 245 :: (cnt s ++ pack4 m.length ++ m.flatten) = (245 : UInt8) :: (cnt g ++ pack4 l.length ++ l.flatten)) : s = g ∧ m.length = l.length ∧ m.flatten = l.flatten := by
  injection h with _ h
  unfold cnt at h
  simp only [List.append_assoc] at h
  obtain ⟨h1, h2⟩ := List.append_inj h rfl
  have e1 := pack4_inj hs hg h1
  obtain ⟨h3, h4⟩ := List.append_inj h2 e1
  obtain ⟨h5, h6⟩ := List.append_inj h4 rfl
  exact ⟨h3, pack4_inj hm hl h5, h6⟩
theorem share_parts {L : List Ent} (hG : Good L) {i : Int} {t : List UInt8} (h : TAt L i t) {g : List UInt8} {l : List (List UInt8)} (ht : t = 245 :: (cnt g ++ pack4 l.length ++ l.flatten)) (h9 : ∀ x ∈ l, x.length = 9) (hg : g.length < 4294967296) (hl : l.length < 4294967296) : kindL t = 5 ∧ (nodeOf t).s = g ∧ (nodeOf t).args = l := by
  have h5 : kindL t = 5 := by rw [ht]; simp [kindL]
  obtain ⟨e, k9, k8, ks⟩ := h.share hG h5
  rw [ht] at e
  obtain ⟨e1, e2, e3⟩ := share_cut hg (by rw [← ht] at *; omega) hl (by rw [← ht] at *; omega) e.symm
  rw [← ht] at e1 e2 e3
  exact ⟨h5, e1, flat_inj _ _ k9 h9 e3⟩
theorem base_node {g : List UInt8} (h1 : 1 ≤ g.length) (h2 : g.length ≤ 2100) : kindL (refBaseL g) = 5 ∧ (nodeOf (refBaseL g)).s = g ∧ (nodeOf (refBaseL g)).args = [] := by
  have h := base_same Good.nil (by simp) g
  have e : refBaseL g = 245 :: (cnt g ++ pack4 ([] : List (List UInt8)).length ++ ([] : List (List UInt8)).flatten) := by
    unfold refBaseL
    have hx : textL g 2100 = true := decide_eq_true ⟨h1, by omega⟩
    rw [if_pos hx]
    exact shareT_ne g [] (by simp; omega)
  exact share_parts h.good h.is e (by simp) (by omega) (by simp)
theorem offer_eq {g x : List UInt8} (h1 : 1 ≤ g.length) (h2 : g.length ≤ 2100) (hk : kindL x = 2) (hx : x.length = 9) : offerL g x = 245 :: (cnt g ++ pack4 [x].length ++ [x].flatten) := by
  obtain ⟨b1, b2, b3⟩ := base_node h1 h2
  unfold offerL refExpL
  rw [if_pos ⟨b1, hk, by rw [b3]; simp⟩, b2, b3]
  exact shareT_ne g [x] (by simp; omega)
/-- What the other side makes of an offer. -/
theorem offer_right {L : List Ent} (hG : Good L) {i : Int} {g o x : List UInt8} (h1 : 1 ≤ g.length) (h2 : g.length ≤ 2100) (hk : kindL x = 2) (hx : x.length = 9) (h : TAt L i (offerL g x)) : rightB o (offerL g x) = decide (g = o) ∧ ∀ y : List UInt8, kindL y = 2 → y.length = 9 → refExpL (offerL g x) y = 245 :: (cnt g ++ pack4 (insL y [x]).length ++ (insL y [x]).flatten) := by
  obtain ⟨e1, e2, e3⟩ := share_parts hG h (offer_eq h1 h2 hk hx) (by simp [hx]) (by omega) (by simp)
  refine ⟨?_, fun y hy hy9 => ?_⟩
  · unfold rightB
    exact decide_eq_decide.2 ⟨fun hh => by rw [← hh.2.1, e2], fun hh => ⟨e1, by rw [e2, hh], by rw [e3]; simp, by rw [e3]; simp⟩⟩
  · unfold refExpL
    rw [if_pos ⟨e1, hy, by rw [e3]; simp⟩, e2, e3]
    obtain ⟨i1, i2⟩ := insL_len y [x]
    exact shareT_ne g _ (by simp only [List.flatten_cons, List.flatten_nil, List.length_append, List.length_nil] at i2; omega)
theorem offer_secret {L : List Ent} (hG : Good L) {i : Int} {g o x y : List UInt8} (h1 : 1 ≤ g.length) (h2 : g.length ≤ 2100) (hk : kindL x = 2) (hx : x.length = 9) (hy : kindL y = 2) (hy9 : y.length = 9) (h : TAt L i (offerL g x)) :
    secretZ o (offerL g x) y = (if g = o then 0 else 5) ∧ secretL o (offerL g x) y = if g = o then 245 :: (cnt g ++ pack4 (insL y [x]).length ++ (insL y [x]).flatten) else [] := by
  obtain ⟨e1, e2⟩ := offer_right (o := o) hG h1 h2 hk hx h
  unfold secretZ secretL
  rw [e1, e2 y hy hy9]
  by_cases hg : g = o
  · have hc : decide (g = o) = true ∧ kindL y = 2 := ⟨decide_eq_true hg, hy⟩
    simp only [if_pos hc, if_pos hg, and_self]
  · have hc : ¬ (decide (g = o) = true ∧ kindL y = 2) := fun hh => hg (of_decide_eq_true hh.1)
    simp only [if_neg hc, if_neg hg, and_self]
end Go.Proofs.Ytbhekicoohcaeaa

namespace Go.Proofs.Ytbhekicoohcaeaa
open Go.RowKit

def twoT (g y x : List UInt8) : List UInt8 := 245 :: (cnt g ++ pack4 (insL y [x]).length ++ (insL y [x]).flatten)
theorem ta_secret {B A n : Nat} {w0 W : World} {P : List (Int × List UInt8)} (h : Ta B w0 A P n W) {i : Int} {g o x y : List UInt8} (h1 : 1 ≤ g.length) (h2 : g.length ≤ 2100) (hk : kindL x = 2) (hx : x.length = 9) (hy : kindL y = 2) (hy9 : y.length = 9) (hi : (i, offerL g x) ∈ P) :
    secretZ o (offerL g x) y = (if g = o then 0 else 5) ∧ secretL o (offerL g x) y = if g = o then twoT g y x else [] := by
  obtain ⟨⟨L, F, ha, hG, _, h3⟩, _⟩ := h
  exact offer_secret hG h1 h2 hk hx hy hy9 (h3 _ hi)
theorem sh_u16 (x : Nat) (hx : x ≤ 65535) (W : World) : (convert 48 3 (.int .u16 (x : Int))).run Try.prog W = .ok (.int .i64 (x : Int)) W := by
  have h : IntKind.i64.wrap (x : Int) = (x : Int) := IntWalk.i64_in _ (by omega)
  simp [go_sem, Try.underlying48, Try.underlying3, h]

end Go.Proofs.Ytbhekicoohcaeaa
