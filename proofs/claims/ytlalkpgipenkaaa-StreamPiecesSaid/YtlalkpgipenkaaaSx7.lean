/- Layer 13: in how many pieces bytes come plays no part (nothing of the program is run here). -/
import Derived.Test.YtlalkpgipenkaaaSx4
import Derived.Test.YtlalkpgipenkaaaLnC
namespace Go.Proofs.Ytlalkpgipenkaaa
open Go.RowKit

/-- Units, as many as there are, at most n: the units, what is left, what broke the stream. -/
def drainU : Nat → List UInt8 → Nat → List (List UInt8) × List UInt8 × Nat
  | 0, l, e => ([], l, e)
  | n + 1, l, e => if (stTake (stUnit l) l e).2.1 = true then ((stTake (stUnit l) l e).1 :: (drainU n (stTake (stUnit l) l e).2.2.2.1 (stTake (stUnit l) l e).2.2.2.2).1, (drainU n (stTake (stUnit l) l e).2.2.2.1 (stTake (stUnit l) l e).2.2.2.2).2)
    else ([], (stTake (stUnit l) l e).2.2.2.1, (stTake (stUnit l) l e).2.2.2.2)
/-- What drain takes: what was taken, whether a line has been, what is left, what broke the stream. -/
def drainP (lined : Bool) (l : List UInt8) (e : Nat) : List (List UInt8) × Bool × List UInt8 × Nat :=
  if lined = true then ((drainU 600 l e).1, true, (drainU 600 l e).2.1, (drainU 600 l e).2.2) else
    if (stTake (lnScan l) l e).2.1 = true then ((stTake (lnScan l) l e).1 :: (drainU 600 (stTake (lnScan l) l e).2.2.2.1 (stTake (lnScan l) l e).2.2.2.2).1, true, (drainU 600 (stTake (lnScan l) l e).2.2.2.1 (stTake (lnScan l) l e).2.2.2.2).2.1, (drainU 600 (stTake (lnScan l) l e).2.2.2.1 (stTake (lnScan l) l e).2.2.2.2).2.2)
    else ([], false, (stTake (lnScan l) l e).2.2.2.1, (stTake (lnScan l) l e).2.2.2.2)

theorem stTake_broken (f : List UInt8 × Nat × Nat) (l : List UInt8) {e : Nat} (he : e ≠ 0) : stTake f l e = ([], false, e, l, e) := if_pos he
theorem stTake_done {f : List UInt8 × Nat × Nat} (l : List UInt8) (h : f.2.2 = 0) : stTake f l 0 = (f.1, true, 0, l.drop f.2.1, 0) := by
  unfold stTake; rw [if_neg (by simp), if_pos h]
theorem stTake_short {f : List UInt8 × Nat × Nat} (l : List UInt8) (h : f.2.2 = 4) : stTake f l 0 = ([], false, 0, l, 0) := by
  unfold stTake; rw [if_neg (by simp), if_neg (by omega), if_pos h]
theorem stTake_wrong {f : List UInt8 × Nat × Nat} (l : List UInt8) (h0 : f.2.2 ≠ 0) (h4 : f.2.2 ≠ 4) : stTake f l 0 = ([], false, f.2.2, [], f.2.2) := by
  unfold stTake; rw [if_neg (by simp), if_neg h0, if_neg h4]

theorem frNeedP_more (l m : List UInt8) (h : (frNeedP l).2 ≠ 4) : frNeedP (l ++ m) = frNeedP l := by
  cases l with
  | nil => exact absurd rfl h
  | cons b r =>
    have h1 : frHd (b :: r ++ m) = frHd (b :: r) := rfl
    unfold frNeedP at h ⊢
    rw [h1]
    by_cases hh : 0 < frHd (b :: r)
    · rw [if_pos hh, if_pos hh]
    · rw [if_neg hh] at h
      rw [if_neg hh, if_neg hh]
      by_cases h4 : (b :: r).length < 4
      · rw [if_pos h4] at h; exact absurd rfl h
      · rw [if_neg h4, if_neg (by rw [List.length_append]; omega)]
        rw [List.take_append_of_le_length (by omega)]
theorem stUnit_more (l m : List UInt8) (h : (stUnit l).2.2 ≠ 4) : stUnit (l ++ m) = stUnit l ∧ ((stUnit l).2.2 = 0 → 5 ≤ (stUnit l).2.1) := by
  unfold stUnit at h ⊢
  by_cases h0 : (frNeedP l).2 = 0
  · rw [if_neg (by simpa using h0)] at h
    by_cases h2 : l.length < (frNeedP l).1
    · rw [if_pos h2] at h; exact absurd rfl h
    · have hm := frNeedP_more l m (by omega)
      rw [hm, if_neg (by simpa using h0), if_neg (by rw [List.length_append]; omega), if_neg (by simpa using h0), if_neg h2, List.take_append_of_le_length (by omega)]
      exact ⟨rfl, fun _ => frNeedP_two l h0⟩
  · rw [if_pos h0] at h
    have hm := frNeedP_more l m h
    rw [hm, if_pos h0, if_pos h0]
    exact ⟨rfl, fun h' => absurd h' h0⟩
theorem stUnit_five {l : List UInt8} (h : (stUnit l).2.2 = 0) : 5 ≤ (stUnit l).2.1 ∧ (stUnit l).2.1 ≤ l.length :=
  ⟨(stUnit_more l [] (by omega)).2 h, stUnit_used l⟩

theorem drainU_broken (n : Nat) (l : List UInt8) {e : Nat} (he : e ≠ 0) : drainU n l e = ([], l, e) := by
  cases n with
  | zero => rfl
  | succ n => unfold drainU; rw [stTake_broken _ l he]; rfl
theorem drainU_short (n : Nat) {l : List UInt8} (h : (stUnit l).2.2 = 4) : drainU n l 0 = ([], l, 0) := by
  cases n with
  | zero => rfl
  | succ n => unfold drainU; rw [stTake_short l h]; rfl
theorem drainU_wrong (n : Nat) {l : List UInt8} (h0 : (stUnit l).2.2 ≠ 0) (h4 : (stUnit l).2.2 ≠ 4) : drainU (n + 1) l 0 = ([], [], (stUnit l).2.2) := by
  unfold drainU; rw [stTake_wrong l h0 h4]; rfl
theorem drainU_done (n : Nat) {l : List UInt8} (h : (stUnit l).2.2 = 0) : drainU (n + 1) l 0 = ((stUnit l).1 :: (drainU n (l.drop (stUnit l).2.1) 0).1, (drainU n (l.drop (stUnit l).2.1) 0).2) := by
  rw [drainU]
  rw [stTake_done l h]
  rfl
/-- A unit has at least five bytes: so much fuel is enough. -/
theorem drainU_fuel : ∀ (n m : Nat) (l : List UInt8) (e : Nat), l.length < 5 * n → l.length < 5 * m → drainU n l e = drainU m l e
  | 0, _, _, _, h, _ => absurd h (by omega)
  | _, 0, _, _, _, h => absurd h (by omega)
  | n + 1, m + 1, l, e, hn, hm => by
    by_cases he : e = 0
    · subst he
      by_cases h0 : (stUnit l).2.2 = 0
      · have h5 := stUnit_five h0
        rw [drainU_done n h0, drainU_done m h0, drainU_fuel n m _ 0 (by rw [List.length_drop]; omega) (by rw [List.length_drop]; omega)]
      · by_cases h4 : (stUnit l).2.2 = 4
        · rw [drainU_short _ h4, drainU_short _ h4]
        · rw [drainU_wrong n h0 h4, drainU_wrong m h0 h4]
    · rw [drainU_broken _ l he, drainU_broken _ l he]
theorem drainU_len : ∀ (n : Nat) (l : List UInt8) (e : Nat), (drainU n l e).2.1.length ≤ l.length
  | 0, _, _ => Nat.le_refl _
  | n + 1, l, e => by
    rw [drainU]
    have h1 := stTake_len (stUnit l) l e
    split
    · exact Nat.le_trans (drainU_len n _ _) h1
    · exact h1
/-- The units of some bytes, and more behind them. -/
theorem drainU_more (p : List UInt8) : ∀ (n : Nat) (l : List UInt8), l.length < n → (drainU n l 0).2.2 = 0 → ∀ m, (l ++ p).length < m →
    drainU m (l ++ p) 0 = ((drainU n l 0).1 ++ (drainU m ((drainU n l 0).2.1 ++ p) 0).1, (drainU m ((drainU n l 0).2.1 ++ p) 0).2)
  | 0, _, h, _, _, _ => absurd h (by omega)
  | n + 1, l, hn, he, m, hm => by
    by_cases h4 : (stUnit l).2.2 = 4
    · rw [drainU_short _ h4]; rfl
    · have hM := (stUnit_more l p h4).1
      by_cases h0 : (stUnit l).2.2 = 0
      · have h5 := stUnit_five h0
        rw [drainU_done n h0] at he ⊢
        obtain ⟨m', rfl⟩ : ∃ m', m = m' + 1 := ⟨m - 1, by omega⟩
        have hd : (l ++ p).drop (stUnit l).2.1 = l.drop (stUnit l).2.1 ++ p := List.drop_append_of_le_length h5.2
        have hlen : (l.drop (stUnit l).2.1 ++ p).length < m' := by rw [List.length_append, List.length_drop]; rw [List.length_append] at hm; omega
        have ih := drainU_more p n (l.drop (stUnit l).2.1) (by rw [List.length_drop]; omega) he m' hlen
        rw [drainU_done m' (by rw [hM]; exact h0), hM, hd, ih]
        have hl2 := drainU_len n (l.drop (stUnit l).2.1) 0
        rw [List.length_drop] at hl2
        rw [List.length_append, List.length_drop] at hlen
        simp only
        rw [drainU_fuel m' (m' + 1) _ 0 (by rw [List.length_append]; omega) (by rw [List.length_append]; omega)]
        rfl
      · rw [drainU_wrong n h0 h4] at he
        exact absurd he h0
theorem drainU_stop (p : List UInt8) : ∀ (n : Nat) (l : List UInt8), l.length < n → (drainU n l 0).2.2 ≠ 0 → ∀ m, (l ++ p).length < m → drainU m (l ++ p) 0 = drainU n l 0
  | 0, _, h, _, _, _ => absurd h (by omega)
  | n + 1, l, hn, he, m, hm => by
    by_cases h4 : (stUnit l).2.2 = 4
    · rw [drainU_short _ h4] at he; exact absurd rfl he
    · have hM := (stUnit_more l p h4).1
      obtain ⟨m', rfl⟩ : ∃ m', m = m' + 1 := ⟨m - 1, by omega⟩
      by_cases h0 : (stUnit l).2.2 = 0
      · have h5 := stUnit_five h0
        rw [drainU_done n h0] at he
        have hd : (l ++ p).drop (stUnit l).2.1 = l.drop (stUnit l).2.1 ++ p := List.drop_append_of_le_length h5.2
        have hlen : (l.drop (stUnit l).2.1 ++ p).length < m' := by rw [List.length_append, List.length_drop]; rw [List.length_append] at hm; omega
        have ih := drainU_stop p n (l.drop (stUnit l).2.1) (by rw [List.length_drop]; omega) he m' hlen
        rw [drainU_done m' (by rw [hM]; exact h0), hM, hd, ih, drainU_done n h0]
      · rw [drainU_wrong n h0 h4, drainU_wrong m' (by rw [hM]; exact h0) (by rw [hM]; exact h4), hM]

/-- One piece more: what drain takes of all that came so far. -/
theorem drainP_next (t p : List UInt8) (hn : (t ++ p).length ≤ 2000) :
    drainP false (t ++ p) 0 = ((drainP false t 0).1 ++ (drainP (drainP false t 0).2.1 (if (drainP false t 0).2.2.2 = 0 then (drainP false t 0).2.2.1 ++ p else (drainP false t 0).2.2.1) (drainP false t 0).2.2.2).1,
      (drainP (drainP false t 0).2.1 (if (drainP false t 0).2.2.2 = 0 then (drainP false t 0).2.2.1 ++ p else (drainP false t 0).2.2.1) (drainP false t 0).2.2.2).2) := by
  obtain ⟨n, hn3⟩ : ∃ n, n = 3000 := ⟨_, rfl⟩
  have hfuel : ∀ (l : List UInt8) (e : Nat), l.length ≤ t.length + p.length → drainU 600 l e = drainU n l e := fun l e h => drainU_fuel _ _ _ _ (by rw [List.length_append] at hn; omega) (by rw [List.length_append] at hn; omega)
  have hl : ∀ x : List UInt8, drainP false x 0 = if (lnScan x).2.2 = 0 then ((lnScan x).1 :: (drainU 600 (x.drop (lnScan x).2.1) 0).1, true, (drainU 600 (x.drop (lnScan x).2.1) 0).2) else if (lnScan x).2.2 = 4 then ([], false, x, 0) else ([], false, [], (lnScan x).2.2) := fun x => by
    unfold drainP
    rw [if_neg (by simp)]
    by_cases h0 : (lnScan x).2.2 = 0
    · rw [stTake_done x h0, if_pos rfl, if_pos h0]
    · by_cases h4 : (lnScan x).2.2 = 4
      · rw [stTake_short x h4, if_neg (by simp), if_neg h0, if_pos h4]
      · rw [stTake_wrong x h0 h4, if_neg (by simp), if_neg h0, if_neg h4]
  by_cases h4 : (lnScan t).2.2 = 4
  · have ht : drainP false t 0 = ([], false, t, 0) := by rw [hl, if_neg (by omega), if_pos h4]
    rw [ht]
    rfl
  · have hM := lnScan_more t p h4
    have hused := lnScan_used t
    by_cases h0 : (lnScan t).2.2 = 0
    · have ht : drainP false t 0 = ((lnScan t).1 :: (drainU 600 (t.drop (lnScan t).2.1) 0).1, true, (drainU 600 (t.drop (lnScan t).2.1) 0).2) := by rw [hl, if_pos h0]
      have hd : (t ++ p).drop (lnScan t).2.1 = t.drop (lnScan t).2.1 ++ p := List.drop_append_of_le_length hused
      rw [hl (t ++ p), hM, if_pos h0, hd, ht]
      rw [List.length_append] at hn
      have hlt : (t.drop (lnScan t).2.1).length < n := by rw [List.length_drop]; omega
      have hlt2 : (t.drop (lnScan t).2.1 ++ p).length < n := by rw [List.length_append, List.length_drop]; omega
      have f1 : drainU 600 (t.drop (lnScan t).2.1) 0 = drainU n (t.drop (lnScan t).2.1) 0 := hfuel _ _ (by rw [List.length_drop]; omega)
      have f2 : drainU 600 (t.drop (lnScan t).2.1 ++ p) 0 = drainU n (t.drop (lnScan t).2.1 ++ p) 0 := hfuel _ _ (by rw [List.length_append, List.length_drop]; omega)
      have hlu := drainU_len n (t.drop (lnScan t).2.1) 0
      rw [List.length_drop] at hlu
      rw [f1, f2]
      by_cases he : (drainU n (t.drop (lnScan t).2.1) 0).2.2 = 0
      · rw [drainU_more p n _ hlt he n hlt2]
        simp only [he, if_true]
        have f3 : ∀ e, drainU 600 ((drainU n (t.drop (lnScan t).2.1) 0).2.1 ++ p) e = drainU n ((drainU n (t.drop (lnScan t).2.1) 0).2.1 ++ p) e := fun e => hfuel _ _ (by rw [List.length_append]; omega)
        unfold drainP
        rw [if_pos rfl, f3]
        rfl
      · rw [drainU_stop p n _ hlt he n hlt2]
        simp only [he, if_false]
        unfold drainP
        rw [if_pos rfl, drainU_broken 600 _ he]
        simp
    · have ht : drainP false t 0 = ([], false, [], (lnScan t).2.2) := by rw [hl, if_neg h0, if_neg h4]
      rw [hl (t ++ p), hM, if_neg h0, if_neg h4, ht]
      simp only [h0, if_false]
      unfold drainP
      rw [if_neg (by simp), stTake_broken _ _ h0, if_neg (by simp)]
      rfl
end Go.Proofs.Ytlalkpgipenkaaa
