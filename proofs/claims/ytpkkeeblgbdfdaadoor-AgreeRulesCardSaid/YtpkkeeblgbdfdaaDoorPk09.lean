/- Part 9 of what the statement wants. -/
import Derived.Test.YtpkkeeblgbdfdaaDoorPk08
namespace Go.Proofs.YtpkkeeblgbdfdaaDoor
open Go.RowKit Go.Maps Go.WideMaps

/-- The first event below a place that has this mark. -/
def fstM (l : List EvV) (m : MarkV) : Nat → Option Nat
  | 0 => none
  | k + 1 => match fstM l m k with
    | some i => some i
    | none => match l[k]? with
      | some x => if markE x.ki x = m then some k else none
      | none => none
def srcK (l : List EvV) (k : Nat) : Option Nat := match l[k]? with
  | some x => sourceO (fun m => fstM l m k) x
  | none => none
def askK (S : List Int) (l : List EvV) (k : Nat) : Bool := match l[k]? with
  | some x => askedV S (fun z => sessS S l z k) k x
  | none => false
/-- Is a place the source of an event below, that must have one? -/
def usdK (S : List Int) (l : List EvV) : Nat → Int → Bool
  | 0, _ => false
  | k + 1, z => (askK S l k && decide ((srcK l k).map (fun i => (i : Int)) = some z)) || usdK S l k z
/-- A function of keys that has these. -/
def OfKeys (f : Lit → Option Value) (u : Int → Bool) : Prop := ∀ (z : Int) (kl : Lit), keyOf Tryd.prog 3 (.int .i64 z) = some kl → (f kl).isSome = u z
theorem key_int {z : Int} {kl : Lit} (h : keyOf Tryd.prog 3 (.int .i64 z) = some kl) : kl = keyI z := by
  by_cases hw : (Lit.int .i64 z).wf = true
  · rw [keyI_ok hw, Option.some.injEq] at h
    exact h.symm
  · simp [keyOf, Tryd.underlying3, mapKey, hw] at h
theorem putF_key (f : Lit → Option Value) (a z : Int) (v : Value) : putF f (keyI a) v (keyI z) = if z = a then some v else f (keyI z) := by
  by_cases h : z = a
  · subst h
    rw [if_pos rfl, putF_same (keyI_lit z)]
  · rw [if_neg h, putF_other fun e => h (keyI_inj e)]
/-- A past, over the world that it was made in. -/
structure MidAt (w0 w : World) (v : Value) (k : Nat) (n2 n3 n4 n5 : Nat) (f2 f3 f4 f5 : Lit → Option Value) : Prop where
  box : Holds w (w0.heap.size + 4) 73 #[.int .i64 (k : Int), v, .map (some w0.heap.size), .map (some (w0.heap.size + 1)), .map (some (w0.heap.size + 2)), .map (some (w0.heap.size + 3))]
  sess : MapF w Tryd.prog 3 w0.heap.size n2 f2
  taken : MapF w Tryd.prog 3 (w0.heap.size + 1) n3 f3
  first : MapF w Tryd.prog 82 (w0.heap.size + 2) n4 f4
  used : MapF w Tryd.prog 3 (w0.heap.size + 3) n5 f5
  below : Below w0.heap.size w0 w
section
variable {w0 w w' : World} {v : Value} {k n2 n3 n4 n5 n : Nat} {f2 f3 f4 f5 f : Lit → Option Value}
theorem below_grown {B b : Nat} (h : Below B w0 w) (hg : w.grownBy w' (some b)) (hB : B ≤ w.heap.size) (hb : B ≤ b) : Below B w0 w' :=
  h.trans ⟨hg.os, hg.tape, hg.output, hg.size, fun k hk => hg.block k (by omega) (by simp; omega)⟩
theorem holds_grown {p b : Nat} {t : TypeId} {cs : Array Value} (h : Holds w p t cs) (hg : w.grownBy w' (some b)) (hb : p ≠ b) : Holds w' p t cs := (hg.block p h.lt (by simpa using hb)).trans h
theorem MidAt.keep (h : MidAt w0 w v k n2 n3 n4 n5 f2 f3 f4 f5) (hb : Below w.heap.size w w') : MidAt w0 w' v k n2 n3 n4 n5 f2 f3 f4 f5 :=
  ⟨(hb.block _ h.box.lt).trans h.box, h.sess.below hb, h.taken.below hb, h.first.below hb, h.used.below hb, h.below.trans (hb.mono h.below.size)⟩
theorem MidAt.put2 (h : MidAt w0 w v k n2 n3 n4 n5 f2 f3 f4 f5) (hm : MapF w' Tryd.prog 3 w0.heap.size n f) (hg : w.grownBy w' (some w0.heap.size)) : MidAt w0 w' v k n n3 n4 n5 f f3 f4 f5 :=
  ⟨holds_grown h.box hg (by omega), hm, h.taken.kept hg (by simp), h.first.kept hg (by simp), h.used.kept hg (by simp), below_grown h.below hg h.below.size (by omega)⟩
theorem MidAt.put3 (h : MidAt w0 w v k n2 n3 n4 n5 f2 f3 f4 f5) (hm : MapF w' Tryd.prog 3 (w0.heap.size + 1) n f) (hg : w.grownBy w' (some (w0.heap.size + 1))) : MidAt w0 w' v k n2 n n4 n5 f2 f f4 f5 :=
  ⟨holds_grown h.box hg (by omega), h.sess.kept hg (by simp), hm, h.first.kept hg (by simp), h.used.kept hg (by simp), below_grown h.below hg h.below.size (by omega)⟩
theorem MidAt.put4 (h : MidAt w0 w v k n2 n3 n4 n5 f2 f3 f4 f5) (hm : MapF w' Tryd.prog 82 (w0.heap.size + 2) n f) (hg : w.grownBy w' (some (w0.heap.size + 2))) : MidAt w0 w' v k n2 n3 n n5 f2 f3 f f5 :=
  ⟨holds_grown h.box hg (by omega), h.sess.kept hg (by simp), h.taken.kept hg (by simp), hm, h.used.kept hg (by simp), below_grown h.below hg h.below.size (by omega)⟩
theorem MidAt.put5 (h : MidAt w0 w v k n2 n3 n4 n5 f2 f3 f4 f5) (hm : MapF w' Tryd.prog 3 (w0.heap.size + 3) n f) (hg : w.grownBy w' (some (w0.heap.size + 3))) : MidAt w0 w' v k n2 n3 n4 n f2 f3 f4 f :=
  ⟨holds_grown h.box hg (by omega), h.sess.kept hg (by simp), h.taken.kept hg (by simp), h.first.kept hg (by simp), hm, below_grown h.below hg h.below.size (by omega)⟩
theorem grown_set (w : World) (b i : Nat) (v : Value) : w.grownBy (w.setCell ⟨b, i, none⟩ v) (some b) :=
  have h := (Below.refl b w).setCell (p := ⟨b, i, none⟩) (Nat.le_refl _) v
  ⟨h.os, h.tape, h.output, h.size, fun k _ hne => heap_setCell_other w ⟨b, i, none⟩ k v fun e => hne (by rw [e])⟩
theorem MidAt.count (h : MidAt w0 w v k n2 n3 n4 n5 f2 f3 f4 f5) : MidAt w0 (w.setCell ⟨w0.heap.size + 4, 0, none⟩ (.int .i64 ((k + 1 : Nat) : Int))) v (k + 1) n2 n3 n4 n5 f2 f3 f4 f5 := by
  have hg := grown_set w (w0.heap.size + 4) 0 (.int .i64 ((k + 1 : Nat) : Int))
  exact ⟨h.box.set 0 _, h.sess.kept hg (by simp), h.taken.kept hg (by simp), h.first.kept hg (by simp), h.used.kept hg (by simp), below_grown h.below hg h.below.size (by omega)⟩
theorem MidAt.made (h : PastNew w v w') : MidAt w w' v 0 0 0 0 0 (fun _ => none) (fun _ => none) (fun _ => none) (fun _ => none) := ⟨h.box, h.sess, h.taken, h.first, h.used, h.below⟩
end
/-- A past of the events below a place. -/
def PastAt (w0 w : World) (v : Value) (S : List Int) (l : List EvV) (k : Nat) : Prop :=
  ∃ n2 n3 n4 n5 f2 f3 f4 f5, MidAt w0 w v k n2 n3 n4 n5 f2 f3 f4 f5 ∧ n2 ≤ k ∧ n3 ≤ k ∧ n4 ≤ k ∧ n5 ≤ k ∧ OfSess f2 (fun z => sessS S l z k) ∧ OfKeys f3 (fun z => aheadB l z k) ∧ OfMarks Tryd.prog f4 (fun m => fstM l m k) ∧ OfKeys f5 (usdK S l k)
theorem PastAt.keep {w0 w w' : World} {v : Value} {S : List Int} {l : List EvV} {k : Nat} (h : PastAt w0 w v S l k) (hb : Below w.heap.size w w') : PastAt w0 w' v S l k := by
  obtain ⟨n2, n3, n4, n5, f2, f3, f4, f5, hm, hr⟩ := h
  exact ⟨n2, n3, n4, n5, f2, f3, f4, f5, hm.keep hb, hr⟩
theorem PastAt.made {w w' : World} {v : Value} (h : PastNew w v w') (S : List Int) (l : List EvV) : PastAt w w' v S l 0 :=
  ⟨0, 0, 0, 0, _, _, _, _, MidAt.made h, Nat.le_refl _, Nat.le_refl _, Nat.le_refl _, Nat.le_refl _, fun _ _ _ => rfl, fun _ _ _ => by simp [aheadB], fun _ _ _ => rfl, fun _ _ _ => rfl⟩
section
variable {S : List Int} {l : List EvV} {k : Nat} {f : Lit → Option Value} {x : EvV}
theorem fstM_lt (m : MarkV) : ∀ {k i : Nat}, fstM l m k = some i → i < k
  | 0, i, h => by cases h
  | k + 1, i, h => by
    unfold fstM at h
    cases hf : fstM l m k with
    | some j =>
      rw [hf, Option.some.injEq] at h
      have := fstM_lt m hf
      omega
    | none =>
      rw [hf] at h
      cases hx : l[k]? with
      | none => simp [hx] at h
      | some x =>
        simp only [hx] at h
        by_cases e : markE x.ki x = m
        · rw [if_pos e, Option.some.injEq] at h
          omega
        · simp [e] at h
theorem srcK_lt {i : Nat} (h : srcK l k = some i) : i < k := by
  unfold srcK at h
  cases hx : l[k]? with
  | none => simp [hx] at h
  | some x =>
    simp only [hx] at h
    unfold sourceO at h
    split at h
    · exact fstM_lt _ h
    · split at h
      · exact fstM_lt _ h
      · split at h
        · exact fstM_lt _ h
        · cases h
theorem used_yes {i : Nat} (h : OfKeys f (usdK S l k)) (ha : askK S l k = true) (hs : srcK l k = some i) (v : Value) : OfKeys (putF f (keyI (i : Int)) v) (usdK S l (k + 1)) := fun z kl hk => by
  have hk' := key_int hk
  subst hk'
  rw [putF_key]
  unfold usdK
  rw [ha, hs]
  by_cases e : z = (i : Int)
  · subst e
    simp
  · rw [if_neg e, h z _ hk]
    simp [show ¬ (i : Int) = z from fun e' => e e'.symm]
theorem used_no (h : OfKeys f (usdK S l k)) (ha : askK S l k = false ∨ srcK l k = none) : OfKeys f (usdK S l (k + 1)) := fun z kl hk => by
  rw [h z kl hk]
  conv => rhs; unfold usdK
  rcases ha with ha | ha
  · rw [ha]; simp
  · rw [ha]; simp
set_option maxRecDepth 100000 in
theorem first_old (hx : l[k]? = some x) (h : OfMarks Tryd.prog f (fun m => fstM l m k)) (ho : (fstM l (markE x.ki x) k).isSome = true) : OfMarks Tryd.prog f (fun m => fstM l m (k + 1)) := fun m kl hk => by
  rw [h m kl hk]
  show intO _ = intO _
  congr 1
  show fstM l m k = fstM l m (k + 1)
  conv => rhs; unfold fstM
  cases hf : fstM l m k with
  | some i => rfl
  | none =>
    simp only [hx]
    rw [if_neg]
    rintro rfl
    rw [hf] at ho
    cases ho
set_option maxRecDepth 100000 in
theorem first_new (hx : l[k]? = some x) (h : OfMarks Tryd.prog f (fun m => fstM l m k)) (ho : (fstM l (markE x.ki x) k).isSome = false) {kl0 : Lit} (hl : WideAt.IsKeyLit kl0) (hk0 : keyOf Tryd.prog 82 (.agg (markE x.ki x).row.toArray) = some kl0) : OfMarks Tryd.prog (putF f kl0 (.int .i64 (k : Int))) (fun m => fstM l m (k + 1)) := fun m kl hk => by
  show _ = intO (fstM l m (k + 1))
  by_cases e : m = markE x.ki x
  · subst e
    rw [hk0, Option.some.injEq] at hk
    subst hk
    rw [putF_same hl]
    have hn : fstM l (markE x.ki x) k = none := by simpa using ho
    unfold fstM
    rw [hn]
    simp [hx, intO]
  · have hne : kl ≠ kl0 := by
      rintro rfl
      exact e (mark_key_inj hk hk0)
    rw [putF_other hne, h m kl hk]
    show intO (fstM l m k) = _
    congr 1
    conv => rhs; unfold fstM
    cases hf : fstM l m k with
    | some i => rfl
    | none =>
      simp only [hx]
      rw [if_neg fun e' => e e'.symm]
theorem ahead_succ (hx : l[k]? = some x) (z : Int) : aheadB l z ((k + 1 : Nat) : Int) = (aheadB l z (k : Int) || takenP z x) := by
  unfold aheadB
  rw [Int.toNat_natCast, Int.toNat_natCast, List.take_add_one, hx]
  simp
theorem taken_yes (hx : l[k]? = some x) (h : OfKeys f (fun z => aheadB l z (k : Int))) (h7 : x.ki = 7) (v : Value) : OfKeys (putF f (keyI x.wh) v) (fun z => aheadB l z ((k + 1 : Nat) : Int)) := fun z kl hk => by
  have hk' := key_int hk
  subst hk'
  rw [putF_key]
  show _ = aheadB l z ((k + 1 : Nat) : Int)
  rw [ahead_succ hx]
  by_cases e : z = x.wh
  · subst e
    simp [takenP, h7]
  · rw [if_neg e, h z _ hk]
    simp [takenP, show ¬ x.wh = z from fun e' => e e'.symm]
theorem taken_no (hx : l[k]? = some x) (h : OfKeys f (fun z => aheadB l z (k : Int))) (h7 : x.ki ≠ 7) : OfKeys f (fun z => aheadB l z ((k + 1 : Nat) : Int)) := fun z kl hk => by
  rw [h z kl hk]
  show _ = aheadB l z ((k + 1 : Nat) : Int)
  rw [ahead_succ hx]
  simp [takenP, h7]
theorem sess_yes (hx : l[k]? = some x) (h : OfSess f (fun z => sessS S l z k)) (h7 : x.ki ≠ 7) : OfSess (putF f (keyI x.se) (afterV S k x (sessS S l x.se k)).enc) (fun z => sessS S l z (k + 1)) := fun z kl hk => by
  have hk' := key_int hk
  subst hk'
  rw [putF_key]
  show _ = (sessS S l z (k + 1)).enc
  conv => rhs; unfold sessS
  simp only [hx]
  by_cases e : z = x.se
  · subst e
    rw [if_pos rfl, if_pos ⟨rfl, h7⟩]
    rfl
  · rw [if_neg e, if_neg (fun e' => e e'.1.symm)]
    exact h z _ hk
theorem sess_no (hx : l[k]? = some x) (h : OfSess f (fun z => sessS S l z k)) (h7 : x.ki = 7) : OfSess f (fun z => sessS S l z (k + 1)) := fun z kl hk => by
  show _ = (sessS S l z (k + 1)).enc
  conv => rhs; unfold sessS
  simp only [hx]
  rw [if_neg (fun e' => e'.2 h7)]
  exact h z kl hk
theorem sess_ex (S : List Int) (l : List EvV) (z : Int) : ∀ k, 0 ≤ (sessS S l z k).ex ∧ (sessS S l z k).ex ≤ k
  | 0 => ⟨Int.le_refl _, Int.le_refl _⟩
  | k + 1 => by
    have ih := sess_ex S l z k
    unfold sessS
    cases hx : l[k]? with
    | none =>
      simp only []
      omega
    | some x =>
      simp only []
      split
      · unfold afterV
        split
        · simp only []
          omega
        · split
          · simp only []
            omega
          · split
            · simp only []
              omega
            · split
              · simp only []
                omega
              · omega
      · omega
end
end Go.Proofs.YtpkkeeblgbdfdaaDoor
