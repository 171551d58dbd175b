/- Layer 13: drain. -/
import Derived.Test.YtlalkpgipenkaaaSx5
import Derived.Test.YtlalkpgipenkaaaSx7
import Derived.Test.YtlalkpgipenkaaaOwnM
import Derived.Test.YtlalkpgipenkaaaStrs
import Derived.LoopTactic
import Derived.Deep.AppendLies
namespace Go.Proofs.Ytlalkpgipenkaaa
open Go.RowKit

/-- A stream at X, and a row of the strings taken so far. -/
def DrAt (B X : Nat) (l : List UInt8) (e : Nat) (v : Value) (its : List (List UInt8)) (G : Nat → Prop) (w : World) : Prop :=
  ∃ F, StAt B X l e F w ∧ w.ownsRow B 9 1 v its.length (strs (its.map bs)) ∧ G = fun k => F k ∨ v.ownBlock = some k
def DrLeft (B X : Nat) (l : List UInt8) (e : Nat) (v : Value) (its : List (List UInt8)) (G : Nat → Prop) (w w' : World) : Prop :=
  ∃ G', DrAt B X l e v its G' w' ∧ Moves G w w' ∧ ∀ k, G' k → G k ∨ w.heap.size ≤ k
theorem DrAt.lt {B X : Nat} {l : List UInt8} {e : Nat} {v : Value} {its : List (List UInt8)} {G : Nat → Prop} {w : World} (h : DrAt B X l e v its G w) : ∀ k, G k → B ≤ k ∧ k < w.heap.size := by
  obtain ⟨F, h1, h2, rfl⟩ := h
  rintro k (hk | hk)
  · exact h1.lt k hk
  · exact h2.lt k hk
theorem DrAt.moves {B X : Nat} {l : List UInt8} {e : Nat} {v : Value} {its : List (List UInt8)} {G S : Nat → Prop} {w w' : World} (h : DrAt B X l e v its G w) (m : Moves S w w') (hS : ∀ k, G k → ¬ S k) : DrAt B X l e v its G w' := by
  obtain ⟨F, h1, h2, rfl⟩ := h
  exact ⟨F, h1.moves m (fun k hk => hS k (.inl hk)), owns_moves h2 m (fun k hk => hS k (.inr hk)), rfl⟩
theorem DrAt.same {B X : Nat} {l : List UInt8} {e : Nat} {v : Value} {its : List (List UInt8)} {G : Nat → Prop} {w : World} (h : DrAt B X l e v its G w) : DrLeft B X l e v its G w w := ⟨G, h, Moves.refl _ _, fun _ hk => .inl hk⟩
theorem DrLeft.trans {B X : Nat} {l' : List UInt8} {e' : Nat} {v' : Value} {its' : List (List UInt8)} {G G1 : Nat → Prop} {w w1 w' : World} (m : Moves G w w1) (f : ∀ k, G1 k → G k ∨ w.heap.size ≤ k) (h : DrLeft B X l' e' v' its' G1 w1 w') : DrLeft B X l' e' v' its' G w w' := by
  obtain ⟨G', h1, h2, h3⟩ := h
  exact ⟨G', h1, m.trans h2 (fun i hi => f i hi), fun k hk => by
    rcases h3 k hk with h | h
    · exact f k h
    · exact .inr (Nat.le_trans m.size h)⟩
theorem rowSl {w : World} {B n s : Nat} {t : TypeId} {v : Value} {xs : List Value} (h : w.ownsRow B t s v n xs) : ∃ ao c, v = .slice ao n c := by
  rcases h.2 with ⟨rfl, h0⟩ | ⟨g, cap, cur, rfl, _⟩
  · exact ⟨none, 0, by rw [h0]⟩
  · exact ⟨_, _, rfl⟩
theorem StAt.row {B X : Nat} {l : List UInt8} {e n : Nat} {v : Value} {xs : List Value} {F : Nat → Prop} {w : World} (h : StAt B X l e F w) (hr : w.ownsRow B 9 1 v n xs) : ∀ k, v.ownBlock = some k → ¬ F k := by
  obtain ⟨u, h1, h2, h3, rfl⟩ := h
  intro k hk
  rintro (rfl | hu)
  · exact own_ne hr h1 (by decide) hk
  · rcases hr.2 with ⟨rfl, _⟩ | ⟨g, cap, cur, rfl, _, hg, _⟩
    · simp [Value.ownBlock] at hk
    · have : g = k := by simpa [Value.ownBlock] using hk
      subst this
      exact h2.ne hg (by decide) hu
/-- The stream has been asked. -/
theorem DrAt.took {B X : Nat} {l l' : List UInt8} {e e' : Nat} {v : Value} {its : List (List UInt8)} {F : Nat → Prop} {w w1 : World} (h : StAt B X l e F w) (hr : w.ownsRow B 9 1 v its.length (strs (its.map bs))) (h1 : StLeft B X l' e' F w w1) : DrLeft B X l' e' v its (fun k => F k ∨ v.ownBlock = some k) w w1 := by
  obtain ⟨F', s1, m1, f1⟩ := h1
  refine ⟨_, ⟨F', s1, owns_moves hr m1 (h.row hr), rfl⟩, m1.mono (fun i hi _ => .inl hi), fun k hk => ?_⟩
  rcases hk with hk | hk
  · exact (f1 k hk).imp_left .inl
  · exact .inl (.inr hk)
/-- A string is appended. -/
theorem DrAt.put {B X : Nat} {l : List UInt8} {e : Nat} {v v' : Value} {its : List (List UInt8)} {G : Nat → Prop} {w w1 w2 : World} (h : DrAt B X l e v its G w) (m1 : Moves nobody w w1) (x : List UInt8)
    (hr : w2.ownsRow B 9 1 v' (its.length + 1) (strs (its.map bs) ++ [.string (bs x)])) (hg : w1.grownBy w2 v.ownBlock) (hf : ∀ k, v'.ownBlock = some k → v.ownBlock = some k ∨ w.heap.size ≤ k) : DrLeft B X l e v' (its ++ [x]) G w w2 := by
  obtain ⟨F, s, r, rfl⟩ := h
  have m2 : Moves (fun k => v.ownBlock = some k) w w2 := (m1.mono (T := fun k => v.ownBlock = some k) (fun _ h _ => h.elim)).grown hg (fun k hk => .inl hk)
  refine ⟨_, ⟨F, s.moves m2 (fun k hk hv => s.row r k hv hk), ?_, rfl⟩, m2.mono (fun i hi _ => .inr hi), fun k hk => ?_⟩
  · have e1 : (its ++ [x]).length = its.length + 1 := by simp
    have e2 : strs ((its ++ [x]).map bs) = strs (its.map bs) ++ [.string (bs x)] := by rw [List.map_append, List.map_cons, List.map_nil, strs_snoc]
    rw [e1, e2]
    exact hr
  · rcases hk with hk | hk
    · exact .inl (.inl hk)
    · exact (hf k hk).imp_left .inr

theorem wpList_put13 {ops : Array Oper} {rest : List Oper} {o : Oper} {a : Act} {w w1 : World} {Q : Exit → Act → World → Prop} (hgd : o.guard = none) (sl x : Operand)
    (ho : o.op = .call { callee := .builtin .append, args := #[sl, x], argTypes := #[40, 40] }) {B X : Nat} {l : List UInt8} {e : Nat} {v : Value} {its : List (List UInt8)} {G : Nat → Prop}
    (h : DrAt B X l e v its G w) (y : List UInt8) (hw : w1 = w.alloc (.cells #[.string (bs y)] 9)) (hs : a.eval sl = v) (hx : a.eval x = .slice (some ⟨w.heap.size, 0, none⟩) 1 1) (hn : its.length ≤ 1000000) (hB : B ≤ w.heap.size) {n1 : Nat} (hn1 : its.length + 1 = n1)
    (k : ∀ g c w', DrLeft B X l e (.slice (some ⟨g, 0, none⟩) n1 c) (its ++ [y]) G w w' → wpList Try.prog ops Q rest (a.put o.dst (.slice (some ⟨g, 0, none⟩) n1 c)) w') : wpList Try.prog ops Q (o :: rest) a w1 := by
  subst hw
  subst hn1
  obtain ⟨i0, hi, hz0, hz1, hz2⟩ := info_parts infoStr
  have H := h
  obtain ⟨F, s, r, rfl⟩ := h
  refine wpList_append_lies _ hgd sl x 40 ho B 9 i0 (.string ⟨#[]⟩) 1 16 Try.underlying40 hi hz0 hz1 hz2 rfl (by decide) v its.length (strs (its.map bs)) hs (r.alloc _) ⟨w.heap.size, 0, none⟩ 1 1 [.string (bs y)] hx rfl (cell_one_new w _ _) (str_one _) (by omega) (by unfold maxLen; omega) (by omega) (by simp; omega) (w.heap.size + 1) (by simp) ?_
  intro g c w2 hown hg hat _
  refine k g c w2 (DrAt.put H ((Moves.refl nobody w).alloc _) y hown hg fun k hk => ?_)
  have hk' : g = k := by simpa [Value.ownBlock] using hk
  subst hk'
  rcases hat with h | h
  · exact .inl h
  · exact .inr (by omega)

theorem drainP_yes (l : List UInt8) (e : Nat) : drainP true l e = ((drainU 600 l e).1, true, (drainU 600 l e).2) := rfl
theorem drainU_no {n : Nat} {l : List UInt8} {e : Nat} (h : (stTake (stUnit l) l e).2.1 = false) : drainU (n + 1) l e = ([], (stTake (stUnit l) l e).2.2.2) := by
  rw [drainU, if_neg (by rw [h]; simp)]
theorem drainU_on {n : Nat} {l : List UInt8} {e : Nat} (h : (stTake (stUnit l) l e).2.1 = true) : drainU (n + 1) l e = ((stTake (stUnit l) l e).1 :: (drainU n (stTake (stUnit l) l e).2.2.2.1 (stTake (stUnit l) l e).2.2.2.2).1, (drainU n (stTake (stUnit l) l e).2.2.2.1 (stTake (stUnit l) l e).2.2.2.2).2) := by
  rw [drainU, if_pos h]

/-- The calls, as the walk meets them. -/
theorem DrAt.unit {B X : Nat} {l : List UInt8} {e : Nat} {v : Value} {its : List (List UInt8)} {G : Nat → Prop} {w : World} (h : DrAt B X l e v its G w) (hl : l.length ≤ 2000) :
    Calls Try.prog 13 #[.pointer (some ⟨X, 0, none⟩)] w fun r w' => r = .returned (.tuple #[.string (bs (stTake (stUnit l) l e).1), .bool (stTake (stUnit l) l e).2.1, .int .i64 ((stTake (stUnit l) l e).2.2.1 : Int)]) ∧ DrLeft B X (stTake (stUnit l) l e).2.2.2.1 (stTake (stUnit l) l e).2.2.2.2 v its G w w' := by
  obtain ⟨F, s, r, rfl⟩ := h
  exact (xUnit_any s (by omega)).mono fun a w' ⟨h1, h2⟩ => ⟨h1, DrAt.took s r h2⟩
theorem DrAt.line {B X : Nat} {l : List UInt8} {e : Nat} {v : Value} {its : List (List UInt8)} {G : Nat → Prop} {w : World} (h : DrAt B X l e v its G w) (hl : l.length ≤ 2000) :
    Calls Try.prog 11 #[.pointer (some ⟨X, 0, none⟩)] w fun r w' => r = .returned (.tuple #[.string (bs (stTake (lnScan l) l e).1), .bool (stTake (lnScan l) l e).2.1, .int .i64 ((stTake (lnScan l) l e).2.2.1 : Int)]) ∧ DrLeft B X (stTake (lnScan l) l e).2.2.2.1 (stTake (lnScan l) l e).2.2.2.2 v its G w w' := by
  obtain ⟨F, s, r, rfl⟩ := h
  exact (xLine_any s (by omega)).mono fun a w' ⟨h1, h2⟩ => ⟨h1, DrAt.took s r h2⟩
theorem DrLeft.on {B X : Nat} {l l' : List UInt8} {e e' : Nat} {v v' : Value} {its its' : List (List UInt8)} {G : Nat → Prop} {w w1 w' : World} (h : DrLeft B X l e v its G w w1) (k : ∀ G1, DrAt B X l e v its G1 w1 → DrLeft B X l' e' v' its' G1 w1 w') : DrLeft B X l' e' v' its' G w w' := by
  obtain ⟨G1, h1, m, f⟩ := h
  exact DrLeft.trans m f (k G1 h1)

/-- How far the units have been taken. -/
structure DrGoes (B X : Nat) (l : List UInt8) (e : Nat) (its : List (List UInt8)) (G : Nat → Prop) (w : World) (k : Nat) (v : Value) (wr : World) (l2 : List UInt8) (e2 : Nat) (done : List (List UInt8)) : Prop where
  at_ : DrLeft B X l2 e2 v (its ++ done) G w wr
  eq : drainU 600 l e = (done ++ (drainU (600 - k) l2 e2).1, (drainU (600 - k) l2 e2).2)
  len : l2.length ≤ 2000
  many : done.length ≤ k

theorem DrGoes.form {B X : Nat} {l : List UInt8} {e : Nat} {its : List (List UInt8)} {G : Nat → Prop} {w : World} {k : Nat} {v : Value} {wr : World} {l2 : List UInt8} {e2 : Nat} {done : List (List UInt8)} (h : DrGoes B X l e its G w k v wr l2 e2 done) : ∃ a c, v = .slice a (its ++ done).length c := by
  obtain ⟨G1, ⟨F, s, r, _⟩, _⟩ := h.at_
  exact rowSl r
set_option maxHeartbeats 1000000 in
set_option maxRecDepth 100000 in
/-- The loop over units, from wherever it begins. -/
theorem DrGoes.step {B X : Nat} {l : List UInt8} {e : Nat} {its : List (List UInt8)} {G : Nat → Prop} {w : World} {k : Nat} {v : Value} {wr : World} {l2 : List UInt8} {e2 : Nat} {done : List (List UInt8)} (h : DrGoes B X l e its G w k v wr l2 e2 done) (hk : k < 600) :
    Calls Try.prog 13 #[.pointer (some ⟨X, 0, none⟩)] wr fun r w' => r = .returned (.tuple #[.string (bs (stTake (stUnit l2) l2 e2).1), .bool (stTake (stUnit l2) l2 e2).2.1, .int .i64 ((stTake (stUnit l2) l2 e2).2.2.1 : Int)]) ∧
      DrLeft B X (stTake (stUnit l2) l2 e2).2.2.2.1 (stTake (stUnit l2) l2 e2).2.2.2.2 v (its ++ done) G w w' := by
  obtain ⟨G1, a1, m1, f1⟩ := h.at_
  exact (a1.unit h.len).mono fun r w' ⟨h1, h2⟩ => ⟨h1, DrLeft.trans m1 f1 h2⟩
end Go.Proofs.Ytlalkpgipenkaaa
