/- Part 8 of what the statement wants. -/
import Derived.Test.YtobhpclemmhpoaaGreatDoorPk02
import Derived.Test.YtobhpclemmhpoaaGreatDoorPk07
namespace Go.Proofs.YtobhpclemmhpoaaGreatDoor
open Go.RowKit

theorem right_any {w : World} {v : Value} (x : RNode) (h : TextsAt w v (x.args.map bs)) (hl : x.args.length ≤ 1000) (h1 : x.k = 4 ∨ x.k = 6 → x.args ≠ []) :
    Calls Tryz.prog 90 #[rnodeV x v] w fun e w' => e = .returned (.bool (rightP x)) ∧ Below w.heap.size w w' := by
  obtain ⟨k, a, b, s, l⟩ := x
  simp only at *
  unfold rnodeV rightP
  by_cases h23 : k = 2 ∨ k = 3
  · rw [if_pos h23]; exact right_num k h23 a b (bs s) v w
  · rw [if_neg h23]
    by_cases h4 : k = 4
    · rw [if_pos h4]
      subst h4
      obtain ⟨ao, cap, rfl, hc⟩ := h
      cases l with
      | nil => exact absurd rfl (h1 (.inl rfl))
      | cons y r =>
        obtain ⟨bb, off, rfl, hb, hcell⟩ := hc (by simp)
        exact right_pub a b (bs s) y _ cap bb off w (by simp) hb (hcell 0 (bs y) (by simp))
    · rw [if_neg h4]
      by_cases h5 : k = 5
      · rw [if_pos h5]
        subst h5
        exact right_share a b s h hl
      · rw [if_neg h5]
        by_cases h6 : k = 6
        · rw [if_pos h6]
          subst h6
          obtain ⟨ao, cap, rfl, hc⟩ := h
          cases l with
          | nil => exact absurd rfl (h1 (.inr rfl))
          | cons y r =>
            obtain ⟨bb, off, rfl, hb, hcell⟩ := hc (by simp)
            exact right_sign a b s y _ cap bb off w (by simp) hb (hcell 0 (bs y) (by simp))
        · rw [if_neg h6]
          exact right_other k (fun j h2 h7 => by rw [beq_eq_false_iff_ne]; omega) a b (bs s) v w

/-- What stands ahead of a term's terms: its numbers and text, where that ends, whether it could be read, how many terms follow. -/
structure PHead where
  a : Nat
  b : Nat
  s : List UInt8
  e : Nat
  ok : Bool
  many : Nat
def headP (d : List UInt8) (k : Int) (e : Nat) : PHead :=
  if k = 1 then ⟨0, 0, (text4P d e).1, (text4P d e).2.1, (text4P d e).2.2, 0⟩
  else if k = 2 then (if (num4P d e).2 = true then ⟨(num4P d e).1, (num4P d (e + 4)).1, [], e + 8, (num4P d (e + 4)).2, 0⟩ else ⟨(num4P d e).1, 0, [], e + 8, false, 0⟩)
  else if k = 3 then ⟨(num4P d e).1, 0, [], e + 4, (num4P d e).2, 0⟩
  else if k = 4 ∨ k = 7 then ⟨0, 0, [], e, true, 1⟩
  else if k = 5 then (if (text4P d e).2.2 = true then ⟨0, 0, (text4P d e).1, (text4P d e).2.1 + 4, (num4P d (text4P d e).2.1).2 && decide ((num4P d (text4P d e).2.1).1 ≤ 8), (num4P d (text4P d e).2.1).1⟩ else ⟨0, 0, (text4P d e).1, (text4P d e).2.1 + 4, false, 0⟩)
  else if k = 6 then ⟨0, 0, (text4P d e).1, (text4P d e).2.1, (text4P d e).2.2, 2⟩
  else if k = 8 then (if e < d.length then ⟨0, byteAt d e, [], e + 1, true, 3⟩ else ⟨0, 0, [], e + 1, false, 3⟩)
  else if k = 9 then ⟨0, (num4P d e).1, [], e + 4, (num4P d e).2, 2⟩
  else if k = 10 then ⟨0, 0, [], e + 4, (num4P d e).2 && decide ((num4P d e).1 ≤ 32), (num4P d e).1⟩
  else ⟨0, 0, [], e, false, 0⟩
abbrev Parsed := RNode × Nat × Bool
def manyP (p : Nat → Parsed) (d : List UInt8) : Nat → Nat → List (List UInt8) × Nat × Bool
  | 0, e => ([], e, true)
  | n + 1, e => if (p e).2.2 = true then (cutL d e (p e).2.1 :: (manyP p d n (p e).2.1).1, (manyP p d n (p e).2.1).2) else ([], (p e).2.1, false)
def noRNode : RNode := ⟨0, 0, 0, [], []⟩
def restP (p : Nat → Parsed) (d : List UInt8) (at' : Nat) (k : Int) (h : PHead) : Parsed :=
  if h.ok = true ∧ (manyP p d h.many h.e).2.2 = true ∧ rightP ⟨k, h.a, h.b, h.s, (manyP p d h.many h.e).1⟩ = true then (⟨k, h.a, h.b, h.s, (manyP p d h.many h.e).1⟩, (manyP p d h.many h.e).2.1, true)
  else (noRNode, at', false)
def parseN : Nat → List UInt8 → Nat → Parsed
  | 0, _, k => (noRNode, k, false)
  | f + 1, d, k => if d.length ≤ k then (noRNode, k, false) else restP (parseN f d) d k ((byteAt d k : Int) - 240) (headP d ((byteAt d k : Int) - 240) (k + 1))

theorem num4P_ok {d : List UInt8} {e : Nat} (h : (num4P d e).2 = true) : e + 4 ≤ d.length := by
  unfold num4P at h
  split at h
  · assumption
  · simp at h
theorem num4P_lt (d : List UInt8) (e : Nat) : (num4P d e).1 < 4294967296 := by
  unfold num4P
  split
  · exact numAt_lt d e
  · simp
theorem text4P_ok {d : List UInt8} {e : Nat} (h : (text4P d e).2.2 = true) : e + 4 ≤ (text4P d e).2.1 ∧ (text4P d e).2.1 ≤ d.length := by
  unfold text4P at h ⊢
  split at h
  · rename_i hh
    rw [if_pos hh]
    simp only
    omega
  · simp at h
theorem text4P_le {d : List UInt8} {e : Nat} (he : e ≤ d.length) : (text4P d e).2.1 ≤ d.length := by
  unfold text4P
  split
  · rename_i hh; simp only; omega
  · exact he
theorem headP_ok {d : List UInt8} {k : Int} {e : Nat} (he : e ≤ d.length) (h : (headP d k e).ok = true) : e ≤ (headP d k e).e ∧ (headP d k e).e ≤ d.length ∧ (headP d k e).many ≤ 32 := by
  unfold headP at h ⊢
  repeat' split at h
  all_goals (try split)
  all_goals simp_all
  all_goals first
    | (have := text4P_ok h; omega)
    | (have := num4P_ok h; omega)
    | (have := num4P_ok h.1; omega)
    | omega
    | (have := num4P_ok h; have := h; omega)
    | (have := num4P_ok h.1; have := text4P_ok (d := d) (e := e) (by assumption); omega)
theorem headP_e {d : List UInt8} {k : Int} {e : Nat} (he : e ≤ d.length) : (headP d k e).e ≤ d.length + 8 := by
  have := text4P_le he
  unfold headP
  repeat' split
  all_goals (simp only; omega)
theorem headP_many {d : List UInt8} {k : Int} {e : Nat} : (headP d k e).many < 4294967296 := by
  have h1 := num4P_lt d e
  have h2 := num4P_lt d (text4P d e).2.1
  unfold headP
  repeat' split
  all_goals (simp only; omega)
theorem headP_one {d : List UInt8} {k : Int} {e : Nat} (h : k = 4 ∨ k = 6) : 0 < (headP d k e).many := by
  rcases h with rfl | rfl
  · simp [headP]
  · simp [headP]
end Go.Proofs.YtobhpclemmhpoaaGreatDoor

namespace Go.Proofs.YtobhpclemmhpoaaGreatDoor
open Go.RowKit

theorem manyP_ok {p : Nat → Parsed} {d : List UInt8} (hp : ∀ j, (p j).2.2 = true → j < (p j).2.1 ∧ (p j).2.1 ≤ d.length) : ∀ (n e : Nat), e ≤ d.length → (manyP p d n e).2.2 = true → e ≤ (manyP p d n e).2.1 ∧ (manyP p d n e).2.1 ≤ d.length ∧ (manyP p d n e).1.length = n
  | 0, e, he, _ => ⟨Nat.le_refl _, he, rfl⟩
  | n + 1, e, he, h => by
    unfold manyP at h ⊢
    split at h
    · rename_i hh
      rw [if_pos hh]
      have h1 := hp e hh
      have h2 := manyP_ok hp n (p e).2.1 h1.2 h
      simp only [List.length_cons]
      omega
    · simp at h
theorem parseN_ok (d : List UInt8) : ∀ (f k : Nat), (parseN f d k).2.2 = true → k < (parseN f d k).2.1 ∧ (parseN f d k).2.1 ≤ d.length
  | 0, k, h => by simp [parseN] at h
  | f + 1, k, h => by
    unfold parseN at h ⊢
    split at h
    · simp at h
    · rename_i hk
      rw [if_neg hk]
      unfold restP at h ⊢
      split at h
      · rename_i hh
        rw [if_pos hh]
        have h1 := headP_ok (d := d) (e := k + 1) (by omega) hh.1
        have h2 := manyP_ok (parseN_ok d f) _ _ h1.2.1 hh.2.1
        simp only
        omega
      · simp at h
theorem parseN_no (d : List UInt8) : ∀ (f k : Nat), (parseN f d k).2.2 = false → (parseN f d k).2.1 = k ∧ (parseN f d k).1 = noRNode
  | 0, k, _ => by simp [parseN]
  | f + 1, k, h => by
    unfold parseN at h ⊢
    split at h
    · rename_i hk
      rw [if_pos hk]; exact ⟨rfl, rfl⟩
    · rename_i hk
      rw [if_neg hk]
      unfold restP at h ⊢
      split at h
      · simp at h
      · rename_i hh
        rw [if_neg hh]; exact ⟨rfl, rfl⟩

theorem manyP_yes {p : Nat → Parsed} {d : List UInt8} {n e : Nat} (h : (p e).2.2 = true) : manyP p d (n + 1) e = (cutL d e (p e).2.1 :: (manyP p d n (p e).2.1).1, (manyP p d n (p e).2.1).2) := by
  show (if (p e).2.2 = true then _ else _) = _
  rw [if_pos h]
theorem manyP_no {p : Nat → Parsed} {d : List UInt8} {n e : Nat} (h : (p e).2.2 = false) : manyP p d (n + 1) e = ([], (p e).2.1, false) := by
  show (if (p e).2.2 = true then _ else _) = _
  rw [if_neg (by rw [h]; simp)]

/-- How far the loop has come. -/
structure StepP (p : Nat → Parsed) (d : List UInt8) (k : Nat) (H : PHead) (j E : Nat) (ok : Bool) (l : List (List UInt8)) : Prop where
  le : j ≤ H.many
  few : l.length ≤ 32
  yes : ok = true → H.ok = true ∧ k < E ∧ E ≤ d.length ∧ l.length = j ∧ manyP p d H.many H.e = (l ++ (manyP p d (H.many - j) E).1, (manyP p d (H.many - j) E).2)
  no : ok = false → H.ok = false ∨ (manyP p d H.many H.e).2.2 = false
theorem StepP.start {p : Nat → Parsed} {d : List UInt8} {k : Nat} {H : PHead} (h : H.ok = true → k < H.e ∧ H.e ≤ d.length) : StepP p d k H 0 H.e H.ok [] :=
  ⟨Nat.zero_le _, by simp, fun e => ⟨e, (h e).1, (h e).2, rfl, rfl⟩, fun e => .inl e⟩
theorem StepP.good {p : Nat → Parsed} {d : List UInt8} {k : Nat} {H : PHead} {j E : Nat} {l : List (List UInt8)} (h : StepP p d k H j E true l) (hm : H.ok = true → H.many ≤ 32) (hj : j < H.many) (hy : (p E).2.2 = true) (hE : E < (p E).2.1 ∧ (p E).2.1 ≤ d.length) :
    StepP p d k H (j + 1) (p E).2.1 true (l ++ [cutL d E (p E).2.1]) := by
  obtain ⟨h1, h2, h3, h4, h5⟩ := h.yes rfl
  refine ⟨by omega, ?_, fun _ => ⟨h1, by omega, hE.2, by simp; omega, ?_⟩, fun e => (by cases e)⟩
  · have := hm h1
    simp only [List.length_append, List.length_cons, List.length_nil]
    omega
  · rw [h5, show H.many - j = (H.many - (j + 1)) + 1 by omega]
    rw [manyP_yes hy]
    simp
theorem StepP.bad {p : Nat → Parsed} {d : List UInt8} {k : Nat} {H : PHead} {j E : Nat} {l : List (List UInt8)} (h : StepP p d k H j E true l) (hj : j < H.many) (hy : (p E).2.2 = false) (E' : Nat) : StepP p d k H (j + 1) E' false l := by
  obtain ⟨h1, h2, h3, h4, h5⟩ := h.yes rfl
  refine ⟨by omega, h.few, fun e => (by cases e), fun _ => .inr ?_⟩
  rw [h5, show H.many - j = (H.many - (j + 1)) + 1 by omega]
  rw [manyP_no hy]
theorem StepP.fail {p : Nat → Parsed} {d : List UInt8} {k : Nat} {H : PHead} {j E : Nat} {l : List (List UInt8)} (h : StepP p d k H j E false l) (K : Int) : restP p d k K H = (noRNode, k, false) := by
  unfold restP
  rw [if_neg]
  rintro ⟨h1, h2, _⟩
  rcases h.no rfl with h3 | h3
  · rw [h1] at h3; cases h3
  · rw [h2] at h3; cases h3
theorem StepP.done {p : Nat → Parsed} {d : List UInt8} {k : Nat} {H : PHead} {j E : Nat} {l : List (List UInt8)} (h : StepP p d k H j E true l) (hj : ¬ j < H.many) (K : Int) :
    restP p d k K H = if rightP ⟨K, H.a, H.b, H.s, l⟩ = true then (⟨K, H.a, H.b, H.s, l⟩, E, true) else (noRNode, k, false) := by
  obtain ⟨h1, h2, h3, h4, h5⟩ := h.yes rfl
  have h6 := h.le
  have h7 : H.many - j = 0 := by omega
  rw [h7] at h5
  simp only [manyP, List.append_nil] at h5
  unfold restP
  rw [h5]
  simp [h1]

theorem run_cell_tmp2 {P : Program} {fn : Func} {p u t : Tmp} {ty : TypeId} (h : fn.results = #[.cell p ty, .tmp u, .tmp t]) (tmps : Array Value) (w : World) (g : Nat) (cs : Array Value) (v x : Value) (d : TypeDesc)
    (hp : tmps.getD p undef = .pointer (some ⟨g, 0, none⟩)) (hv : tmps.getD u undef = v) (hx : tmps.getD t undef = x) (hg : Holds w g ty cs)
    (hu : P.underlying ty = some d) (hd : (match d with | .struct _ | .array _ _ => true | _ => false) = true) (hi : (P.info? ty).map (·.size) = some cs.size) :
    (results fn tmps).run P w = .ok (.tuple #[.agg cs, v, x]) w := by
  have hr : (results fn tmps).run P w = ((asAddr (tmps.getD p undef)).run P w).andThen fun a w₁ => ((loadVar ty a).run P w₁).andThen fun y w₂ => .ok (.tuple #[y, tmps.getD u undef, tmps.getD t undef]) w₂ := by
    simp only [results, h]
    simp [Sem.run_bind, Result.andThen]
  rw [hr, hp, hv, hx]
  simp [asAddr, run_loadVar_row w g ty ty cs (0, 0) d hg hu hd hi]

/-- Append of one text to a row of the call's own, as one step of a drawn region. -/
theorem step_append_str {ops : Array Oper} {o : Oper} {a : Act} {w : World} {K : Act → World → Prop} {Q : Exit → Act → World → Prop} {E : Prop} (hgd : o.guard = none) (s x : Operand)
    (hop : o.op = .call { callee := .builtin .append, args := #[s, x], argTypes := #[45, 45] }) (hty : o.type = 45) (B : Nat) (v : Value) (l : List ByteArray) (y : ByteArray) (n : Nat) (hn : l.length = n) (hs : a.eval s = v)
    (hown : w.ownsRow B 9 1 v n (strs l)) (X : Nat) (hx : a.eval x = .slice (some ⟨X, 0, none⟩) 1 1) (hX : w.cell? ⟨X, 0, none⟩ = some (.string y))
    (hlen : n < 100000) (hB : B ≤ w.heap.size)
    (h : ∀ g cap w', w'.ownsRow B 9 1 (.slice (some ⟨g, 0, none⟩) (n + 1) cap) (n + 1) (strs (l ++ [y])) → w.grownBy w' v.ownBlock → K (a.put o.dst (.slice (some ⟨g, 0, none⟩) (n + 1) cap)) w') :
    if Region.wanted o (yielded ops a.tmps) = true then Oper.wp Tryz.prog o a w K Q else E := by
  have hw : Region.wanted o (yielded ops a.tmps) = true := by simp [Region.wanted, hgd]
  rw [if_pos hw]
  obtain ⟨i0, hi, hz0, hz1, hz2⟩ := info_parts infoStr
  refine wp_append_own w s x 45 hop B 9 i0 (.string ⟨#[]⟩) 1 16 (by rw [← hty]; exact hty ▸ Tryz.underlying45) hi hz0 hz1 hz2 rfl (by decide) v n (strs l) hs hown ⟨X, 0, none⟩ 1 1 [.string y] hx rfl (fun j u hu => by
    cases j with
    | zero => simp at hu; rw [← hu]; exact hX
    | succ j => simp at hu) (str_one y) (by unfold maxLen; omega) (by omega) hB ?_
  intro v' w' h2 h3 _
  rw [← strs_snoc] at h2
  obtain ⟨g, cap', rfl⟩ : ∃ g cap', v' = .slice (some ⟨g, 0, none⟩) (n + 1) cap' := by
    rcases h2.2 with ⟨_, h⟩ | ⟨g, cap', _, h, _⟩
    · omega
    · exact ⟨g, cap', h⟩
  exact h g cap' w' h2 h3
end Go.Proofs.YtobhpclemmhpoaaGreatDoor
