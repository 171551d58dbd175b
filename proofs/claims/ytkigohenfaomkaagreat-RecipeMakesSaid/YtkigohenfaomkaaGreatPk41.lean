/- Part 41 of what the statement wants. -/
import Derived.Test.YtkigohenfaomkaaGreatPk34
import Derived.Test.YtkigohenfaomkaaGreatPk39
import Derived.Test.YtkigohenfaomkaaGreatPk40
namespace Go.Proofs.YtkigohenfaomkaaGreat
open Go.RowKit

theorem rpTake {L : List Ent} {l : List Int} {ts : List (List UInt8)} (h : TAts L l ts) : ∀ n, TAts L (l.take n) (ts.take n) := by
  induction h with
  | nil => intro n; simpa using TAts.nil
  | cons h _ ih =>
    intro n
    cases n with
    | zero => exact .nil
    | succ n => exact .cons h (ih n)
theorem rpDrop {L : List Ent} {l : List Int} {ts : List (List UInt8)} (h : TAts L l ts) : ∀ n, TAts L (l.drop n) (ts.drop n) := by
  induction h with
  | nil => intro n; simpa using TAts.nil
  | cons h k ih =>
    intro n
    cases n with
    | zero => exact .cons h k
    | succ n => exact ih n
theorem rpLt {L : List Ent} {l : List Int} {ts : List (List UInt8)} (h : TAts L l ts) : ∀ x ∈ l, x < (L.length : Int) := by
  induction h with
  | nil => simp
  | cons h _ ih =>
    intro x hx
    rcases List.mem_cons.1 hx with rfl | hx
    · rcases h with ⟨h1, _⟩ | ⟨n, h1, h2, _⟩ <;> omega
    · exact ih x hx
theorem rpPaired {L : List Ent} : ∀ {ids : List Int} {texts : List (List UInt8)}, Paired L ids texts → TAts L ids texts
  | [], [], _ => .nil
  | [], _ :: _, h => by have := h.len; simp at this
  | _ :: _, [], h => by have := h.len; simp at this
  | i :: ids, t :: texts, h => .cons (h.at_ 0 i t rfl rfl) (rpPaired ⟨by have := h.len; simpa using this, fun k a b h1 h2 => h.at_ (k + 1) a b (by simpa using h1) (by simpa using h2)⟩)
/-- The last step's term has the document's text. -/
theorem lastSame {L0 : List Ent} {known sent : List Int} {kt st : List (List UInt8)} (hG : Good L0) (hk : TAts L0 known kt) (hs : TAts L0 sent st) {l : List OpR} {L : List Ent} {rs : List Int} (h : StepsTo L0 L0.length known sent l L rs) (hl : l.length ≤ 64) (hlen : L0.length + l.length < 1073741824) :
    TAt L (atZ rs ((rs.length : Int) - 1)) (evalT kt st l) := by
  have hT := h.same hG hk (rpLt hk) hs (rpLt hs) hlen
  have hrl := h.lens
  unfold evalT
  by_cases h0 : l.length = 0
  · rw [if_pos (.inl h0), atZ_no (by omega)]
    exact .inl ⟨rfl, rfl⟩
  · rw [if_neg (by omega)]
    have := rpAt hT ((rs.length : Int) - 1)
    unfold atT at this
    rw [← hT.length, if_pos (by omega)] at this
    rw [show ((rs.length : Int) - 1).toNat = l.length - 1 by omega] at this
    exact this
theorem allOk {L0 : List Ent} {had : Int} {known sent : List Int} {kt st : List (List UInt8)} (hG : Good L0) (hk : TAts L0 known kt) (hkh : ∀ x ∈ known, x < had) (hs : TAts L0 sent st) (hsh : ∀ x ∈ sent, x < had)
    {l : List OpR} {L : List Ent} {rs : List Int} (h : StepsTo L0 had known sent l L rs) (hlen : L0.length + l.length < 1073741824) : ∀ k, k ≤ l.length → ∀ i, OkT (atT (runT kt st (l.take k)) i) := by
  induction h with
  | nil =>
    intro k _ i
    have : atT (runT kt st (([] : List OpR).take k)) i = [] := by simp [runT, atT]
    rw [this]
    exact okT_of Good.nil (.inl ⟨rfl, rfl⟩)
  | @snoc xs L rs o m h k ih =>
    intro j hj i
    simp only [List.length_append, List.length_cons, List.length_nil] at hlen hj
    by_cases hjx : j ≤ xs.length
    · rw [List.take_append_of_le_length hjx]
      exact ih (by omega) j hjx i
    · have hje : j = xs.length + 1 := by omega
      rw [List.take_of_length_le (by simp; omega)]
      have h2 : StepsTo L0 had known sent (xs ++ [o]) m.2 (rs ++ [m.1]) := .snoc h k
      have hT := h2.same hG hk hkh hs hsh (by simp; omega)
      exact okT_of (h2.grown hG (by simp; omega)).good (rpAt hT i)
set_option maxRecDepth 100000 in
theorem cEval_long {w : World} {A : Nat} (ao : Option Addr) (n cap : Nat) (hn : 64 < n) (hn2 : n ≤ 9223372036854775807) (vk vs : Value) :
    Calls Tryz.prog 10 #[.pointer (some ⟨A, 0, none⟩), vk, vs, .slice ao n cap] w fun r w' => r = .returned (.int .i64 (-1)) ∧ w' = w := by
  have HAll := Lib.hid (cAll_long (w := w) (A := A) ao n cap hn hn2 vk vs)
  have HAt := Lib.hid (cAt_any (w := w) (IdsAt.nil w) (-1))
  rw [atZ_no (by omega)] at HAt
  go_enter Tryz.func10, Tryz.ntmps10
  go_wp2_with (first
    | (go_at_call 9; (with_reducible refine HAll.out.mono ?_); rintro r w1 ⟨rfl, hw⟩; have hw := hw.symm; subst hw)
    | (go_at_call 22; (with_reducible refine HAt.out.mono ?_); rintro r w' ⟨rfl, hw⟩; have hw := hw.symm; subst hw))
  go_ret
  exact ⟨rfl, rfl⟩
end Go.Proofs.YtkigohenfaomkaaGreat

namespace Go.Proofs.YtkigohenfaomkaaGreat
open Go.RowKit

theorem IdsAt.takeS {w : World} {ao : Option Addr} {m cap : Nat} {l : List Int} (h : IdsAt w (.slice ao m cap) l) (n : Nat) (hn : n ≤ l.length) (c : Nat) : IdsAt w (.slice ao n c) (l.take n) := by
  obtain ⟨ao', cap', e, h⟩ := h
  injection e with e1 _ _
  subst e1
  refine ⟨ao, c, by rw [List.length_take, Nat.min_eq_left hn], fun hne => ?_⟩
  obtain ⟨b, off, h1, h2, h3⟩ := h (by rintro rfl; simp at hne)
  refine ⟨b, off, h1, h2, fun j x hj => h3 j x ?_⟩
  by_cases hjk : j < n
  · rwa [List.getElem?_take_of_lt hjk] at hj
  · rw [List.getElem?_eq_none (by simp; omega)] at hj
    simp at hj
theorem IdsAt.dropS {w : World} {b off m cap : Nat} {l : List Int} (h : IdsAt w (.slice (some ⟨b, off, none⟩) m cap) l) (n : Nat) (c : Nat) : IdsAt w (.slice (some ⟨b, off + n, none⟩) (l.length - n) c) (l.drop n) := by
  obtain ⟨ao', cap', e, h⟩ := h
  injection e with e1 _ _
  subst e1
  refine ⟨_, c, by rw [List.length_drop], fun hne => ?_⟩
  obtain ⟨b', off', h1, h2, h3⟩ := h (by rintro rfl; simp at hne)
  injection h1 with h1
  injection h1 with h1 h4
  subst h1 h4
  refine ⟨b, off + n, rfl, h2, fun j x hj => ?_⟩
  rw [List.getElem?_drop] at hj
  rw [Nat.add_assoc]
  exact h3 (n + j) x hj
theorem IdsAt.dropAll {w : World} (ao : Option Addr) (c : Nat) {l : List Int} (n : Nat) (hn : l.length ≤ n) : IdsAt w (.slice ao 0 c) (l.drop n) :=
  ⟨ao, c, by rw [List.length_drop, Nat.sub_eq_zero_of_le hn], fun hne => absurd (List.drop_eq_nil_of_le hn) hne⟩
theorem TextsAt.dropS {w : World} {b off m cap : Nat} {l : List ByteArray} (h : TextsAt w (.slice (some ⟨b, off, none⟩) m cap) l) (n : Nat) (c : Nat) : TextsAt w (.slice (some ⟨b, off + n, none⟩) (l.length - n) c) (l.drop n) := by
  obtain ⟨ao', cap', e, h⟩ := h
  injection e with e1 _ _
  subst e1
  refine ⟨_, c, by rw [List.length_drop], fun hne => ?_⟩
  obtain ⟨b', off', h1, h2, h3⟩ := h (by rintro rfl; simp at hne)
  injection h1 with h1
  injection h1 with h1 h4
  subst h1 h4
  refine ⟨b, off + n, rfl, h2, fun j x hj => ?_⟩
  rw [List.getElem?_drop] at hj
  rw [Nat.add_assoc]
  exact h3 (n + j) x hj
theorem TextsAt.dropAll {w : World} (ao : Option Addr) (c : Nat) {l : List ByteArray} (n : Nat) (hn : l.length ≤ n) : TextsAt w (.slice ao 0 c) (l.drop n) :=
  ⟨ao, c, by rw [List.length_drop, Nat.sub_eq_zero_of_le hn], fun hne => absurd (List.drop_eq_nil_of_le hn) hne⟩
end Go.Proofs.YtkigohenfaomkaaGreat

namespace Go.Proofs.YtkigohenfaomkaaGreat
open Go.RowKit

theorem cutI_elem : Tryz.prog.elem 29 = 35 := by kernel_rfl
theorem cutI_under : Tryz.prog.underlying 29 = some (.slice (Tryz.prog.elem 29)) := by rw [cutI_elem]; exact Tryz.underlying29
theorem cutI_size (w : World) : (sizeOf (Tryz.prog.elem 29)).run Tryz.prog w = .ok 1 w := by
  obtain ⟨i0, hi, hz0, hz1, hz2⟩ := info_parts info_id
  rw [cutI_elem]
  simp [sizeOf, typeInfo, hi, hz1]
theorem cutT_elem : Tryz.prog.elem 30 = 9 := by kernel_rfl
theorem cutT_under : Tryz.prog.underlying 30 = some (.slice (Tryz.prog.elem 30)) := by rw [cutT_elem]; exact Tryz.underlying30
theorem cutT_size (w : World) : (sizeOf (Tryz.prog.elem 30)).run Tryz.prog w = .ok 1 w := by
  obtain ⟨i0, hi, hz0, hz1, hz2⟩ := info_parts infoStr
  rw [cutT_elem]
  simp [sizeOf, typeInfo, hi, hz1]
/-- A cut's own address. -/
def cutA (ao : Option Addr) (n cap : Nat) : Option Addr := if cap = n then ao else ao.map (·.add (n * 1))
theorem cutI_h (ao : Option Addr) (m cap n : Nat) (hn : n ≤ cap) (W : World) : (Instr.slice 29 (.slice ao m cap) none (some (.int .i64 (n : Int))) none).run Tryz.prog W = .ok (.slice (cutA ao 0 cap) n cap) W := by
  have h := run_slice_h (P := Tryz.prog) W 29 ao m cap cutI_under .i64 (n : Int) (by omega) (by omega)
  rw [cutI_size] at h
  exact h
theorem cutI_l (ao : Option Addr) (m cap n : Nat) (hn : n ≤ m) (W : World) : (Instr.slice 29 (.slice ao m cap) (some (.int .i64 (n : Int))) none none).run Tryz.prog W = .ok (.slice (cutA ao n cap) (m - n) (cap - n)) W := by
  have h := run_slice_l (P := Tryz.prog) W 29 ao m cap cutI_under .i64 (n : Int) (by omega) (by omega)
  rw [cutI_size] at h
  exact h
theorem cutT_h (ao : Option Addr) (m cap n : Nat) (hn : n ≤ cap) (W : World) : (Instr.slice 30 (.slice ao m cap) none (some (.int .i64 (n : Int))) none).run Tryz.prog W = .ok (.slice (cutA ao 0 cap) n cap) W := by
  have h := run_slice_h (P := Tryz.prog) W 30 ao m cap cutT_under .i64 (n : Int) (by omega) (by omega)
  rw [cutT_size] at h
  exact h
theorem cutT_l (ao : Option Addr) (m cap n : Nat) (hn : n ≤ m) (W : World) : (Instr.slice 30 (.slice ao m cap) (some (.int .i64 (n : Int))) none none).run Tryz.prog W = .ok (.slice (cutA ao n cap) (m - n) (cap - n)) W := by
  have h := run_slice_l (P := Tryz.prog) W 30 ao m cap cutT_under .i64 (n : Int) (by omega) (by omega)
  rw [cutT_size] at h
  exact h
theorem cutA_lit (b off n cap : Nat) : cutA (some ⟨b, off, none⟩) n cap = some ⟨b, if cap = n then off else off + n, none⟩ := by
  unfold cutA
  split <;> simp [Addr.add_lit]
theorem cutI_take {w : World} {ao : Option Addr} {m cap : Nat} {l : List Int} (h : IdsAt w (.slice ao m cap) l) (n : Nat) (hn : n ≤ l.length) (c : Nat) : IdsAt w (.slice (cutA ao 0 cap) n c) (l.take n) := by
  by_cases hl : l = []
  · subst hl
    exact ⟨cutA ao 0 cap, c, by simp at hn; simp [hn], fun h => by simp at h⟩
  · obtain ⟨ao', cap', e, h'⟩ := id h
    injection e with e1 e2 e3
    subst e1 e3
    obtain ⟨b, off, rfl, _⟩ := h' hl
    rw [cutA_lit]
    have : (if cap = 0 then off else off + 0) = off := by split <;> rfl
    rw [this]
    exact h.takeS n hn c
theorem cutI_drop {w : World} {ao : Option Addr} {m cap : Nat} {l : List Int} (h : IdsAt w (.slice ao m cap) l) (hc : m ≤ cap) (n : Nat) (hn : n ≤ l.length) (c : Nat) : IdsAt w (.slice (cutA ao n cap) (m - n) c) (l.drop n) := by
  have hm : m = l.length := by
    obtain ⟨_, _, e, _⟩ := h
    injection e
  by_cases hln : l.length = n
  · rw [hm, hln, Nat.sub_self]
    exact IdsAt.dropAll _ c n (by omega)
  · obtain ⟨ao', cap', e, h'⟩ := id h
    injection e with e1 e2 e3
    subst e1 e3
    obtain ⟨b, off, rfl, _⟩ := h' (by rintro rfl; simp at hn hln; omega)
    rw [cutA_lit, if_neg (by omega), hm]
    exact h.dropS n c
theorem cutT_take {w : World} {ao : Option Addr} {m cap : Nat} {l : List ByteArray} (h : TextsAt w (.slice ao m cap) l) (n : Nat) (hn : n ≤ l.length) (c : Nat) : TextsAt w (.slice (cutA ao 0 cap) n c) (l.take n) := by
  have hm : m = l.length := by
    obtain ⟨_, _, e, _⟩ := h
    injection e
  by_cases hl : l = []
  · subst hl
    exact ⟨cutA ao 0 cap, c, by simp at hn; simp [hn], fun h => by simp at h⟩
  · obtain ⟨ao', cap', e, h'⟩ := id h
    injection e with e1 e2 e3
    subst e1 e3
    obtain ⟨b, off, rfl, _⟩ := h' hl
    rw [cutA_lit]
    have : (if cap = 0 then off else off + 0) = off := by split <;> rfl
    rw [this]
    subst hm
    exact h.take hn c
theorem cutT_drop {w : World} {ao : Option Addr} {m cap : Nat} {l : List ByteArray} (h : TextsAt w (.slice ao m cap) l) (hc : m ≤ cap) (n : Nat) (hn : n ≤ l.length) (c : Nat) : TextsAt w (.slice (cutA ao n cap) (m - n) c) (l.drop n) := by
  have hm : m = l.length := by
    obtain ⟨_, _, e, _⟩ := h
    injection e
  by_cases hln : l.length = n
  · rw [hm, hln, Nat.sub_self]
    exact TextsAt.dropAll _ c n (by omega)
  · obtain ⟨ao', cap', e, h'⟩ := id h
    injection e with e1 e2 e3
    subst e1 e3
    obtain ⟨b, off, rfl, _⟩ := h' (by rintro rfl; simp at hn hln; omega)
    rw [cutA_lit, if_neg (by omega), hm]
    exact h.dropS n c
theorem cut_own {ao : Option Addr} {n cap m c m' c' k : Nat} (h : Value.ownBlock (.slice (cutA ao n cap) m c) = some k) : Value.ownBlock (.slice ao m' c') = some k := by
  cases ao with
  | none => unfold cutA at h; split at h <;> simp [Value.ownBlock] at h
  | some a =>
    have e : cutA (some a) n cap = some (if cap = n then a else a.add (n * 1)) := by unfold cutA; split <;> rfl
    rw [e] at h
    simp only [Value.ownBlock, Option.some.injEq] at h ⊢
    rw [← h]
    split
    · rfl
    · unfold Addr.add
      split <;> rfl
end Go.Proofs.YtkigohenfaomkaaGreat
