/- Part 42 of what the statement wants. -/
import Derived.Test.YtkigohenfaomkaaGreatPk40
import Derived.Test.YtkigohenfaomkaaGreatPk41
namespace Go.Proofs.YtkigohenfaomkaaGreat
open Go.RowKit

theorem movesT {S : Nat → Prop} {w w' : World} {v : Value} {l : List ByteArray} (h : TextsAt w v l) (m : Moves S w w') (hS : ∀ k, v.ownBlock = some k → ¬ S k) : TextsAt w' v l :=
  h.keep m.size fun b off cap i hv hb => m.cell (p := ⟨b, i, none⟩) hb (hS b (by rw [hv]; rfl))
/-- Encode, by a term's text. -/
theorem encT {B A : Nat} {L : List Ent} {F : Nat → Prop} {w : World} (ha : ArenaAt B A L F w) (hG : Good L) {x : Int} {t : List UInt8} (h : TAt L x t) : Calls Tryz.prog 11 #[.pointer (some ⟨A, 0, none⟩), .int .i64 x] w fun r w' => r = .returned (.string (bs t)) ∧ Below w.heap.size w w' := by
  have hs := h.short hG
  rcases h with ⟨rfl, rfl⟩ | ⟨n, rfl, hn, rfl⟩
  · exact Encode_no ha (-1) (.inl (by omega))
  · refine Encode_any ha (fun n e he => ?_) (List.getElem?_eq_getElem hn) (by omega)
    have := hG.sh n e he
    obtain ⟨sh, z⟩ := e
    simp only at this ⊢
    cases this <;> simp
    assumption
/-- An arena, and a slice of its terms beside their texts. -/
structure Kn (B A : Nat) (L : List Ent) (F : Nat → Prop) (w : World) (ai : Option Addr) (m ci : Nat) (ids : List Int) (texts : List (List UInt8)) : Prop where
  ar : ArenaAt B A L F w
  good : Good L
  few : L.length ≤ 100000
  row : IdsAt w (.slice ai m ci) ids
  cap : m ≤ ci
  same : TAts L ids texts
  far : ∀ k, Value.ownBlock (.slice ai m ci) = some k → k < w.heap.size ∧ ¬ F k
section
variable {B A : Nat} {L : List Ent} {F : Nat → Prop} {w : World} {ai ao : Option Addr} {m ci cap n : Nat} {ids : List Int} {texts : List (List UInt8)} {ops : List OpR}
theorem Kn.len (h : Kn B A L F w ai m ci ids texts) : m = ids.length := by
  obtain ⟨_, _, e, _⟩ := h.row
  injection e
theorem Kn.next (h : Kn B A L F w ai m ci ids texts) {L' : List Ent} {F' : Nat → Prop} {w' : World} (ha : ArenaAt B A L' F' w') (hG : Good L') (hp : L <+: L') (hl : L'.length ≤ 100000) (hm : Moves F w w') (hF : ∀ i, F' i → F i ∨ w.heap.size ≤ i) : Kn B A L' F' w' ai m ci ids texts :=
  ⟨ha, hG, hl, h.row.moves hm fun k e => (h.far k e).2, h.cap, rpPre hG hp h.same, fun k e => ⟨Nat.lt_of_lt_of_le (h.far k e).1 hm.size, fun hf => by
    have := h.far k e
    rcases hF k hf with h1 | h1
    · exact this.2 h1
    · omega⟩⟩
theorem Kn.drew (h : Kn B A L F w ai m ci ids texts) : Kn B A L F w.drew ai m ci ids texts :=
  ⟨h.ar.moves (S := nobody) ((Moves.refl nobody w).drew) (fun _ _ h => h), h.good, h.few, h.row, h.cap, h.same, h.far⟩
theorem Kn.all (h : Kn B A L F w ai m ci ids texts) (hn : n ≤ m) (ho : OpsAt w (.slice ao ops.length cap) ops) (no : ops ≠ [] → ∀ k, Value.ownBlock (.slice ao ops.length cap) = some k → ¬ F k) (hl : ops.length ≤ 70) (hS : ∀ o ∈ ops, o.s.length ≤ 200) :
    Calls Tryz.prog 9 #[.pointer (some ⟨A, 0, none⟩), .slice (cutA ai 0 ci) n ci, .slice (cutA ai n ci) (m - n) (ci - n), .slice ao ops.length cap] w fun r w' => ∃ L' rs ar cr F', r = .returned (.slice ar rs.length cr) ∧ IdsAt w' (.slice ar rs.length cr) rs ∧ ArenaAt B A L' F' w' ∧ Good L' ∧ L <+: L' ∧ L'.length ≤ L.length + 70 ∧ Moves F w w' ∧ (∀ i, F' i → F i ∨ w.heap.size ≤ i) ∧ (64 < ops.length → rs = []) ∧ (ops.length ≤ 64 → TAts L' rs (runT (texts.take n) (texts.drop n) ops)) ∧ (∀ k, Value.ownBlock (.slice ar rs.length cr) = some k → ¬ F' k) := by
  have hm := h.len
  have hk := cutI_take h.row n (by omega) ci
  have hs := cutI_drop h.row h.cap n (by omega) (ci - n)
  by_cases h64 : ops.length ≤ 64
  · refine (cAll_any h.ar h.good (by have := h.few; omega) hk (fun k e => h.far k (cut_own e)) hs (fun k e => h.far k (cut_own e)) ho no h64 (fun o ho => by have := hS o ho; omega)).mono ?_
    rintro r w' ⟨L', rs, vr, F', rfl, hst, hid, har, hmv, hF, hfr⟩
    have hf := h.few
    have g := hst.grown h.good (by omega)
    have hlen := g.len
    obtain ⟨ar, cr, rfl, hr⟩ := id hid
    exact ⟨L', rs, ar, cr, F', rfl, hid, har, g.good, g.pre, by omega, hmv, hF, fun h => by omega, fun _ => hst.same h.good (rpTake h.same n) (rpLt (rpTake h.same n)) (rpDrop h.same n) (rpLt (rpDrop h.same n)) (by omega), hfr⟩
  · refine (cAll_long ao ops.length cap (by omega) (by omega) _ _).mono ?_
    rintro r w' ⟨rfl, hw⟩
    subst hw
    exact ⟨L, [], none, 0, F, rfl, IdsAt.nil _, h.ar, h.good, List.prefix_refl _, by omega, Moves.refl _ _, fun _ h => .inl h, fun _ => rfl, fun h => by omega, fun k e => by simp [Value.ownBlock] at e⟩
theorem Kn.eval (h : Kn B A L F w ai m ci ids texts) (hn : n ≤ m) (ho : OpsAt w (.slice ao ops.length cap) ops) (no : ops ≠ [] → ∀ k, Value.ownBlock (.slice ao ops.length cap) = some k → ¬ F k) (hl : ops.length ≤ 70) (hS : ∀ o ∈ ops, o.s.length ≤ 200) :
    Calls Tryz.prog 10 #[.pointer (some ⟨A, 0, none⟩), .slice (cutA ai 0 ci) n ci, .slice (cutA ai n ci) (m - n) (ci - n), .slice ao ops.length cap] w fun r w' => ∃ L' x F', r = .returned (.int .i64 x) ∧ ArenaAt B A L' F' w' ∧ Good L' ∧ L <+: L' ∧ L'.length ≤ L.length + 70 ∧ Moves F w w' ∧ (∀ i, F' i → F i ∨ w.heap.size ≤ i) ∧ (64 < ops.length → x = -1) ∧ TAt L' x (evalT (texts.take n) (texts.drop n) ops) ∧
      (ops.length ≤ 64 → ∀ k, k ≤ ops.length → ∀ i, OkT (atT (runT (texts.take n) (texts.drop n) (ops.take k)) i)) := by
  have hm := h.len
  have hk := cutI_take h.row n (by omega) ci
  have hs := cutI_drop h.row h.cap n (by omega) (ci - n)
  by_cases h64 : ops.length ≤ 64
  · refine (cEval_any h.ar h.good (by have := h.few; omega) hk (fun k e => h.far k (cut_own e)) hs (fun k e => h.far k (cut_own e)) ho no h64 (fun o ho => by have := hS o ho; omega)).mono ?_
    rintro r w' ⟨L', rs, F', rfl, hst, har, hmv, hF⟩
    have hf := h.few
    have g := hst.grown h.good (by omega)
    have hlen := g.len
    exact ⟨L', _, F', rfl, har, g.good, g.pre, by omega, hmv, hF, fun h => by omega, lastSame h.good (rpTake h.same n) (rpDrop h.same n) hst h64 (by omega), fun _ => allOk h.good (rpTake h.same n) (rpLt (rpTake h.same n)) (rpDrop h.same n) (rpLt (rpDrop h.same n)) hst (by omega)⟩
  · refine (cEval_long ao ops.length cap (by omega) (by omega) _ _).mono ?_
    rintro r w' ⟨rfl, hw⟩
    subst hw
    refine ⟨L, -1, F, rfl, h.ar, h.good, List.prefix_refl _, by omega, Moves.refl _ _, fun _ h => .inl h, fun _ => rfl, .inl ⟨rfl, ?_⟩, fun h => by omega⟩
    unfold evalT
    rw [if_pos (.inr (by omega))]
end
end Go.Proofs.YtkigohenfaomkaaGreat

namespace Go.Proofs.YtkigohenfaomkaaGreat
open Go.RowKit

theorem StepsTo.snoc_inv {L0 : List Ent} {had : Int} {known sent : List Int} {xs : List OpR} {o : OpR} {L : List Ent} {rs : List Int} (h : StepsTo L0 had known sent (xs ++ [o]) L rs) :
    ∃ L1 rs1 m, StepsTo L0 had known sent xs L1 rs1 ∧ ResTo L1 had known sent rs1 o m ∧ L = m.2 ∧ rs = rs1 ++ [m.1] := by
  generalize hx : xs ++ [o] = y at h
  cases h with
  | nil => simp at hx
  | snoc h k =>
    obtain ⟨rfl, e⟩ := List.append_inj' hx rfl
    injection e with e
    subst e
    exact ⟨_, _, _, h, k, rfl, rfl⟩
theorem StepsTo.nil_inv {L0 : List Ent} {had : Int} {known sent : List Int} {L : List Ent} {rs : List Int} (h : StepsTo L0 had known sent [] L rs) : L = L0 ∧ rs = [] := by
  generalize hx : ([] : List OpR) = y at h
  cases h with
  | nil => exact ⟨rfl, rfl⟩
  | snoc h k => simp at hx
def exA : ByteArray := ⟨#[97]⟩
def exL : List Ent := [⟨⟨1, 0, 0, exA, []⟩, 6⟩, ⟨⟨7, 0, 0, noStr, [0]⟩, 7⟩]
def exOps : List OpR := [⟨0, 0, 0, 0, [97]⟩, ⟨8, 0, 0, 0, []⟩]
theorem exD0 : dataM [] exA = (0, [⟨⟨1, 0, 0, exA, []⟩, 6⟩]) := by kernel_rfl
theorem exH0 : hashM [⟨⟨1, 0, 0, exA, []⟩, 6⟩] 0 = (1, exL) := by kernel_rfl
theorem exD1 : dataM exL exA = (0, exL) := by kernel_rfl
theorem exH1 : hashM exL 0 = (1, exL) := by kernel_rfl
theorem exSteps {L : List Ent} {rs : List Int} (h : StepsTo [] 0 [] [] exOps L rs) : L = exL ∧ rs = [0, 1] := by
  obtain ⟨L1, r1, m1, h1, k1, rfl, rfl⟩ := StepsTo.snoc_inv (xs := [⟨0, 0, 0, 0, [97]⟩]) h
  obtain ⟨L2, r2, m2, h2, k2, rfl, rfl⟩ := StepsTo.snoc_inv (xs := []) h1
  obtain ⟨rfl, rfl⟩ := h2.nil_inv
  rw [ResTo.k0 rfl] at k2
  rw [show bs (⟨0, 0, 0, 0, [97]⟩ : OpR).s = exA from rfl, exD0] at k2
  subst k2
  rw [ResTo.k8 rfl] at k1
  rw [show atZ ([] ++ [(0 : Int)]) 0 = 0 from rfl, exH0] at k1
  subst k1
  exact ⟨rfl, rfl⟩
theorem exEval {B A : Nat} {F : Nat → Prop} {w : World} (ha : ArenaAt B A [] F w) :
    Calls Tryz.prog 10 #[.pointer (some ⟨A, 0, none⟩), .slice none 0 0, .slice none 0 0, .slice (some ⟨w.heap.size, 0, none⟩) 2 2] (w.alloc (.cells #[.int .i64 0, .int .i64 0, .int .i64 0, .int .i64 0, .string ⟨#[97]⟩, .int .i64 8, .int .i64 0, .int .i64 0, .int .i64 0, .string ⟨#[]⟩] 43)) fun r w' =>
      r = .returned (.int .i64 1) ∧ ∃ F', ArenaAt B A exL F' w' ∧ Below B w w' := by
  have hb : Below w.heap.size w (w.alloc (.cells #[.int .i64 0, .int .i64 0, .int .i64 0, .int .i64 0, .string ⟨#[97]⟩, .int .i64 8, .int .i64 0, .int .i64 0, .int .i64 0, .string ⟨#[]⟩] 43)) := (Below.refl _ w).alloc (Nat.le_refl _) _
  have hO := Holds.new w 43 #[.int .i64 0, .int .i64 0, .int .i64 0, .int .i64 0, .string ⟨#[97]⟩, .int .i64 8, .int .i64 0, .int .i64 0, .int .i64 0, .string ⟨#[]⟩]
  have hBw := (ha.lt A ha.self)
  have ho : OpsAt (w.alloc (.cells #[.int .i64 0, .int .i64 0, .int .i64 0, .int .i64 0, .string ⟨#[97]⟩, .int .i64 8, .int .i64 0, .int .i64 0, .int .i64 0, .string ⟨#[]⟩] 43)) (.slice (some ⟨w.heap.size, 0, none⟩) 2 2) exOps := by
    refine ⟨some ⟨w.heap.size, 0, none⟩, 2, rfl, fun _ => ⟨w.heap.size, 0, rfl, hO.lt, fun k x hk => ?_⟩⟩
    have hk2 := (List.getElem?_eq_some_iff.1 hk).1
    simp only [exOps, List.length_cons, List.length_nil] at hk2
    match k, hk2, hk with
    | 0, _, hk =>
      injection hk with hk
      subst hk
      exact ⟨hO.cell 0, hO.cell 1, hO.cell 2, hO.cell 3, hO.cell 4⟩
    | 1, _, hk =>
      injection hk with hk
      subst hk
      exact ⟨hO.cell 5, hO.cell 6, hO.cell 7, hO.cell 8, hO.cell 9⟩
  refine (cEval_any (ha.below hb) Good.nil (by simp) (IdsAt.nil _) (fun k h => by simp [Value.ownBlock] at h) (IdsAt.nil _) (fun k h => by simp [Value.ownBlock] at h) ho (fun _ k h => ?_) (by simp [exOps]) (by simp [exOps])).mono ?_
  · have : w.heap.size = k := by simpa [Value.ownBlock] using h
    intro hF
    have := (ha.lt k hF).2
    omega
  · rintro r w' ⟨L, rs, F', rfl, hst, har, hm, hF⟩
    obtain ⟨rfl, rfl⟩ := exSteps hst
    exact ⟨rfl, F', har, (hb.mono (by omega)).trans (hm.below (by have := hb.size; omega) fun i hi => (ha.lt i hi).1)⟩

set_option maxRecDepth 100000 in
theorem awake14_any (w : World) : Calls Tryz.prog 6 #[] w fun e w' => e = .returned (.bool true) ∧ Below w.heap.size w w' := by
  have HN := Lib.hid (New_any w)
  have HE : Hid (∀ A F W, ArenaAt w.heap.size A [] F W → _) := fun A F W ha => exEval ha
  have HD : Hid (∀ A F W, ArenaAt w.heap.size A exL F W → Calls Tryz.prog 16 #[.pointer (some ⟨A, 0, none⟩), .string ⟨#[97]⟩] W fun r w' => r = .returned (.int .i64 0) ∧ ∃ F', ArenaAt w.heap.size A exL F' w' ∧ Below w.heap.size W w') := fun A F W ha => by
    have := (Data_any ha (by decide) exA (by decide)).mono fun r w' h => Makes.out ha h
    rw [exD1] at this
    exact this
  have HH : Hid (∀ A F W, ArenaAt w.heap.size A exL F W → Calls Tryz.prog 15 #[.pointer (some ⟨A, 0, none⟩), .int .i64 0] W fun r w' => r = .returned (.int .i64 1) ∧ ∃ F', ArenaAt w.heap.size A exL F' w' ∧ Below w.heap.size W w') := fun A F W ha => by
    have := (Hash_any ha (by decide) 0).mono fun r w' h => Makes.out ha h
    rw [exH1] at this
    exact this
  have HK : Hid (∀ A F W, ArenaAt w.heap.size A exL F W → Calls Tryz.prog 17 #[.pointer (some ⟨A, 0, none⟩), .int .i64 1] W _) := fun A F W ha => Kind_any ha 1
  go_enter Tryz.func6, Tryz.ntmps6
  go_wp2_with (first
    | (go_at_call 7; (with_reducible refine HN.out.mono ?_); rintro e w1 ⟨A, F, rfl, ha1, hb1⟩)
    | (go_at_call 10; (with_reducible refine (HE.out _ _ _ ha1).mono ?_); rintro e w2 ⟨rfl, F2, ha2, hb2⟩)
    | (go_at_call 16; (with_reducible refine (HD.out _ _ _ ha2).mono ?_); rintro e w3 ⟨rfl, F3, ha3, hb3⟩)
    | (go_at_call 15; (with_reducible refine (HH.out _ _ _ ha3).mono ?_); rintro e w4 ⟨rfl, F4, ha4, hb4⟩)
    | (go_at_call 17; (with_reducible refine (HK.out _ _ _ ha4).mono ?_); rintro e w5 ⟨rfl, hw5⟩; subst hw5))
  go_ret
  exact ⟨rfl, ((hb1.trans hb2).trans hb3).trans hb4⟩
end Go.Proofs.YtkigohenfaomkaaGreat
