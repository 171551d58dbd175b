/- Layer 14: the chapter's example. -/
import Derived.Test.YtlalkpgipenkaaaRcI
namespace Go.Proofs.Ytlalkpgipenkaaa
open Go.RowKit

theorem StepsTo.snoc_inv {L0 : List Ent} {had : Int} {known sent : List Int} {xs : List OpR} {o : OpR} {L : List Ent} {rs : List Int} (h : StepsTo L0 had known sent (xs ++ [o]) L rs) :
    ∃ L1 rs1 m, StepsTo L0 had known sent xs L1 rs1 ∧ ResTo L1 had known sent rs1 o m ∧ L = m.2 ∧ rs = rs1 ++ [m.1] := by
  generalize hx : xs ++ [o] = y at h
  cases h with
  | nil => simp at hx
  | snoc h k =>
    obtain ⟨rfl, e⟩ := List.append_inj' hx rfl
    injection e with e
    subst e
    exact ⟨_, _, _, h, k, rfl, rfl⟩
theorem StepsTo.nil_inv {L0 : List Ent} {had : Int} {known sent : List Int} {L : List Ent} {rs : List Int} (h : StepsTo L0 had known sent [] L rs) : L = L0 ∧ rs = [] := by
  generalize hx : ([] : List OpR) = y at h
  cases h with
  | nil => exact ⟨rfl, rfl⟩
  | snoc h k => simp at hx
def exA : ByteArray := ⟨#[97]⟩
def exL : List Ent := [⟨⟨1, 0, 0, exA, []⟩, 6⟩, ⟨⟨7, 0, 0, noStr, [0]⟩, 7⟩]
def exOps : List OpR := [⟨0, 0, 0, 0, [97]⟩, ⟨8, 0, 0, 0, []⟩]
theorem exD0 : dataM [] exA = (0, [⟨⟨1, 0, 0, exA, []⟩, 6⟩]) := by kernel_rfl
theorem exH0 : hashM [⟨⟨1, 0, 0, exA, []⟩, 6⟩] 0 = (1, exL) := by kernel_rfl
theorem exD1 : dataM exL exA = (0, exL) := by kernel_rfl
theorem exH1 : hashM exL 0 = (1, exL) := by kernel_rfl
theorem exSteps {L : List Ent} {rs : List Int} (h : StepsTo [] 0 [] [] exOps L rs) : L = exL ∧ rs = [0, 1] := by
  obtain ⟨L1, r1, m1, h1, k1, rfl, rfl⟩ := StepsTo.snoc_inv (xs := [⟨0, 0, 0, 0, [97]⟩]) h
  obtain ⟨L2, r2, m2, h2, k2, rfl, rfl⟩ := StepsTo.snoc_inv (xs := []) h1
  obtain ⟨rfl, rfl⟩ := h2.nil_inv
  rw [ResTo.k0 rfl] at k2
  rw [show bs (⟨0, 0, 0, 0, [97]⟩ : OpR).s = exA from rfl, exD0] at k2
  subst k2
  rw [ResTo.k8 rfl] at k1
  rw [show atZ ([] ++ [(0 : Int)]) 0 = 0 from rfl, exH0] at k1
  subst k1
  exact ⟨rfl, rfl⟩
theorem exEval {B A : Nat} {F : Nat → Prop} {w : World} (ha : ArenaAt B A [] F w) :
    Calls Try.prog 45 #[.pointer (some ⟨A, 0, none⟩), .slice none 0 0, .slice none 0 0, .slice (some ⟨w.heap.size, 0, none⟩) 2 2] (w.alloc (.cells #[.int .i64 0, .int .i64 0, .int .i64 0, .int .i64 0, .string ⟨#[97]⟩, .int .i64 8, .int .i64 0, .int .i64 0, .int .i64 0, .string ⟨#[]⟩] 62)) fun r w' =>
      r = .returned (.int .i64 1) ∧ ∃ F', ArenaAt B A exL F' w' ∧ Below B w w' := by
  have hb : Below w.heap.size w (w.alloc (.cells #[.int .i64 0, .int .i64 0, .int .i64 0, .int .i64 0, .string ⟨#[97]⟩, .int .i64 8, .int .i64 0, .int .i64 0, .int .i64 0, .string ⟨#[]⟩] 62)) := (Below.refl _ w).alloc (Nat.le_refl _) _
  have hO := Holds.new w 62 #[.int .i64 0, .int .i64 0, .int .i64 0, .int .i64 0, .string ⟨#[97]⟩, .int .i64 8, .int .i64 0, .int .i64 0, .int .i64 0, .string ⟨#[]⟩]
  have hBw := (ha.lt A ha.self)
  have ho : OpsAt (w.alloc (.cells #[.int .i64 0, .int .i64 0, .int .i64 0, .int .i64 0, .string ⟨#[97]⟩, .int .i64 8, .int .i64 0, .int .i64 0, .int .i64 0, .string ⟨#[]⟩] 62)) (.slice (some ⟨w.heap.size, 0, none⟩) 2 2) exOps := by
    refine ⟨some ⟨w.heap.size, 0, none⟩, 2, rfl, fun _ => ⟨w.heap.size, 0, rfl, hO.lt, fun k x hk => ?_⟩⟩
    have hk2 := (List.getElem?_eq_some_iff.1 hk).1
    simp only [exOps, List.length_cons, List.length_nil] at hk2
    match k, hk2, hk with
    | 0, _, hk =>
      injection hk with hk
      subst hk
      exact ⟨hO.cell 0, hO.cell 1, hO.cell 2, hO.cell 3, hO.cell 4⟩
    | 1, _, hk =>
      injection hk with hk
      subst hk
      exact ⟨hO.cell 5, hO.cell 6, hO.cell 7, hO.cell 8, hO.cell 9⟩
  refine (cEval_any (ha.below hb) Good.nil (by simp) (IdsAt.nil _) (fun k h => by simp [Value.ownBlock] at h) (IdsAt.nil _) (fun k h => by simp [Value.ownBlock] at h) ho (fun _ k h => ?_) (by simp [exOps]) (by simp [exOps])).mono ?_
  · have : w.heap.size = k := by simpa [Value.ownBlock] using h
    intro hF
    have := (ha.lt k hF).2
    omega
  · rintro r w' ⟨L, rs, F', rfl, hst, har, hm, hF⟩
    obtain ⟨rfl, rfl⟩ := exSteps hst
    exact ⟨rfl, F', har, (hb.mono (by omega)).trans (hm.below (by have := hb.size; omega) fun i hi => (ha.lt i hi).1)⟩

set_option maxRecDepth 100000 in
theorem awake14_any (w : World) : Calls Try.prog 21 #[] w fun e w' => e = .returned (.bool true) ∧ Below w.heap.size w w' := by
  have HN := Lib.hid (New_any w)
  have HE : Hid (∀ A F W, ArenaAt w.heap.size A [] F W → _) := fun A F W ha => exEval ha
  have HD : Hid (∀ A F W, ArenaAt w.heap.size A exL F W → Calls Try.prog 25 #[.pointer (some ⟨A, 0, none⟩), .string ⟨#[97]⟩] W fun r w' => r = .returned (.int .i64 0) ∧ ∃ F', ArenaAt w.heap.size A exL F' w' ∧ Below w.heap.size W w') := fun A F W ha => by
    have := (Data_any ha (by decide) exA (by decide)).mono fun r w' h => Makes.out ha h
    rw [exD1] at this
    exact this
  have HH : Hid (∀ A F W, ArenaAt w.heap.size A exL F W → Calls Try.prog 30 #[.pointer (some ⟨A, 0, none⟩), .int .i64 0] W fun r w' => r = .returned (.int .i64 1) ∧ ∃ F', ArenaAt w.heap.size A exL F' w' ∧ Below w.heap.size W w') := fun A F W ha => by
    have := (Hash_any ha (by decide) 0).mono fun r w' h => Makes.out ha h
    rw [exH1] at this
    exact this
  have HK : Hid (∀ A F W, ArenaAt w.heap.size A exL F W → Calls Try.prog 46 #[.pointer (some ⟨A, 0, none⟩), .int .i64 1] W _) := fun A F W ha => Kind_any ha 1
  go_enter Try.func21, Try.ntmps21
  go_wp2_with (first
    | (go_at_call 22; (with_reducible refine HN.out.mono ?_); rintro e w1 ⟨A, F, rfl, ha1, hb1⟩)
    | (go_at_call 45; (with_reducible refine (HE.out _ _ _ ha1).mono ?_); rintro e w2 ⟨rfl, F2, ha2, hb2⟩)
    | (go_at_call 25; (with_reducible refine (HD.out _ _ _ ha2).mono ?_); rintro e w3 ⟨rfl, F3, ha3, hb3⟩)
    | (go_at_call 30; (with_reducible refine (HH.out _ _ _ ha3).mono ?_); rintro e w4 ⟨rfl, F4, ha4, hb4⟩)
    | (go_at_call 46; (with_reducible refine (HK.out _ _ _ ha4).mono ?_); rintro e w5 ⟨rfl, hw5⟩; subst hw5))
  go_ret
  exact ⟨rfl, ((hb1.trans hb2).trans hb3).trans hb4⟩
end Go.Proofs.Ytlalkpgipenkaaa
