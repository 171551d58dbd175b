/- Part 35 of what the statement wants. -/
import Derived.Test.YtjlbifpbdocahaaGreatDoorPk34
namespace Go.Proofs.YtjlbifpbdocahaaGreatDoor
open Go.RowKit

theorem ids_kept22 {W w' : World} {ao : Option Addr} {n c : Nat} {l : List Int} (h : IdsAt W (.slice ao n c) l) (hr : ∀ k, (Value.slice ao n c).ownBlock = some k → ∃ cur, Holds W k 37 cur) (kp : Kept W w') : IdsAt w' (.slice ao n c) l := by
  obtain ⟨a2, c2, e, hc⟩ := h
  refine ⟨a2, c2, e, fun hne => ?_⟩
  obtain ⟨b, off, rfl, hb, hcell⟩ := hc hne
  injection e with e1 e2 e3
  subst e1
  obtain ⟨cur, hh⟩ := hr b rfl
  have h2 := kp.hold _ _ _ (by decide) (by decide) hh
  exact ⟨b, off, rfl, h2.lt, fun k x hx => by rw [h2.cell, ← hh.cell]; exact hcell k x hx⟩
theorem texts_kept22 {W w' : World} {ao : Option Addr} {n c : Nat} {l : List ByteArray} (h : TextsAt W (.slice ao n c) l) (hr : ∀ k, (Value.slice ao n c).ownBlock = some k → ∃ cur, Holds W k 9 cur) (kp : Kept W w') : TextsAt w' (.slice ao n c) l := by
  obtain ⟨a2, c2, e, hc⟩ := h
  refine ⟨a2, c2, e, fun hne => ?_⟩
  obtain ⟨b, off, rfl, hb, hcell⟩ := hc hne
  injection e with e1 e2 e3
  subst e1
  obtain ⟨cur, hh⟩ := hr b rfl
  have h2 := kp.hold _ _ _ (by decide) (by decide) hh
  exact ⟨b, off, rfl, h2.lt, fun k x hx => by rw [h2.cell, ← hh.cell]; exact hcell k x hx⟩
/-- The harness makes terms, beside their texts; its rows are of their types. -/
theorem taMakesR22 {w w0 W : World} {B A : Nat} {v : Value} {l : List MakeR} (hM : MakesAt w v l) (h0 : Below w.heap.size w w0) (hB : w.heap.size ≤ B) (ha : Ta B w0 A [] 0 W) (hl : l.length ≤ 1000) (hs : ∀ x ∈ l, x.s.length ≤ 10000) :
    Calls Tryz.prog 10 #[.pointer (some ⟨A, 0, none⟩), v] W fun e w' => ∃ (ids : List Int) (texts : List (List UInt8)) (ai : Option Addr) (ci : Nat) (at' : Option Addr) (ct : Nat), e = .returned (.agg #[.slice ai l.length ci, .slice at' l.length ct]) ∧
      (ids.length = l.length ∧ texts.length = l.length) ∧ IdsAt w' (.slice ai l.length ci) ids ∧ TextsAt w' (.slice at' l.length ct) (texts.map bs) ∧ Ta B w0 A (ids.zip texts) l.length w' ∧ ((∀ k, (Value.slice ai l.length ci).ownBlock = some k → ∃ cur, Holds w' k 37 cur) ∧ ∀ k, (Value.slice at' l.length ct).ownBlock = some k → ∃ cur, Holds w' k 9 cur) := by
  obtain ⟨⟨L, F, har, hG, hL, _⟩, hb⟩ := ha
  have hL0 : L = [] := List.eq_nil_of_length_eq_zero (by omega)
  subst hL0
  refine (makes_rows hM (h0.trans (hb.mono hB)) hB har hl hs (made_ok hl)).mono ?_
  rintro e w' ⟨L, ids, texts, vi, vt, F2, hto, rfl, ⟨ai, ci, rfl, hI⟩, _, ⟨at', ct, rfl, hT⟩, _, har2, b2, hrow⟩
  have hln := hto.lens
  have hA := hto.all exp_same (by omega)
  have e1 : ids.length = l.length := hln.1
  have e2 : (texts.map bs).length = l.length := by rw [List.length_map]; exact hln.2
  rw [e1, e2] at hrow
  refine ⟨ids, texts, ai, ci, at', ct, by rw [List.length_map, hln.1, hln.2], hln, ?_, ?_, ⟨⟨L, F2, har2, hA.good, hA.few, fun p hp => ?_⟩, hb.trans b2⟩, hrow⟩
  · rw [← hln.1]; exact ⟨ai, ci, rfl, hI⟩
  · rw [← hln.2, ← List.length_map (f := bs)]; exact ⟨at', ct, rfl, hT⟩
  · obtain ⟨k, hk⟩ := List.mem_iff_getElem?.1 hp
    obtain ⟨h1, h2⟩ := List.getElem?_zip_eq_some.1 hk
    exact hA.pairs.at_ k _ _ h1 h2
theorem arena_down22 {B B2 A : Nat} {L : List Ent} {F : Nat → Prop} {w : World} (h : ArenaAt B A L F w) (hB : B2 ≤ B) : ArenaAt B2 A L F w := by
  obtain ⟨mb, tv, h1, h2, h3, h4, h5, h6, h7⟩ := h
  exact ⟨mb, tv, h1, owns_lower h2 hB, h3, by omega, by omega, h6, h7⟩
theorem ta_down22 {w0 W W' : World} {A n : Nat} {P : List (Int × List UInt8)} (hb : Below w0.heap.size w0 W) (h : Ta W.heap.size W A P n W') : Ta w0.heap.size w0 A P n W' := by
  obtain ⟨⟨L, F, ha, h1⟩, h2⟩ := h
  exact ⟨⟨L, F, arena_down22 ha hb.size, h1⟩, hb.trans (h2.mono hb.size)⟩
set_option maxRecDepth 100000 in
theorem few22_any (s a : Int) (U V G : ByteArray) (r0 r1 r2 : Bool) (h0 : decide ((U.size : Int) ≤ 100) = r0) (h1 : decide ((V.size : Int) ≤ 100) = r1) (h2 : decide ((G.size : Int) ≤ 100) = r2) (_m0 : U.size ≤ 9223372036854775807) (_m1 : V.size ≤ 9223372036854775807) (_m2 : G.size ≤ 9223372036854775807) (w : World) :
    Calls Tryz.prog 7 #[.agg #[.int .i64 s, .string U, .string V, .string G, .int .i64 a]] w fun e w' => e = .returned (.bool (r0 && r1 && r2)) ∧ Below w.heap.size w w' := by
  have HB : Hid (Below w.heap.size w (w.alloc (.cells #[.int .i64 s, .string U, .string V, .string G, .int .i64 a] 25))) := (Below.refl _ _).alloc (Nat.le_refl _) _
  have HR : Hid (Below w.heap.size w w) := Below.refl _ _
  cases r0 <;> cases r1 <;> cases r2
  all_goals
    go_enter Tryz.func7, Tryz.ntmps7
    go_wp2_with fail
    go_ret
    first | exact ⟨rfl, HB.out⟩ | exact ⟨rfl, HR.out⟩
end Go.Proofs.YtjlbifpbdocahaaGreatDoor
