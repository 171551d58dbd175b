/- Part 26 of what the statement wants. -/
import Derived.Deep.RegionHeld3
import Derived.Deep.RegionLaw
import Derived.Deep.AppendLies
import Derived.Deep.DeepCutAuto
import Derived.Deep.CutRange
import Derived.LaidEql
import Derived.Stop.Asserts
import Derived.RowKitTokens
import Derived.Test.YtbnecckgapainaaGreatDoorPk00
import Derived.Test.YtbnecckgapainaaGreatDoorPk20
import Derived.Test.YtbnecckgapainaaGreatDoorPk25
namespace Go.Proofs.YtbnecckgapainaaGreatDoor
open Go.RowKit

section
variable {B A n : Nat} {w0 W : World} {P : List (Int × List UInt8)}
theorem Ta.nonePost22 (h : Ta B w0 A P n W) {m : Nat} (hm : n ≤ m) {t : List UInt8} (ht : t = []) : TaPost B w0 A P m W t (.returned (.int .i64 (-1))) W := by
  subst ht
  exact ⟨-1, rfl, (h.mono hm fun p hp => hp).cons (.inr rfl), Kept.refl W⟩
set_option maxRecDepth 100000 in
theorem snHas_any (h : Ta B w0 A P n W) {i : Int} {t : List UInt8} (hi : (i, t) ∈ P) : Calls Tryz.prog 59 #[.pointer (some ⟨A, 0, none⟩), .int .i64 i] W fun e w' => e = .returned (.bool (!t.isEmpty)) ∧ W = w' := by
  have hk := h.kind0 hi
  have HK := Lib.hid (taKind h hi)
  obtain ⟨r, hr⟩ : ∃ r, r = (!t.isEmpty) := ⟨_, rfl⟩
  have q : ((kindL t : Int) != 0) = r := by
    rw [hr, Bool.eq_iff_iff, bne_iff_ne, Bool.not_eq_true', ← Bool.not_eq_true, List.isEmpty_iff, ← hk]
    omega
  rw [← hr]
  clear hr h hk
  generalize (kindL t : Int) = K at *
  go_enter Tryz.func59, Tryz.ntmps59
  go_wp2_with (go_at_call 63; with_reducible refine HK.out.mono ?_; rintro e w1 ⟨rfl, hw⟩; subst hw)
  go_ret
  exact ⟨rfl, rfl⟩
set_option maxHeartbeats 1000000 in
set_option maxRecDepth 100000 in
theorem snOwner_any (h : Ta B w0 A P n W) {i : Int} {t : List UInt8} (hi : (i, t) ∈ P) : Calls Tryz.prog 40 #[.pointer (some ⟨A, 0, none⟩), .int .i64 i] W fun e w' => e = .returned (.tuple #[.int .i64 (ownerP t).1, .bool (ownerP t).2]) ∧ Below W.heap.size W w' := by
  by_cases h4 : kindL t = 4
  · obtain ⟨⟨L, F, ha, hG, hl, h3⟩, _⟩ := h
    rcases h3 _ hi with ⟨e1, e2⟩ | ⟨k, e1, e2, e3⟩
    · simp only at e2
      rw [e2] at h4
      simp [kindL] at h4
    · simp only at e1 e3
      obtain ⟨x, m, e, hx, _, ho, hsh, hm, hme⟩ := pub_is hG e2 (by rw [← e3]; exact h4)
      rw [e1, e3, ho]
      have HV1 : Hid (Calls Tryz.prog 42 #[.pointer (some ⟨A, 0, none⟩), .int .i64 (k : Int)] W fun r w' => ∃ g, r = .returned (.tuple #[.agg #[.int .i64 4, .int .i64 0, .int .i64 0, .string noStr, .slice (some ⟨g, 0, none⟩) 1 1], .bool true]) ∧ w'.cell? ⟨g, 0, none⟩ = some (.int .i64 (m : Int)) ∧ Below W.heap.size W w') := by
        have hV1 := View_some ha (List.getElem?_eq_getElem e2)
        rw [hsh] at hV1
        exact hV1.mono fun r w' ⟨g, h5, h6, h7⟩ => ⟨g, h5, (h6.cells rfl) 0 _ rfl, h7⟩
      have HV2 : Hid (∀ W', Below W.heap.size W W' → Calls Tryz.prog 42 #[.pointer (some ⟨A, 0, none⟩), .int .i64 (m : Int)] W' fun r w' => ∃ g, r = .returned (.tuple #[.agg #[.int .i64 3, .int .i64 (x : Int), .int .i64 0, .string noStr, .slice (some ⟨g, 0, none⟩) 0 0], .bool true]) ∧ Below W'.heap.size W' w') := fun W' hb => by
        have hV2 := View_some (ha.below hb) hm
        rw [hme] at hV2
        exact hV2.mono fun r w' ⟨g, h5, _, h7⟩ => ⟨g, h5, h7⟩
      clear ha hG hl h3 hi e1 e3 ho hsh hm hme e2 h4 hx
      generalize (m : Int) = M at *
      generalize (x : Int) = X at *
      go_enter Tryz.func40, Tryz.ntmps40
      go_wp2_with (first
        | (go_at_call 42; (with_reducible refine HV1.out.mono ?_); rintro r w1 ⟨g, rfl, c1, b1⟩; have c2 := ((Below.refl w1.heap.size w1).alloc (Nat.le_refl _) (.cells #[.int .i64 4, .int .i64 0, .int .i64 0, .string noStr, .slice (some ⟨g, 0, none⟩) 1 1] 93)).cell (p := ⟨g, 0, none⟩) (World.block_lt_of_cell? _ _ c1); rw [c1] at c2)
        | (go_at_call 42; (with_reducible refine (HV2.out _ (b1.alloc b1.size _)).mono ?_); rintro r w3 ⟨g3, rfl, b3⟩)
        | fail)
      go_ret2
      have b4 := b1.alloc b1.size (.cells #[.int .i64 4, .int .i64 0, .int .i64 0, .string noStr, .slice (some ⟨g, 0, none⟩) 1 1] 93)
      have b5 := b4.trans (b3.mono b4.size)
      first | exact ⟨rfl, b5⟩ | exact ⟨rfl, b5.alloc b5.size _⟩
  · have ho : ownerP t = (0, false) := if_neg h4
    rw [ho]
    have HV : Hid (Calls Tryz.prog 42 #[.pointer (some ⟨A, 0, none⟩), .int .i64 i] W fun r w' => ∃ (a b : Int) (s : ByteArray) (ao : Option Addr) (m c : Nat) (z : Bool), r = .returned (.tuple #[.agg #[.int .i64 (kindL t : Int), .int .i64 a, .int .i64 b, .string s, .slice ao m c], .bool z]) ∧ Below W.heap.size W w') :=
      (taView h hi).mono fun r w' ⟨a, b, s, ao, m, c, h1, _, _, _, h5⟩ => ⟨a, b, bs s, ao, m, c, _, h1, h5⟩
    have q4 : ((kindL t : Int) == 4) = false := by
      have : (kindL t : Int) ≠ 4 := by omega
      simpa using this
    have q5 : ((kindL t : Int) != 4) = true := by rw [bne, q4]; rfl
    clear h hi ho h4
    generalize (kindL t : Int) = K at *
    go_enter Tryz.func40, Tryz.ntmps40
    go_wp2_with (go_at_call 42; (with_reducible refine HV.out.mono ?_); rintro r w1 ⟨a, b, s, ao, m, c, z, rfl, b1⟩)
    go_ret2
    first | exact ⟨rfl, b1.alloc b1.size _⟩ | exact ⟨rfl, b1⟩
set_option maxRecDepth 100000 in
theorem snHost_any (h : Ta B w0 A P n W) (hn : n ≤ 10000) (g : List UInt8) (hg : g.length ≤ 1000000) (who : Int) {i : Int} {t : List UInt8} (hi : (i, t) ∈ P) : Calls Tryz.prog 24 #[.pointer (some ⟨A, 0, none⟩), .string (bs g), .int .i64 who, .int .i64 i] W (TaPost B w0 A P (n + 2) W (hostL g who t)) := by
  have hH := snHas_any h hi
  by_cases ht : t = []
  · have e0 : (!t.isEmpty) = false := by rw [ht]; rfl
    rw [e0] at hH
    have HH := Lib.hid hH
    have HT := Lib.hid (h.nonePost22 (m := n + 2) (by omega) (t := hostL g who t) (if_neg (fun hh => hh.2.2 ht)))
    clear h hH e0 ht
    go_enter Tryz.func24, Tryz.ntmps24
    go_wp2_with (go_at_call 59; (with_reducible refine HH.out.mono ?_); rintro e w1 ⟨rfl, hw⟩; subst hw)
    go_ret
    exact HT.out
  · have e0 : (!t.isEmpty) = true := by cases t with
      | nil => exact absurd rfl ht
      | cons => rfl
    rw [e0] at hH
    have HH := Lib.hid hH
    have HK := Lib.hid (taKey h (by omega) who)
    have HS : Hid (∀ (b : Int) (w1 : World), Ta B w0 A ((b, refKeyL who) :: P) (n + 1) w1 → Calls Tryz.prog 60 #[.pointer (some ⟨A, 0, none⟩), .string (bs g), .int .i64 b, .int .i64 i] w1 (TaPost B w0 A ((b, refKeyL who) :: P) (n + 2) w1 (hostL g who t))) := fun b w1 hb =>
      taSign hb (by omega) g hg (by simp) (List.mem_cons_of_mem _ hi)
    generalize hostL g who t = T at *
    generalize refKeyL who = T0 at *
    clear h hH e0 ht
    go_enter Tryz.func24, Tryz.ntmps24
    go_wp2_with (first
      | (go_at_call 59; (with_reducible refine HH.out.mono ?_); rintro e w1 ⟨rfl, hw⟩; subst hw)
      | (go_at_call 27; (with_reducible refine HK.out.mono ?_); rintro e w1 ⟨i1, rfl, t1, k1⟩)
      | (go_at_call 60; (with_reducible refine (HS.out _ _ t1).mono ?_); rintro e w2 ⟨i2, rfl, t2, k2⟩))
    go_ret
    exact ⟨i2, rfl, t2.mono (Nat.le_refl _) (fun p hp => by
      rcases List.mem_cons.1 hp with rfl | hp
      · simp
      · simp [hp]), k1.trans k2⟩
end
end Go.Proofs.YtbnecckgapainaaGreatDoor

namespace Go.Proofs.YtbnecckgapainaaGreatDoor
open Go.RowKit

/-- The numbers beside the data's texts, the last one first. -/
def dataP (l : List (List UInt8)) (ids : List Int) : List (Int × List UInt8) := (ids.zip (l.map refDataL)).reverse
section
variable {B A n : Nat} {w0 W : World} {P : List (Int × List UInt8)}
theorem Ta.grown {W2 : World} {base m : Nat} {u : Value} {xs : List Value} {o : Obj} (h : Ta B w0 A P n W) (hr : W.ownsRow base 36 1 u m xs) (hB : B ≤ base) (hg : (W.alloc o).grownBy W2 u.ownBlock) : Ta B w0 A P n W2 := by
  have mv : Moves (fun i => u.ownBlock = some i) W W2 := ((Moves.refl (fun i => u.ownBlock = some i) W).alloc o).grown hg (fun _ hi => .inl hi)
  obtain ⟨⟨L, F, ha, h3⟩, h4⟩ := h
  have hl := ha.lt A ha.self
  exact ⟨⟨L, F, ha.moves mv (fun k hk e => ha.ne_row hr (by decide) (by decide) k e hk), h3⟩, h4.trans (mv.below (by omega) (fun i e => Nat.le_trans hB (hr.lt i e).1))⟩
theorem Kept.grown {W0 W2 : World} {base m : Nat} {u : Value} {xs : List Value} {o : Obj} (h : Kept W0 W) (hr : W.ownsRow base 36 1 u m xs) (hB : W0.heap.size ≤ base) (hg : (W.alloc o).grownBy W2 u.ownBlock) : Kept W0 W2 := by
  have mv : Moves (fun i => u.ownBlock = some i) W W2 := ((Moves.refl (fun i => u.ownBlock = some i) W).alloc o).grown hg (fun _ hi => .inl hi)
  refine ⟨Nat.le_trans h.size mv.size, fun g t cs h1 h2 h3 => (h.hold g t cs h1 h2 h3).moves mv fun e => ?_⟩
  have := (hr.lt g e).1
  have := h3.lt
  omega
end
end Go.Proofs.YtbnecckgapainaaGreatDoor

namespace Go.Proofs.YtbnecckgapainaaGreatDoor
open Go.RowKit

theorem idCells_app22 (a b : List Int) : idCells (a ++ b) = idCells a ++ idCells b := by simp [idCells]
section
variable {B A n : Nat} {w0 W : World} {P : List (Int × List UInt8)}
/-- What stands behind the first append: the session and the data. -/
def RCut (B : Nat) (w0 : World) (A n : Nat) (P : List (Int × List UInt8)) (W1 : World) (l6 : List (List UInt8)) (ks : Int) (v : Value) (W' : World) : Prop :=
  ∃ (ids : List Int) (g c : Nat), v = .slice (some ⟨g, 0, none⟩) 7 c ∧ ids.length = 6 ∧ W'.ownsRow W1.heap.size 36 1 v 7 (idCells ([ks] ++ ids)) ∧ Ta B w0 A (dataP l6 ids ++ P) (n + 6) W' ∧ Kept W1 W'
theorem RCut.mk {W1 W' : World} {l6 : List (List UInt8)} {ks : Int} {ids : List Int} {g c : Nat} (h1 : ids.length = 6) (h2 : W'.ownsRow W1.heap.size 36 1 (.slice (some ⟨g, 0, none⟩) 7 c) 7 ([.int .i64 ks] ++ idCells ids)) (h3 : Ta B w0 A (dataP l6 ids ++ P) (n + 6) W') (h4 : Kept W1 W') : RCut B w0 A n P W1 l6 ks (.slice (some ⟨g, 0, none⟩) 7 c) W' :=
  ⟨ids, g, c, rfl, h1, by rw [idCells_app22]; exact h2, h3, h4⟩
end
end Go.Proofs.YtbnecckgapainaaGreatDoor

namespace Go.Proofs.YtbnecckgapainaaGreatDoor
open Go.RowKit Go.Extern.Stop Go.Stop Go.Extern

/-- An error in memory: its locations and its number, if it has one. -/
inductive ErrAt (w : World) : Value → List ByteArray → Option Int → Prop
  | none : ErrAt w .nilIface [] none
  | num (e : Int) : ErrAt w (.iface 70 (.int .i64 e)) [] (some e)
  | fault {b : Nat} {x : ByteArray} {v : Value} {path : List ByteArray} {n : Option Int} : b < w.heap.size → w.cell? ⟨b, 0, none⟩ = some (.string x) → w.cell? ⟨b, 1, none⟩ = some v → ErrAt w v path n → ErrAt w (.iface 166 (.pointer (some ⟨b, 0, none⟩))) (x :: path) n
theorem ErrAt.later {w w' : World} {v : Value} {path : List ByteArray} {n : Option Int} (h : ErrAt w v path n) (hb : Below w.heap.size w w') : ErrAt w' v path n := by
  induction h with
  | none => exact .none
  | num e => exact .num e
  | @fault b x v path n h1 h2 h3 _ ih => exact .fault (Nat.lt_of_lt_of_le h1 hb.size) ((hb.cell (p := ⟨b, 0, Option.none⟩) h1).trans h2) ((hb.cell (p := ⟨b, 1, Option.none⟩) h1).trans h3) ih

theorem ErrAt.same {w : World} {v : Value} {path : List ByteArray} {n : Option Int} (h : ErrAt w v path n) : ∀ {path' : List ByteArray} {n' : Option Int}, ErrAt w v path' n' → path = path' ∧ n = n' := by
  induction h with
  | none => intro _ _ k; cases k; exact ⟨rfl, rfl⟩
  | num e => intro _ _ k; cases k; exact ⟨rfl, rfl⟩
  | @fault b x v path n h1 h2 h3 _ ih =>
    intro _ _ k
    cases k with
    | fault k1 k2 k3 k4 =>
      have e2 := h2.symm.trans k2
      have e3 := h3.symm.trans k3
      simp only [Option.some.injEq, Value.string.injEq] at e2 e3
      subst e2 e3
      obtain ⟨rfl, rfl⟩ := ih k4
      exact ⟨rfl, rfl⟩
open Classical in
/-- How many locations. -/
noncomputable def depthAt (w : World) (v : Value) : Nat := if h : ∃ q : List ByteArray × Option Int, ErrAt w v q.1 q.2 then (Classical.choose h).1.length else 0
theorem ErrAt.depth {w : World} {v : Value} {path : List ByteArray} {n : Option Int} (h : ErrAt w v path n) : depthAt w v = path.length := by
  have hx : ∃ q : List ByteArray × Option Int, ErrAt w v q.1 q.2 := ⟨(path, n), h⟩
  unfold depthAt
  rw [dif_pos hx, ((Classical.choose_spec hx).same h).1]


theorem fAt_some (x : ByteArray) (t : TypeId) (u : Value) (w : World) : Calls Tryz.prog 102 #[.string x, .iface t u] w fun r w' => r = .returned (.iface 166 (.pointer (some ⟨w.heap.size, 0, none⟩))) ∧ w' = w.alloc (.cells #[.string x, .iface t u] 168) := by
  go_enter Tryz.func102, Tryz.ntmps102
  go_wp2_with fail
  go_ret
  exact ⟨rfl, rfl⟩
/-- The places in a row, a space behind each. -/
def atP (path : List ByteArray) : ByteArray := path.foldl (fun s x => s ++ x ++ ⟨#[32]⟩) ⟨#[]⟩

theorem atP_size {path : List ByteArray} (k : Nat) (hs : ∀ x ∈ path.take k, x.size ≤ 1000) (hk : k ≤ path.length) : (atP (path.take k)).size ≤ 1001 * k := by
  induction k with
  | zero => exact Nat.zero_le _
  | succ k ih =>
    have hk' : k < path.length := hk
    rw [List.take_succ_eq_append_getElem hk'] at hs ⊢
    have h1 := ih (fun x hx => hs x (List.mem_append.2 (.inl hx))) (by omega)
    have h2 := hs path[k] (List.mem_append.2 (.inr (List.mem_singleton.2 rfl)))
    unfold atP at *
    rw [List.foldl_append]
    simp only [List.foldl_cons, List.foldl_nil, ByteArray.size_append]
    have h32 : (⟨#[32]⟩ : ByteArray).size = 1 := rfl
    omega
end Go.Proofs.YtbnecckgapainaaGreatDoor

namespace Go.Proofs.YtbnecckgapainaaGreatDoor
open Go.RowKit

/-- A fault in x within a fault in y with the number e. -/
def FaultK (w : World) (b : Nat) (x y : ByteArray) (e : Int) : Prop :=
  ∃ c : Nat, Holds w b 168 #[.string x, .iface 166 (.pointer (some ⟨c, 0, none⟩))] ∧ Holds w c 168 #[.string y, .iface 70 (.int .i64 e)]
theorem FaultK.kept {w w' : World} {b : Nat} {x y : ByteArray} {e : Int} (h : FaultK w b x y e) (k : Kept w w') : FaultK w' b x y e := by
  obtain ⟨c, h1, h2⟩ := h
  exact ⟨c, k.hold _ _ _ (by decide) (by decide) h1, k.hold _ _ _ (by decide) (by decide) h2⟩
theorem FaultK.err {w : World} {b : Nat} {x y : ByteArray} {e : Int} (h : FaultK w b x y e) : ErrAt w (.iface 166 (.pointer (some ⟨b, 0, none⟩))) [x, y] (some e) := by
  obtain ⟨c, h1, h2⟩ := h
  exact .fault h1.lt ((h1.cell 0).trans rfl) ((h1.cell 1).trans rfl) (.fault h2.lt ((h2.cell 0).trans rfl) ((h2.cell 1).trans rfl) (.num e))
set_option maxRecDepth 100000 in
theorem fOf_exact (x : ByteArray) (e : Int) (he : e ≠ 0) (w : World) : Calls Tryz.prog 103 #[.string x, .int .i64 e] w fun r w' => r = .returned (.iface 166 (.pointer (some ⟨w.heap.size, 0, none⟩))) ∧ w' = w.alloc (.cells #[.string x, .iface 70 (.int .i64 e)] 168) := by
  have hq : (e == 0) = false := by simpa using he
  have HA := Lib.hid (fAt_some x 70 (.int .i64 e) w)
  go_enter Tryz.func103, Tryz.ntmps103
  go_wp2_with (go_at_call 102; (with_reducible refine HA.out.mono ?_); rintro r w1 ⟨rfl, rfl⟩)
  go_ret
  exact ⟨rfl, rfl⟩
set_option maxRecDepth 100000 in
theorem snWrong_any (x y : ByteArray) (e : Int) (he : e ≠ 0) (w : World) : Calls Tryz.prog 68 #[.string x, .string y, .int .i64 e] w fun r w' => ∃ b, r = .returned (.iface 166 (.pointer (some ⟨b, 0, none⟩))) ∧ FaultK w' b x y e ∧ Below w.heap.size w w' := by
  have HO := Lib.hid (fOf_exact y e he w)
  have HA := Lib.hid (fun W => fAt_some x 166 (.pointer (some ⟨w.heap.size, 0, none⟩)) W)
  clear he
  go_enter Tryz.func68, Tryz.ntmps68
  go_wp2_with (first
    | (go_at_call 103; (with_reducible refine HO.out.mono ?_); rintro r w1 ⟨rfl, rfl⟩)
    | (go_at_call 102; (with_reducible refine (HA.out _).mono ?_); rintro r w2 ⟨rfl, rfl⟩))
  go_ret
  refine ⟨_, rfl, ⟨w.heap.size, ?_, ?_⟩, ?_⟩
  · have h2 := Holds.new (w.alloc (.cells #[.string y, .iface 70 (.int .i64 e)] 168)) 168 #[.string x, .iface 166 (.pointer (some ⟨w.heap.size, 0, none⟩))]
    rw [World.size_alloc] at h2
    exact h2
  · exact (Holds.new w _ _).moves ((Moves.refl nobody _).alloc _) (fun h => h)
  · exact ((Below.refl _ _).alloc (Nat.le_refl _) _).alloc (by simp) _
end Go.Proofs.YtbnecckgapainaaGreatDoor
