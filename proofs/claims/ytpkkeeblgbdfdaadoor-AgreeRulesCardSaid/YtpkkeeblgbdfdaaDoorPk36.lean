/- Part 36 of what the statement wants. -/
import Derived.Tactics
import Derived.Tactics2
import Derived.Defers
import Derived.Recover
import Derived.Laws.Pointers
import Derived.Laws.EntriesVeiled
import Derived.Test.YtpkkeeblgbdfdaaDoorPk00
import Derived.Test.YtpkkeeblgbdfdaaDoorPk32
import Derived.Test.YtpkkeeblgbdfdaaDoorPk35
namespace Go.Proofs.YtpkkeeblgbdfdaaDoor
open Go.RowKit Go.Extern.Stop Go.Stop Go.Extern

/-- errors.As for a number, of any chain. -/
theorem As_num_any {w : World} (hg : TypeOfError w) {v : Value} {path : List ByteArray} {n : Option Int} (hv : ErrAt w v path n) {P : Nat} {m : Int} (hP : Holds w P 31 #[.int .i64 m]) :
    Calls Tryd.prog 53 #[v, .iface 98 (.pointer (some ⟨P, 0, none⟩))] w fun r w' => r = .returned (.bool n.isSome) ∧ Holds w' P 31 #[.int .i64 (n.getD m)] ∧ Moves (fun k => k = P) w w' := by
  by_cases hne : v = .nilIface
  · subst hne
    cases hv
    exact (As_nil _ w).mono fun r w' ⟨h1, h2⟩ => ⟨h1, by rw [h2]; exact hP, by rw [h2]; exact Moves.refl _ _⟩
  · exact As_num hg hv hne hP
/-- The pointer that an error is, if it is a fault. -/
def headF (v : Value) : Option Addr × Bool := match v with | .iface t (.pointer p) => if t = 85 then (p, true) else (none, false) | _ => (none, false)
theorem As_fault_any {w : World} (hg : TypeOfError w) {v : Value} {path : List ByteArray} {n : Option Int} (hv : ErrAt w v path n) {P : Nat} (hP : Holds w P 85 #[.pointer none]) :
    Calls Tryd.prog 53 #[v, .iface 100 (.pointer (some ⟨P, 0, none⟩))] w fun r w' => r = .returned (.bool (headF v).2) ∧ Holds w' P 85 #[.pointer (headF v).1] ∧ Moves (fun k => k = P) w w' := by
  cases hv with
  | none => exact (As_nil _ w).mono fun r w' ⟨h1, h2⟩ => ⟨h1, by rw [h2]; exact hP, by rw [h2]; exact Moves.refl _ _⟩
  | num e => exact (As_fault_no hg e hP).mono fun r w' h => h
  | fault h1 h2 h3 h4 => exact (As_fault_yes hg (ErrAt.fault h1 h2 h3 h4) hP).mono fun r w' h => h

/-- The deferred closure where nothing panics. -/
theorem found1_idle (p : Addr) (w : World) :
    CallsD Tryd.prog 56 #[.pointer (some p)] .returning w fun e u' w' => e = .returned (.tuple #[]) ∧ u' = .returning ∧ w' = w := by
  refine callsD_of_wpS Tryd.func56 rfl fun c₀ cs hu => ?_
  apply wpS_seq
  apply wpS_region
  simp [wpOpsS, go_sem, recoverD, hu, Tryd.ntmps56, Exit.thenS]
  refine wpS_cond (t := false) (by simp [Act.eval, Array.replicate]) ?_
  simp only [Bool.false_eq_true, if_false]
  refine wpS_of_wp (wp_skip ?_)
  cases c₀
  simp_all [bodyPostS, results, Tryd.results56]


set_option maxRecDepth 100000 in
theorem number1_any {w : World} {E P : Nat} {v : Value} {path : List ByteArray} {n : Option Int} (hg : TypeOfError w) (hE : w.cell? ⟨E, 0, none⟩ = some v) (hv : ErrAt w v path n) (hP : Holds w P 31 #[.int .i64 0]) :
    Calls Tryd.prog 52 #[.pointer (some ⟨E, 0, none⟩), .pointer (some ⟨P, 0, none⟩)] w fun r w' => r = .returned (.bool n.isSome) ∧ Holds w' P 31 #[.int .i64 (n.getD 0)] ∧ Moves (fun k => k = P) w w' := by
  have HA := Lib.hid (As_num_any hg hv hP)
  clear hP hv hg
  go_enter Tryd.func52, Tryd.ntmps52
  go_wp2_with (go_at_call 53; with_reducible refine HA.out.mono ?_; rintro r w1 ⟨rfl, hS, hM⟩)
  go_ret
  exact ⟨rfl, hS, hM⟩

set_option maxRecDepth 100000 in
theorem found_number {w : World} {E P : Nat} {v : Value} {path : List ByteArray} {n : Option Int} (hg : TypeOfError w) (hE : w.cell? ⟨E, 0, none⟩ = some v) (hv : ErrAt w v path n) (hP : Holds w P 31 #[.int .i64 0]) :
    Calls Tryd.prog 51 #[.func (.func 52) #[] #[.pointer (some ⟨E, 0, none⟩), .pointer (some ⟨P, 0, none⟩)]] w fun r w' => r = .returned (.bool n.isSome) ∧ Holds w' P 31 #[.int .i64 (n.getD 0)] ∧ Moves (fun k => k = P) w w' := by
  have hmf : ∀ (fn : Fn) (first cap : Array Value) (w : World), (Instr.makeFunc fn first cap).run Tryd.prog w = .ok (.func fn first cap) w := fun _ _ _ _ => rfl
  have hb : Below w.heap.size w (w.alloc (.cells #[.bool false] 4)) := (Below.refl _ _).alloc (Nat.le_refl _) _
  have HC := Lib.hid (number1_any (hg.later hb) ((hb.cell (p := ⟨E, 0, none⟩) (World.block_lt_of_cell? w _ hE)).trans hE) (hv.later hb) (hP.moves (Moves.ofBelow (S := nobody) hb) (fun h => h)))
  have hPl := hP.lt
  have HB : Hid (Moves (fun k => k = P) w (w.alloc (.cells #[.bool false] 4))) := Moves.ofBelow hb
  have HR := Lib.hid (Holds.new w 4 #[.bool false])
  clear hg hE hv hP hb
  generalize n.isSome = ans at *
  go_enter_defers Tryd.func51, Tryd.ntmps51
  go_wp2_with (go_at_call 52; with_reducible refine HC.out.mono ?_; rintro r w1 ⟨rfl, hS, hM⟩; have hR := HR.out.moves hM (fun e => by have e' : w.heap.size = P := e; omega); have r0 := hR.cell 0; have z0 := hR.frozen 0; have hMM := HB.out.trans hM (fun i h => .inl h))
  refine leaves_cons (f := 56) (args := #[.pointer (some ⟨w.heap.size, 0, none⟩)]) (by simp) (by simp [go_sem]) ?_
  refine (found1_idle ⟨w.heap.size, 0, none⟩ _).mono ?_
  rintro e u' w'' ⟨rfl, rfl, rfl⟩
  have q0 := (Holds.set hR 0 (.bool ans)).cell 0
  simp [Leaves, settle, results, Tryd.results51, go_sem, q0]
  exact ⟨hS.moves ((Moves.refl (fun i => i = w.heap.size) w1).setCell (.inl rfl) _) (fun e => by omega), hMM.setCell (.inr (Nat.le_refl _)) _⟩

set_option maxRecDepth 100000 in
theorem fnumber_any {w : World} {v : Value} {path : List ByteArray} {n : Option Int} (hg : TypeOfError w) (hv : ErrAt w v path n) :
    Calls Tryd.prog 44 #[v] w fun r w' => r = .returned (.tuple #[.int .i64 (n.getD 0), .bool n.isSome]) ∧ Below w.heap.size w w' := by
  have hmf : ∀ (fn : Fn) (first cap : Array Value) (w : World), (Instr.makeFunc fn first cap).run Tryd.prog w = .ok (.func fn first cap) w := fun _ _ _ _ => rfl
  have hb : Below w.heap.size w ((w.alloc (.cells #[v] 28)).alloc (.cells #[.int .i64 0] 31)) := ((Below.refl _ _).alloc (Nat.le_refl _) _).alloc (by simp) _
  have hE : ((w.alloc (.cells #[v] 28)).alloc (.cells #[.int .i64 0] 31)).cell? ⟨w.heap.size, 0, none⟩ = some v := ((Holds.new w 28 #[v]).moves ((Moves.refl nobody _).alloc (.cells #[.int .i64 0] 31)) (fun h => h)).cell 0
  have hP := Holds.new (w.alloc (.cells #[v] 28)) 31 #[.int .i64 0]
  rw [World.size_alloc] at hP
  have HC := Lib.hid (found_number (hg.later hb) hE (hv.later hb) hP)
  have HB := Lib.hid hb
  obtain ⟨hone, hkind⟩ : v.oneCell' = true ∧ (v = .nilIface ∨ ∃ t u, v = .iface t u) := by
    cases hv with
    | none => exact ⟨rfl, .inl rfl⟩
    | num e => exact ⟨rfl, .inr ⟨_, _, rfl⟩⟩
    | fault _ _ _ _ => exact ⟨rfl, .inr ⟨_, _, rfl⟩⟩
  clear hg hv hb hE hP
  rcases hkind with rfl | ⟨t0, u0, rfl⟩
  all_goals
    go_enter Tryd.func44, Tryd.ntmps44
    go_wp2_with (go_at_call 51; with_reducible refine HC.out.mono ?_; rintro r w1 ⟨rfl, hS, hM⟩; have c0 := hS.cell 0; have z0 := hS.frozen 0)
    have hfin : Below w.heap.size w (w1.setCell ⟨w.heap.size + 1, 0, none⟩ (.int .i64 (n.getD 0))) := (HB.out.trans (hM.below HB.out.size (fun i hi => by omega))).setCell (p := ⟨w.heap.size + 1, 0, none⟩) (by simp) _
    have q0 := (Holds.set hS 0 (.int .i64 (n.getD 0))).cell 0
    refine bodyPost_ret (v := .tuple #[.int .i64 (n.getD 0), .bool n.isSome]) ?_ rfl ⟨rfl, hfin⟩
    simp [results, Tryd.results44, go_sem, q0]

set_option maxRecDepth 100000 in
theorem outer1_any {w : World} {E P : Nat} {v : Value} {path : List ByteArray} {n : Option Int} (hg : TypeOfError w) (hE : w.cell? ⟨E, 0, none⟩ = some v) (hv : ErrAt w v path n) (hP : Holds w P 85 #[.pointer none]) :
    Calls Tryd.prog 55 #[.pointer (some ⟨E, 0, none⟩), .pointer (some ⟨P, 0, none⟩)] w fun r w' => r = .returned (.bool (headF v).2) ∧ Holds w' P 85 #[.pointer (headF v).1] ∧ Moves (fun k => k = P) w w' := by
  have HA := Lib.hid (As_fault_any hg hv hP)
  clear hP hv hg
  go_enter Tryd.func55, Tryd.ntmps55
  go_wp2_with (go_at_call 53; with_reducible refine HA.out.mono ?_; rintro r w1 ⟨rfl, hS, hM⟩)
  go_ret
  exact ⟨rfl, hS, hM⟩

set_option maxRecDepth 100000 in
theorem found_outer {w : World} {E P : Nat} {v : Value} {path : List ByteArray} {n : Option Int} (hg : TypeOfError w) (hE : w.cell? ⟨E, 0, none⟩ = some v) (hv : ErrAt w v path n) (hP : Holds w P 85 #[.pointer none]) :
    Calls Tryd.prog 51 #[.func (.func 55) #[] #[.pointer (some ⟨E, 0, none⟩), .pointer (some ⟨P, 0, none⟩)]] w fun r w' => r = .returned (.bool (headF v).2) ∧ Holds w' P 85 #[.pointer (headF v).1] ∧ Moves (fun k => k = P) w w' := by
  have hmf : ∀ (fn : Fn) (first cap : Array Value) (w : World), (Instr.makeFunc fn first cap).run Tryd.prog w = .ok (.func fn first cap) w := fun _ _ _ _ => rfl
  have hb : Below w.heap.size w (w.alloc (.cells #[.bool false] 4)) := (Below.refl _ _).alloc (Nat.le_refl _) _
  have HC := Lib.hid (outer1_any (hg.later hb) ((hb.cell (p := ⟨E, 0, none⟩) (World.block_lt_of_cell? w _ hE)).trans hE) (hv.later hb) (hP.moves (Moves.ofBelow (S := nobody) hb) (fun h => h)))
  have hPl := hP.lt
  have HB : Hid (Moves (fun k => k = P) w (w.alloc (.cells #[.bool false] 4))) := Moves.ofBelow hb
  have HR := Lib.hid (Holds.new w 4 #[.bool false])
  clear hg hE hv hP hb
  generalize (headF v).2 = ans at *
  go_enter_defers Tryd.func51, Tryd.ntmps51
  go_wp2_with (go_at_call 55; with_reducible refine HC.out.mono ?_; rintro r w1 ⟨rfl, hS, hM⟩; have hR := HR.out.moves hM (fun e => by have e' : w.heap.size = P := e; omega); have r0 := hR.cell 0; have z0 := hR.frozen 0; have hMM := HB.out.trans hM (fun i h => .inl h))
  refine leaves_cons (f := 56) (args := #[.pointer (some ⟨w.heap.size, 0, none⟩)]) (by simp) (by simp [go_sem]) ?_
  refine (found1_idle ⟨w.heap.size, 0, none⟩ _).mono ?_
  rintro e u' w'' ⟨rfl, rfl, rfl⟩
  have q0 := (Holds.set hR 0 (.bool ans)).cell 0
  simp [Leaves, settle, results, Tryd.results51, go_sem, q0]
  exact ⟨hS.moves ((Moves.refl (fun i => i = w.heap.size) w1).setCell (.inl rfl) _) (fun e => by omega), hMM.setCell (.inr (Nat.le_refl _)) _⟩

set_option maxRecDepth 100000 in
theorem outer_any {w : World} {v : Value} {path : List ByteArray} {n : Option Int} (hg : TypeOfError w) (hv : ErrAt w v path n) :
    Calls Tryd.prog 50 #[v] w fun r w' => r = .returned (.tuple #[.pointer (headF v).1, .bool (headF v).2]) ∧ Below w.heap.size w w' := by
  have hmf : ∀ (fn : Fn) (first cap : Array Value) (w : World), (Instr.makeFunc fn first cap).run Tryd.prog w = .ok (.func fn first cap) w := fun _ _ _ _ => rfl
  have hb : Below w.heap.size w ((w.alloc (.cells #[v] 28)).alloc (.cells #[.pointer none] 85)) := ((Below.refl _ _).alloc (Nat.le_refl _) _).alloc (by simp) _
  have hE : ((w.alloc (.cells #[v] 28)).alloc (.cells #[.pointer none] 85)).cell? ⟨w.heap.size, 0, none⟩ = some v := ((Holds.new w 28 #[v]).moves ((Moves.refl nobody _).alloc (.cells #[.pointer none] 85)) (fun h => h)).cell 0
  have hP := Holds.new (w.alloc (.cells #[v] 28)) 85 #[.pointer none]
  rw [World.size_alloc] at hP
  have HC := Lib.hid (found_outer (hg.later hb) hE (hv.later hb) hP)
  have HB := Lib.hid hb
  obtain ⟨hone, hkind⟩ : v.oneCell' = true ∧ (v = .nilIface ∨ ∃ t u, v = .iface t u) := by
    cases hv with
    | none => exact ⟨rfl, .inl rfl⟩
    | num e => exact ⟨rfl, .inr ⟨_, _, rfl⟩⟩
    | fault _ _ _ _ => exact ⟨rfl, .inr ⟨_, _, rfl⟩⟩
  clear hg hv hb hE hP
  generalize (headF v).1 = pp at *
  generalize (headF v).2 = bb at *
  rcases hkind with rfl | ⟨t0, u0, rfl⟩
  all_goals
    go_enter Tryd.func50, Tryd.ntmps50
    go_wp2_with (go_at_call 51; with_reducible refine HC.out.mono ?_; rintro r w1 ⟨rfl, hS, hM⟩; have c0 := hS.cell 0; have z0 := hS.frozen 0)
    have hfin : Below w.heap.size w (w1.setCell ⟨w.heap.size + 1, 0, none⟩ (.pointer pp)) := (HB.out.trans (hM.below HB.out.size (fun i hi => by omega))).setCell (p := ⟨w.heap.size + 1, 0, none⟩) (by simp) _
    have q0 := (Holds.set hS 0 (.pointer pp)).cell 0
    refine bodyPost_ret (v := .tuple #[.pointer pp, .bool bb]) ?_ rfl ⟨rfl, hfin⟩
    simp [results, Tryd.results50, go_sem, q0]
end Go.Proofs.YtpkkeeblgbdfdaaDoor

namespace Go.Proofs.YtpkkeeblgbdfdaaDoor
open Go.RowKit Go.Extern.Stop Go.Stop Go.Extern

/-- The number that Code gives. -/
def codeP (v : Value) (n : Option Int) : Int := match v with | .nilIface => 0 | _ => n.getD 14
set_option maxRecDepth 100000 in
theorem fCode_any {w : World} {v : Value} {path : List ByteArray} {n : Option Int} (hg : TypeOfError w) (hv : ErrAt w v path n) : Calls Tryd.prog 24 #[v] w fun r w' => r = .returned (.int .i64 (codeP v n)) ∧ Below w.heap.size w w' := by
  have HN := Lib.hid (fnumber_any hg hv)
  have hkind : (v = .nilIface ∨ ∃ t u, v = .iface t u) := by
    cases hv with
    | none => exact .inl rfl
    | num e => exact .inr ⟨_, _, rfl⟩
    | fault _ _ _ _ => exact .inr ⟨_, _, rfl⟩
  clear hv hg
  rcases hkind with rfl | ⟨t0, u0, rfl⟩
  · go_enter Tryd.func24, Tryd.ntmps24
    go_wp2_with fail
    go_ret
    exact ⟨rfl, Below.refl _ _⟩
  · cases n with
    | none =>
      go_enter Tryd.func24, Tryd.ntmps24
      go_wp2_with (go_at_call 44; with_reducible refine HN.out.mono ?_; rintro r w1 ⟨rfl, b1⟩)
      go_ret
      exact ⟨rfl, b1⟩
    | some e =>
      go_enter Tryd.func24, Tryd.ntmps24
      go_wp2_with (go_at_call 44; with_reducible refine HN.out.mono ?_; rintro r w1 ⟨rfl, b1⟩)
      go_ret
      exact ⟨rfl, b1⟩
end Go.Proofs.YtpkkeeblgbdfdaaDoor

namespace Go.Proofs.YtpkkeeblgbdfdaaDoor
open Go.RowKit

theorem ba_beq (a b : ByteArray) : (a == b) = (a.data == b.data) := rfl
instance ba_law : LawfulBEq ByteArray where
  eq_of_beq := by
    intro a b h
    rw [ba_beq] at h
    cases a; cases b
    exact congrArg _ (eq_of_beq h)
  rfl := by
    intro a
    rw [ba_beq]
    exact beq_self_eq_true _

end Go.Proofs.YtpkkeeblgbdfdaaDoor

namespace Go.Proofs.YtpkkeeblgbdfdaaDoor
open Go.RowKit

/-- A slice value that reads as the strings l. -/
def TextsAt (w : World) (v : Value) (l : List ByteArray) : Prop :=
  ∃ ao cap, v = .slice ao l.length cap ∧ (l ≠ [] → ∃ b off, ao = some ⟨b, off, none⟩ ∧ b < w.heap.size ∧ ∀ k x, l[k]? = some x → w.cell? ⟨b, off + k, none⟩ = some (.string x))

theorem TextsAt.nil (w : World) : TextsAt w (.slice none 0 0) [] := ⟨none, 0, rfl, fun h => absurd rfl h⟩
theorem TextsAt.keep {w w' : World} {v : Value} {l : List ByteArray} (h : TextsAt w v l) (hs : w.heap.size ≤ w'.heap.size) (hc : ∀ b off cap i, v = .slice (some ⟨b, off, none⟩) l.length cap → b < w.heap.size → w'.cell? ⟨b, i, none⟩ = w.cell? ⟨b, i, none⟩) : TextsAt w' v l := by
  obtain ⟨ao, cap, rfl, h⟩ := h
  refine ⟨ao, cap, rfl, fun hne => ?_⟩
  obtain ⟨b, off, rfl, hb, hk⟩ := h hne
  exact ⟨b, off, rfl, by omega, fun k x hx => (hc b off cap _ rfl hb).trans (hk k x hx)⟩
theorem TextsAt.below {w w' : World} {v : Value} {l : List ByteArray} (h : TextsAt w v l) (hb : Below w.heap.size w w') : TextsAt w' v l :=
  h.keep hb.size fun _ _ _ _ _ hlt => hb.cell hlt
theorem TextsAt.drew {w : World} {v : Value} {l : List ByteArray} (h : TextsAt w v l) : TextsAt w.drew v l := h
/-- The slice of the first n. -/
theorem TextsAt.take {w : World} {ao : Option Addr} {cap : Nat} {l : List ByteArray} (h : TextsAt w (.slice ao l.length cap) l) {n : Nat} (hn : n ≤ l.length) (c : Nat) : TextsAt w (.slice ao n c) (l.take n) := by
  obtain ⟨ao', cap', hv, h⟩ := h
  simp only [Value.slice.injEq] at hv
  obtain ⟨rfl, _, rfl⟩ := hv
  refine ⟨ao, c, by simp [Nat.min_eq_left hn], fun hne => ?_⟩
  obtain ⟨b, off, rfl, hb, hk⟩ := h (by rintro rfl; simp at hne)
  refine ⟨b, off, rfl, hb, fun k x hx => hk k x ?_⟩
  have hk' : k < n := by
    have := (List.getElem?_eq_some_iff.1 hx).1
    simp at this
    omega
  rw [List.getElem?_take] at hx
  simpa [hk'] using hx
end Go.Proofs.YtpkkeeblgbdfdaaDoor
