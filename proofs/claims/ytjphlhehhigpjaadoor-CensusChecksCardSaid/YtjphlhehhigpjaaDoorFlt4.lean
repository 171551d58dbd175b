/- found, number and outermost. -/
import Derived.Test.YtjphlhehhigpjaaDoorStrP
import Derived.Test.YtjphlhehhigpjaaDoorFlt3
import Derived.Tactics
import Derived.Tactics2
import Derived.Defers
import Derived.Recover
import Derived.Laws.Pointers
import Derived.Laws.EntriesVeiled
namespace Go.Proofs.YtjphlhehhigpjaaDoor
open Go.RowKit Go.Extern.Stop Go.Stop Go.Extern

/-- errors.As for a number, of any chain. -/
theorem As_num_any {w : World} (hg : TypeOfError w) {v : Value} {path : List ByteArray} {n : Option Int} (hv : ErrAt w v path n) {P : Nat} {m : Int} (hP : Holds w P 42 #[.int .i64 m]) :
    Calls Tryd.prog 51 #[v, .iface 109 (.pointer (some ⟨P, 0, none⟩))] w fun r w' => r = .returned (.bool n.isSome) ∧ Holds w' P 42 #[.int .i64 (n.getD m)] ∧ Moves (fun k => k = P) w w' := by
  by_cases hne : v = .nilIface
  · subst hne
    cases hv
    exact (As_nil _ w).mono fun r w' ⟨h1, h2⟩ => ⟨h1, by rw [h2]; exact hP, by rw [h2]; exact Moves.refl _ _⟩
  · exact As_num hg hv hne hP
/-- The pointer that an error is, if it is a fault. -/
def headF (v : Value) : Option Addr × Bool := match v with | .iface t (.pointer p) => if t = 102 then (p, true) else (none, false) | _ => (none, false)
theorem As_fault_any {w : World} (hg : TypeOfError w) {v : Value} {path : List ByteArray} {n : Option Int} (hv : ErrAt w v path n) {P : Nat} (hP : Holds w P 102 #[.pointer none]) :
    Calls Tryd.prog 51 #[v, .iface 121 (.pointer (some ⟨P, 0, none⟩))] w fun r w' => r = .returned (.bool (headF v).2) ∧ Holds w' P 102 #[.pointer (headF v).1] ∧ Moves (fun k => k = P) w w' := by
  cases hv with
  | none => exact (As_nil _ w).mono fun r w' ⟨h1, h2⟩ => ⟨h1, by rw [h2]; exact hP, by rw [h2]; exact Moves.refl _ _⟩
  | num e => exact (As_fault_no hg e hP).mono fun r w' h => h
  | fault h1 h2 h3 h4 => exact (As_fault_yes hg (ErrAt.fault h1 h2 h3 h4) hP).mono fun r w' h => h

/-- The deferred closure where nothing panics. -/
theorem found1_idle (p : Addr) (w : World) :
    CallsD Tryd.prog 63 #[.pointer (some p)] .returning w fun e u' w' => e = .returned (.tuple #[]) ∧ u' = .returning ∧ w' = w := by
  refine callsD_of_wpS Tryd.func63 rfl fun c₀ cs hu => ?_
  apply wpS_seq
  apply wpS_region
  simp [wpOpsS, go_sem, recoverD, hu, Tryd.ntmps63, Exit.thenS]
  refine wpS_cond (t := false) (by simp [Act.eval, Array.replicate]) ?_
  simp only [Bool.false_eq_true, if_false]
  refine wpS_of_wp (wp_skip ?_)
  cases c₀
  simp_all [bodyPostS, results, Tryd.results63]


set_option maxRecDepth 100000 in
theorem number1_any {w : World} {E P : Nat} {v : Value} {path : List ByteArray} {n : Option Int} (hg : TypeOfError w) (hE : w.cell? ⟨E, 0, none⟩ = some v) (hv : ErrAt w v path n) (hP : Holds w P 42 #[.int .i64 0]) :
    Calls Tryd.prog 50 #[.pointer (some ⟨E, 0, none⟩), .pointer (some ⟨P, 0, none⟩)] w fun r w' => r = .returned (.bool n.isSome) ∧ Holds w' P 42 #[.int .i64 (n.getD 0)] ∧ Moves (fun k => k = P) w w' := by
  have HA := Lib.hid (As_num_any hg hv hP)
  clear hP hv hg
  go_enter Tryd.func50, Tryd.ntmps50
  go_wp2_with (go_at_call 51; with_reducible refine HA.out.mono ?_; rintro r w1 ⟨rfl, hS, hM⟩)
  go_ret
  exact ⟨rfl, hS, hM⟩

set_option maxRecDepth 100000 in
theorem found_number {w : World} {E P : Nat} {v : Value} {path : List ByteArray} {n : Option Int} (hg : TypeOfError w) (hE : w.cell? ⟨E, 0, none⟩ = some v) (hv : ErrAt w v path n) (hP : Holds w P 42 #[.int .i64 0]) :
    Calls Tryd.prog 49 #[.func (.func 50) #[] #[.pointer (some ⟨E, 0, none⟩), .pointer (some ⟨P, 0, none⟩)]] w fun r w' => r = .returned (.bool n.isSome) ∧ Holds w' P 42 #[.int .i64 (n.getD 0)] ∧ Moves (fun k => k = P) w w' := by
  have hmf : ∀ (fn : Fn) (first cap : Array Value) (w : World), (Instr.makeFunc fn first cap).run Tryd.prog w = .ok (.func fn first cap) w := fun _ _ _ _ => rfl
  have hb : Below w.heap.size w (w.alloc (.cells #[.bool false] 4)) := (Below.refl _ _).alloc (Nat.le_refl _) _
  have HC := Lib.hid (number1_any (hg.later hb) ((hb.cell (p := ⟨E, 0, none⟩) (World.block_lt_of_cell? w _ hE)).trans hE) (hv.later hb) (hP.moves (Moves.ofBelow (S := nobody) hb) (fun h => h)))
  have hPl := hP.lt
  have HB : Hid (Moves (fun k => k = P) w (w.alloc (.cells #[.bool false] 4))) := Moves.ofBelow hb
  have HR := Lib.hid (Holds.new w 4 #[.bool false])
  clear hg hE hv hP hb
  generalize n.isSome = ans at *
  go_enter_defers Tryd.func49, Tryd.ntmps49
  go_wp2_with (go_at_call 50; with_reducible refine HC.out.mono ?_; rintro r w1 ⟨rfl, hS, hM⟩; have hR := HR.out.moves hM (fun e => by have e' : w.heap.size = P := e; omega); have r0 := hR.cell 0; have z0 := hR.frozen 0; have hMM := HB.out.trans hM (fun i h => .inl h))
  refine leaves_cons (f := 63) (args := #[.pointer (some ⟨w.heap.size, 0, none⟩)]) (by simp) (by simp [go_sem]) ?_
  refine (found1_idle ⟨w.heap.size, 0, none⟩ _).mono ?_
  rintro e u' w'' ⟨rfl, rfl, rfl⟩
  have q0 := (Holds.set hR 0 (.bool ans)).cell 0
  simp [Leaves, settle, results, Tryd.results49, go_sem, q0]
  exact ⟨hS.moves ((Moves.refl (fun i => i = w.heap.size) w1).setCell (.inl rfl) _) (fun e => by omega), hMM.setCell (.inr (Nat.le_refl _)) _⟩

set_option maxRecDepth 100000 in
theorem fnumber_any {w : World} {v : Value} {path : List ByteArray} {n : Option Int} (hg : TypeOfError w) (hv : ErrAt w v path n) :
    Calls Tryd.prog 42 #[v] w fun r w' => r = .returned (.tuple #[.int .i64 (n.getD 0), .bool n.isSome]) ∧ Below w.heap.size w w' := by
  have hmf : ∀ (fn : Fn) (first cap : Array Value) (w : World), (Instr.makeFunc fn first cap).run Tryd.prog w = .ok (.func fn first cap) w := fun _ _ _ _ => rfl
  have hb : Below w.heap.size w ((w.alloc (.cells #[v] 38)).alloc (.cells #[.int .i64 0] 42)) := ((Below.refl _ _).alloc (Nat.le_refl _) _).alloc (by simp) _
  have hE : ((w.alloc (.cells #[v] 38)).alloc (.cells #[.int .i64 0] 42)).cell? ⟨w.heap.size, 0, none⟩ = some v := ((Holds.new w 38 #[v]).moves ((Moves.refl nobody _).alloc (.cells #[.int .i64 0] 42)) (fun h => h)).cell 0
  have hP := Holds.new (w.alloc (.cells #[v] 38)) 42 #[.int .i64 0]
  rw [World.size_alloc] at hP
  have HC := Lib.hid (found_number (hg.later hb) hE (hv.later hb) hP)
  have HB := Lib.hid hb
  obtain ⟨hone, hkind⟩ : v.oneCell' = true ∧ (v = .nilIface ∨ ∃ t u, v = .iface t u) := by
    cases hv with
    | none => exact ⟨rfl, .inl rfl⟩
    | num e => exact ⟨rfl, .inr ⟨_, _, rfl⟩⟩
    | fault _ _ _ _ => exact ⟨rfl, .inr ⟨_, _, rfl⟩⟩
  clear hg hv hb hE hP
  rcases hkind with rfl | ⟨t0, u0, rfl⟩
  all_goals
    go_enter Tryd.func42, Tryd.ntmps42
    go_wp2_with (go_at_call 49; with_reducible refine HC.out.mono ?_; rintro r w1 ⟨rfl, hS, hM⟩; have c0 := hS.cell 0; have z0 := hS.frozen 0)
    have hfin : Below w.heap.size w (w1.setCell ⟨w.heap.size + 1, 0, none⟩ (.int .i64 (n.getD 0))) := (HB.out.trans (hM.below HB.out.size (fun i hi => by omega))).setCell (p := ⟨w.heap.size + 1, 0, none⟩) (by simp) _
    have q0 := (Holds.set hS 0 (.int .i64 (n.getD 0))).cell 0
    refine bodyPost_ret (v := .tuple #[.int .i64 (n.getD 0), .bool n.isSome]) ?_ rfl ⟨rfl, hfin⟩
    simp [results, Tryd.results42, go_sem, q0]

set_option maxRecDepth 100000 in
theorem outer1_any {w : World} {E P : Nat} {v : Value} {path : List ByteArray} {n : Option Int} (hg : TypeOfError w) (hE : w.cell? ⟨E, 0, none⟩ = some v) (hv : ErrAt w v path n) (hP : Holds w P 102 #[.pointer none]) :
    Calls Tryd.prog 62 #[.pointer (some ⟨E, 0, none⟩), .pointer (some ⟨P, 0, none⟩)] w fun r w' => r = .returned (.bool (headF v).2) ∧ Holds w' P 102 #[.pointer (headF v).1] ∧ Moves (fun k => k = P) w w' := by
  have HA := Lib.hid (As_fault_any hg hv hP)
  clear hP hv hg
  go_enter Tryd.func62, Tryd.ntmps62
  go_wp2_with (go_at_call 51; with_reducible refine HA.out.mono ?_; rintro r w1 ⟨rfl, hS, hM⟩)
  go_ret
  exact ⟨rfl, hS, hM⟩

set_option maxRecDepth 100000 in
theorem found_outer {w : World} {E P : Nat} {v : Value} {path : List ByteArray} {n : Option Int} (hg : TypeOfError w) (hE : w.cell? ⟨E, 0, none⟩ = some v) (hv : ErrAt w v path n) (hP : Holds w P 102 #[.pointer none]) :
    Calls Tryd.prog 49 #[.func (.func 62) #[] #[.pointer (some ⟨E, 0, none⟩), .pointer (some ⟨P, 0, none⟩)]] w fun r w' => r = .returned (.bool (headF v).2) ∧ Holds w' P 102 #[.pointer (headF v).1] ∧ Moves (fun k => k = P) w w' := by
  have hmf : ∀ (fn : Fn) (first cap : Array Value) (w : World), (Instr.makeFunc fn first cap).run Tryd.prog w = .ok (.func fn first cap) w := fun _ _ _ _ => rfl
  have hb : Below w.heap.size w (w.alloc (.cells #[.bool false] 4)) := (Below.refl _ _).alloc (Nat.le_refl _) _
  have HC := Lib.hid (outer1_any (hg.later hb) ((hb.cell (p := ⟨E, 0, none⟩) (World.block_lt_of_cell? w _ hE)).trans hE) (hv.later hb) (hP.moves (Moves.ofBelow (S := nobody) hb) (fun h => h)))
  have hPl := hP.lt
  have HB : Hid (Moves (fun k => k = P) w (w.alloc (.cells #[.bool false] 4))) := Moves.ofBelow hb
  have HR := Lib.hid (Holds.new w 4 #[.bool false])
  clear hg hE hv hP hb
  generalize (headF v).2 = ans at *
  go_enter_defers Tryd.func49, Tryd.ntmps49
  go_wp2_with (go_at_call 62; with_reducible refine HC.out.mono ?_; rintro r w1 ⟨rfl, hS, hM⟩; have hR := HR.out.moves hM (fun e => by have e' : w.heap.size = P := e; omega); have r0 := hR.cell 0; have z0 := hR.frozen 0; have hMM := HB.out.trans hM (fun i h => .inl h))
  refine leaves_cons (f := 63) (args := #[.pointer (some ⟨w.heap.size, 0, none⟩)]) (by simp) (by simp [go_sem]) ?_
  refine (found1_idle ⟨w.heap.size, 0, none⟩ _).mono ?_
  rintro e u' w'' ⟨rfl, rfl, rfl⟩
  have q0 := (Holds.set hR 0 (.bool ans)).cell 0
  simp [Leaves, settle, results, Tryd.results49, go_sem, q0]
  exact ⟨hS.moves ((Moves.refl (fun i => i = w.heap.size) w1).setCell (.inl rfl) _) (fun e => by omega), hMM.setCell (.inr (Nat.le_refl _)) _⟩

set_option maxRecDepth 100000 in
theorem outer_any {w : World} {v : Value} {path : List ByteArray} {n : Option Int} (hg : TypeOfError w) (hv : ErrAt w v path n) :
    Calls Tryd.prog 48 #[v] w fun r w' => r = .returned (.tuple #[.pointer (headF v).1, .bool (headF v).2]) ∧ Below w.heap.size w w' := by
  have hmf : ∀ (fn : Fn) (first cap : Array Value) (w : World), (Instr.makeFunc fn first cap).run Tryd.prog w = .ok (.func fn first cap) w := fun _ _ _ _ => rfl
  have hb : Below w.heap.size w ((w.alloc (.cells #[v] 38)).alloc (.cells #[.pointer none] 102)) := ((Below.refl _ _).alloc (Nat.le_refl _) _).alloc (by simp) _
  have hE : ((w.alloc (.cells #[v] 38)).alloc (.cells #[.pointer none] 102)).cell? ⟨w.heap.size, 0, none⟩ = some v := ((Holds.new w 38 #[v]).moves ((Moves.refl nobody _).alloc (.cells #[.pointer none] 102)) (fun h => h)).cell 0
  have hP := Holds.new (w.alloc (.cells #[v] 38)) 102 #[.pointer none]
  rw [World.size_alloc] at hP
  have HC := Lib.hid (found_outer (hg.later hb) hE (hv.later hb) hP)
  have HB := Lib.hid hb
  obtain ⟨hone, hkind⟩ : v.oneCell' = true ∧ (v = .nilIface ∨ ∃ t u, v = .iface t u) := by
    cases hv with
    | none => exact ⟨rfl, .inl rfl⟩
    | num e => exact ⟨rfl, .inr ⟨_, _, rfl⟩⟩
    | fault _ _ _ _ => exact ⟨rfl, .inr ⟨_, _, rfl⟩⟩
  clear hg hv hb hE hP
  generalize (headF v).1 = pp at *
  generalize (headF v).2 = bb at *
  rcases hkind with rfl | ⟨t0, u0, rfl⟩
  all_goals
    go_enter Tryd.func48, Tryd.ntmps48
    go_wp2_with (go_at_call 49; with_reducible refine HC.out.mono ?_; rintro r w1 ⟨rfl, hS, hM⟩; have c0 := hS.cell 0; have z0 := hS.frozen 0)
    have hfin : Below w.heap.size w (w1.setCell ⟨w.heap.size + 1, 0, none⟩ (.pointer pp)) := (HB.out.trans (hM.below HB.out.size (fun i hi => by omega))).setCell (p := ⟨w.heap.size + 1, 0, none⟩) (by simp) _
    have q0 := (Holds.set hS 0 (.pointer pp)).cell 0
    refine bodyPost_ret (v := .tuple #[.pointer pp, .bool bb]) ?_ rfl ⟨rfl, hfin⟩
    simp [results, Tryd.results48, go_sem, q0]
end Go.Proofs.YtjphlhehhigpjaaDoor
