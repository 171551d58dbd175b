/- Part 14 of what the statement wants. -/
import Derived.Deep.AppendLies
import Derived.LoopTactic
import Derived.Test.YtgoinpibllomfaaDoorPk13
namespace Go.Proofs.YtgoinpibllomfaaDoor
open Go.RowKit

theorem app_get (A B Z : Array Value) (k : Nat) (h : k < (A ++ B).size) : (A ++ (B ++ Z))[k]? = (A ++ B)[k]? := by
  rw [← Array.append_assoc, Array.getElem?_append_left h]
/-- A closure over the box. -/
def clo (f : FuncId) (B : Nat) : Value := .func (.func f) #[] #[.pointer (some ⟨B, 0, none⟩)]
set_option maxHeartbeats 2000000 in
set_option maxRecDepth 100000 in
theorem cfConds_srv (c : CfV) (hs : c.sv = true) (w : World) : Calls Tryd.prog 44 #[.agg c.row] w fun e w' => ∃ g cap, e = .returned (.slice (some ⟨g, 0, none⟩) 4 cap) ∧ (w'.cell? ⟨g, 0, none⟩ = some (clo 58 w.heap.size) ∧ w'.cell? ⟨g, 1, none⟩ = some (clo 60 w.heap.size) ∧ w'.cell? ⟨g, 2, none⟩ = some (clo 62 w.heap.size) ∧ w'.cell? ⟨g, 3, none⟩ = some (clo 64 w.heap.size)) ∧ g < w'.heap.size ∧ Holds w' w.heap.size 51 c.row ∧ Below w.heap.size w w' := by
  have hB := Holds.new w 51 c.row
  have x0 : (w.alloc (.cells c.row 51)).cell? ⟨w.heap.size, 0, none⟩ = some (.bool c.sv) := hB.cell 0
  rw [hs] at x0
  obtain ⟨R, hR⟩ : ∃ R, R = c.row := ⟨_, rfl⟩
  rw [← hR] at hB x0 ⊢
  clear hR
  have y0 := (((Below.refl (w.alloc (.cells R 51)).heap.size (w.alloc (.cells R 51))).alloc (Nat.le_refl _) (.cells #[.func (.func 58) #[] #[.pointer (some ⟨w.heap.size, 0, none⟩)], .func (.func 60) #[] #[.pointer (some ⟨w.heap.size, 0, none⟩)]] 84)).cell (p := ⟨w.heap.size, 0, none⟩) hB.lt).trans x0
  have HB : Hid (Holds (w.alloc (.cells R 51)) w.heap.size 51 R) := hB
  clear hB x0
  go_enter Tryd.func44, Tryd.ntmps44
  go_wp2_with fail
  go_ret
  refine ⟨_, _, rfl, ?_, ?_, ?_, ?_⟩
  · have hN := Holds.new (((w.alloc (.cells R 51)).alloc (.cells #[.func (.func 58) #[] #[.pointer (some ⟨w.heap.size, 0, none⟩)], .func (.func 60) #[] #[.pointer (some ⟨w.heap.size, 0, none⟩)]] 84)).alloc (.cells #[.func (.func 62) #[] #[.pointer (some ⟨w.heap.size, 0, none⟩)], .func (.func 64) #[] #[.pointer (some ⟨w.heap.size, 0, none⟩)]] 84)) 84 (#[.func (.func 58) #[] #[.pointer (some ⟨w.heap.size, 0, none⟩)], .func (.func 60) #[] #[.pointer (some ⟨w.heap.size, 0, none⟩)]] ++ (#[.func (.func 62) #[] #[.pointer (some ⟨w.heap.size, 0, none⟩)], .func (.func 64) #[] #[.pointer (some ⟨w.heap.size, 0, none⟩)]] ++ Builtin.zeroCells #[.nilFunc] ((Question.appendCap 4 2 84).cut (w.tape w.drawn (Question.appendCap 4 2 84)) - 4)))
    rw [World.size_alloc, World.size_alloc, World.size_alloc] at hN
    exact ⟨(hN.cell 0).trans ((app_get _ _ _ _ (by simp)).trans rfl), (hN.cell 1).trans ((app_get _ _ _ _ (by simp)).trans rfl), (hN.cell 2).trans ((app_get _ _ _ _ (by simp)).trans rfl), (hN.cell 3).trans ((app_get _ _ _ _ (by simp)).trans rfl)⟩
  · simp only [World.size_drew, World.size_alloc]
    omega
  · exact ((((HB.out.moves ((Moves.refl nobody _).alloc _) (fun h => h)).moves ((Moves.refl nobody _).alloc _) (fun h => h)).moves ((Moves.refl nobody _).alloc _) (fun h => h)).moves (Moves.refl nobody _).drew (fun h => h))
  · exact (((((Below.refl _ _).alloc (Nat.le_refl _) _).alloc (by simp) _).alloc (by simp; omega) _).alloc (by simp; omega) _).drew
set_option maxHeartbeats 2000000 in
set_option maxRecDepth 100000 in
theorem cfConds_cli (c : CfV) (hs : c.sv = false) (w : World) : Calls Tryd.prog 44 #[.agg c.row] w fun e w' => ∃ g cap, e = .returned (.slice (some ⟨g, 0, none⟩) 8 cap) ∧ (w'.cell? ⟨g, 0, none⟩ = some (clo 58 w.heap.size) ∧ w'.cell? ⟨g, 1, none⟩ = some (clo 60 w.heap.size) ∧ w'.cell? ⟨g, 2, none⟩ = some (clo 65 w.heap.size) ∧ w'.cell? ⟨g, 3, none⟩ = some (clo 66 w.heap.size) ∧ w'.cell? ⟨g, 4, none⟩ = some (clo 68 w.heap.size) ∧ w'.cell? ⟨g, 5, none⟩ = some (clo 69 w.heap.size) ∧ w'.cell? ⟨g, 6, none⟩ = some (clo 70 w.heap.size) ∧ w'.cell? ⟨g, 7, none⟩ = some (clo 71 w.heap.size)) ∧ g < w'.heap.size ∧ Holds w' w.heap.size 51 c.row ∧ Below w.heap.size w w' := by
  have hB := Holds.new w 51 c.row
  have x0 : (w.alloc (.cells c.row 51)).cell? ⟨w.heap.size, 0, none⟩ = some (.bool c.sv) := hB.cell 0
  rw [hs] at x0
  obtain ⟨R, hR⟩ : ∃ R, R = c.row := ⟨_, rfl⟩
  rw [← hR] at hB x0 ⊢
  clear hR
  have y0 := (((Below.refl (w.alloc (.cells R 51)).heap.size (w.alloc (.cells R 51))).alloc (Nat.le_refl _) (.cells #[.func (.func 58) #[] #[.pointer (some ⟨w.heap.size, 0, none⟩)], .func (.func 60) #[] #[.pointer (some ⟨w.heap.size, 0, none⟩)]] 84)).cell (p := ⟨w.heap.size, 0, none⟩) hB.lt).trans x0
  have HB : Hid (Holds (w.alloc (.cells R 51)) w.heap.size 51 R) := hB
  clear hB x0
  go_enter Tryd.func44, Tryd.ntmps44
  go_wp2_with fail
  go_ret
  refine ⟨_, _, rfl, ?_, ?_, ?_, ?_⟩
  · have hN := Holds.new (((w.alloc (.cells R 51)).alloc (.cells #[.func (.func 58) #[] #[.pointer (some ⟨w.heap.size, 0, none⟩)], .func (.func 60) #[] #[.pointer (some ⟨w.heap.size, 0, none⟩)]] 84)).alloc (.cells #[.func (.func 65) #[] #[.pointer (some ⟨w.heap.size, 0, none⟩)], .func (.func 66) #[] #[.pointer (some ⟨w.heap.size, 0, none⟩)], .func (.func 68) #[] #[.pointer (some ⟨w.heap.size, 0, none⟩)], .func (.func 69) #[] #[.pointer (some ⟨w.heap.size, 0, none⟩)], .func (.func 70) #[] #[.pointer (some ⟨w.heap.size, 0, none⟩)], .func (.func 71) #[] #[.pointer (some ⟨w.heap.size, 0, none⟩)]] 84)) 84 (#[.func (.func 58) #[] #[.pointer (some ⟨w.heap.size, 0, none⟩)], .func (.func 60) #[] #[.pointer (some ⟨w.heap.size, 0, none⟩)]] ++ (#[.func (.func 65) #[] #[.pointer (some ⟨w.heap.size, 0, none⟩)], .func (.func 66) #[] #[.pointer (some ⟨w.heap.size, 0, none⟩)], .func (.func 68) #[] #[.pointer (some ⟨w.heap.size, 0, none⟩)], .func (.func 69) #[] #[.pointer (some ⟨w.heap.size, 0, none⟩)], .func (.func 70) #[] #[.pointer (some ⟨w.heap.size, 0, none⟩)], .func (.func 71) #[] #[.pointer (some ⟨w.heap.size, 0, none⟩)]] ++ Builtin.zeroCells #[.nilFunc] ((Question.appendCap 8 2 84).cut (w.tape w.drawn (Question.appendCap 8 2 84)) - 8)))
    rw [World.size_alloc, World.size_alloc, World.size_alloc] at hN
    exact ⟨(hN.cell 0).trans ((app_get _ _ _ _ (by simp)).trans rfl), (hN.cell 1).trans ((app_get _ _ _ _ (by simp)).trans rfl), (hN.cell 2).trans ((app_get _ _ _ _ (by simp)).trans rfl), (hN.cell 3).trans ((app_get _ _ _ _ (by simp)).trans rfl), (hN.cell 4).trans ((app_get _ _ _ _ (by simp)).trans rfl), (hN.cell 5).trans ((app_get _ _ _ _ (by simp)).trans rfl), (hN.cell 6).trans ((app_get _ _ _ _ (by simp)).trans rfl), (hN.cell 7).trans ((app_get _ _ _ _ (by simp)).trans rfl)⟩
  · simp only [World.size_drew, World.size_alloc]
    omega
  · exact ((((HB.out.moves ((Moves.refl nobody _).alloc _) (fun h => h)).moves ((Moves.refl nobody _).alloc _) (fun h => h)).moves ((Moves.refl nobody _).alloc _) (fun h => h)).moves (Moves.refl nobody _).drew (fun h => h))
  · exact (((((Below.refl _ _).alloc (Nat.le_refl _) _).alloc (by simp) _).alloc (by simp; omega) _).alloc (by simp; omega) _).drew
end Go.Proofs.YtgoinpibllomfaaDoor

namespace Go.Proofs.YtgoinpibllomfaaDoor
open Go.RowKit

theorem callF {P : Program} {f : FuncId} {fn : Func} (hf : P.funcs[f]? = some fn) (hname : (fn.name == "runtime.NumGoroutine") = false) (hb : fn.body.isSome = true) (args : Array Value) (w : World) : (callFunc f args).run P w = .ok (.enter f args) w := by
  have h1 : fn.name ≠ "runtime.NumGoroutine" := by simpa using hname
  obtain ⟨c, hc⟩ := Option.isSome_iff_exists.1 hb
  simp [callFunc, hf, h1, hc]
/-- The first of n answers that is one. -/
def firstO (o : Nat → Option (List ByteArray × Int)) : Nat → Option (List ByteArray × Int)
  | 0 => none
  | n + 1 => match firstO o n with
    | some x => some x
    | none => o n
theorem firstO_none {o : Nat → Option (List ByteArray × Int)} : ∀ {n : Nat}, (∀ j < n, o j = none) → firstO o n = none
  | 0, _ => rfl
  | n + 1, h => by
    unfold firstO
    rw [firstO_none fun j hj => h j (by omega)]
    exact h n (by omega)
theorem firstO_some {o : Nat → Option (List ByteArray × Int)} {k : Nat} {q : List ByteArray × Int} (h : ∀ j < k, o j = none) (hk : o k = some q) : ∀ {n : Nat}, k < n → firstO o n = some q
  | 0, hn => absurd hn (by omega)
  | n + 1, hn => by
    unfold firstO
    rcases Nat.lt_or_eq_of_le (Nat.le_of_lt_succ hn) with h1 | rfl
    · rw [firstO_some h hk h1]
    · rw [firstO_none h]
      exact hk
/-- What is wrong with each part. -/
def partsO (c : CfV) (d : CfL) (k : Nat) : Option (List ByteArray × Int) :=
  if k = 0 then unlessP (lnOk d.so d.co) versionS 1
  else if k = 1 then prefsO d.p
  else if c.sv then (if k = 2 then unlessP (whoB c.ow) ownS25 5 else gateO d.gr d.al c.li)
  else if k = 2 then unlessP (whoB c.pe) peerS25 5
  else if k = 3 then unlessP (userP d.us) userS25 3
  else if k = 4 then unlessP (decide (d.ks.length ≤ 8)) keysS25 2
  else if k = 5 then unlessP (d.ks.all whoB) keysS25 5
  else if k = 6 then gateO [] d.al 1
  else unlessP (rightB c.w0 c.w1 c.w2) wishS25 5
def manyO (c : CfV) : Nat := if c.sv then 4 else 8
/-- What is wrong with a configuration. -/
def confO (c : CfV) (d : CfL) : Option (List ByteArray × Int) := (firstO (partsO c d) (manyO c)).map fun q => (confS25 :: q.1, q.2)

set_option maxHeartbeats 2000000 in
set_option maxRecDepth 100000 in
theorem cfCheck_loop {w : World} {R : Array Value} {N : Nat} (hN : N ≤ 8) {fs : Nat → FuncId} {o : Nat → Option (List ByteArray × Int)} (hfs : ∀ k < N, ∀ (args : Array Value) (W : World), (callFunc (fs k) args).run Tryd.prog W = .ok (.enter (fs k) args) W) (hsz : (Tryd.prog.info? 51).map (·.size) = some R.size) (hc : Calls Tryd.prog 44 #[.agg R] (w.alloc (.cells R 51)) fun e w1 => ∃ g cap B, e = .returned (.slice (some ⟨g, 0, none⟩) N cap) ∧ (∀ k < N, w1.cell? ⟨g, k, none⟩ = some (clo (fs k) B)) ∧ g < w1.heap.size ∧ Below w.heap.size w w1 ∧ (∀ k < N, ∀ W, Below w1.heap.size w1 W → Calls Tryd.prog (fs k) #[.pointer (some ⟨B, 0, none⟩)] W (Checked W (o k)))) :
    Calls Tryd.prog 27 #[.agg R] w (Checked w ((firstO o N).map fun q => (confS25 :: q.1, q.2))) := by
  have HC := Lib.hid hc
  have hbox : (w.alloc (.cells R 51)).heap[w.heap.size]? = some (.cells R 51 (0, 0)) := heap_alloc_new w _
  have H0 : Hid ((∀ j < N, o j = none) → (firstO o N).map (fun q => (confS25 :: q.1, q.2)) = none) := fun h => by rw [firstO_none h]; rfl
  have H1 : Hid (∀ k q, k < N → (∀ j < k, o j = none) → o k = some q → (firstO o N).map (fun q => (confS25 :: q.1, q.2)) = some (confS25 :: q.1, q.2)) := fun k q hk h e => by rw [firstO_some h e hk]; rfl
  generalize (firstO o N).map (fun q => (confS25 :: q.1, q.2)) = res at *
  clear hc
  go_enter Tryd.func27, Tryd.ntmps27
  go_wp2_with (first
    | (go_at_call 44; (with_reducible refine HC.out.mono ?_); rintro e w1 ⟨g, cap, B, rfl, hcell, hlt, b1, hk⟩)
    | (refine wpList_load_row rfl 51 _ rfl w.heap.size rfl 51 _ (0, 0) _ hbox Tryd.underlying51 rfl hsz ?_))
  have HCe := Lib.hid hcell
  have HK := Lib.hid hk
  have HB1 := Lib.hid b1
  clear hcell hk b1 HC
  go_loopw [9] (fun i wr => ∃ k : Nat, k ≤ N ∧ i = .int .i64 k ∧ (∀ j < k, o j = none) ∧ Below w1.heap.size w1 wr) (fun i _ => N - (intOf i).toNat)
  case atStart => exact ⟨0, Nat.zero_le _, rfl, fun j hj => absurd hj (by omega), Below.refl _ _⟩
  case round =>
    obtain ⟨k, hkN, rfl, hno, hbel⟩ := hrel
    by_cases hkl : k < N
    · have c1 := (hbel.cell (p := ⟨g, k, none⟩) hlt).trans (HCe.out k hkl)
      unfold clo at c1
      have HKk := Lib.hid (fun n => HK.out k hkl (wr.drewN n) ⟨hbel.os, hbel.tape, hbel.output, hbel.size, hbel.block⟩)
      have HKk0 := Lib.hid (HK.out k hkl wr hbel)
      have HB := Lib.hid hbel
      have hcf := hfs k hkl #[.pointer (some ⟨B, 0, none⟩)]
      cases ho : o k with
      | none =>
        rw [ho] at HKk HKk0
        have HNx : Hid (∀ j < k + 1, o j = none) := fun j hj => by
          rcases Nat.lt_or_eq_of_le (Nat.le_of_lt_succ hj) with h | rfl
          · exact hno j h
          · exact ho
        have HKn : Hid (Calls Tryd.prog (fs k) #[.pointer (some ⟨B, 0, none⟩)] wr fun e w' => e = .returned .nilIface ∧ Below wr.heap.size wr w') := HKk0.out.mono fun e w' ⟨v, h1, h2, h3⟩ => ⟨by rw [h1, show v = .nilIface from h2], h3⟩
        clear hno ho HKk HKk0 HK HCe H0 H1 hbel hfs
        generalize fs k = f at *
        go_wp2_with (refine HKn.out.mono ?_; rintro e w2 ⟨rfl, b2⟩)
        go_roundw
        case rel => exact ⟨k + 1, by omega, by go_num, HNx.out, HB.out.trans (b2.mono HB.out.size)⟩
        case measure => simp [intOf]; omega
      | some q =>
        rw [ho] at HKk HKk0
        have HR := Lib.hid (H1.out k q hkl hno ho)
        have HKn : Hid (Calls Tryd.prog (fs k) #[.pointer (some ⟨B, 0, none⟩)] wr fun e w' => ∃ t u, e = .returned (.iface t u) ∧ ErrAt w' (.iface t u) q.1 (some q.2) ∧ Below wr.heap.size wr w') := HKk0.out.mono fun e w' ⟨v, h1, ⟨t, u, h4, h5⟩, h3⟩ => ⟨t, u, by rw [h1, h4], h5, h3⟩
        have HAt : Hid (∀ (W : World) (t : TypeId) (v : Value), ErrAt W (.iface t v) q.1 (some q.2) → Calls Tryd.prog 45 #[.string confS25, .iface t v] W fun r w' => ∃ t v, r = .returned (.iface t v) ∧ ErrAt w' (.iface t v) (confS25 :: q.1) (some q.2) ∧ Below W.heap.size W w') := fun W t v hv => (fAt_any hv (by simp) confS25).mono (by
          rintro r w' ⟨v, rfl, he, hn, hb⟩
          cases he with
          | fault h1 h2 h3 h4 => exact ⟨_, _, rfl, .fault h1 h2 h3 h4, hb⟩)
        unfold confS25 at HAt
        clear hno ho HKk HKk0 HK HCe H0 H1 hbel hfs
        generalize fs k = f at *
        go_wp2_with (first
          | (go_at_call 45; (with_reducible refine (HAt.out _ _ _ he2).mono ?_); rintro e w3 ⟨t3, u3, rfl, he3, b3⟩)
          | (refine HKn.out.mono ?_; rintro e w2 ⟨t2, u2, rfl, he2, b2⟩))
        go_ret
        have b4 := HB.out.trans (b2.mono HB.out.size)
        have b5 := b4.trans (b3.mono b4.size)
        rw [HR.out]
        exact ⟨_, rfl, ⟨t3, u3, rfl, he3⟩, HB1.out.trans (b5.mono HB1.out.size)⟩
    · have hkl2 : k = N := by omega
      subst hkl2
      have HR := Lib.hid (H0.out hno)
      clear hno HK HCe H0 H1 hkl hfs
      go_wp2_with fail
      go_ret
      rw [HR.out]
      exact ⟨_, rfl, rfl, HB1.out.trans (hbel.mono HB1.out.size)⟩
end Go.Proofs.YtgoinpibllomfaaDoor
