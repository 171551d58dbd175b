/- Part 15 of what the statement wants. -/
import Derived.Deep.Cut
import Derived.Test.YtpkkeeblgbdfdaaDoorPk14
namespace Go.Proofs.YtpkkeeblgbdfdaaDoor
open Go.RowKit Go.Maps Go.WideMaps

theorem callF32 {P : Program} {f : FuncId} {fn : Func} (hf : P.funcs[f]? = some fn) (hname : (fn.name == "runtime.NumGoroutine") = false) (hb : fn.body.isSome = true) (args : Array Value) (w : World) : (callFunc f args).run P w = .ok (.enter f args) w := by
  have h1 : fn.name ≠ "runtime.NumGoroutine" := by simpa using hname
  obtain ⟨c, hc⟩ := Option.isSome_iff_exists.1 hb
  simp [callFunc, hf, h1, hc]
/-- What a rule on sources holds on to. -/
def SrcBox (lo : Nat) (w : World) (p k : Nat) (kind : Int) (v : Value) : Prop := (lo ≤ p ∧ lo ≤ k) ∧ Holds w p 51 #[v] ∧ Holds w k 3 #[.int .i64 kind]
theorem SrcBox.kept {lo : Nat} {w w' : World} {p k : Nat} {kind : Int} {v : Value} (h : SrcBox lo w p k kind v) (hb : ∀ b, lo ≤ b → b < w.heap.size → w'.heap[b]? = w.heap[b]?) : SrcBox lo w' p k kind v := ⟨h.1, (hb _ h.1.1 h.2.1.lt).trans h.2.1, (hb _ h.1.2 h.2.2.lt).trans h.2.2⟩
theorem SrcBox.keep {lo : Nat} {w w' : World} {p k : Nat} {kind : Int} {v : Value} (h : SrcBox lo w p k kind v) (hb : Below w.heap.size w w') : SrcBox lo w' p k kind v := h.kept fun b _ hlt => hb.block b hlt
theorem SrcBox.lower {lo lo' : Nat} {w : World} {p k : Nat} {kind : Int} {v : Value} (h : SrcBox lo w p k kind v) (hl : lo' ≤ lo) : SrcBox lo' w p k kind v := ⟨⟨Nat.le_trans hl h.1.1, Nat.le_trans hl h.1.2⟩, h.2⟩
def cloS (k p : Nat) : Value := .func (.func 47) #[] #[.pointer (some ⟨k, 0, none⟩), .pointer (some ⟨p, 0, none⟩)]
def cloR (f : FuncId) (B : Nat) : Value := .func (.func f) #[] #[.pointer (some ⟨B, 0, none⟩)]
set_option maxHeartbeats 1000000 in
set_option maxRecDepth 100000 in
theorem sourced_any (P : Nat) (kind : Int) (w : World) : Calls Tryd.prog 36 #[.pointer (some ⟨P, 0, none⟩), .int .i64 kind] w fun e w' => ∃ p k, e = .returned (.func (.func 47) #[] #[.pointer (some ⟨k, 0, none⟩), .pointer (some ⟨p, 0, none⟩)]) ∧ SrcBox w.heap.size w' p k kind (.pointer (some ⟨P, 0, none⟩)) ∧ Below w.heap.size w w' := by
  go_enter Tryd.func36, Tryd.ntmps36
  go_wp2_with fail
  go_ret
  refine ⟨w.heap.size, w.heap.size + 1, rfl, ⟨⟨Nat.le_refl _, Nat.le_succ _⟩, ?_, ?_⟩, ((Below.refl _ w).alloc (Nat.le_refl _) _).alloc (by simp) _⟩
  · exact first2_row w _ 51 _ rfl
  · exact last2_row w _ 3 _ rfl
def ruleRow (B k1 p1 k2 p2 k3 p3 : Nat) : Array Value := #[.string ⟨#[101, 110, 100]⟩, cloR 27 B, .string ⟨#[116, 97, 107, 101, 110]⟩, cloR 28 B, .string ⟨#[110, 117, 109, 98, 101, 114]⟩, cloR 29 B, .string ⟨#[115, 101, 115, 115, 105, 111, 110]⟩, cloR 31 B, .string ⟨#[101, 97, 114, 108, 121]⟩, cloR 33 B, .string ⟨#[97, 103, 97, 105, 110]⟩, cloR 35 B, .string ⟨#[99, 111, 109, 109, 105, 116]⟩, cloS k1 p1, .string ⟨#[97, 99, 99, 101, 112, 116]⟩, cloS k2 p2, .string ⟨#[108, 101, 116]⟩, cloS k3 p3, .string ⟨#[116, 119, 105, 99, 101]⟩, cloR 37 B]
/-- The rules of a past, where they lie. -/
def RulesBox (lo : Nat) (w : World) (g : Nat) (P : Nat) : Prop := ∃ B k1 p1 k2 p2 k3 p3, (lo ≤ g ∧ lo ≤ B) ∧ Holds w g 66 (ruleRow B k1 p1 k2 p2 k3 p3) ∧ Holds w B 51 #[.pointer (some ⟨P, 0, none⟩)] ∧ SrcBox lo w p1 k1 2 (.pointer (some ⟨P, 0, none⟩)) ∧ SrcBox lo w p2 k2 4 (.pointer (some ⟨P, 0, none⟩)) ∧ SrcBox lo w p3 k3 5 (.pointer (some ⟨P, 0, none⟩))
theorem RulesBox.kept {lo : Nat} {w w' : World} {g P : Nat} (h : RulesBox lo w g P) (hb : ∀ b, lo ≤ b → b < w.heap.size → w'.heap[b]? = w.heap[b]?) : RulesBox lo w' g P := by
  obtain ⟨B, k1, p1, k2, p2, k3, p3, h0, h1, h2, h3, h4, h5⟩ := h
  exact ⟨B, k1, p1, k2, p2, k3, p3, h0, (hb _ h0.1 h1.lt).trans h1, (hb _ h0.2 h2.lt).trans h2, h3.kept hb, h4.kept hb, h5.kept hb⟩
theorem RulesBox.keep {lo : Nat} {w w' : World} {g P : Nat} (h : RulesBox lo w g P) (hb : Below w.heap.size w w') : RulesBox lo w' g P := h.kept fun b _ hlt => hb.block b hlt
set_option maxHeartbeats 4000000 in
set_option maxRecDepth 100000 in
theorem rules_any (P : Nat) (w : World) : Calls Tryd.prog 17 #[.pointer (some ⟨P, 0, none⟩)] w fun e w' => ∃ g, e = .returned (.slice (some ⟨g, 0, none⟩) 10 10) ∧ RulesBox w.heap.size w' g P ∧ Below w.heap.size w w' := by
  obtain ⟨W1, hW⟩ : ∃ W1, Hid (W1 = w.alloc (.cells #[.pointer (some ⟨P, 0, none⟩)] 51)) := ⟨_, Lib.hid rfl⟩
  have BW : Hid (Below w.heap.size w W1) := by
    show Below _ _ _
    rw [hW.out]
    exact (Below.refl _ w).alloc (Nat.le_refl _) _
  have HBx : Hid (Holds W1 w.heap.size 51 #[.pointer (some ⟨P, 0, none⟩)]) := by
    show Holds _ _ _ _
    rw [hW.out]
    exact Holds.new w _ _
  have HFs : Hid (∀ w', Below W1.heap.size W1 w' → (Below W1.heap.size W1 w' ∧ w'.cell? ⟨w.heap.size, 0, none⟩ = some (.pointer (some ⟨P, 0, none⟩)))) := fun w' h => ⟨h, Holds.cell ((h.block _ HBx.out.lt).trans HBx.out) 0⟩
  have HSo : Hid (∀ kind W, Calls Tryd.prog 36 #[.pointer (some ⟨P, 0, none⟩), .int .i64 kind] W fun e w' => ∃ p k, e = .returned (.func (.func 47) #[] #[.pointer (some ⟨k, 0, none⟩), .pointer (some ⟨p, 0, none⟩)]) ∧ SrcBox W.heap.size w' p k kind (.pointer (some ⟨P, 0, none⟩)) ∧ Below W.heap.size W w') := fun kind W => sourced_any P kind W
  go_enter Tryd.func17, Tryd.ntmps17
  go_upto_region 1 with fail
  rw [← hW.out]
  clear hW
  obtain ⟨Sp, hSp⟩ : ∃ Sp : World → Prop, Hid (∀ w', Sp w' ↔ (Below W1.heap.size W1 w' ∧ w'.cell? ⟨w.heap.size, 0, none⟩ = some (.pointer (some ⟨P, 0, none⟩)))) := ⟨_, Lib.hid fun _ => Iff.rfl⟩
  refine wp_region_held_gen Sp (by kernel_rfl) ((hSp.out _).2 (HFs.out _ (Below.refl _ W1).drew)) ?_
  have hHeld : Sp _ := (hSp.out (World.drew _)).2 (HFs.out _ (Below.refl _ W1).drew)
  intro O hO
  refine held_read hO (i := 0) rfl rfl (by kernel_rfl) (fun _ _ _ _ h => h) ?_ hHeld ?_ ?_
  rotate_left 1
  · (intro w hSw; have hSw := (hSp.out _).1 hSw; go_simp; (try with_reducible rfl))
  try simp only [Act.put, List.setIfInBounds_toArray, List.set_cons_zero, List.set_cons_succ]
  refine held_read hO (i := 1) rfl rfl (by kernel_rfl) (fun _ _ _ _ h => h) ?_ hHeld ?_ ?_
  rotate_left 1
  · (intro w hSw; have hSw := (hSp.out _).1 hSw; go_simp; (try with_reducible rfl))
  try simp only [Act.put, List.setIfInBounds_toArray, List.set_cons_zero, List.set_cons_succ]
  refine held_read hO (i := 2) rfl rfl (by kernel_rfl) (fun _ _ _ _ h => h) ?_ hHeld ?_ ?_
  rotate_left 1
  · (intro w hSw; have hSw := (hSp.out _).1 hSw; go_simp; (try with_reducible rfl))
  try simp only [Act.put, List.setIfInBounds_toArray, List.set_cons_zero, List.set_cons_succ]
  refine held_read hO (i := 3) rfl rfl (by kernel_rfl) (fun _ _ _ _ h => h) ?_ hHeld ?_ ?_
  rotate_left 1
  · (intro w hSw; have hSw := (hSp.out _).1 hSw; go_simp; (try with_reducible rfl))
  try simp only [Act.put, List.setIfInBounds_toArray, List.set_cons_zero, List.set_cons_succ]
  refine held_read hO (i := 4) rfl rfl (by kernel_rfl) (fun _ _ _ _ h => h) ?_ hHeld ?_ ?_
  rotate_left 1
  · (intro w hSw; have hSw := (hSp.out _).1 hSw; go_simp; (try with_reducible rfl))
  try simp only [Act.put, List.setIfInBounds_toArray, List.set_cons_zero, List.set_cons_succ]
  refine held_read hO (i := 5) rfl rfl (by kernel_rfl) (fun _ _ _ _ h => h) ?_ hHeld ?_ ?_
  rotate_left 1
  · (intro w hSw; have hSw := (hSp.out _).1 hSw; go_simp; (try with_reducible rfl))
  try simp only [Act.put, List.setIfInBounds_toArray, List.set_cons_zero, List.set_cons_succ]
  refine held_read hO (i := 6) rfl rfl (by kernel_rfl) (fun _ _ _ _ h => h) ?_ hHeld ?_ ?_
  rotate_left 1
  · (intro w hSw; have hSw := (hSp.out _).1 hSw; go_simp; (try with_reducible rfl))
  try simp only [Act.put, List.setIfInBounds_toArray, List.set_cons_zero, List.set_cons_succ]
  refine held_read hO (i := 7) rfl rfl (by kernel_rfl) (fun _ _ _ _ h => h) ?_ hHeld ?_ ?_
  rotate_left 1
  · (intro w hSw; have hSw := (hSp.out _).1 hSw; go_simp; (try with_reducible rfl))
  try simp only [Act.put, List.setIfInBounds_toArray, List.set_cons_zero, List.set_cons_succ]
  refine held_read hO (i := 8) rfl rfl (by kernel_rfl) (fun _ _ _ _ h => h) ?_ hHeld ?_ ?_
  rotate_left 1
  · (intro w hSw; have hSw := (hSp.out _).1 hSw; go_simp; (try with_reducible rfl))
  try simp only [Act.put, List.setIfInBounds_toArray, List.set_cons_zero, List.set_cons_succ]
  refine held_read hO (i := 9) rfl rfl (by kernel_rfl) (fun _ _ _ _ h => h) ?_ hHeld ?_ ?_
  rotate_left 1
  · (intro w hSw; have hSw := (hSp.out _).1 hSw; go_simp; (try with_reducible rfl))
  try simp only [Act.put, List.setIfInBounds_toArray, List.set_cons_zero, List.set_cons_succ]
  refine held_read hO (i := 10) rfl rfl (by kernel_rfl) (fun _ _ _ _ h => h) ?_ hHeld ?_ ?_
  rotate_left 1
  · (intro w hSw; have hSw := (hSp.out _).1 hSw; go_simp; (try with_reducible rfl))
  try simp only [Act.put, List.setIfInBounds_toArray, List.set_cons_zero, List.set_cons_succ]
  refine held_read hO (i := 11) rfl rfl (by kernel_rfl) (fun _ _ _ _ h => h) ?_ hHeld ?_ ?_
  rotate_left 1
  · (intro w hSw; have hSw := (hSp.out _).1 hSw; go_simp; (try with_reducible rfl))
  try simp only [Act.put, List.setIfInBounds_toArray, List.set_cons_zero, List.set_cons_succ]
  refine held_read hO (i := 12) rfl rfl (by kernel_rfl) (fun _ _ _ _ h => h) ?_ hHeld ?_ ?_
  rotate_left 1
  · (intro w hSw; have hSw := (hSp.out _).1 hSw; go_simp; (try with_reducible rfl))
  try simp only [Act.put, List.setIfInBounds_toArray, List.set_cons_zero, List.set_cons_succ]
  refine held_read hO (i := 15) rfl rfl (by kernel_rfl) (fun _ _ _ _ h => h) ?_ hHeld ?_ ?_
  rotate_left 1
  · (intro w hSw; have hSw := (hSp.out _).1 hSw; go_simp; (try with_reducible rfl))
  try simp only [Act.put, List.setIfInBounds_toArray, List.set_cons_zero, List.set_cons_succ]
  refine held_read hO (i := 18) rfl rfl (by kernel_rfl) (fun _ _ _ _ h => h) ?_ hHeld ?_ ?_
  rotate_left 1
  · (intro w hSw; have hSw := (hSp.out _).1 hSw; go_simp; (try with_reducible rfl))
  try simp only [Act.put, List.setIfInBounds_toArray, List.set_cons_zero, List.set_cons_succ]
  refine held_read hO (i := 21) rfl rfl (by kernel_rfl) (fun _ _ _ _ h => h) ?_ hHeld ?_ ?_
  rotate_left 1
  · (intro w hSw; have hSw := (hSp.out _).1 hSw; go_simp; (try with_reducible rfl))
  try simp only [Act.put, List.setIfInBounds_toArray, List.set_cons_zero, List.set_cons_succ]
  refine held_read hO (i := 22) rfl rfl (by kernel_rfl) (fun _ _ _ _ h => h) ?_ hHeld ?_ ?_
  rotate_left 1
  · (intro w hSw; have hSw := (hSp.out _).1 hSw; go_simp; (try with_reducible rfl))
  try simp only [Act.put, List.setIfInBounds_toArray, List.set_cons_zero, List.set_cons_succ]
  refine held_step hO (i := 13) rfl rfl (by kernel_rfl) (fun K hK => ?_)
  go_simp
  go_at_call 36
  with_reducible refine (HSo.out _ _).mono ?_
  rintro e w1 ⟨p1, k1, rfl, s1, b1⟩
  have S1 := Lib.hid s1
  have B1 : Hid (Below W1.heap.size W1 w1) := Lib.hid ((Below.refl _ W1).drew.trans b1)
  clear s1 b1
  go_wp2_with fail
  clear hHeld
  have hHeld : Sp _ := (hSp.out _).2 (HFs.out _ B1.out)
  refine hK.out _ _ hHeld ?_
  clear hK K
  try simp only [Act.put, List.setIfInBounds_toArray, List.set_cons_zero, List.set_cons_succ]
  refine held_read hO (i := 14) rfl rfl (by kernel_rfl) (fun _ _ _ _ h => h) ?_ hHeld ?_ ?_
  rotate_left 1
  · (intro w hSw; have hSw := (hSp.out _).1 hSw; go_simp; (try with_reducible rfl))
  try simp only [Act.put, List.setIfInBounds_toArray, List.set_cons_zero, List.set_cons_succ]
  refine held_step hO (i := 16) rfl rfl (by kernel_rfl) (fun K hK => ?_)
  go_simp
  go_at_call 36
  with_reducible refine (HSo.out _ _).mono ?_
  rintro e w2 ⟨p2, k2, rfl, s2, b2⟩
  have S2 := Lib.hid s2
  have C2 : Hid (Below w1.heap.size w1 w2) := Lib.hid b2
  have B2 : Hid (Below W1.heap.size W1 w2) := Lib.hid (B1.out.trans (b2.mono B1.out.size))
  clear s2 b2
  go_wp2_with fail
  clear hHeld
  have hHeld : Sp _ := (hSp.out _).2 (HFs.out _ B2.out)
  refine hK.out _ _ hHeld ?_
  clear hK K
  try simp only [Act.put, List.setIfInBounds_toArray, List.set_cons_zero, List.set_cons_succ]
  refine held_read hO (i := 17) rfl rfl (by kernel_rfl) (fun _ _ _ _ h => h) ?_ hHeld ?_ ?_
  rotate_left 1
  · (intro w hSw; have hSw := (hSp.out _).1 hSw; go_simp; (try with_reducible rfl))
  try simp only [Act.put, List.setIfInBounds_toArray, List.set_cons_zero, List.set_cons_succ]
  refine held_step hO (i := 19) rfl rfl (by kernel_rfl) (fun K hK => ?_)
  go_simp
  go_at_call 36
  with_reducible refine (HSo.out _ _).mono ?_
  rintro e w3 ⟨p3, k3, rfl, s3, b3⟩
  have S3 := Lib.hid s3
  have C3 : Hid (Below w2.heap.size w2 w3) := Lib.hid b3
  have B3 : Hid (Below W1.heap.size W1 w3) := Lib.hid (B2.out.trans (b3.mono B2.out.size))
  clear s3 b3
  go_wp2_with fail
  clear hHeld
  have hHeld : Sp _ := (hSp.out _).2 (HFs.out _ B3.out)
  refine hK.out _ _ hHeld ?_
  clear hK K
  try simp only [Act.put, List.setIfInBounds_toArray, List.set_cons_zero, List.set_cons_succ]
  refine held_read hO (i := 20) rfl rfl (by kernel_rfl) (fun _ _ _ _ h => h) ?_ hHeld ?_ ?_
  rotate_left 1
  · (intro w hSw; have hSw := (hSp.out _).1 hSw; go_simp; (try with_reducible rfl))
  try simp only [Act.put, List.setIfInBounds_toArray, List.set_cons_zero, List.set_cons_succ]
  refine held_step hO (i := 23) rfl rfl (by kernel_rfl) (fun K hK => ?_)
  go_simp
  clear hHeld
  have hHeld : Sp _ := (hSp.out _).2 (HFs.out _ (B3.out.alloc B3.out.size (.cells #[.string ⟨#[101, 110, 100]⟩, .func (.func 27) #[] #[.pointer (some ⟨w.heap.size, 0, none⟩)], .string ⟨#[116, 97, 107, 101, 110]⟩, .func (.func 28) #[] #[.pointer (some ⟨w.heap.size, 0, none⟩)], .string ⟨#[110, 117, 109, 98, 101, 114]⟩, .func (.func 29) #[] #[.pointer (some ⟨w.heap.size, 0, none⟩)], .string ⟨#[115, 101, 115, 115, 105, 111, 110]⟩, .func (.func 31) #[] #[.pointer (some ⟨w.heap.size, 0, none⟩)], .string ⟨#[101, 97, 114, 108, 121]⟩, .func (.func 33) #[] #[.pointer (some ⟨w.heap.size, 0, none⟩)], .string ⟨#[97, 103, 97, 105, 110]⟩, .func (.func 35) #[] #[.pointer (some ⟨w.heap.size, 0, none⟩)], .string ⟨#[99, 111, 109, 109, 105, 116]⟩, .func (.func 47) #[] #[.pointer (some ⟨k1, 0, none⟩), .pointer (some ⟨p1, 0, none⟩)], .string ⟨#[97, 99, 99, 101, 112, 116]⟩, .func (.func 47) #[] #[.pointer (some ⟨k2, 0, none⟩), .pointer (some ⟨p2, 0, none⟩)], .string ⟨#[108, 101, 116]⟩, .func (.func 47) #[] #[.pointer (some ⟨k3, 0, none⟩), .pointer (some ⟨p3, 0, none⟩)], .string ⟨#[116, 119, 105, 99, 101]⟩, .func (.func 37) #[] #[.pointer (some ⟨w.heap.size, 0, none⟩)]] 66)))
  refine hK.out _ _ hHeld ?_
  clear hK K
  try simp only [Act.put, List.setIfInBounds_toArray, List.set_cons_zero, List.set_cons_succ]
  refine held_read hO (i := 24) rfl rfl (by kernel_rfl) (fun _ _ _ _ h => h) ?_ hHeld ?_ ?_
  rotate_left 1
  · (intro w hSw; have hSw := (hSp.out _).1 hSw; go_simp; (try with_reducible rfl))
  try simp only [Act.put, List.setIfInBounds_toArray, List.set_cons_zero, List.set_cons_succ]
  refine held_done hO (by kernel_rfl) ?_
  clear hO O
  clear hHeld hSp Sp
  have HRow : Hid (Holds (w3.alloc (.cells #[.string ⟨#[101, 110, 100]⟩, .func (.func 27) #[] #[.pointer (some ⟨w.heap.size, 0, none⟩)], .string ⟨#[116, 97, 107, 101, 110]⟩, .func (.func 28) #[] #[.pointer (some ⟨w.heap.size, 0, none⟩)], .string ⟨#[110, 117, 109, 98, 101, 114]⟩, .func (.func 29) #[] #[.pointer (some ⟨w.heap.size, 0, none⟩)], .string ⟨#[115, 101, 115, 115, 105, 111, 110]⟩, .func (.func 31) #[] #[.pointer (some ⟨w.heap.size, 0, none⟩)], .string ⟨#[101, 97, 114, 108, 121]⟩, .func (.func 33) #[] #[.pointer (some ⟨w.heap.size, 0, none⟩)], .string ⟨#[97, 103, 97, 105, 110]⟩, .func (.func 35) #[] #[.pointer (some ⟨w.heap.size, 0, none⟩)], .string ⟨#[99, 111, 109, 109, 105, 116]⟩, .func (.func 47) #[] #[.pointer (some ⟨k1, 0, none⟩), .pointer (some ⟨p1, 0, none⟩)], .string ⟨#[97, 99, 99, 101, 112, 116]⟩, .func (.func 47) #[] #[.pointer (some ⟨k2, 0, none⟩), .pointer (some ⟨p2, 0, none⟩)], .string ⟨#[108, 101, 116]⟩, .func (.func 47) #[] #[.pointer (some ⟨k3, 0, none⟩), .pointer (some ⟨p3, 0, none⟩)], .string ⟨#[116, 119, 105, 99, 101]⟩, .func (.func 37) #[] #[.pointer (some ⟨w.heap.size, 0, none⟩)]] 66)) w3.heap.size 66 (ruleRow w.heap.size k1 p1 k2 p2 k3 p3)) := Lib.hid (Holds.new w3 _ _)
  have BA : Hid (Below w3.heap.size w3 (w3.alloc (.cells #[.string ⟨#[101, 110, 100]⟩, .func (.func 27) #[] #[.pointer (some ⟨w.heap.size, 0, none⟩)], .string ⟨#[116, 97, 107, 101, 110]⟩, .func (.func 28) #[] #[.pointer (some ⟨w.heap.size, 0, none⟩)], .string ⟨#[110, 117, 109, 98, 101, 114]⟩, .func (.func 29) #[] #[.pointer (some ⟨w.heap.size, 0, none⟩)], .string ⟨#[115, 101, 115, 115, 105, 111, 110]⟩, .func (.func 31) #[] #[.pointer (some ⟨w.heap.size, 0, none⟩)], .string ⟨#[101, 97, 114, 108, 121]⟩, .func (.func 33) #[] #[.pointer (some ⟨w.heap.size, 0, none⟩)], .string ⟨#[97, 103, 97, 105, 110]⟩, .func (.func 35) #[] #[.pointer (some ⟨w.heap.size, 0, none⟩)], .string ⟨#[99, 111, 109, 109, 105, 116]⟩, .func (.func 47) #[] #[.pointer (some ⟨k1, 0, none⟩), .pointer (some ⟨p1, 0, none⟩)], .string ⟨#[97, 99, 99, 101, 112, 116]⟩, .func (.func 47) #[] #[.pointer (some ⟨k2, 0, none⟩), .pointer (some ⟨p2, 0, none⟩)], .string ⟨#[108, 101, 116]⟩, .func (.func 47) #[] #[.pointer (some ⟨k3, 0, none⟩), .pointer (some ⟨p3, 0, none⟩)], .string ⟨#[116, 119, 105, 99, 101]⟩, .func (.func 37) #[] #[.pointer (some ⟨w.heap.size, 0, none⟩)]] 66))) := Lib.hid ((Below.refl _ w3).alloc (Nat.le_refl _) _)
  generalize w3.alloc (.cells #[.string ⟨#[101, 110, 100]⟩, .func (.func 27) #[] #[.pointer (some ⟨w.heap.size, 0, none⟩)], .string ⟨#[116, 97, 107, 101, 110]⟩, .func (.func 28) #[] #[.pointer (some ⟨w.heap.size, 0, none⟩)], .string ⟨#[110, 117, 109, 98, 101, 114]⟩, .func (.func 29) #[] #[.pointer (some ⟨w.heap.size, 0, none⟩)], .string ⟨#[115, 101, 115, 115, 105, 111, 110]⟩, .func (.func 31) #[] #[.pointer (some ⟨w.heap.size, 0, none⟩)], .string ⟨#[101, 97, 114, 108, 121]⟩, .func (.func 33) #[] #[.pointer (some ⟨w.heap.size, 0, none⟩)], .string ⟨#[97, 103, 97, 105, 110]⟩, .func (.func 35) #[] #[.pointer (some ⟨w.heap.size, 0, none⟩)], .string ⟨#[99, 111, 109, 109, 105, 116]⟩, .func (.func 47) #[] #[.pointer (some ⟨k1, 0, none⟩), .pointer (some ⟨p1, 0, none⟩)], .string ⟨#[97, 99, 99, 101, 112, 116]⟩, .func (.func 47) #[] #[.pointer (some ⟨k2, 0, none⟩), .pointer (some ⟨p2, 0, none⟩)], .string ⟨#[108, 101, 116]⟩, .func (.func 47) #[] #[.pointer (some ⟨k3, 0, none⟩), .pointer (some ⟨p3, 0, none⟩)], .string ⟨#[116, 119, 105, 99, 101]⟩, .func (.func 37) #[] #[.pointer (some ⟨w.heap.size, 0, none⟩)]] 66) = w4 at *
  go_wp2_with fail
  go_ret
  have hgl : w.heap.size ≤ w3.heap.size := Nat.le_trans BW.out.size B3.out.size
  have hB3 : Below W1.heap.size W1 w4 := B3.out.trans (BA.out.mono B3.out.size)
  have hC3 : Below w2.heap.size w2 w4 := C3.out.trans (BA.out.mono C3.out.size)
  have hC2 : Below w1.heap.size w1 w4 := C2.out.trans (hC3.mono C2.out.size)
  exact ⟨_, rfl, ⟨w.heap.size, k1, p1, k2, p2, k3, p3, ⟨hgl, Nat.le_refl _⟩, HRow.out, (hB3.block _ HBx.out.lt).trans HBx.out, (S1.out.keep hC2).lower BW.out.size, (S2.out.keep hC3).lower (Nat.le_trans BW.out.size B1.out.size), (S3.out.keep BA.out).lower (Nat.le_trans BW.out.size B2.out.size)⟩, BW.out.trans (hB3.mono BW.out.size)⟩
end Go.Proofs.YtpkkeeblgbdfdaaDoor
