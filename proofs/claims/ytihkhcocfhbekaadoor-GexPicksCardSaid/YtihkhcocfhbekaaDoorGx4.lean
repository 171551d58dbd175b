/- Layer 18: the table. -/
import Derived.Test.YtihkhcocfhbekaaDoorGx2
import Derived.Test.YtihkhcocfhbekaaDoorOwnM
import Derived.Deep.AppendLies
import Derived.Laws.Rows
namespace Go.Proofs.YtihkhcocfhbekaaDoor
open Go.RowKit

/-- The sizes in memory. -/
def Siz (w : World) : Prop := ∃ tt fr, w.heap[0]? = some (.cells #[.int .i64 1024, .int .i64 2048, .int .i64 3072, .int .i64 4096] tt fr)
theorem Siz.below {w w' : World} (h : Siz w) (hb : Below w.heap.size w w') : Siz w' := by
  obtain ⟨t1, f1, h1⟩ := h
  exact ⟨t1, f1, (hb.block _ (Array.getElem?_eq_some_iff.1 h1).1).trans h1⟩
def gP (k : Nat) : ByteArray := bs (modL (1024 * (k + 1)) (1024 * (k + 1) / 8))
def tabV : Nat → List Value
  | 0 => []
  | k + 1 => tabV k ++ [.string (gP k), .string ⟨#[2]⟩]
theorem tabV_len : ∀ k, (tabV k).length = 2 * k
  | 0 => rfl
  | k + 1 => by rw [tabV, List.length_append, tabV_len k]; simp; omega
theorem infoGroup : (Tryd.prog.info? 51).map (fun i => (i.zero, i.size, i.bytes)) = some (some (.agg #[.string ⟨#[]⟩, .string ⟨#[]⟩]), 2, 32) := by kernel_rfl

theorem cell_two_new (w : World) (a b : Value) (t : TypeId) : ∀ (j : Nat) (u : Value), [a, b][j]? = some u → (w.alloc (.cells #[a, b] t)).cell? ((⟨w.heap.size, 0, none⟩ : Addr).add j) = some u := fun j u hj => by
  rw [show ((⟨w.heap.size, 0, none⟩ : Addr).add j) = ⟨w.heap.size, 0 + j, none⟩ from Addr.add_lit .., (Holds.new w t #[a, b]).cell]
  simpa using hj

set_option maxHeartbeats 1000000 in
set_option maxRecDepth 100000 in
theorem table_any {w : World} (hS : Siz w) : Calls Tryd.prog 37 #[] w fun e w' => ∃ g c, e = .returned (.slice (some ⟨g, 0, none⟩) 4 c) ∧ w'.ownsRow w.heap.size 51 2 (.slice (some ⟨g, 0, none⟩) 4 c) 4 (tabV 4) ∧ Below w.heap.size w w' := by
  obtain ⟨i0, hi, hz0, hz1, hz2⟩ := info_parts infoGroup
  obtain ⟨tt, fr, hs⟩ := hS
  have hd := (Array.getElem?_eq_some_iff.1 hs).1
  have hsz : (Tryd.prog.info? 89).map (·.size) = some (#[.int .i64 1024, .int .i64 2048, .int .i64 3072, .int .i64 4096] : Array Value).size := by kernel_rfl
  obtain ⟨E, hE⟩ : ∃ E : Value, E = .agg #[.int .i64 1024, .int .i64 2048, .int .i64 3072, .int .i64 4096] := ⟨_, rfl⟩
  have HI0 : Hid (∀ W : World, (Instr.index 89 E (.int .i64 0)).run Tryd.prog W = .ok (.int .i64 1024) W) := by
    rw [hE]
    exact fun W => by kernel_rfl
  have HI1 : Hid (∀ W : World, (Instr.index 89 E (.int .i64 1)).run Tryd.prog W = .ok (.int .i64 2048) W) := by
    rw [hE]
    exact fun W => by kernel_rfl
  have HI2 : Hid (∀ W : World, (Instr.index 89 E (.int .i64 2)).run Tryd.prog W = .ok (.int .i64 3072) W) := by
    rw [hE]
    exact fun W => by kernel_rfl
  have HI3 : Hid (∀ W : World, (Instr.index 89 E (.int .i64 3)).run Tryd.prog W = .ok (.int .i64 4096) W) := by
    rw [hE]
    exact fun W => by kernel_rfl
  have HE := Lib.hid hE
  clear hE
  go_enter Tryd.func37, Tryd.ntmps37
  go_wp2_with (first
    | (refine wpList_load_row rfl 89 _ rfl 0 rfl tt _ fr _ hs Tryd.underlying89 rfl hsz ?_))
  rw [← HE.out]
  clear HE
  go_loopw [1, 3, 5] (fun v _ i wr => ∃ k : Nat, k ≤ 4 ∧ i = .int .i64 (k : Int) ∧ wr.ownsRow w.heap.size 51 2 v k (tabV k) ∧ (k = 0 → v = .slice none 0 0) ∧ Below w.heap.size w wr) (fun _ _ i _ => (5 - intOf i).toNat)
  case atStart => exact ⟨0, Nat.zero_le _, rfl, ⟨rfl, .inl ⟨rfl, rfl⟩⟩, fun _ => rfl, Below.refl _ _⟩
  case round =>
    obtain ⟨k, hk, rfl, hrow, hv0, hb⟩ := hrel
    match k, hk with
    | 0, _ =>
      obtain rfl := hv0 rfl
      have hI := HI0.out
      have HX : Hid (tabV 0 ++ [.string (gP 0), .string ⟨#[2]⟩] = tabV (0 + 1)) := rfl
      have HM : Hid (∀ W, Calls Tryd.prog 61 #[.int .i64 1024] W fun e w' => e = .returned (.string (gP 0)) ∧ Below W.heap.size W w') := fun W => modulus_any 1024 (by omega) (by omega) W
      have HR := Lib.hid hrow
      have HB := Lib.hid hb
      have hbs := hb.size
      clear hrow hv0 hb
      generalize tabV 0 = XS at *
      generalize gP 0 = GP at *
      go_wp2_with (first
        | (go_at_call 61; (with_reducible refine (HM.out _).mono ?_); rintro e w3 ⟨rfl, g3⟩; have hs3 := g3.size; have HR3 := Lib.hid (owns_moves HR.out (Moves.ofBelow (S := nobody) g3) (fun _ _ h => h)); have B3 := Lib.hid (HB.out.trans (g3.mono HB.out.size)); clear g3)
        | (at_builtin; refine wpList_append_lies _ rfl _ _ 66 rfl w.heap.size 51 i0 (.agg #[.string ⟨#[]⟩, .string ⟨#[]⟩]) 2 32 Tryd.underlying66 hi hz0 hz1 hz2 rfl (by decide) _ 0 XS rfl (HR3.out.alloc _) ⟨w3.heap.size, 0, none⟩ 1 1 [.string GP, .string ⟨#[2]⟩] rfl rfl (cell_two_new w3 _ _ _) (by simp [Value.oneCell']) (by decide) (by unfold maxLen; omega) (by omega) (by rw [World.size_alloc]; omega) _ rfl ?_; intro g4 c4 w4 hrow4 hg4 hat4 hlt4; have HR4 := Lib.hid hrow4; have B4 := Lib.hid ((B3.out.alloc B3.out.size (.cells #[.string GP, .string ⟨#[2]⟩] 51)).grown hg4 (by rw [World.size_alloc]; omega) (fun j hj => (HR3.out.lt j hj).1)); clear hrow4 hg4 hat4))
      go_roundw
      case rel => exact ⟨0 + 1, by omega, by go_num, by rw [← HX.out]; exact HR4.out, fun e => absurd e (by omega), B4.out⟩
      case measure => simp [intOf]; try omega
    | 1, _ =>
      obtain ⟨g, c, rfl, hgg⟩ := hrow.form (by omega)
      have hI := HI1.out
      have HX : Hid (tabV 1 ++ [.string (gP 1), .string ⟨#[2]⟩] = tabV (1 + 1)) := rfl
      have HM : Hid (∀ W, Calls Tryd.prog 61 #[.int .i64 2048] W fun e w' => e = .returned (.string (gP 1)) ∧ Below W.heap.size W w') := fun W => modulus_any 2048 (by omega) (by omega) W
      have HR := Lib.hid hrow
      have HB := Lib.hid hb
      have hbs := hb.size
      clear hrow hv0 hb hgg
      generalize tabV 1 = XS at *
      generalize gP 1 = GP at *
      go_wp2_with (first
        | (go_at_call 61; (with_reducible refine (HM.out _).mono ?_); rintro e w3 ⟨rfl, g3⟩; have hs3 := g3.size; have HR3 := Lib.hid (owns_moves HR.out (Moves.ofBelow (S := nobody) g3) (fun _ _ h => h)); have B3 := Lib.hid (HB.out.trans (g3.mono HB.out.size)); clear g3)
        | (at_builtin; refine wpList_append_lies _ rfl _ _ 66 rfl w.heap.size 51 i0 (.agg #[.string ⟨#[]⟩, .string ⟨#[]⟩]) 2 32 Tryd.underlying66 hi hz0 hz1 hz2 rfl (by decide) _ 1 XS rfl (HR3.out.alloc _) ⟨w3.heap.size, 0, none⟩ 1 1 [.string GP, .string ⟨#[2]⟩] rfl rfl (cell_two_new w3 _ _ _) (by simp [Value.oneCell']) (by decide) (by unfold maxLen; omega) (by omega) (by rw [World.size_alloc]; omega) _ rfl ?_; intro g4 c4 w4 hrow4 hg4 hat4 hlt4; have HR4 := Lib.hid hrow4; have B4 := Lib.hid ((B3.out.alloc B3.out.size (.cells #[.string GP, .string ⟨#[2]⟩] 51)).grown hg4 (by rw [World.size_alloc]; omega) (fun j hj => (HR3.out.lt j hj).1)); clear hrow4 hg4 hat4))
      go_roundw
      case rel => exact ⟨1 + 1, by omega, by go_num, by rw [← HX.out]; exact HR4.out, fun e => absurd e (by omega), B4.out⟩
      case measure => simp [intOf]; try omega
    | 2, _ =>
      obtain ⟨g, c, rfl, hgg⟩ := hrow.form (by omega)
      have hI := HI2.out
      have HX : Hid (tabV 2 ++ [.string (gP 2), .string ⟨#[2]⟩] = tabV (2 + 1)) := rfl
      have HM : Hid (∀ W, Calls Tryd.prog 61 #[.int .i64 3072] W fun e w' => e = .returned (.string (gP 2)) ∧ Below W.heap.size W w') := fun W => modulus_any 3072 (by omega) (by omega) W
      have HR := Lib.hid hrow
      have HB := Lib.hid hb
      have hbs := hb.size
      clear hrow hv0 hb hgg
      generalize tabV 2 = XS at *
      generalize gP 2 = GP at *
      go_wp2_with (first
        | (go_at_call 61; (with_reducible refine (HM.out _).mono ?_); rintro e w3 ⟨rfl, g3⟩; have hs3 := g3.size; have HR3 := Lib.hid (owns_moves HR.out (Moves.ofBelow (S := nobody) g3) (fun _ _ h => h)); have B3 := Lib.hid (HB.out.trans (g3.mono HB.out.size)); clear g3)
        | (at_builtin; refine wpList_append_lies _ rfl _ _ 66 rfl w.heap.size 51 i0 (.agg #[.string ⟨#[]⟩, .string ⟨#[]⟩]) 2 32 Tryd.underlying66 hi hz0 hz1 hz2 rfl (by decide) _ 2 XS rfl (HR3.out.alloc _) ⟨w3.heap.size, 0, none⟩ 1 1 [.string GP, .string ⟨#[2]⟩] rfl rfl (cell_two_new w3 _ _ _) (by simp [Value.oneCell']) (by decide) (by unfold maxLen; omega) (by omega) (by rw [World.size_alloc]; omega) _ rfl ?_; intro g4 c4 w4 hrow4 hg4 hat4 hlt4; have HR4 := Lib.hid hrow4; have B4 := Lib.hid ((B3.out.alloc B3.out.size (.cells #[.string GP, .string ⟨#[2]⟩] 51)).grown hg4 (by rw [World.size_alloc]; omega) (fun j hj => (HR3.out.lt j hj).1)); clear hrow4 hg4 hat4))
      go_roundw
      case rel => exact ⟨2 + 1, by omega, by go_num, by rw [← HX.out]; exact HR4.out, fun e => absurd e (by omega), B4.out⟩
      case measure => simp [intOf]; try omega
    | 3, _ =>
      obtain ⟨g, c, rfl, hgg⟩ := hrow.form (by omega)
      have hI := HI3.out
      have HX : Hid (tabV 3 ++ [.string (gP 3), .string ⟨#[2]⟩] = tabV (3 + 1)) := rfl
      have HM : Hid (∀ W, Calls Tryd.prog 61 #[.int .i64 4096] W fun e w' => e = .returned (.string (gP 3)) ∧ Below W.heap.size W w') := fun W => modulus_any 4096 (by omega) (by omega) W
      have HR := Lib.hid hrow
      have HB := Lib.hid hb
      have hbs := hb.size
      clear hrow hv0 hb hgg
      generalize tabV 3 = XS at *
      generalize gP 3 = GP at *
      go_wp2_with (first
        | (go_at_call 61; (with_reducible refine (HM.out _).mono ?_); rintro e w3 ⟨rfl, g3⟩; have hs3 := g3.size; have HR3 := Lib.hid (owns_moves HR.out (Moves.ofBelow (S := nobody) g3) (fun _ _ h => h)); have B3 := Lib.hid (HB.out.trans (g3.mono HB.out.size)); clear g3)
        | (at_builtin; refine wpList_append_lies _ rfl _ _ 66 rfl w.heap.size 51 i0 (.agg #[.string ⟨#[]⟩, .string ⟨#[]⟩]) 2 32 Tryd.underlying66 hi hz0 hz1 hz2 rfl (by decide) _ 3 XS rfl (HR3.out.alloc _) ⟨w3.heap.size, 0, none⟩ 1 1 [.string GP, .string ⟨#[2]⟩] rfl rfl (cell_two_new w3 _ _ _) (by simp [Value.oneCell']) (by decide) (by unfold maxLen; omega) (by omega) (by rw [World.size_alloc]; omega) _ rfl ?_; intro g4 c4 w4 hrow4 hg4 hat4 hlt4; have HR4 := Lib.hid hrow4; have B4 := Lib.hid ((B3.out.alloc B3.out.size (.cells #[.string GP, .string ⟨#[2]⟩] 51)).grown hg4 (by rw [World.size_alloc]; omega) (fun j hj => (HR3.out.lt j hj).1)); clear hrow4 hg4 hat4))
      go_roundw
      case rel => exact ⟨3 + 1, by omega, by go_num, by rw [← HX.out]; exact HR4.out, fun e => absurd e (by omega), B4.out⟩
      case measure => simp [intOf]; try omega
    | 4, _ =>
      obtain ⟨g, c, rfl, hgg⟩ := hrow.form (by omega)
      have HR := Lib.hid hrow
      have HB := Lib.hid hb
      clear hrow hv0 hgg hb
      go_wp2_with fail
      go_ret
      exact ⟨g, c, rfl, HR.out, HB.out⟩
    | k + 5, h => exact absurd h (by omega)
end Go.Proofs.YtihkhcocfhbekaaDoor
