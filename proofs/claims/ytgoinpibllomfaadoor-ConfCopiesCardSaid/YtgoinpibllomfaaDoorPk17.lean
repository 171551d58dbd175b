/- Part 17 of what the statement wants. -/
import Derived.Test.YtgoinpibllomfaaDoorPk08
import Derived.Test.YtgoinpibllomfaaDoorPk16
namespace Go.Proofs.YtgoinpibllomfaaDoor
open Go.RowKit

def plainP : Nat → List (List UInt8)
  | 0 => names3
  | 1 => [[115, 115, 104, 45, 101, 100, 50, 53, 53, 49, 57], [114, 115, 97, 45, 115, 104, 97, 50, 45, 50, 53, 54]]
  | 2 => [[97, 101, 115, 50, 53, 54, 45, 103, 99, 109], [97, 101, 115, 49, 50, 56, 45, 99, 116, 114]]
  | 3 => [[97, 101, 115, 50, 53, 54, 45, 103, 99, 109], [97, 101, 115, 49, 50, 56, 45, 99, 116, 114]]
  | 4 => [[104, 109, 97, 99, 45, 115, 104, 97, 50, 45, 50, 53, 54], [104, 109, 97, 99, 45, 115, 104, 97, 50, 45, 53, 49, 50]]
  | 5 => [[104, 109, 97, 99, 45, 115, 104, 97, 50, 45, 50, 53, 54], [104, 109, 97, 99, 45, 115, 104, 97, 50, 45, 53, 49, 50]]
  | 6 => [[110, 111, 110, 101]]
  | 7 => [[110, 111, 110, 101]]
  | _ => []
def plainL (k : Nat) : List Value := (plainP k).map fun x => Value.string (bs x)
def plainC (k : Nat) : Obj := .cells (plainL k).toArray 9
def plainU (B : Nat) (k : Nat) : Value := .slice (some ⟨B + k, 0, none⟩) (plainP k).length (plainP k).length

theorem pfAllocs_below (os : List Obj) : ∀ w : World, Below w.heap.size w (os.foldl World.alloc w) := by
  induction os with
  | nil => intro w; exact Below.refl _ _
  | cons o os ih =>
    intro w
    rw [List.foldl_cons]
    exact ((Below.refl _ w).alloc (Nat.le_refl _) o).trans ((ih (w.alloc o)).mono (by rw [World.size_alloc]; omega))
theorem pfAllocs_at : ∀ (os : List Obj) (w : World) (i : Nat) (o : Obj), os[i]? = some o → (os.foldl World.alloc w).heap[w.heap.size + i]? = some o
  | [], w, i, o, h => by simp at h
  | x :: os, w, 0, o, h => by
    simp at h
    subst h
    rw [List.foldl_cons]
    have hb := pfAllocs_below os (w.alloc x)
    have hl : w.heap.size < (w.alloc x).heap.size := by rw [World.size_alloc]; omega
    rw [Nat.add_zero]
    exact (hb.block _ hl).trans (heap_alloc_new w x)
  | x :: os, w, i + 1, o, h => by
    rw [List.foldl_cons]
    have := pfAllocs_at os (w.alloc x) i o (by simpa using h)
    rw [World.size_alloc] at this
    rw [show w.heap.size + (i + 1) = w.heap.size + 1 + i by omega]
    exact this
def plainObjs (B : Nat) : List Obj := [.cells #[plainU B 0, plainU B 1, plainU B 2, plainU B 3, plainU B 4, plainU B 5, plainU B 6, plainU B 7] 46, plainC 0, plainC 1, plainC 2, plainC 3, plainC 4, plainC 5, plainC 6, plainC 7]
def plainW (w : World) : World := (plainObjs (w.heap.size + 1)).foldl World.alloc w
theorem plain_obj (B : Nat) : ∀ k, k < 8 → (plainObjs B)[k + 1]? = some (plainC k)
  | 0, _ => rfl
  | 1, _ => rfl
  | 2, _ => rfl
  | 3, _ => rfl
  | 4, _ => rfl
  | 5, _ => rfl
  | 6, _ => rfl
  | 7, _ => rfl
  | k + 8, h => absurd h (by omega)
theorem plain_len : ∀ k, k < 8 → (plainP k).length ≤ 3
  | 0, _ => by decide
  | 1, _ => by decide
  | 2, _ => by decide
  | 3, _ => by decide
  | 4, _ => by decide
  | 5, _ => by decide
  | 6, _ => by decide
  | 7, _ => by decide
  | k + 8, h => absurd h (by omega)
theorem plain_eight (w : World) : Eight (plainW w) (plainU (w.heap.size + 1)) plainP := by
  refine ⟨fun k hk => ?_, fun k hk a n c e => ?_, fun k hk => by have := plain_len k hk; unfold maxLen; omega⟩
  · have h := pfAllocs_at (plainObjs (w.heap.size + 1)) w (k + 1) _ (plain_obj _ k hk)
    have e : w.heap.size + (k + 1) = w.heap.size + 1 + k := by omega
    rw [e] at h
    refine ⟨some ⟨w.heap.size + 1 + k, 0, none⟩, (plainP k).length, by rw [List.length_map]; rfl, fun _ => ⟨_, 0, rfl, (Array.getElem?_eq_some_iff.1 h).1, fun j x hj => ?_⟩⟩
    unfold plainC at h
    have hc := cell_of_row (plainW w) _ (0 + j) _ _ _ h
    rw [hc]
    unfold plainL
    rw [List.getElem?_map] at hj
    cases hp : (plainP k)[j]? with
    | none => rw [hp] at hj; cases hj
    | some y =>
      rw [hp] at hj
      obtain rfl := Option.some.inj hj
      simp [hp]
  · injection e with _ e2 e3
    omega

set_option maxHeartbeats 1000000 in
set_option maxRecDepth 100000 in
theorem pfPlain_new {w : World} (hT : Tab15 w) : Calls Tryd.prog 26 #[] w fun e w' => ∃ u, e = .returned (agg8 u) ∧ Eight w' u plainP ∧ (∀ k < 8, ∃ b n c, u k = .slice (some ⟨b, 0, none⟩) n c ∧ w.heap.size < b) ∧ Below w.heap.size w w' := by
  have HN : Hid (∀ (z : Int) (W : World), Below w.heap.size w W → Calls Tryd.prog 43 #[.int .i64 z] W fun e w' => e = .returned (.string (bs (methodZ z))) ∧ w' = W) := fun z W hb => pfName_any (hT.below hb) z
  have HN1 : Hid (∀ (W : World), Below w.heap.size w W → Calls Tryd.prog 43 #[.int .i64 1] W fun e w' => e = .returned (.string (bs meCurve)) ∧ w' = W) := HN.out 1
  have HN2 : Hid (∀ (W : World), Below w.heap.size w W → Calls Tryd.prog 43 #[.int .i64 2] W fun e w' => e = .returned (.string (bs meEcdh)) ∧ w' = W) := HN.out 2
  have HN3 : Hid (∀ (W : World), Below w.heap.size w W → Calls Tryd.prog 43 #[.int .i64 3] W fun e w' => e = .returned (.string (bs meGex)) ∧ w' = W) := HN.out 3
  have HB := Lib.hid ((Below.refl w.heap.size w).alloc (Nat.le_refl _) (.cells #[.slice none 0 0, .slice none 0 0, .slice none 0 0, .slice none 0 0, .slice none 0 0, .slice none 0 0, .slice none 0 0, .slice none 0 0] 46))
  clear HN hT
  go_enter Tryd.func26, Tryd.ntmps26
  go_wp2_with (first
    | (go_at_call 43; (with_reducible refine (HN1.out _ HB.out).mono ?_); rintro e w1 ⟨rfl, hw⟩; have hw := hw.symm; subst hw)
    | (go_at_call 43; (with_reducible refine (HN2.out _ HB.out).mono ?_); rintro e w1 ⟨rfl, hw⟩; have hw := hw.symm; subst hw)
    | (go_at_call 43; (with_reducible refine (HN3.out _ HB.out).mono ?_); rintro e w1 ⟨rfl, hw⟩; have hw := hw.symm; subst hw))
  have hR := pfAllocs_at (plainObjs (w.heap.size + 1)) w 0 _ rfl
  exact bodyPost_ret (results_cell_row rfl _ _ w.heap.size _ _ (0, 0) _ rfl hR Tryd.underlying46 rfl (by kernel_rfl)) rfl ⟨plainU (w.heap.size + 1), rfl, plain_eight w, fun k _ => ⟨_, _, _, rfl, by omega⟩, pfAllocs_below (plainObjs (w.heap.size + 1)) w⟩
end Go.Proofs.YtgoinpibllomfaaDoor
