/- Part 4 of what the statement wants. -/
import Derived.Laws.IdiomStrings
import Derived.Laws.NewBlocks
import Derived.Lib.Hide
import Derived.Test.YtgoinpibllomfaaDoorPk00
import Derived.Test.YtgoinpibllomfaaDoorPk03
namespace Go.Proofs.YtgoinpibllomfaaDoor
open Go.RowKit


theorem lnConv_bytes (W : World) (l : List UInt8) : ∃ c W', (convert 9 94 (.string (bs l))).run Tryd.prog W = .ok (.slice (some ⟨W.heap.size, 0, none⟩) l.length c) W' ∧
    (∀ (j : Nat) (hj : j < l.length), W'.cell? ⟨W.heap.size, j, none⟩ = some (.int .u8 (l[j].toNat : Int))) ∧ Below W.heap.size W W' ∧ W'.heap.size = W.heap.size + 1 := by
  have h := run_bytes_of_string (P := Tryd.prog) W 9 94 5 (bs l) Tryd.underlying9 Tryd.underlying94 Tryd.underlying5
  rw [bs_size] at h
  refine ⟨_, _, h, fun j hj => ?_, (Below.refl _ _).drew.alloc (Nat.le_refl _) _, by simp⟩
  have hc := World.cell?_alloc_mark W.drew (bytesRow (bs l) (grownCap W l.length 0 5)) 5 ((bytesRow (bs l) (grownCap W l.length 0 5)).size, (bytesRow (bs l) (grownCap W l.length 0 5)).size + 1) j
  rw [show W.drew.heap.size = W.heap.size from rfl] at hc
  rw [hc, bytesRow_at (bs l) _ j (by simpa [bs] using hj)]
  simp [bs]
def lnPlainB (b : UInt8) : Bool := decide (32 ≤ b.toNat ∧ b.toNat ≤ 126)
def lnPlainL (l : List UInt8) : Bool := l.all lnPlainB
theorem lnPlain_false {l : List UInt8} {b : UInt8} (hb : b ∈ l) (h : lnPlainB b = false) : lnPlainL l = false := by
  unfold lnPlainL
  rw [List.all_eq_false]
  exact ⟨b, hb, by rw [h]; simp⟩
theorem lnPlain_true {l : List UInt8} (h : ∀ b ∈ l, lnPlainB b = true) : lnPlainL l = true := List.all_eq_true.2 h
theorem lnToList (l : List UInt8) : (bs l).toList = l := by
  rw [ByteArray.toList_eq]
  simp [bs]
theorem lnIsPlain_any (b : UInt8) (w : World) : Calls Tryd.prog 105 #[.int .u8 (b.toNat : Int)] w fun e w' => e = .returned (.bool (lnPlainB b)) ∧ w' = w := by
  have HB : Hid (lnPlainB b = decide (32 ≤ b.toNat ∧ b.toNat ≤ 126)) := rfl
  generalize b.toNat = n at *
  by_cases n1 : 32 ≤ n
  · have q1 : decide ((n : Int) ≥ 32) = true := decide_eq_true (by omega)
    by_cases n2 : n ≤ 126
    · have q2 : decide ((n : Int) ≤ 126) = true := decide_eq_true (by omega)
      have HO : Hid (lnPlainB b = true) := by show lnPlainB b = true; rw [HB.out]; exact decide_eq_true (by omega)
      go_enter Tryd.func105, Tryd.ntmps105
      go_wp2_with fail
      go_ret
      exact ⟨by rw [HO.out]; rfl, rfl⟩
    · have q2 : decide ((n : Int) ≤ 126) = false := decide_eq_false (by omega)
      have HO : Hid (lnPlainB b = false) := by show lnPlainB b = false; rw [HB.out]; exact decide_eq_false (by omega)
      go_enter Tryd.func105, Tryd.ntmps105
      go_wp2_with fail
      go_ret
      exact ⟨by rw [HO.out]; rfl, rfl⟩
  · have q1 : decide ((n : Int) ≥ 32) = false := decide_eq_false (by omega)
    have HO : Hid (lnPlainB b = false) := by show lnPlainB b = false; rw [HB.out]; exact decide_eq_false (by omega)
    go_enter Tryd.func105, Tryd.ntmps105
    go_wp2_with fail
    go_ret
    exact ⟨by rw [HO.out]; rfl, rfl⟩
theorem lnHasPrefix_any (x p : List UInt8) (w : World) : Calls Tryd.prog 100 #[.string (bs x), .string (bs p)] w fun e w' => e = .returned (.bool (p.isPrefixOf x)) ∧ w' = w := by
  refine (Tryd.strings_HasPrefix (bs x) (bs p) w).mono ?_
  rintro e w' ⟨rfl, rfl⟩
  simp [Lib.hasPrefix, bs]
end Go.Proofs.YtgoinpibllomfaaDoor

namespace Go.Proofs.YtgoinpibllomfaaDoor
open Go.RowKit

def lnIsLine (l : List UInt8) : Bool := decide (l.length ≤ 253) && lnPlainL l
set_option maxRecDepth 100000 in
theorem lnIsLine_any (x : List UInt8) (hx : x.length ≤ 1000000) (w : World) : Calls Tryd.prog 99 #[.string (bs x)] w fun e w' => e = .returned (.bool (lnIsLine x)) ∧ Below w.heap.size w w' := by
  have hsz := bs_size x
  by_cases h1 : 253 < x.length
  · have HR : Hid (lnIsLine x = false) := by show lnIsLine x = false; unfold lnIsLine; rw [decide_eq_false (by omega)]; rfl
    have hle : (bs x).size ≤ 1000000 := by omega
    generalize bs x = S at *
    go_enter Tryd.func99, Tryd.ntmps99
    go_wp2
    go_ret
    exact ⟨by rw [HR.out]; rfl, Below.refl _ _⟩
  · have HE : Hid (lnIsLine x = lnPlainL x) := by show lnIsLine x = lnPlainL x; unfold lnIsLine; rw [decide_eq_true (by omega)]; rfl
    obtain ⟨c, w2, hcv, hcell, hbel, _⟩ := lnConv_bytes w x
    have hle : (bs x).size ≤ 253 := by omega
    have HP := Lib.hid (fun (b : UInt8) W => lnIsPlain_any b W)
    generalize bs x = S at *
    go_enter Tryd.func99, Tryd.ntmps99
    go_wp2_with fail
    have HC := Lib.hid hcell
    clear hcell hcv
    go_loopw [11] (fun i wr => ∃ k : Nat, k ≤ x.length ∧ i = .int .i64 k ∧ (∀ b ∈ x.take k, lnPlainB b = true) ∧ wr = w2) (fun i _ => x.length - (intOf i).toNat)
    case atStart => exact ⟨0, Nat.zero_le _, rfl, by simp, rfl⟩
    case round =>
      obtain ⟨k, hk, rfl, htk, rfl⟩ := hrel
      by_cases hlt : k < x.length
      · have c1 := HC.out k hlt
        obtain ⟨b, hb⟩ : ∃ b, b = x[k] := ⟨_, rfl⟩
        rw [← hb] at c1
        have HN : Hid (lnPlainB b = true → ∀ a ∈ x.take (k + 1), lnPlainB a = true) := fun e a ha => by
          rw [List.take_succ_eq_append_getElem hlt, ← hb, List.mem_append] at ha
          rcases ha with ha | ha
          · exact htk a ha
          · simp at ha
            rw [ha]; exact e
        have HF : Hid (lnPlainB b = false → lnPlainL x = false) := fun e => lnPlain_false (by rw [hb]; exact List.getElem_mem hlt) e
        have HPb := Lib.hid (HP.out b)
        clear hb htk HC HP
        generalize b.toNat = n at *
        cases hp : lnPlainB b with
        | false =>
          rw [hp] at HPb
          go_wp2_with (go_at_call 105; refine (HPb.out _).mono ?_; rintro e w1 ⟨rfl, rfl⟩)
          go_ret
          exact ⟨by rw [HE.out, HF.out hp]; rfl, hbel⟩
        | true =>
          rw [hp] at HPb
          go_wp2_with (go_at_call 105; refine (HPb.out _).mono ?_; rintro e w1 ⟨rfl, rfl⟩)
          go_roundw
          case rel => exact ⟨k + 1, by omega, by go_num, HN.out hp, trivial⟩
          case measure => simp [intOf]; omega
      · have hkl : k = x.length := by omega
        subst hkl
        rw [List.take_length] at htk
        have HR := Lib.hid (lnPlain_true htk)
        clear htk hlt HC
        go_wp2_with fail
        go_ret
        exact ⟨by rw [HE.out, HR.out]; rfl, hbel⟩
end Go.Proofs.YtgoinpibllomfaaDoor

namespace Go.Proofs.YtgoinpibllomfaaDoor
open Go.RowKit


def lnBlank (l : List UInt8) : Int := Lib.indexByte l 32
def lnVer : List UInt8 := [83, 83, 72, 45, 50, 46, 48, 45]
def lnRight (l : List UInt8) : Bool := lnIsLine l && (lnVer.isPrefixOf l && decide (8 < l.length))
set_option maxRecDepth 100000 in
theorem lnRight_any (x : List UInt8) (hx : x.length ≤ 1000000) (w : World) : Calls Tryd.prog 91 #[.string (bs x)] w fun e w' => e = .returned (.bool (lnRight x)) ∧ Below w.heap.size w w' := by
  have hsz := bs_size x
  have H1 := Lib.hid (fun W => lnIsLine_any x hx W)
  have H2 : Hid (∀ W : World, Calls Tryd.prog 100 #[.string (bs x), .string ⟨#[83, 83, 72, 45, 50, 46, 48, 45]⟩] W fun e w' => e = .returned (.bool (lnVer.isPrefixOf x)) ∧ w' = W) := fun W => lnHasPrefix_any x lnVer W
  have HR : Hid (lnRight x = (lnIsLine x && (lnVer.isPrefixOf x && decide (8 < x.length)))) := rfl
  have hle : (bs x).size ≤ 1000000 := by omega
  generalize bs x = S at *
  go_enter Tryd.func91, Tryd.ntmps91
  cases h1 : lnIsLine x <;> cases h2 : lnVer.isPrefixOf x <;> by_cases h3 : 8 < x.length
  all_goals
    rw [h1] at H1
    rw [h2] at H2
    first
      | (have q : decide ((x.length : Int) > 8) = true := decide_eq_true (by omega))
      | (have q : decide ((x.length : Int) > 8) = false := decide_eq_false (by omega))
    go_wp2_with (first
      | (go_at_call 99; with_reducible refine (H1.out _).mono ?_; rintro e w1 ⟨rfl, b1⟩)
      | (go_at_call 100; with_reducible refine (H2.out _).mono ?_; rintro e w2 ⟨rfl, rfl⟩))
    go_ret
    exact ⟨by rw [HR.out, h1, h2]; simp [h3], b1⟩
end Go.Proofs.YtgoinpibllomfaaDoor
