/- Plain bytes, lines, beginnings, the first blank: both sides. -/
import Derived.Test.YtgbmepfiajinhaaStr
import Derived.Test.YtgbmepfiajinhaaShelf
import Derived.Laws.IdiomStrings
import Derived.Laws.NewBlocks
import Derived.Lib.Hide
namespace Go.Proofs.Ytgbmepfiajinhaa
open Go.RowKit

theorem lnConv_bytes (W : World) (l : List UInt8) : ∃ c W', (convert 9 40 (.string (bs l))).run Try.prog W = .ok (.slice (some ⟨W.heap.size, 0, none⟩) l.length c) W' ∧
    (∀ (j : Nat) (hj : j < l.length), W'.cell? ⟨W.heap.size, j, none⟩ = some (.int .u8 (l[j].toNat : Int))) ∧ Below W.heap.size W W' ∧ W'.heap.size = W.heap.size + 1 := by
  have h := run_bytes_of_string (P := Try.prog) W 9 40 5 (bs l) Try.underlying9 Try.underlying40 Try.underlying5
  rw [bs_size] at h
  refine ⟨_, _, h, fun j hj => ?_, (Below.refl _ _).drew.alloc (Nat.le_refl _) _, by simp⟩
  have hc := World.cell?_alloc_mark W.drew (bytesRow (bs l) (grownCap W l.length 0 5)) 5 ((bytesRow (bs l) (grownCap W l.length 0 5)).size, (bytesRow (bs l) (grownCap W l.length 0 5)).size + 1) j
  rw [show W.drew.heap.size = W.heap.size from rfl] at hc
  rw [hc, bytesRow_at (bs l) _ j (by simpa [bs] using hj)]
  simp [bs]

theorem lnIndex_bs (l : List UInt8) (j : Nat) (hj : j < l.length) (W : World) : (Instr.index 9 (.string (bs l)) (.int .i64 (j : Int))).run Try.prog W = .ok (.int .u8 (l[j].toNat : Int)) W := by
  rw [run_index_string (P := Try.prog) W 9 (bs l) .i64 j Try.underlying9, dif_pos (by rw [bs_size]; omega)]
  simp [bs, ByteArray.getElem_eq_getElem_data]

def lnPlainB (b : UInt8) : Bool := decide (32 ≤ b.toNat ∧ b.toNat ≤ 126)
def lnPlainL (l : List UInt8) : Bool := l.all lnPlainB
theorem lnPlain_false {l : List UInt8} {b : UInt8} (hb : b ∈ l) (h : lnPlainB b = false) : lnPlainL l = false := by
  unfold lnPlainL
  rw [List.all_eq_false]
  exact ⟨b, hb, by rw [h]; simp⟩
theorem lnPlain_true {l : List UInt8} (h : ∀ b ∈ l, lnPlainB b = true) : lnPlainL l = true := List.all_eq_true.2 h
theorem lnToList (l : List UInt8) : (bs l).toList = l := by
  rw [ByteArray.toList_eq]
  simp [bs]

theorem lnIsPlain_any (b : UInt8) (w : World) : Calls Try.prog 25 #[.int .u8 (b.toNat : Int)] w fun e w' => e = .returned (.bool (lnPlainB b)) ∧ w' = w := by
  have HB : Hid (lnPlainB b = decide (32 ≤ b.toNat ∧ b.toNat ≤ 126)) := rfl
  generalize b.toNat = n at *
  by_cases n1 : 32 ≤ n
  · have q1 : decide ((n : Int) ≥ 32) = true := decide_eq_true (by omega)
    by_cases n2 : n ≤ 126
    · have q2 : decide ((n : Int) ≤ 126) = true := decide_eq_true (by omega)
      have HO : Hid (lnPlainB b = true) := by show lnPlainB b = true; rw [HB.out]; exact decide_eq_true (by omega)
      go_enter Try.func25, Try.ntmps25
      go_wp2_with fail
      go_ret
      exact ⟨by rw [HO.out]; rfl, rfl⟩
    · have q2 : decide ((n : Int) ≤ 126) = false := decide_eq_false (by omega)
      have HO : Hid (lnPlainB b = false) := by show lnPlainB b = false; rw [HB.out]; exact decide_eq_false (by omega)
      go_enter Try.func25, Try.ntmps25
      go_wp2_with fail
      go_ret
      exact ⟨by rw [HO.out]; rfl, rfl⟩
  · have q1 : decide ((n : Int) ≥ 32) = false := decide_eq_false (by omega)
    have HO : Hid (lnPlainB b = false) := by show lnPlainB b = false; rw [HB.out]; exact decide_eq_false (by omega)
    go_enter Try.func25, Try.ntmps25
    go_wp2_with fail
    go_ret
    exact ⟨by rw [HO.out]; rfl, rfl⟩

set_option maxRecDepth 100000 in
theorem rlPlain_any (x : List UInt8) (hx : x.length ≤ 1000000) (w : World) : Calls Try.prog 20 #[.string (bs x)] w fun e w' => e = .returned (.bool (lnPlainL x)) ∧ w' = w := by
  have hsz := bs_size x
  have HI := Lib.hid (fun (k : Nat) (hk : k < x.length) W => lnIndex_bs x k hk W)
  have hle : (bs x).size ≤ 1000000 := by omega
  generalize bs x = S at *
  go_enter Try.func20, Try.ntmps20
  go_wp2_with fail
  go_loopw [3] (fun i wr => ∃ k : Nat, k ≤ x.length ∧ i = .int .i64 k ∧ (∀ b ∈ x.take k, lnPlainB b = true) ∧ wr = w) (fun i _ => x.length - (intOf i).toNat)
  case atStart => exact ⟨0, Nat.zero_le _, rfl, by simp, rfl⟩
  case round =>
    obtain ⟨k, hk, rfl, htk, rfl⟩ := hrel
    by_cases hlt : k < x.length
    · have c1 := HI.out k hlt
      obtain ⟨b, hb⟩ : ∃ b, b = x[k] := ⟨_, rfl⟩
      rw [← hb] at c1
      have HN : Hid (lnPlainB b = true → ∀ a ∈ x.take (k + 1), lnPlainB a = true) := fun e a ha => by
        rw [List.take_succ_eq_append_getElem hlt, ← hb, List.mem_append] at ha
        rcases ha with ha | ha
        · exact htk a ha
        · simp at ha
          rw [ha]; exact e
      have HF : Hid (lnPlainB b = false → lnPlainL x = false) := fun e => lnPlain_false (by rw [hb]; exact List.getElem_mem hlt) e
      have HB : Hid (lnPlainB b = decide (32 ≤ b.toNat ∧ b.toNat ≤ 126)) := rfl
      clear hb htk HI
      generalize b.toNat = n at *
      by_cases n1 : n < 32
      · have hq : decide ((n : Int) < 32) = true := decide_eq_true (by omega)
        have HO : Hid (lnPlainB b = false) := by show lnPlainB b = false; rw [HB.out]; exact decide_eq_false (by omega)
        go_wp2_with fail
        go_ret
        exact ⟨by rw [HF.out HO.out]; rfl, rfl⟩
      · have q1 : decide ((n : Int) < 32) = false := decide_eq_false (by omega)
        by_cases n2 : 126 < n
        · have hq : decide ((n : Int) > 126) = true := decide_eq_true (by omega)
          have HO : Hid (lnPlainB b = false) := by show lnPlainB b = false; rw [HB.out]; exact decide_eq_false (by omega)
          go_wp2_with fail
          go_ret
          exact ⟨by rw [HF.out HO.out]; rfl, rfl⟩
        · have q2 : decide ((n : Int) > 126) = false := decide_eq_false (by omega)
          have HO : Hid (lnPlainB b = true) := by show lnPlainB b = true; rw [HB.out]; exact decide_eq_true (by omega)
          go_wp2_with fail
          go_roundw
          case rel => exact ⟨k + 1, by omega, by go_num, HN.out HO.out, trivial⟩
          case measure => simp [intOf]; omega
    · have hkl : k = x.length := by omega
      subst hkl
      rw [List.take_length] at htk
      have HR := Lib.hid (lnPlain_true htk)
      clear htk hlt HI
      go_wp2_with fail
      go_ret
      exact ⟨by rw [HR.out]; rfl, rfl⟩

def lnIsLine (l : List UInt8) : Bool := decide (l.length ≤ 253) && lnPlainL l
set_option maxRecDepth 100000 in
theorem lnIsLine_any (x : List UInt8) (hx : x.length ≤ 1000000) (w : World) : Calls Try.prog 22 #[.string (bs x)] w fun e w' => e = .returned (.bool (lnIsLine x)) ∧ Below w.heap.size w w' := by
  have hsz := bs_size x
  by_cases h1 : 253 < x.length
  · have HR : Hid (lnIsLine x = false) := by show lnIsLine x = false; unfold lnIsLine; rw [decide_eq_false (by omega)]; rfl
    have hle : (bs x).size ≤ 1000000 := by omega
    generalize bs x = S at *
    go_enter Try.func22, Try.ntmps22
    go_wp2
    go_ret
    exact ⟨by rw [HR.out]; rfl, Below.refl _ _⟩
  · have HE : Hid (lnIsLine x = lnPlainL x) := by show lnIsLine x = lnPlainL x; unfold lnIsLine; rw [decide_eq_true (by omega)]; rfl
    obtain ⟨c, w2, hcv, hcell, hbel, _⟩ := lnConv_bytes w x
    have hle : (bs x).size ≤ 253 := by omega
    have HP := Lib.hid (fun (b : UInt8) W => lnIsPlain_any b W)
    generalize bs x = S at *
    go_enter Try.func22, Try.ntmps22
    go_wp2_with fail
    have HC := Lib.hid hcell
    clear hcell hcv
    go_loopw [11] (fun i wr => ∃ k : Nat, k ≤ x.length ∧ i = .int .i64 k ∧ (∀ b ∈ x.take k, lnPlainB b = true) ∧ wr = w2) (fun i _ => x.length - (intOf i).toNat)
    case atStart => exact ⟨0, Nat.zero_le _, rfl, by simp, rfl⟩
    case round =>
      obtain ⟨k, hk, rfl, htk, rfl⟩ := hrel
      by_cases hlt : k < x.length
      · have c1 := HC.out k hlt
        obtain ⟨b, hb⟩ : ∃ b, b = x[k] := ⟨_, rfl⟩
        rw [← hb] at c1
        have HN : Hid (lnPlainB b = true → ∀ a ∈ x.take (k + 1), lnPlainB a = true) := fun e a ha => by
          rw [List.take_succ_eq_append_getElem hlt, ← hb, List.mem_append] at ha
          rcases ha with ha | ha
          · exact htk a ha
          · simp at ha
            rw [ha]; exact e
        have HF : Hid (lnPlainB b = false → lnPlainL x = false) := fun e => lnPlain_false (by rw [hb]; exact List.getElem_mem hlt) e
        have HPb := Lib.hid (HP.out b)
        clear hb htk HC HP
        generalize b.toNat = n at *
        cases hp : lnPlainB b with
        | false =>
          rw [hp] at HPb
          go_wp2_with (go_at_call 25; refine (HPb.out _).mono ?_; rintro e w1 ⟨rfl, rfl⟩)
          go_ret
          exact ⟨by rw [HE.out, HF.out hp]; rfl, hbel⟩
        | true =>
          rw [hp] at HPb
          go_wp2_with (go_at_call 25; refine (HPb.out _).mono ?_; rintro e w1 ⟨rfl, rfl⟩)
          go_roundw
          case rel => exact ⟨k + 1, by omega, by go_num, HN.out hp, trivial⟩
          case measure => simp [intOf]; omega
      · have hkl : k = x.length := by omega
        subst hkl
        rw [List.take_length] at htk
        have HR := Lib.hid (lnPlain_true htk)
        clear htk hlt HC
        go_wp2_with fail
        go_ret
        exact ⟨by rw [HE.out, HR.out]; rfl, hbel⟩

theorem lnBegins_eq (s p : List UInt8) : p.isPrefixOf s = (decide (p.length ≤ s.length) && (s.take p.length == p)) := by
  by_cases h : p.length ≤ s.length
  · rw [decide_eq_true h, Bool.true_and, Bool.eq_iff_iff, List.isPrefixOf_iff_prefix, List.prefix_iff_eq_take, beq_iff_eq]
    exact eq_comm
  · rw [decide_eq_false h, Bool.false_and, Bool.eq_false_iff]
    intro e
    have := (List.isPrefixOf_iff_prefix.1 e).length_le
    omega
theorem lnHasPrefix_any (x p : List UInt8) (w : World) : Calls Try.prog 23 #[.string (bs x), .string (bs p)] w fun e w' => e = .returned (.bool (p.isPrefixOf x)) ∧ w' = w := by
  refine (Try.strings_HasPrefix (bs x) (bs p) w).mono ?_
  rintro e w' ⟨rfl, rfl⟩
  simp [Lib.hasPrefix, bs]
set_option maxRecDepth 100000 in
theorem lnBegins_any (x p : List UInt8) (hx : x.length ≤ 1000000) (hp : p.length ≤ 1000000) (w : World) : Calls Try.prog 24 #[.string (bs x), .string (bs p)] w fun e w' => e = .returned (.bool (p.isPrefixOf x)) ∧ w' = w := by
  have hsz := bs_size x
  have hsp := bs_size p
  have HE := Lib.hid (lnBegins_eq x p)
  by_cases h : p.length ≤ x.length
  · have HX := Lib.hid (bs_take x p.length)
    have HT : Hid (∀ a b : List UInt8, ((bs a).toList == (bs b).toList) = (a == b)) := fun a b => by rw [lnToList, lnToList]
    have q1 : decide ((x.length : Int) ≥ (p.length : Int)) = true := decide_eq_true (by omega)
    have HO : Hid (p.isPrefixOf x = (((bs x).extract 0 p.length).toList == (bs p).toList)) := by
      show _ = _
      rw [HE.out, decide_eq_true h, Bool.true_and, HX.out, HT.out]
    clear HE HX HT
    have hle : (bs x).size ≤ 1000000 := by omega
    generalize bs x = S at *
    generalize bs p = T at *
    go_enter Try.func24, Try.ntmps24
    go_wp2_with fail
    go_ret
    exact ⟨by rw [HO.out]; rfl, rfl⟩
  · have q1 : decide ((x.length : Int) ≥ (p.length : Int)) = false := decide_eq_false (by omega)
    have HO : Hid (p.isPrefixOf x = false) := by show _ = _; rw [HE.out, decide_eq_false h, Bool.false_and]
    clear HE
    generalize bs x = S at *
    generalize bs p = T at *
    go_enter Try.func24, Try.ntmps24
    go_wp2_with fail
    go_ret
    exact ⟨by rw [HO.out]; rfl, rfl⟩
end Go.Proofs.Ytgbmepfiajinhaa
