/- The statement TermLong: lists of lists that double are made as long as they are not above the limit. -/
import Derived.Test.YtamgbeinmfgglaaMake
namespace Go.Proofs.Ytamgbeinmfgglaa
open Go.RowKit

theorem Makes.out {B A : Nat} {L : List Ent} {F : Nat → Prop} {w w' : World} {m : Int × List Ent} {r : Ending} (ha : ArenaAt B A L F w) (h : Makes B A F w m r w') :
    r = .returned (.int .i64 m.1) ∧ ∃ F', ArenaAt B A m.2 F' w' ∧ Below B w w' := by
  obtain ⟨h1, F', h2, h3, _⟩ := h
  have hs := ha.lt A ha.self
  exact ⟨h1, F', h2, h3.below (by omega) fun i hi => (ha.lt i hi).1⟩

def eA : Ent := ⟨⟨1, 0, 0, ⟨#[97]⟩, []⟩, 6⟩
def eK : Ent := ⟨⟨3, 0, 0, noStr, []⟩, 5⟩
def eP : Ent := ⟨⟨4, 0, 0, noStr, [1]⟩, 6⟩
theorem aw1 : dataM [] ⟨#[97]⟩ = (0, [eA]) := by rfl
theorem aw2 : dataM [eA] ⟨#[97]⟩ = (0, [eA]) := by rfl
theorem aw3 : keyM [eA] 0 = (1, [eA, eK]) := by rfl
theorem aw4 : pubM [eA, eK] 1 = (2, [eA, eK, eP]) := by rfl

set_option maxRecDepth 100000 in
theorem awake1_any (w : World) : Calls Try.prog 12 #[] w fun e w' => e = .returned (.bool true) ∧ Below w.heap.size w w' := by
  go_enter Try.func12, Try.ntmps12
  go_wp2_with fail
  refine (New_any _).mono ?_
  rintro e w1 ⟨A, F, rfl, h1, b1⟩
  go_wp2_with fail
  refine (Data_any h1 (by simp) ⟨#[97]⟩ (by decide)).mono ?_
  intro e w2 hm
  rw [aw1] at hm
  obtain ⟨rfl, F2, h2, b2⟩ := hm.out h1
  clear hm
  go_wp2_with fail
  refine (Data_any h2 (by simp) ⟨#[97]⟩ (by decide)).mono ?_
  intro e w3 hm
  rw [aw2] at hm
  obtain ⟨rfl, F3, h3, b3⟩ := hm.out h2
  clear hm
  go_wp2_with fail
  refine (Key_any h3 (by simp) 0).mono ?_
  intro e w4 hm
  rw [aw3] at hm
  obtain ⟨rfl, F4, h4, b4⟩ := hm.out h3
  clear hm
  go_wp2_with fail
  refine (Pub_any h4 (by simp) 1).mono ?_
  intro e w5 hm
  rw [aw4] at hm
  obtain ⟨rfl, F5, h5, b5⟩ := hm.out h4
  clear hm
  go_wp2_with fail
  refine (Len_any h5).mono ?_
  rintro e w6 ⟨rfl, rfl⟩
  go_wp2_with fail
  go_ret
  exact ⟨rfl, b1.trans (b2.trans (b3.trans (b4.trans b5)))⟩

/-! ### the doubling lists -/
def sz (n : Nat) : Nat → Nat
  | 0 => 5 + n
  | k + 1 => 5 + 2 * sz n k
def LL (s : ByteArray) : Nat → List Ent
  | 0 => [⟨⟨1, 0, 0, s, []⟩, 5 + s.size⟩]
  | k + 1 => LL s k ++ [⟨⟨10, 0, 0, noStr, [k, k]⟩, sz s.size (k + 1)⟩]
theorem LL_length (s : ByteArray) (k : Nat) : (LL s k).length = k + 1 := by
  induction k with
  | zero => rfl
  | succ k ih => simp [LL, ih]
theorem LL_last (s : ByteArray) (k : Nat) : ∃ sh, (LL s k)[k]? = some ⟨sh, sz s.size k⟩ := by
  cases k with
  | zero => exact ⟨_, rfl⟩
  | succ k =>
    refine ⟨⟨10, 0, 0, noStr, [k, k]⟩, ?_⟩
    rw [LL, List.getElem?_append_right (by rw [LL_length]; omega), LL_length, Nat.sub_self]
    rfl
theorem LL_args (s : ByteArray) (k : Nat) : ∀ e ∈ LL s k, ∀ t ∈ e.sh.args, t < k := by
  induction k with
  | zero => intro e he t ht; simp [LL] at he; subst he; simp at ht
  | succ k ih =>
    intro e he t ht
    rw [LL, List.mem_append] at he
    rcases he with he | he
    · have := ih e he t ht; omega
    · simp at he; subst he; simp at ht; omega
theorem LL_size (s : ByteArray) (k : Nat) : sizeAt (LL s k) (k : Nat) = (sz s.size k : Nat) := by
  obtain ⟨sh, h⟩ := LL_last s k
  simp [sizeAt, at_nat, h]
theorem LL_data (s : ByteArray) (h : s.size ≤ 60000) : dataM [] s = (0, LL s 0) := by
  have h1 : inAll [] [] = true ∧ 5 + s.size + sizes [] [] ≤ 131072 := ⟨rfl, by simp [sizes]; omega⟩
  unfold dataM built
  rw [if_pos h1]
  simp [found, idx, Hd.with, LL, sizes]
theorem LL_list (s : ByteArray) (k : Nat) (h : sz s.size (k + 1) ≤ 131072) : listM (LL s k) [(k : Int), (k : Int)] = (((k + 1 : Nat) : Int), LL s (k + 1)) := by
  have hs : sizes (LL s k) [(k : Int), (k : Int)] = 2 * sz s.size k := by simp [sizes, LL_size]; omega
  have hz : sz s.size (k + 1) = 5 + 2 * sz s.size k := rfl
  have hi : inAll (LL s k) [(k : Int), (k : Int)] = true := by simp [inAll, LL_length]; omega
  have hn : idx (LL s k) ⟨10, 0, 0, noStr, [k, k]⟩ = none := by
    cases hx : idx (LL s k) ⟨10, 0, 0, noStr, [k, k]⟩ with
    | none => rfl
    | some i =>
      obtain ⟨e, he, hsh⟩ := idx_some hx
      have := LL_args s k e (List.mem_of_getElem? he) k (by rw [hsh]; simp)
      omega
  have hsz : 5 + noStr.size + sizes (LL s k) [(k : Int), (k : Int)] = sz s.size (k + 1) := by rw [hs, hz]; rfl
  unfold listM
  rw [if_pos (by simp)]
  unfold built
  simp only [hsz]
  rw [if_pos ⟨hi, h⟩]
  simp only [Hd.with, found, List.map_cons, List.map_nil, Int.toNat_natCast, hn, LL_length]
  rfl
theorem LL_none (s : ByteArray) (k : Nat) (h : ¬ sz s.size (k + 1) ≤ 131072) : listM (LL s k) [(k : Int), (k : Int)] = (-1, LL s k) := by
  have hs : sizes (LL s k) [(k : Int), (k : Int)] = 2 * sz s.size k := by simp [sizes, LL_size]; omega
  have hz : sz s.size (k + 1) = 5 + 2 * sz s.size k := rfl
  unfold listM
  rw [if_pos (by simp)]
  unfold built
  rw [if_neg]
  rintro ⟨_, h2⟩
  rw [hs] at h2
  have : (noStr : ByteArray).size = 0 := rfl
  simp only at h2
  omega

def zeros (n : Nat) : ByteArray := ⟨(List.replicate n 0).toArray⟩
theorem zeros_size (n : Nat) : (zeros n).size = n := by simp [zeros, ByteArray.size]

set_option maxRecDepth 100000 in
theorem TermLong_small (n m : Nat) (hn : n ≤ 60000) (hm : m ≤ 30) (w : World) : Calls Try.prog 6 #[.int .u16 n, .int .u8 m] w fun e w' => e = .returned (.bool true) ∧ Below w.heap.size w w' := by
  obtain ⟨i0, hi, hz0, hz1, hz2⟩ := info_parts info_u8
  have hmk : ∀ W : World, (Instr.makeSlice 53 (.int .i64 (n : Int)) (.int .i64 (n : Int))).run Try.prog W = .ok (.slice (some ⟨W.heap.size, 0, none⟩) n n) (W.alloc (.cells (byteCells (List.replicate n 0)).toArray 5)) := fun W => by
    have h := run_make (P := Try.prog) W 53 5 i0 (.int .u8 0) Try.underlying53 hi hz0 .i64 .i64 (n : Int) (n : Int) (by omega) (by omega) (by rw [hz2]; omega) (by omega)
    have e : madeCells (Value.int .u8 0).cells (((n : Nat) : Int).toNat * i0.size) = (byteCells (List.replicate n 0)).toArray := by
      apply Array.ext
      · simp [size_madeCells, byteCells, hz1]
      · intro i h1 h2
        simp [madeCells, byteCells, Value.cells, Nat.mod_one]
    rw [h, e]
    simp
  have hcv : ∀ W : World, (convert 53 9 (.slice (some ⟨W.heap.size, 0, none⟩) n n)).run Try.prog (W.alloc (.cells (byteCells (List.replicate n 0)).toArray 5)) = .ok (.string (zeros n)) (W.alloc (.cells (byteCells (List.replicate n 0)).toArray 5)) := fun W =>
    run_string_own (base := 0) ⟨by simp [byteCells], .inr ⟨W.heap.size, n, _, rfl, Nat.zero_le _, heap_alloc_new W _, Nat.le_refl _, by unfold maxLen; omega, by simp [byteCells], by simp [byteCells]⟩⟩
  generalize (byteCells (List.replicate n 0)).toArray = Z at hmk hcv
  clear hi hz0 hz1 hz2
  go_enter Try.func6, Try.ntmps6
  go_wp2_with fail
  refine (New_any _).mono ?_
  rintro e w1 ⟨A, F, rfl, h1, b1⟩
  go_wp2_with fail
  have h1' : ArenaAt w.heap.size A [] F (w1.alloc (.cells Z 5)) := h1.below ((Below.refl _ _).alloc (Nat.le_refl _) _)
  refine (Data_any h1' (by simp) (zeros n) (by rw [zeros_size]; omega)).mono ?_
  intro e w2 hmk2
  rw [LL_data (zeros n) (by rw [zeros_size]; exact hn)] at hmk2
  obtain ⟨rfl, F2, h2, b2⟩ := hmk2.out h1'
  have b3 : Below w.heap.size w w2 := (b1.alloc b1.size _).trans b2
  have b3' := b3
  clear hmk2 h1' h1 b2 b1 hmk hcv
  go_wp2_with fail
  obtain ⟨S, hS⟩ : ∃ S, S = zeros n := ⟨_, rfl⟩
  have hSn : S.size = n := by rw [hS, zeros_size]
  rw [← hS] at h2
  clear hS b3'
  go_loopw [6, 7, 8] (fun x y z wr => ∃ k : Nat, k ≤ m ∧ x = .int .i64 k ∧ y = .int .i64 (sz S.size k : Nat) ∧ z = .int .i64 k ∧ sz S.size k ≤ 131072 ∧ (∃ F, ArenaAt w.heap.size A (LL S k) F wr) ∧ Below w.heap.size w wr) (fun _ _ z _ => m - (intOf z).toNat)
  case atStart => exact ⟨0, Nat.zero_le _, rfl, by simp [sz, hSn], rfl, by simp only [sz]; omega, ⟨F2, h2⟩, b3⟩
  case round =>
    clear h2 b3
    obtain ⟨k, hk, rfl, rfl, rfl, hz, ⟨F, h2⟩, b3⟩ := hrel
    have hlen := LL_length S k
    have hsize := Size_any h2 (k : Int)
    rw [LL_size] at hsize
    have hz1 : (sz S.size (k + 1) : Int) = 5 + 2 * (sz S.size k : Int) := by simp [sz]
    have hL := LL_list S k
    have hN := LL_none S k
    generalize sz S.size k = s0 at *
    generalize hg1 : sz S.size (k + 1) = s1 at *
    have HG := Lib.hid hg1
    clear hg1
    have HZ := Lib.hid hz1
    have HL := Lib.hid hL
    have HN := Lib.hid hN
    have HLEN := Lib.hid hlen
    clear hz1 hL hN hlen hSn
    by_cases hlt : k < m
    · go_wp2_with (go_at_call 18; refine hsize.mono ?_; rintro e w' ⟨rfl, rfl⟩)
      have hm0 : Below w.heap.size wr (wr.alloc (.cells #[.int .i64 k, .int .i64 k] 32)) := (Below.refl _ _).alloc b3.size _
      have h3 : ArenaAt w.heap.size A (LL S k) F (wr.alloc (.cells #[.int .i64 k, .int .i64 k] 32)) := h2.below ((Below.refl _ _).alloc (Nat.le_refl _) _)
      have hids : IdsAt (wr.alloc (.cells #[.int .i64 k, .int .i64 k] 32)) (.slice (some ⟨wr.heap.size, 0, none⟩) 2 2) [(k : Int), (k : Int)] := ids_new wr [(k : Int), (k : Int)] 32
      refine (List_any h3 (by rw [HLEN.out]; omega) hids (by simp)).mono ?_
      intro e w2 hmk2
      by_cases hbig : s1 ≤ 131072
      · rw [HL.out hbig] at hmk2
        obtain ⟨rfl, F2, h4, b4⟩ := hmk2.out h3
        have b5 : Below w.heap.size w w2 := b3.trans (hm0.trans b4)
        have hcmp : decide ((131072 : Int) < 5 + 2 * (s0 : Int)) = false := by have := HZ.out; simp; omega
        have hne : (((k + 1 : Nat) : Int) == -1) = false := by simp; omega
        rw [Int.natCast_add] at hne ⊢
        clear h3 hm0 hids hmk2 h2 b4
        go_wp2_with fail
        go_roundw
        case rel => exact ⟨k + 1, by omega, by go_num, by rw [HG.out, HZ.out], by go_num, by rw [HG.out]; exact hbig, ⟨F2, h4⟩, b5⟩
        case measure => simp [intOf]; omega
      · rw [HN.out hbig] at hmk2
        obtain ⟨rfl, F2, h4, b4⟩ := hmk2.out h3
        have b5 : Below w.heap.size w w2 := b3.trans (hm0.trans b4)
        have hcmp : decide ((131072 : Int) < 5 + 2 * (s0 : Int)) = true := by have := HZ.out; simp; omega
        clear h3 hm0 hids hmk2 h2 b4
        go_wp2_with (go_at_call 12; refine (awake1_any _).mono ?_; rintro e w' ⟨rfl, b6⟩)
        go_ret
        exact ⟨rfl, b5.trans (b6.mono b5.size)⟩
    · go_wp2_with (go_at_call 12; refine (awake1_any _).mono ?_; rintro e w' ⟨rfl, b6⟩)
      go_ret
      exact ⟨rfl, b3.trans (b6.mono b3.size)⟩
end Go.Proofs.Ytamgbeinmfgglaa
