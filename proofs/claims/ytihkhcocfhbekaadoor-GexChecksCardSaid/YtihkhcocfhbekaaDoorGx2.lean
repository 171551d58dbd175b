/- Layer 18: the moduli of the table. -/
import Derived.Test.YtihkhcocfhbekaaDoorStr
import Derived.Test.YtihkhcocfhbekaaDoorConvB
import Derived.Test.YtihkhcocfhbekaaDoorZeros
import Derived.LoopTactic
namespace Go.Proofs.YtihkhcocfhbekaaDoor
open Go.RowKit

def modAt (n i : Nat) : Nat := (7 * i + n / 64) % 251
def mrow (n m k : Nat) : Array Value := ((List.range m).map fun j => if j < k then Value.int .u8 (modAt n j : Int) else .int .u8 0).toArray
theorem modAt_lt (n i : Nat) : modAt n i < 251 := Nat.mod_lt _ (by omega)
theorem mrow_size (n m k : Nat) : (mrow n m k).size = m := by simp [mrow]
theorem mrow_zero (n m : Nat) : mrow n m 0 = Array.replicate m (.int .u8 0) := by
  apply Array.ext
  · simp [mrow]
  · intro i h1 h2
    simp [mrow]
theorem mrow_set (n m k : Nat) : (mrow n m k).setIfInBounds k (.int .u8 (modAt n k : Int)) = mrow n m (k + 1) := by
  apply Array.ext
  · simp [mrow]
  · intro i h1 h2
    rw [Array.getElem_setIfInBounds (by simpa using h1)]
    by_cases h : k = i
    · subst h
      simp [mrow]
    · rw [if_neg h]
      simp only [mrow, List.getElem_toArray, List.getElem_map, List.getElem_range]
      by_cases h3 : i < k
      · rw [if_pos h3, if_pos (by omega)]
      · rw [if_neg h3, if_neg (by omega)]
theorem mrow_get (n m k i : Nat) (hi : i < m) : (mrow n m k)[i]? = some (if i < k then Value.int .u8 (modAt n i : Int) else .int .u8 0) := by
  simp [mrow, hi]

theorem mrow_zeros (n m : Nat) : (byteCells (List.replicate m 0)).toArray = mrow n m 0 := by
  rw [mrow_zero]
  apply Array.ext
  · simp [byteCells]
  · intro i h1 h2
    simp [byteCells]
def fix0 (x : Nat) : Nat := if x < 128 then x + 128 else x
def fix1 (x : Nat) : Nat := if x % 2 = 0 then x + 1 else x
def fixAt (n m j : Nat) : Nat :=
  if j = 0 then fix0 (modAt n j) else if j = m - 1 then fix1 (modAt n j) else modAt n j
theorem or_128 : ∀ x : Nat, x < 251 → bits .or .u8 (x : Int) 128 = (fix0 x : Int) := by decide +kernel
theorem or_1 : ∀ x : Nat, x < 251 → bits .or .u8 (x : Int) 1 = (fix1 x : Int) := by decide +kernel
def modL (n m : Nat) : List UInt8 := (List.range m).map fun j => UInt8.ofNat (fixAt n m j)
theorem modL_len (n m : Nat) : (modL n m).length = m := by simp [modL]
theorem fix0_lt {x : Nat} (h : x < 251) : fix0 x < 256 := by unfold fix0; split <;> omega
theorem fix1_lt {x : Nat} (h : x < 251) : fix1 x < 256 := by unfold fix1; split <;> omega
theorem fixAt_lt (n m j : Nat) : fixAt n m j < 256 := by
  have := modAt_lt n j
  unfold fixAt
  split
  · exact fix0_lt this
  · split
    · exact fix1_lt this
    · omega
theorem mrow_fin (n m : Nat) (hm : 2 ≤ m) : ((mrow n m m).setIfInBounds 0 (.int .u8 (fix0 (modAt n 0) : Int))).setIfInBounds (m - 1) (.int .u8 (fix1 (modAt n (m - 1)) : Int)) = (byteCells (modL n m)).toArray := by
  apply Array.ext
  · simp [mrow, byteCells, modL]
  · intro i h1 h2
    have him : i < m := by simpa [mrow] using h1
    have h8 := fixAt_lt n m i
    rw [Array.getElem_setIfInBounds (by simpa using h1), Array.getElem_setIfInBounds (by simpa using h1)]
    have e : (byteCells (modL n m)).toArray[i] = Value.int .u8 (fixAt n m i : Int) := by
      simp only [byteCells, modL, List.getElem_toArray, List.getElem_map, List.getElem_range, UInt8.toNat_ofNat']
      rw [Nat.mod_eq_of_lt h8]
    rw [e]
    unfold fixAt
    by_cases h0 : i = 0
    · subst h0
      rw [if_neg (by omega), if_pos rfl, if_pos rfl]
    · rw [if_neg h0]
      by_cases hl : m - 1 = i
      · rw [if_pos hl, if_pos hl.symm, hl]
      · rw [if_neg hl, if_neg (fun h => h0 h.symm), if_neg (fun h => hl h.symm)]
        simp [mrow, him]
/-- string(b), b a block of bytes known whole. -/
theorem run_string_holds {w : World} {g : Nat} {l : List UInt8} (h : Holds w g 5 (byteCells l).toArray) :
    (convert 85 9 (.slice (some ⟨g, 0, none⟩) l.length l.length)).run Tryd.prog w = .ok (.string (bs l)) w := by
  have hr := run_convert_bytes_arg (P := Tryd.prog) w 85 5 Tryd.underlying85 Tryd.underlying5 g 0 l.length l.length (l.map fun b => (b.toNat : Int)) (by simp) (fun i hi => by
    have := h.cell i
    rw [Nat.zero_add, this]
    simp [byteCells, List.getD, show i < l.length by simpa using hi]) 9 Tryd.underlying9
  have e : strOfNums (l.map fun b => (b.toNat : Int)) = bs l := by
    have : (l.map fun b => (b.toNat : Int)).map (fun n => UInt8.ofNat n.toNat) = l := by
      rw [List.map_map]
      exact (List.map_congr_left (fun b _ => by simp)).trans (List.map_id l)
    rw [strOfNums, this, bs]
  rw [hr, e]

set_option maxHeartbeats 1000000 in
set_option maxRecDepth 100000 in
theorem modulus_any (n : Nat) (h1 : 1024 ≤ n) (h2 : n ≤ 4096) (w : World) : Calls Tryd.prog 61 #[.int .i64 (n : Int)] w fun e w' => e = .returned (.string (bs (modL n (n / 8)))) ∧ Below w.heap.size w w' := by
  have ht1 : Int.tdiv (n : Int) 8 = ((n / 8 : Nat) : Int) := by rw [Int.tdiv_eq_ediv_of_nonneg (by omega)]; omega
  have ht2 : Int.tdiv (n : Int) 64 = ((n / 64 : Nat) : Int) := by rw [Int.tdiv_eq_ediv_of_nonneg (by omega)]; omega
  have hm1 : 128 ≤ n / 8 := by omega
  have hm2 : n / 8 ≤ 512 := by omega
  have hq : n / 64 ≤ 64 := by omega
  have HA : Hid (∀ i, modAt n i = (7 * i + n / 64) % 251) := fun _ => rfl
  generalize n / 8 = m at *
  generalize n / 64 = q at *
  have hmk : ∀ W : World, (Instr.makeSlice 85 (.int .i64 (m : Int)) (.int .i64 (m : Int))).run Tryd.prog W = .ok (.slice (some ⟨W.heap.size, 0, none⟩) m m) (W.alloc (.cells (mrow n m 0) 5)) := fun W => by
    rw [← mrow_zeros]
    exact make_zeros7 m (by omega) W
  go_enter Tryd.func61, Tryd.ntmps61
  go_wp2_with fail
  go_loopw [4, 10] (fun _ i wr => ∃ k : Nat, k ≤ m ∧ i = .int .i64 (k : Int) ∧ Holds wr w.heap.size 5 (mrow n m k) ∧ Below w.heap.size w wr) (fun _ i _ => (m + 1 - intOf i).toNat)
  case atStart => exact ⟨0, Nat.zero_le _, rfl, Holds.new _ _ _, (Below.refl _ _).alloc (Nat.le_refl _) _⟩
  case round =>
    obtain ⟨k, hk, rfl, hH, hb⟩ := hrel
    by_cases hlt : k < m
    · have ht3 : Int.tmod (7 * (k : Int) + (q : Int)) 251 = ((modAt n k : Nat) : Int) := by
        rw [HA.out, Int.tmod_eq_emod_of_nonneg (by omega)]
        omega
      have hy := modAt_lt n k
      have hc := hH.cell k
      rw [mrow_get n m k k hlt, if_neg (by omega)] at hc
      have hf := hH.frozen k
      have HS := Lib.hid (hH.set k (.int .u8 (modAt n k : Int)))
      rw [mrow_set] at HS
      have HB := Lib.hid hb
      clear hb hH HA
      generalize modAt n k = y at *
      go_wp2_with fail
      go_roundw
      case rel => exact ⟨k + 1, by omega, by go_num, HS.out, HB.out.setCell (by simp) _⟩
      case measure => simp [intOf]; try omega
    · obtain rfl : k = m := by omega
      have c0 := hH.cell 0
      rw [mrow_get n k k 0 (by omega), if_pos (by omega)] at c0
      have cl := hH.cell (k - 1)
      rw [mrow_get n k k (k - 1) (by omega), if_pos (by omega)] at cl
      have f0 := hH.frozen 0
      have fl := hH.frozen (k - 1)
      have hS1 := hH.set 0 (.int .u8 (fix0 (modAt n 0) : Int))
      have hS := hS1.set (k - 1) (.int .u8 (fix1 (modAt n (k - 1)) : Int))
      rw [mrow_fin n k (by omega)] at hS
      have HB : Hid (Below w.heap.size w ((wr.setCell ⟨w.heap.size, 0, none⟩ (.int .u8 (fix0 (modAt n 0) : Int))).setCell ⟨w.heap.size, k - 1, none⟩ (.int .u8 (fix1 (modAt n (k - 1)) : Int)))) := (hb.setCell (by simp) _).setCell (by simp) _
      have hcl1 := (World.cell?_setCell_other wr ⟨w.heap.size, 0, none⟩ ⟨w.heap.size, k - 1, none⟩ (.int .u8 (fix0 (modAt n 0) : Int)) (by intro e; injection e; omega)).trans cl
      have hfl1 := hS1.frozen (k - 1)
      have hcv := run_string_holds hS
      rw [modL_len] at hcv
      have o0 := or_128 _ (modAt_lt n 0)
      have o1 := or_1 _ (modAt_lt n (k - 1))
      have x0 := modAt_lt n 0
      have x1 := modAt_lt n (k - 1)
      have hkl : ((k : Int) - 1) = ((k - 1 : Nat) : Int) := by omega
      have y0 := fix0_lt x0
      have y1 := fix1_lt x1
      have hkk : k - 1 < k := by omega
      clear hH hS1 hS hb HA hmk ht1 ht2
      obtain ⟨R, hR⟩ : ∃ R, R = bs (modL n k) := ⟨_, rfl⟩
      rw [← hR] at hcv
      have HRr := Lib.hid hR
      clear hR
      generalize fix0 (modAt n 0) = Y0 at *
      generalize fix1 (modAt n (k - 1)) = Y1 at *
      generalize modAt n 0 = X0 at *
      generalize modAt n (k - 1) = X1 at *
      generalize k - 1 = j at *
      go_wp2_with fail
      go_ret
      exact ⟨by rw [← HRr.out]; rfl, HB.out⟩
end Go.Proofs.YtihkhcocfhbekaaDoor
