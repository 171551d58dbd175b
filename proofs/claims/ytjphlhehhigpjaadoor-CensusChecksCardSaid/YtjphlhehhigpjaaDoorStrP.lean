/- Strings as lists of bytes, four-byte numbers; a row of bytes turned into a string. -/
import Derived.Test.YtjphlhehhigpjaaDoorMem
import Derived.Outline
import Derived.Laws.BytesArg
import Derived.Laws.MakeOwn
import Derived.Laws.NewBlocks
import Derived.Laws.BitsAllLaws
import Derived.Laws.BitsLemmas
import Derived.KernelRfl
namespace Go.Proofs.YtjphlhehhigpjaaDoor
open Go.RowKit

def pack4 (t : Nat) : List UInt8 := [UInt8.ofNat (t / 16777216), UInt8.ofNat (t / 65536), UInt8.ofNat (t / 256), UInt8.ofNat t]
def packL (l : List Nat) : List UInt8 := l.flatMap pack4
def packB (l : List Nat) : ByteArray := ⟨(packL l).toArray⟩
theorem packL_length (l : List Nat) : (packL l).length = 4 * l.length := by
  induction l with
  | nil => rfl
  | cons t l ih => simp [packL, pack4] at ih ⊢; omega
theorem packL_snoc (l : List Nat) (t : Nat) : packL (l ++ [t]) = packL l ++ pack4 t := by simp [packL]
theorem packB_size (l : List Nat) : (packB l).size = 4 * l.length := by
  have := packL_length l
  simpa [packB, ByteArray.size] using this
theorem ofNat_inj {a b : Nat} (h : UInt8.ofNat a = UInt8.ofNat b) : a % 256 = b % 256 := by
  have := congrArg UInt8.toNat h
  simpa using this
theorem pack4_inj {t u : Nat} (ht : t < 4294967296) (hu : u < 4294967296) (h : pack4 t = pack4 u) : t = u := by
  simp only [pack4, List.cons.injEq, and_true] at h
  obtain ⟨h1, h2, h3, h4⟩ := h
  have := ofNat_inj h1; have := ofNat_inj h2; have := ofNat_inj h3; have := ofNat_inj h4
  omega
theorem packL_inj : ∀ {l m : List Nat}, (∀ t ∈ l, t < 4294967296) → (∀ t ∈ m, t < 4294967296) → packL l = packL m → l = m
  | [], [], _, _, _ => rfl
  | [], u :: m, _, _, h => by have := congrArg List.length h; simp [packL_length] at this
  | t :: l, [], _, _, h => by have := congrArg List.length h; simp [packL_length] at this
  | t :: l, u :: m, hl, hm, h => by
    have h' : pack4 t ++ packL l = pack4 u ++ packL m := h
    obtain ⟨h1, h2⟩ := List.append_inj h' rfl
    rw [pack4_inj (hl t (by simp)) (hm u (by simp)) h1, packL_inj (fun x hx => hl x (by simp [hx])) (fun x hx => hm x (by simp [hx])) h2]
theorem packB_inj {l m : List Nat} (hl : ∀ t ∈ l, t < 4294967296) (hm : ∀ t ∈ m, t < 4294967296) (h : packB l = packB m) : l = m :=
  packL_inj hl hm (by
    have h1 : (packL l).toArray = (packL m).toArray := by injection h
    have := congrArg Array.toList h1
    simpa using this)
def byteCells (l : List UInt8) : List Value := l.map fun b => Value.int .u8 b.toNat
theorem byteCells_append (a b : List UInt8) : byteCells (a ++ b) = byteCells a ++ byteCells b := by simp [byteCells]
theorem byteCells_length (a : List UInt8) : (byteCells a).length = a.length := by simp [byteCells]
theorem byteCells_one (a : List UInt8) : ∀ u ∈ byteCells a, u.oneCell' = true := by
  intro u hu
  obtain ⟨_, _, rfl⟩ := List.mem_map.1 hu
  rfl
theorem pack4_cells (t : Nat) (ht : t < 4294967296) : [Value.int .u8 ((t : Int) / 16777216), .int .u8 ((t : Int) / 65536 % 256), .int .u8 ((t : Int) / 256 % 256), .int .u8 ((t : Int) % 256)] = byteCells (pack4 t) := by
  simp [byteCells, pack4]
  omega
theorem packed_step (l : List Nat) (k : Nat) (h : k < l.length) : byteCells (packL (l.take (k + 1))) = byteCells (packL (l.take k)) ++ byteCells (pack4 l[k]) := by
  rw [List.take_succ_eq_append_getElem h, packL_snoc, byteCells_append]
theorem ofInt64 (a : Nat) (ha : a < 9223372036854775808) : (BitVec.ofInt 64 (a : Int)).toNat = a := by
  rw [BitVec.ofInt_natCast, BitVec.toNat_ofNat]; exact Nat.mod_eq_of_lt (by omega)
theorem or_i64 (a b : Nat) (ha : a < 9223372036854775808) (hb : b < 9223372036854775808) : bits .or .i64 (a : Int) (b : Int) = ((a ||| b : Nat) : Int) := by
  have hx : a ||| b < 2 ^ 63 := Nat.or_lt_two_pow (by omega) (by omega)
  show IntKind.i64.wrap ((BitVec.ofInt 64 (a : Int) ||| BitVec.ofInt 64 (b : Int)).toNat : Int) = _
  rw [BitVec.toNat_or, ofInt64 a ha, ofInt64 b hb, IntKind.wrap_i64]
  omega
theorem join_nat (a b c d : Nat) (hb : b < 256) (hc : c < 256) (hd : d < 256) : a * 16777216 ||| b * 65536 ||| c * 256 ||| d = a * 16777216 + b * 65536 + c * 256 + d := by
  rw [nat_join24 (a * 16777216) (b * 65536) (by omega) (by omega), nat_join16 (a * 16777216 + b * 65536) (c * 256) (by omega) (by omega), nat_join8 (a * 16777216 + b * 65536 + c * 256) d (by omega) (by omega)]
theorem join_i64 (a b c d : Nat) (ha : a < 256) (hb : b < 256) (hc : c < 256) (hd : d < 256) :
    bits .or .i64 (bits .or .i64 (bits .or .i64 ((a : Int) * 16777216) ((b : Int) * 65536)) ((c : Int) * 256)) (d : Int) = ((a * 16777216 + b * 65536 + c * 256 + d : Nat) : Int) := by
  have e1 : (a : Int) * 16777216 = ((a * 16777216 : Nat) : Int) := by omega
  have e2 : (b : Int) * 65536 = ((b * 65536 : Nat) : Int) := by omega
  have e3 : (c : Int) * 256 = ((c * 256 : Nat) : Int) := by omega
  have j1 := nat_join24 (a * 16777216) (b * 65536) (by omega) (by omega)
  have j2 := nat_join16 (a * 16777216 + b * 65536) (c * 256) (by omega) (by omega)
  rw [e1, e2, e3, or_i64 _ _ (by omega) (by omega), or_i64 _ _ (by rw [j1]; omega) (by omega), or_i64 _ _ (by rw [j1, j2]; omega) (by omega), join_nat a b c d hb hc hd]
theorem four_digits (t : Nat) (h : t < 4294967296) : t / 16777216 * 16777216 + t / 65536 % 256 * 65536 + t / 256 % 256 * 256 + t % 256 = t ∧ t / 16777216 < 256 := by
  have e2 : t / 65536 = t / 256 / 256 := by rw [Nat.div_div_eq_div_mul]
  have e3 : t / 16777216 = t / 256 / 256 / 256 := by rw [Nat.div_div_eq_div_mul, Nat.div_div_eq_div_mul]
  rw [e2, e3]
  have d1 := Nat.div_add_mod t 256
  have d2 := Nat.div_add_mod (t / 256) 256
  have d3 := Nat.div_add_mod (t / 256 / 256) 256
  generalize t / 256 / 256 / 256 = q3 at *
  generalize t / 256 / 256 % 256 = r2 at *
  generalize t / 256 / 256 = q2 at *
  generalize t / 256 % 256 = r1 at *
  generalize t / 256 = q1 at *
  generalize t % 256 = r0 at *
  omega
/-- Bytes as a string. -/
def bs (l : List UInt8) : ByteArray := ⟨l.toArray⟩
theorem bs_size (l : List UInt8) : (bs l).size = l.length := by simp [bs, ByteArray.size]
theorem bs_append (a b : List UInt8) : bs a ++ bs b = bs (a ++ b) := by
  apply ByteArray.ext
  simp [bs, ByteArray.data_append]
theorem bs_inj {a b : List UInt8} (h : bs a = bs b) : a = b := by
  have h1 : a.toArray = b.toArray := by injection h
  simpa using congrArg Array.toList h1
theorem bs_list (s : ByteArray) : bs s.data.toList = s := by
  apply ByteArray.ext
  simp [bs]
theorem bs_take (l : List UInt8) (n : Nat) : (bs l).extract 0 n = bs (l.take n) := by
  apply ByteArray.ext
  apply Array.ext'
  rw [ByteArray.data_extract, Array.toList_extract]
  simp [bs, List.extract]
theorem bs_drop (l : List UInt8) (n : Nat) : (bs l).extract n (bs l).size = bs (l.drop n) := by
  apply ByteArray.ext
  apply Array.ext'
  rw [ByteArray.data_extract, Array.toList_extract, bs_size]
  simp only [bs, List.toList_toArray, List.extract]
  exact List.take_of_length_le (by rw [List.length_drop]; exact Nat.le_refl _)
def num4 : List UInt8 → Nat
  | [a, b, c, d] => a.toNat * 16777216 + b.toNat * 65536 + c.toNat * 256 + d.toNat
  | _ => 0
theorem num4_lt (l : List UInt8) : num4 l < 4294967296 := by
  unfold num4
  split
  · rename_i a b c d
    have := UInt8.toNat_lt a; have := UInt8.toNat_lt b; have := UInt8.toNat_lt c; have := UInt8.toNat_lt d
    omega
  · omega
theorem num4_pack (t : Nat) (h : t < 4294967296) : num4 (pack4 t) = t := by
  have := (four_digits t h).1
  have h0 : t / 16777216 % 256 = t / 16777216 := Nat.mod_eq_of_lt (four_digits t h).2
  simp only [num4, pack4, UInt8.toNat_ofNat', Nat.reducePow]
  rw [h0]
  exact this
theorem pack_num4 {l : List UInt8} (h : l.length = 4) : pack4 (num4 l) = l := by
  match l, h with
  | [a, b, c, d], _ =>
    have := UInt8.toNat_lt a; have := UInt8.toNat_lt b; have := UInt8.toNat_lt c; have := UInt8.toNat_lt d
    have e : ∀ (x : UInt8) (n : Nat), n % 256 = x.toNat → UInt8.ofNat n = x := fun x n hn => by
      apply UInt8.toNat_inj.1
      rw [UInt8.toNat_ofNat']
      exact hn
    simp only [num4, pack4]
    rw [e a _ (by omega), e b _ (by omega), e c _ (by omega), e d _ (by omega)]
theorem or_u32 (a b : Nat) (ha : a < 4294967296) (hb : b < 4294967296) : bits .or .u32 (a : Int) (b : Int) = ((a ||| b : Nat) : Int) := u32_or_nat a b ha hb
theorem join_u32 (a b c d : Nat) (ha : a < 256) (hb : b < 256) (hc : c < 256) (hd : d < 256) :
    bits .or .u32 (bits .or .u32 (bits .or .u32 ((a : Int) * 16777216) ((b : Int) * 65536)) ((c : Int) * 256)) (d : Int) = ((a * 16777216 + b * 65536 + c * 256 + d : Nat) : Int) := by
  have e1 : (a : Int) * 16777216 = ((a * 16777216 : Nat) : Int) := by omega
  have e2 : (b : Int) * 65536 = ((b * 65536 : Nat) : Int) := by omega
  have e3 : (c : Int) * 256 = ((c * 256 : Nat) : Int) := by omega
  have j1 := nat_join24 (a * 16777216) (b * 65536) (by omega) (by omega)
  have j2 := nat_join16 (a * 16777216 + b * 65536) (c * 256) (by omega) (by omega)
  rw [e1, e2, e3, or_u32 _ _ (by omega) (by omega), or_u32 _ _ (by rw [j1]; omega) (by omega), or_u32 _ _ (by rw [j1, j2]; omega) (by omega), join_nat a b c d hb hc hd]
/-- A counted string. -/
def cnt (l : List UInt8) : List UInt8 := pack4 l.length ++ l
end Go.Proofs.YtjphlhehhigpjaaDoor
