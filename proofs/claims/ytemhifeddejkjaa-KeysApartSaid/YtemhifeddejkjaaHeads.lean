/- The contract of head for data.
The contract of head for every kind: headL, what stands ahead of the encodings of a term's subterms. -/
import Derived.Test.YtemhifeddejkjaaView
import Derived.Test.YtemhifeddejkjaaCnt
import Derived.Deep.RegionWith
namespace Go.Proofs.Ytemhifeddejkjaa
open Go.RowKit

theorem bs_one_cnt (k : UInt8) (l : List UInt8) : bs [k] ++ bs (cnt l) = bs (k :: cnt l) := by rw [bs_append]; rfl

set_option maxRecDepth 100000 in
theorem head_data (a b : Int) (s : ByteArray) (hs : s.size ≤ 1000000) (v : Value) (w : World) :
    Calls Try.prog 23 #[.agg #[.int .i64 1, .int .i64 a, .int .i64 b, .string s, v]] w fun e w' => e = .returned (.string (bs (241 :: cnt s.data.toList))) ∧ Below w.heap.size w w' := by
  have hcv := run_string_new (w.alloc (.cells #[.int .i64 1, .int .i64 a, .int .i64 b, .string s, v] 52)) [241] (by simp) #[.int .u8 241] (by rfl)
  have hl1 : ([241] : List UInt8).length = 1 := rfl
  rw [hl1, World.size_alloc] at hcv
  have hw : Hid (Below w.heap.size w ((w.alloc (.cells #[.int .i64 1, .int .i64 a, .int .i64 b, .string s, v] 52)).alloc (.cells #[.int .u8 241] 5))) := ((Below.refl _ _).alloc (Nat.le_refl _) _).alloc (by simp) _
  have he := Lib.hid (bs_one_cnt 241 s.data.toList)
  have h1 : (bs [241]).size ≤ 1 := by rw [bs_size]; exact Nat.le_refl _
  have h2 : (bs (cnt s.data.toList)).size ≤ 1000004 := by
    have : s.data.toList.length = s.size := by rw [Array.length_toList]; rfl
    rw [bs_size]; simp [cnt, pack4]; omega
  have hc := fun W => counted_any s hs W
  clear hl1
  generalize bs [241] = K at *
  go_enter Try.func23, Try.ntmps23
  go_wp2_with (
    go_at_call 50
    refine (hc _).mono ?_
    rintro e w' ⟨rfl, hb⟩
    generalize bs (cnt s.data.toList) = Y at *)
  go_ret
  exact ⟨by rw [← he.out]; rfl, hw.out.trans (hb.mono (by simp; omega))⟩
end Go.Proofs.Ytemhifeddejkjaa

namespace Go.Proofs.Ytemhifeddejkjaa
open Go.RowKit

def headL (sh : Shp) : List UInt8 := match sh.kind with
  | 1 => 241 :: cnt sh.s.data.toList
  | 2 => 242 :: (pack4 sh.a ++ pack4 sh.b)
  | 3 => 243 :: pack4 sh.a
  | 4 => [244]
  | 5 => 245 :: (cnt sh.s.data.toList ++ pack4 sh.args.length)
  | 6 => 246 :: cnt sh.s.data.toList
  | 7 => [247]
  | 8 => [248, UInt8.ofNat sh.b]
  | 9 => 249 :: pack4 sh.b
  | 10 => 250 :: pack4 sh.args.length
  | _ => []
theorem cnt_length (s : ByteArray) : (cnt s.data.toList).length = 4 + s.size := by
  have : s.data.toList.length = s.size := by rw [Array.length_toList]; rfl
  simp [cnt, pack4]; omega

set_option maxRecDepth 100000 in
theorem head_6 (a b : Nat) (ha : a ≤ 4294967295) (hb : b ≤ 4294967295) (s : ByteArray) (hs : s.size ≤ 1000000) (o : Option Addr) (m c : Nat) (hm : m ≤ 65536) (w : World) :
    Calls Try.prog 23 #[.agg #[.int .i64 6, .int .i64 a, .int .i64 b, .string s, .slice o m c]] w fun e w' => e = .returned (.string (bs (246 :: cnt s.data.toList))) ∧ Below w.heap.size w w' := by
  have hcv := run_string_new (w.alloc (.cells #[.int .i64 6, .int .i64 a, .int .i64 b, .string s, .slice o m c] 52)) [246] (by simp) #[.int .u8 246] (by rfl)
  have hl1 : ([246] : List UInt8).length = 1 := rfl
  rw [hl1, World.size_alloc] at hcv
  have hw : Hid (Below w.heap.size w ((w.alloc (.cells #[.int .i64 6, .int .i64 a, .int .i64 b, .string s, .slice o m c] 52)).alloc (.cells #[.int .u8 246] 5))) := ((Below.refl _ _).alloc (Nat.le_refl _) _).alloc (by simp) _
  have h1 : (bs [246]).size ≤ 1 := by rw [bs_size]; exact Nat.le_refl _
  have h2 : (bs (cnt s.data.toList)).size ≤ 1000004 := by rw [bs_size, cnt_length]; omega
  have hc := fun W => counted_any s hs W
  have he := Lib.hid (show bs [246] ++ bs (cnt s.data.toList) = bs (246 :: cnt s.data.toList) from bs_append _ _)
  clear hl1
  generalize bs [246] = K at *
  go_enter Try.func23, Try.ntmps23
  go_wp2_with (
    go_at_call 50
    refine (hc _).mono ?_
    rintro e w' ⟨rfl, hb⟩
    generalize bs (cnt s.data.toList) = Y at *)
  go_ret
  exact ⟨by rw [← he.out]; rfl, hw.out.trans (hb.mono (by simp; omega))⟩

set_option maxRecDepth 100000 in
theorem head_3 (a b : Nat) (ha : a ≤ 4294967295) (hb : b ≤ 4294967295) (s : ByteArray) (hs : s.size ≤ 1000000) (o : Option Addr) (m c : Nat) (hm : m ≤ 65536) (w : World) :
    Calls Try.prog 23 #[.agg #[.int .i64 3, .int .i64 a, .int .i64 b, .string s, .slice o m c]] w fun e w' => e = .returned (.string (bs (243 :: pack4 a))) ∧ Below w.heap.size w w' := by
  have hcv := run_string_new (w.alloc (.cells #[.int .i64 3, .int .i64 a, .int .i64 b, .string s, .slice o m c] 52)) [243] (by simp) #[.int .u8 243] (by rfl)
  have hl1 : ([243] : List UInt8).length = 1 := rfl
  rw [hl1, World.size_alloc] at hcv
  have hw : Hid (Below w.heap.size w ((w.alloc (.cells #[.int .i64 3, .int .i64 a, .int .i64 b, .string s, .slice o m c] 52)).alloc (.cells #[.int .u8 243] 5))) := ((Below.refl _ _).alloc (Nat.le_refl _) _).alloc (by simp) _
  have h1 : (bs [243]).size ≤ 1 := by rw [bs_size]; exact Nat.le_refl _
  have hv := fun W => U32_any a (by omega) W
  have hp : (bs (pack4 a)).size ≤ 4 := by rw [bs_size]; exact Nat.le_refl _
  have hwr : IntKind.u32.wrap (a : Int) = a := IntWalk.u32_in _ (by omega)
  have he := Lib.hid (show bs [243] ++ bs (pack4 a) = bs (243 :: pack4 a) from bs_append _ _)
  clear ha hb hm
  generalize bs (pack4 a) = Y at *
  clear hl1
  generalize bs [243] = K at *
  go_enter Try.func23, Try.ntmps23
  go_wp2_with (
    go_at_call 51
    refine (hv _).mono ?_
    rintro e w' ⟨rfl, hb⟩)
  go_ret
  exact ⟨by rw [← he.out]; rfl, hw.out.trans (hb.mono (by simp; omega))⟩

set_option maxRecDepth 100000 in
theorem head_9 (a b : Nat) (ha : a ≤ 4294967295) (hb : b ≤ 4294967295) (s : ByteArray) (hs : s.size ≤ 1000000) (o : Option Addr) (m c : Nat) (hm : m ≤ 65536) (w : World) :
    Calls Try.prog 23 #[.agg #[.int .i64 9, .int .i64 a, .int .i64 b, .string s, .slice o m c]] w fun e w' => e = .returned (.string (bs (249 :: pack4 b))) ∧ Below w.heap.size w w' := by
  have hcv := run_string_new (w.alloc (.cells #[.int .i64 9, .int .i64 a, .int .i64 b, .string s, .slice o m c] 52)) [249] (by simp) #[.int .u8 249] (by rfl)
  have hl1 : ([249] : List UInt8).length = 1 := rfl
  rw [hl1, World.size_alloc] at hcv
  have hw : Hid (Below w.heap.size w ((w.alloc (.cells #[.int .i64 9, .int .i64 a, .int .i64 b, .string s, .slice o m c] 52)).alloc (.cells #[.int .u8 249] 5))) := ((Below.refl _ _).alloc (Nat.le_refl _) _).alloc (by simp) _
  have h1 : (bs [249]).size ≤ 1 := by rw [bs_size]; exact Nat.le_refl _
  have hv := fun W => U32_any b (by omega) W
  have hp : (bs (pack4 b)).size ≤ 4 := by rw [bs_size]; exact Nat.le_refl _
  have hwr : IntKind.u32.wrap (b : Int) = b := IntWalk.u32_in _ (by omega)
  have he := Lib.hid (show bs [249] ++ bs (pack4 b) = bs (249 :: pack4 b) from bs_append _ _)
  clear ha hb hm
  generalize bs (pack4 b) = Y at *
  clear hl1
  generalize bs [249] = K at *
  go_enter Try.func23, Try.ntmps23
  go_wp2_with (
    go_at_call 51
    refine (hv _).mono ?_
    rintro e w' ⟨rfl, hb⟩)
  go_ret
  exact ⟨by rw [← he.out]; rfl, hw.out.trans (hb.mono (by simp; omega))⟩

set_option maxRecDepth 100000 in
theorem head_10 (a b : Nat) (ha : a ≤ 4294967295) (hb : b ≤ 4294967295) (s : ByteArray) (hs : s.size ≤ 1000000) (o : Option Addr) (m c : Nat) (hm : m ≤ 65536) (w : World) :
    Calls Try.prog 23 #[.agg #[.int .i64 10, .int .i64 a, .int .i64 b, .string s, .slice o m c]] w fun e w' => e = .returned (.string (bs (250 :: pack4 m))) ∧ Below w.heap.size w w' := by
  have hcv := run_string_new (w.alloc (.cells #[.int .i64 10, .int .i64 a, .int .i64 b, .string s, .slice o m c] 52)) [250] (by simp) #[.int .u8 250] (by rfl)
  have hl1 : ([250] : List UInt8).length = 1 := rfl
  rw [hl1, World.size_alloc] at hcv
  have hw : Hid (Below w.heap.size w ((w.alloc (.cells #[.int .i64 10, .int .i64 a, .int .i64 b, .string s, .slice o m c] 52)).alloc (.cells #[.int .u8 250] 5))) := ((Below.refl _ _).alloc (Nat.le_refl _) _).alloc (by simp) _
  have h1 : (bs [250]).size ≤ 1 := by rw [bs_size]; exact Nat.le_refl _
  have hv := fun W => U32_any m (by omega) W
  have hp : (bs (pack4 m)).size ≤ 4 := by rw [bs_size]; exact Nat.le_refl _
  have hwr : IntKind.u32.wrap (m : Int) = m := IntWalk.u32_in _ (by omega)
  have he := Lib.hid (show bs [250] ++ bs (pack4 m) = bs (250 :: pack4 m) from bs_append _ _)
  clear ha hb hm
  generalize bs (pack4 m) = Y at *
  clear hl1
  generalize bs [250] = K at *
  go_enter Try.func23, Try.ntmps23
  go_wp2_with (
    go_at_call 51
    refine (hv _).mono ?_
    rintro e w' ⟨rfl, hb⟩)
  go_ret
  exact ⟨by rw [← he.out]; rfl, hw.out.trans (hb.mono (by simp; omega))⟩

set_option maxRecDepth 100000 in
theorem head_4 (a b : Nat) (ha : a ≤ 4294967295) (hb : b ≤ 4294967295) (s : ByteArray) (hs : s.size ≤ 1000000) (o : Option Addr) (m c : Nat) (hm : m ≤ 65536) (w : World) :
    Calls Try.prog 23 #[.agg #[.int .i64 4, .int .i64 a, .int .i64 b, .string s, .slice o m c]] w fun e w' => e = .returned (.string (bs ([244]))) ∧ Below w.heap.size w w' := by
  have hcv := run_string_new (w.alloc (.cells #[.int .i64 4, .int .i64 a, .int .i64 b, .string s, .slice o m c] 52)) [244] (by simp) #[.int .u8 244] (by rfl)
  have hl1 : ([244] : List UInt8).length = 1 := rfl
  rw [hl1, World.size_alloc] at hcv
  have hw : Hid (Below w.heap.size w ((w.alloc (.cells #[.int .i64 4, .int .i64 a, .int .i64 b, .string s, .slice o m c] 52)).alloc (.cells #[.int .u8 244] 5))) := ((Below.refl _ _).alloc (Nat.le_refl _) _).alloc (by simp) _
  have h1 : (bs [244]).size ≤ 1 := by rw [bs_size]; exact Nat.le_refl _
  clear hl1
  generalize bs [244] = K at *
  go_enter Try.func23, Try.ntmps23
  go_wp2_with fail
  go_ret
  exact ⟨rfl, hw.out⟩

set_option maxRecDepth 100000 in
theorem head_7 (a b : Nat) (ha : a ≤ 4294967295) (hb : b ≤ 4294967295) (s : ByteArray) (hs : s.size ≤ 1000000) (o : Option Addr) (m c : Nat) (hm : m ≤ 65536) (w : World) :
    Calls Try.prog 23 #[.agg #[.int .i64 7, .int .i64 a, .int .i64 b, .string s, .slice o m c]] w fun e w' => e = .returned (.string (bs ([247]))) ∧ Below w.heap.size w w' := by
  have hcv := run_string_new (w.alloc (.cells #[.int .i64 7, .int .i64 a, .int .i64 b, .string s, .slice o m c] 52)) [247] (by simp) #[.int .u8 247] (by rfl)
  have hl1 : ([247] : List UInt8).length = 1 := rfl
  rw [hl1, World.size_alloc] at hcv
  have hw : Hid (Below w.heap.size w ((w.alloc (.cells #[.int .i64 7, .int .i64 a, .int .i64 b, .string s, .slice o m c] 52)).alloc (.cells #[.int .u8 247] 5))) := ((Below.refl _ _).alloc (Nat.le_refl _) _).alloc (by simp) _
  have h1 : (bs [247]).size ≤ 1 := by rw [bs_size]; exact Nat.le_refl _
  clear hl1
  generalize bs [247] = K at *
  go_enter Try.func23, Try.ntmps23
  go_wp2_with fail
  go_ret
  exact ⟨rfl, hw.out⟩

end Go.Proofs.Ytemhifeddejkjaa
