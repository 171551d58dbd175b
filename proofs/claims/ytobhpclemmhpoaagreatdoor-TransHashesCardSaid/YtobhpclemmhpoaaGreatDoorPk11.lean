/- Part 11 of what the statement wants. -/
import Derived.Laws.NewBlocks
import Derived.Laws.Slices
import Derived.Deep.RegionWith
import Derived.Test.YtobhpclemmhpoaaGreatDoorPk00
import Derived.Test.YtobhpclemmhpoaaGreatDoorPk06
import Derived.Test.YtobhpclemmhpoaaGreatDoorPk07
namespace Go.Proofs.YtobhpclemmhpoaaGreatDoor
open Go.RowKit

theorem Makes.out {B A : Nat} {L : List Ent} {F : Nat → Prop} {w w' : World} {m : Int × List Ent} {r : Ending} (ha : ArenaAt B A L F w) (h : Makes B A F w m r w') :
    r = .returned (.int .i64 m.1) ∧ ∃ F', ArenaAt B A m.2 F' w' ∧ Below B w w' := by
  obtain ⟨h1, F', h2, h3, _⟩ := h
  have hs := ha.lt A ha.self
  exact ⟨h1, F', h2, h3.below (by omega) fun i hi => (ha.lt i hi).1⟩

theorem arena_ne {B A g : Nat} {L : List Ent} {F : Nat → Prop} {w : World} {t : TypeId} {cs : Array Value} (h : ArenaAt B A L F w) (hr : Holds w g t cs) (h1 : t ≠ 66) (h2 : t ≠ 90) : ¬ F g := by
  obtain ⟨mb, tv, e1, e2, e3, _, _, _, rfl⟩ := h
  rintro (rfl | rfl | hk)
  · unfold Holds at hr e1
    rw [hr] at e1
    injection e1 with e1
    injection e1 with _ e1
    exact h1 e1
  · unfold Holds at hr
    rw [hr] at e3
    injection e3 with e3
    cases e3
  · exact own_ne e2 hr (fun h => h2 h.symm) hk

theorem Left.moves {B A : Nat} {L : List Ent} {F : Nat → Prop} {w w' : World} (h : Left B A L F w w') : Moves F w w' := by
  obtain ⟨_, _, h, _⟩ := h
  exact h
theorem left_down {B A : Nat} {L : List Ent} {F : Nat → Prop} {w w1 w' : World} (h : Left B A L F w w1) (k : Below w1.heap.size w1 w') : Left B A L F w w' := by
  obtain ⟨F', h1, h2, h3⟩ := h
  exact ⟨F', h1.below k, h2.trans (Moves.ofBelow (S := nobody) k) fun _ hi => hi.elim, h3⟩
theorem row_slice {w : World} {B n s : Nat} {t : TypeId} {v : Value} {xs : List Value} (h : w.ownsRow B t s v n xs) : ∃ ao m c, v = .slice ao m c := by
  rcases h.2 with ⟨rfl, _⟩ | ⟨g, cap, cur, rfl, _⟩
  · exact ⟨_, _, _, rfl⟩
  · exact ⟨_, _, _, rfl⟩
end Go.Proofs.YtobhpclemmhpoaaGreatDoor

namespace Go.Proofs.YtobhpclemmhpoaaGreatDoor
open Go.RowKit

set_option maxRecDepth 100000 in
theorem U32_any (n : Nat) (hn : n < 4294967296) (w : World) : Calls Tryz.prog 60 #[.int .u32 n] w fun e w' => e = .returned (.string (bs (pack4 n))) ∧ Below w.heap.size w w' := by
  have hc := pack4_cells n hn
  have hcv := run_string_new w (pack4 n) (by simp [pack4]) #[.int .u8 ((n : Int) / 16777216), .int .u8 ((n : Int) / 65536 % 256), .int .u8 ((n : Int) / 256 % 256), .int .u8 ((n : Int) % 256)] (by rw [← hc])
  have hl4 : (pack4 n).length = 4 := rfl
  rw [hl4] at hcv
  clear hc hl4
  go_enter Tryz.func60, Tryz.ntmps60
  go_wp2
  go_ret
  exact ⟨rfl, (Below.refl _ _).alloc (Nat.le_refl _) _⟩
end Go.Proofs.YtobhpclemmhpoaaGreatDoor

namespace Go.Proofs.YtobhpclemmhpoaaGreatDoor
open Go.RowKit

theorem counted_any (s : ByteArray) (hs : s.size ≤ 1000000) (w : World) : Calls Tryz.prog 59 #[.string s] w fun e w' => e = .returned (.string (bs (cnt s.data.toList))) ∧ Below w.heap.size w w' := by
  have hl : s.data.toList.length = s.size := by rw [Array.length_toList]; rfl
  have he : bs (pack4 s.size) ++ s = bs (cnt s.data.toList) := by
    conv => lhs; rhs; rw [← bs_list s]
    rw [bs_append, cnt, hl]
  have HE := Lib.hid he
  have hp : (bs (pack4 s.size)).size ≤ 4 := by rw [bs_size]; simp [pack4]
  clear he
  go_enter Tryz.func59, Tryz.ntmps59
  go_wp2_with (go_at_call 60; refine (U32_any s.size (by omega) _).mono ?_; rintro e w' ⟨rfl, hb⟩)
  go_ret
  exact ⟨by rw [← HE.out]; rfl, hb⟩
end Go.Proofs.YtobhpclemmhpoaaGreatDoor

namespace Go.Proofs.YtobhpclemmhpoaaGreatDoor
open Go.RowKit

theorem bs_one_cnt (k : UInt8) (l : List UInt8) : bs [k] ++ bs (cnt l) = bs (k :: cnt l) := by rw [bs_append]; rfl

set_option maxRecDepth 100000 in
theorem head_data (a b : Int) (s : ByteArray) (hs : s.size ≤ 1000000) (v : Value) (w : World) :
    Calls Tryz.prog 25 #[.agg #[.int .i64 1, .int .i64 a, .int .i64 b, .string s, v]] w fun e w' => e = .returned (.string (bs (241 :: cnt s.data.toList))) ∧ Below w.heap.size w w' := by
  have hcv := run_string_new (w.alloc (.cells #[.int .i64 1, .int .i64 a, .int .i64 b, .string s, v] 60)) [241] (by simp) #[.int .u8 241] (by rfl)
  have hl1 : ([241] : List UInt8).length = 1 := rfl
  rw [hl1, World.size_alloc] at hcv
  have hw : Hid (Below w.heap.size w ((w.alloc (.cells #[.int .i64 1, .int .i64 a, .int .i64 b, .string s, v] 60)).alloc (.cells #[.int .u8 241] 5))) := ((Below.refl _ _).alloc (Nat.le_refl _) _).alloc (by simp) _
  have he := Lib.hid (bs_one_cnt 241 s.data.toList)
  have h1 : (bs [241]).size ≤ 1 := by rw [bs_size]; exact Nat.le_refl _
  have h2 : (bs (cnt s.data.toList)).size ≤ 1000004 := by
    have : s.data.toList.length = s.size := by rw [Array.length_toList]; rfl
    rw [bs_size]; simp [cnt, pack4]; omega
  have hc := fun W => counted_any s hs W
  clear hl1
  generalize bs [241] = K at *
  go_enter Tryz.func25, Tryz.ntmps25
  go_wp2_with (
    go_at_call 59
    refine (hc _).mono ?_
    rintro e w' ⟨rfl, hb⟩
    generalize bs (cnt s.data.toList) = Y at *)
  go_ret
  exact ⟨by rw [← he.out]; rfl, hw.out.trans (hb.mono (by simp; omega))⟩
end Go.Proofs.YtobhpclemmhpoaaGreatDoor

namespace Go.Proofs.YtobhpclemmhpoaaGreatDoor
open Go.RowKit

def headL (sh : Shp) : List UInt8 := match sh.kind with
  | 1 => 241 :: cnt sh.s.data.toList
  | 2 => 242 :: (pack4 sh.a ++ pack4 sh.b)
  | 3 => 243 :: pack4 sh.a
  | 4 => [244]
  | 5 => 245 :: (cnt sh.s.data.toList ++ pack4 sh.args.length)
  | 6 => 246 :: cnt sh.s.data.toList
  | 7 => [247]
  | 8 => [248, UInt8.ofNat sh.b]
  | 9 => 249 :: pack4 sh.b
  | 10 => 250 :: pack4 sh.args.length
  | _ => []
theorem cnt_length (s : ByteArray) : (cnt s.data.toList).length = 4 + s.size := by
  have : s.data.toList.length = s.size := by rw [Array.length_toList]; rfl
  simp [cnt, pack4]; omega

set_option maxRecDepth 100000 in
theorem head_6 (a b : Nat) (ha : a ≤ 4294967295) (hb : b ≤ 4294967295) (s : ByteArray) (hs : s.size ≤ 1000000) (o : Option Addr) (m c : Nat) (hm : m ≤ 65536) (w : World) :
    Calls Tryz.prog 25 #[.agg #[.int .i64 6, .int .i64 a, .int .i64 b, .string s, .slice o m c]] w fun e w' => e = .returned (.string (bs (246 :: cnt s.data.toList))) ∧ Below w.heap.size w w' := by
  have hcv := run_string_new (w.alloc (.cells #[.int .i64 6, .int .i64 a, .int .i64 b, .string s, .slice o m c] 60)) [246] (by simp) #[.int .u8 246] (by rfl)
  have hl1 : ([246] : List UInt8).length = 1 := rfl
  rw [hl1, World.size_alloc] at hcv
  have hw : Hid (Below w.heap.size w ((w.alloc (.cells #[.int .i64 6, .int .i64 a, .int .i64 b, .string s, .slice o m c] 60)).alloc (.cells #[.int .u8 246] 5))) := ((Below.refl _ _).alloc (Nat.le_refl _) _).alloc (by simp) _
  have h1 : (bs [246]).size ≤ 1 := by rw [bs_size]; exact Nat.le_refl _
  have h2 : (bs (cnt s.data.toList)).size ≤ 1000004 := by rw [bs_size, cnt_length]; omega
  have hc := fun W => counted_any s hs W
  have he := Lib.hid (show bs [246] ++ bs (cnt s.data.toList) = bs (246 :: cnt s.data.toList) from bs_append _ _)
  clear hl1
  generalize bs [246] = K at *
  go_enter Tryz.func25, Tryz.ntmps25
  go_wp2_with (
    go_at_call 59
    refine (hc _).mono ?_
    rintro e w' ⟨rfl, hb⟩
    generalize bs (cnt s.data.toList) = Y at *)
  go_ret
  exact ⟨by rw [← he.out]; rfl, hw.out.trans (hb.mono (by simp; omega))⟩

set_option maxRecDepth 100000 in
theorem head_3 (a b : Nat) (ha : a ≤ 4294967295) (hb : b ≤ 4294967295) (s : ByteArray) (hs : s.size ≤ 1000000) (o : Option Addr) (m c : Nat) (hm : m ≤ 65536) (w : World) :
    Calls Tryz.prog 25 #[.agg #[.int .i64 3, .int .i64 a, .int .i64 b, .string s, .slice o m c]] w fun e w' => e = .returned (.string (bs (243 :: pack4 a))) ∧ Below w.heap.size w w' := by
  have hcv := run_string_new (w.alloc (.cells #[.int .i64 3, .int .i64 a, .int .i64 b, .string s, .slice o m c] 60)) [243] (by simp) #[.int .u8 243] (by rfl)
  have hl1 : ([243] : List UInt8).length = 1 := rfl
  rw [hl1, World.size_alloc] at hcv
  have hw : Hid (Below w.heap.size w ((w.alloc (.cells #[.int .i64 3, .int .i64 a, .int .i64 b, .string s, .slice o m c] 60)).alloc (.cells #[.int .u8 243] 5))) := ((Below.refl _ _).alloc (Nat.le_refl _) _).alloc (by simp) _
  have h1 : (bs [243]).size ≤ 1 := by rw [bs_size]; exact Nat.le_refl _
  have hv := fun W => U32_any a (by omega) W
  have hp : (bs (pack4 a)).size ≤ 4 := by rw [bs_size]; exact Nat.le_refl _
  have hwr : IntKind.u32.wrap (a : Int) = a := IntWalk.u32_in _ (by omega)
  have he := Lib.hid (show bs [243] ++ bs (pack4 a) = bs (243 :: pack4 a) from bs_append _ _)
  clear ha hb hm
  generalize bs (pack4 a) = Y at *
  clear hl1
  generalize bs [243] = K at *
  go_enter Tryz.func25, Tryz.ntmps25
  go_wp2_with (
    go_at_call 60
    refine (hv _).mono ?_
    rintro e w' ⟨rfl, hb⟩)
  go_ret
  exact ⟨by rw [← he.out]; rfl, hw.out.trans (hb.mono (by simp; omega))⟩

set_option maxRecDepth 100000 in
theorem head_9 (a b : Nat) (ha : a ≤ 4294967295) (hb : b ≤ 4294967295) (s : ByteArray) (hs : s.size ≤ 1000000) (o : Option Addr) (m c : Nat) (hm : m ≤ 65536) (w : World) :
    Calls Tryz.prog 25 #[.agg #[.int .i64 9, .int .i64 a, .int .i64 b, .string s, .slice o m c]] w fun e w' => e = .returned (.string (bs (249 :: pack4 b))) ∧ Below w.heap.size w w' := by
  have hcv := run_string_new (w.alloc (.cells #[.int .i64 9, .int .i64 a, .int .i64 b, .string s, .slice o m c] 60)) [249] (by simp) #[.int .u8 249] (by rfl)
  have hl1 : ([249] : List UInt8).length = 1 := rfl
  rw [hl1, World.size_alloc] at hcv
  have hw : Hid (Below w.heap.size w ((w.alloc (.cells #[.int .i64 9, .int .i64 a, .int .i64 b, .string s, .slice o m c] 60)).alloc (.cells #[.int .u8 249] 5))) := ((Below.refl _ _).alloc (Nat.le_refl _) _).alloc (by simp) _
  have h1 : (bs [249]).size ≤ 1 := by rw [bs_size]; exact Nat.le_refl _
  have hv := fun W => U32_any b (by omega) W
  have hp : (bs (pack4 b)).size ≤ 4 := by rw [bs_size]; exact Nat.le_refl _
  have hwr : IntKind.u32.wrap (b : Int) = b := IntWalk.u32_in _ (by omega)
  have he := Lib.hid (show bs [249] ++ bs (pack4 b) = bs (249 :: pack4 b) from bs_append _ _)
  clear ha hb hm
  generalize bs (pack4 b) = Y at *
  clear hl1
  generalize bs [249] = K at *
  go_enter Tryz.func25, Tryz.ntmps25
  go_wp2_with (
    go_at_call 60
    refine (hv _).mono ?_
    rintro e w' ⟨rfl, hb⟩)
  go_ret
  exact ⟨by rw [← he.out]; rfl, hw.out.trans (hb.mono (by simp; omega))⟩

set_option maxRecDepth 100000 in
theorem head_10 (a b : Nat) (ha : a ≤ 4294967295) (hb : b ≤ 4294967295) (s : ByteArray) (hs : s.size ≤ 1000000) (o : Option Addr) (m c : Nat) (hm : m ≤ 65536) (w : World) :
    Calls Tryz.prog 25 #[.agg #[.int .i64 10, .int .i64 a, .int .i64 b, .string s, .slice o m c]] w fun e w' => e = .returned (.string (bs (250 :: pack4 m))) ∧ Below w.heap.size w w' := by
  have hcv := run_string_new (w.alloc (.cells #[.int .i64 10, .int .i64 a, .int .i64 b, .string s, .slice o m c] 60)) [250] (by simp) #[.int .u8 250] (by rfl)
  have hl1 : ([250] : List UInt8).length = 1 := rfl
  rw [hl1, World.size_alloc] at hcv
  have hw : Hid (Below w.heap.size w ((w.alloc (.cells #[.int .i64 10, .int .i64 a, .int .i64 b, .string s, .slice o m c] 60)).alloc (.cells #[.int .u8 250] 5))) := ((Below.refl _ _).alloc (Nat.le_refl _) _).alloc (by simp) _
  have h1 : (bs [250]).size ≤ 1 := by rw [bs_size]; exact Nat.le_refl _
  have hv := fun W => U32_any m (by omega) W
  have hp : (bs (pack4 m)).size ≤ 4 := by rw [bs_size]; exact Nat.le_refl _
  have hwr : IntKind.u32.wrap (m : Int) = m := IntWalk.u32_in _ (by omega)
  have he := Lib.hid (show bs [250] ++ bs (pack4 m) = bs (250 :: pack4 m) from bs_append _ _)
  clear ha hb hm
  generalize bs (pack4 m) = Y at *
  clear hl1
  generalize bs [250] = K at *
  go_enter Tryz.func25, Tryz.ntmps25
  go_wp2_with (
    go_at_call 60
    refine (hv _).mono ?_
    rintro e w' ⟨rfl, hb⟩)
  go_ret
  exact ⟨by rw [← he.out]; rfl, hw.out.trans (hb.mono (by simp; omega))⟩

set_option maxRecDepth 100000 in
theorem head_4 (a b : Nat) (ha : a ≤ 4294967295) (hb : b ≤ 4294967295) (s : ByteArray) (hs : s.size ≤ 1000000) (o : Option Addr) (m c : Nat) (hm : m ≤ 65536) (w : World) :
    Calls Tryz.prog 25 #[.agg #[.int .i64 4, .int .i64 a, .int .i64 b, .string s, .slice o m c]] w fun e w' => e = .returned (.string (bs ([244]))) ∧ Below w.heap.size w w' := by
  have hcv := run_string_new (w.alloc (.cells #[.int .i64 4, .int .i64 a, .int .i64 b, .string s, .slice o m c] 60)) [244] (by simp) #[.int .u8 244] (by rfl)
  have hl1 : ([244] : List UInt8).length = 1 := rfl
  rw [hl1, World.size_alloc] at hcv
  have hw : Hid (Below w.heap.size w ((w.alloc (.cells #[.int .i64 4, .int .i64 a, .int .i64 b, .string s, .slice o m c] 60)).alloc (.cells #[.int .u8 244] 5))) := ((Below.refl _ _).alloc (Nat.le_refl _) _).alloc (by simp) _
  have h1 : (bs [244]).size ≤ 1 := by rw [bs_size]; exact Nat.le_refl _
  clear hl1
  generalize bs [244] = K at *
  go_enter Tryz.func25, Tryz.ntmps25
  go_wp2_with fail
  go_ret
  exact ⟨rfl, hw.out⟩

set_option maxRecDepth 100000 in
theorem head_7 (a b : Nat) (ha : a ≤ 4294967295) (hb : b ≤ 4294967295) (s : ByteArray) (hs : s.size ≤ 1000000) (o : Option Addr) (m c : Nat) (hm : m ≤ 65536) (w : World) :
    Calls Tryz.prog 25 #[.agg #[.int .i64 7, .int .i64 a, .int .i64 b, .string s, .slice o m c]] w fun e w' => e = .returned (.string (bs ([247]))) ∧ Below w.heap.size w w' := by
  have hcv := run_string_new (w.alloc (.cells #[.int .i64 7, .int .i64 a, .int .i64 b, .string s, .slice o m c] 60)) [247] (by simp) #[.int .u8 247] (by rfl)
  have hl1 : ([247] : List UInt8).length = 1 := rfl
  rw [hl1, World.size_alloc] at hcv
  have hw : Hid (Below w.heap.size w ((w.alloc (.cells #[.int .i64 7, .int .i64 a, .int .i64 b, .string s, .slice o m c] 60)).alloc (.cells #[.int .u8 247] 5))) := ((Below.refl _ _).alloc (Nat.le_refl _) _).alloc (by simp) _
  have h1 : (bs [247]).size ≤ 1 := by rw [bs_size]; exact Nat.le_refl _
  clear hl1
  generalize bs [247] = K at *
  go_enter Tryz.func25, Tryz.ntmps25
  go_wp2_with fail
  go_ret
  exact ⟨rfl, hw.out⟩

end Go.Proofs.YtobhpclemmhpoaaGreatDoor
