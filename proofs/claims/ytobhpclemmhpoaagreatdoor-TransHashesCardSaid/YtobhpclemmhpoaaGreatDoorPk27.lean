/- Part 27 of what the statement wants. -/
import Derived.Deep.RegionHeld3
import Derived.Test.YtobhpclemmhpoaaGreatDoorPk18
import Derived.Test.YtobhpclemmhpoaaGreatDoorPk19
import Derived.Test.YtobhpclemmhpoaaGreatDoorPk23
namespace Go.Proofs.YtobhpclemmhpoaaGreatDoor
open Go.RowKit

def exT (asks : Bool) : List UInt8 := refListL (listL20 [[], [], [], []] (refKeyL 0) asks (askL 0 0 0 [] []) (refKeyL 0) (refKeyL 0) (refKeyL 0))
set_option maxRecDepth 100000 in
theorem ex_plain : (nodeOf (exT false)).args.length = 8 ∧ (nodeOf (exT true)).args.length = 13 ∧ exT false ≠ [] ∧ exT true ≠ [] := by decide +kernel
set_option maxHeartbeats 4000000 in
set_option maxRecDepth 100000 in
theorem awake20_any (w : World) : Calls Tryz.prog 7 #[] w fun e w' => e = .returned (.bool true) ∧ Below w.heap.size w w' := by
  obtain ⟨p1, p2, p3, p4⟩ := ex_plain
  have HN := Lib.hid (taNew w)
  have HK : Hid (∀ (A : Nat) (W : World), Ta w.heap.size w A [] 0 W → Calls Tryz.prog 18 #[.pointer (some ⟨A, 0, none⟩), .int .i64 0] W (TaPost w.heap.size w A [] 1 W (refKeyL 0))) := fun A W h => taKey h (by omega) 0
  have HL : ∀ (b : Bool) (A : Nat) (k : Int) (n : Nat) (P : List (Int × List UInt8)) (W : World), n ≤ 100 → (k, refKeyL 0) ∈ P → Ta w.heap.size w A P n W → Calls Tryz.prog 12 #[.pointer (some ⟨A, 0, none⟩), .agg #[.string ⟨#[]⟩, .string ⟨#[]⟩, .string ⟨#[]⟩, .string ⟨#[]⟩, .int .i64 k, .bool b, .int .u32 0, .int .u32 0, .int .u32 0, .string ⟨#[]⟩, .string ⟨#[]⟩, .int .i64 k, .int .i64 k, .int .i64 k]] W (TaPost w.heap.size w A P (n + 10) W (exT b)) := fun b A k n P W hn hk h =>
    xList_any h (by omega) [] [] [] [] (by simp) b k k k k 0 0 0 (by omega) (by omega) (by omega) [] [] (by simp) (by simp) hk hk hk hk
  have HL1 : Hid (∀ (A : Nat) (k : Int) (W : World), Ta w.heap.size w A [(k, refKeyL 0)] 1 W → Calls Tryz.prog 12 #[.pointer (some ⟨A, 0, none⟩), .agg #[.string ⟨#[]⟩, .string ⟨#[]⟩, .string ⟨#[]⟩, .string ⟨#[]⟩, .int .i64 k, .bool false, .int .u32 0, .int .u32 0, .int .u32 0, .string ⟨#[]⟩, .string ⟨#[]⟩, .int .i64 k, .int .i64 k, .int .i64 k]] W (TaPost w.heap.size w A [(k, refKeyL 0)] 11 W (exT false))) := fun A k W h => HL false A k 1 _ W (by omega) (.head _) h
  have HL2 : Hid (∀ (A : Nat) (k i : Int) (W : World), Ta w.heap.size w A [(i, exT false), (k, refKeyL 0)] 11 W → Calls Tryz.prog 12 #[.pointer (some ⟨A, 0, none⟩), .agg #[.string ⟨#[]⟩, .string ⟨#[]⟩, .string ⟨#[]⟩, .string ⟨#[]⟩, .int .i64 k, .bool true, .int .u32 0, .int .u32 0, .int .u32 0, .string ⟨#[]⟩, .string ⟨#[]⟩, .int .i64 k, .int .i64 k, .int .i64 k]] W (TaPost w.heap.size w A [(i, exT false), (k, refKeyL 0)] 21 W (exT true))) := fun A k i W h => HL true A k 11 _ W (by omega) (.tail _ (.head _)) h
  have HV : ∀ (b : Bool) (L : Nat) (A n : Nat) (i : Int) (P : List (Int × List UInt8)) (W : World), (nodeOf (exT b)).args.length = L → exT b ≠ [] → (i, exT b) ∈ P → Ta w.heap.size w A P n W → Calls Tryz.prog 19 #[.pointer (some ⟨A, 0, none⟩), .int .i64 i] W fun r w' => ∃ (kd a c : Int) (s : ByteArray) (ao : Option Addr) (cc : Nat) (f : Bool), r = .returned (.tuple #[.agg #[.int .i64 kd, .int .i64 a, .int .i64 c, .string s, .slice ao L cc], .bool f]) ∧ Below W.heap.size W w' := fun b L A n i P W hL hne hi h =>
    (taView h hi).mono fun r w' ⟨a, c, s, ao, m, cc, h1, h2, _, _, h5⟩ => ⟨(kindL (exT b) : Int), (a : Int), (c : Int), bs s, ao, cc, !(exT b).isEmpty, by rw [h1, (h2 hne).2, hL], h5⟩
  have HV1 : Hid (∀ (A : Nat) (k i : Int) (W : World), Ta w.heap.size w A [(i, exT false), (k, refKeyL 0)] 11 W → Calls Tryz.prog 19 #[.pointer (some ⟨A, 0, none⟩), .int .i64 i] W fun r w' => ∃ (kd a c : Int) (s : ByteArray) (ao : Option Addr) (cc : Nat) (f : Bool), r = .returned (.tuple #[.agg #[.int .i64 kd, .int .i64 a, .int .i64 c, .string s, .slice ao 8 cc], .bool f]) ∧ Below W.heap.size W w') := fun A k i W h => HV false 8 A 11 i _ W p1 p3 (.head _) h
  have HV2 : Hid (∀ (A : Nat) (k i j : Int) (W : World), Ta w.heap.size w A [(j, exT true), (i, exT false), (k, refKeyL 0)] 21 W → Calls Tryz.prog 19 #[.pointer (some ⟨A, 0, none⟩), .int .i64 j] W fun r w' => ∃ (kd a c : Int) (s : ByteArray) (ao : Option Addr) (cc : Nat) (f : Bool), r = .returned (.tuple #[.agg #[.int .i64 kd, .int .i64 a, .int .i64 c, .string s, .slice ao 13 cc], .bool f]) ∧ Below W.heap.size W w') := fun A k i j W h => HV true 13 A 21 j _ W p2 p4 (.head _) h
  clear p1 p2 p3 p4 HL HV
  generalize exT false = T1 at *
  generalize exT true = T2 at *
  generalize refKeyL 0 = K at *
  go_enter Tryz.func7, Tryz.ntmps7
  go_upto_region 6 with (first
    | (go_at_call 8; (with_reducible refine HN.out.mono ?_); rintro e w1 ⟨A, rfl, t1⟩)
    | (go_at_call 18; (with_reducible refine (HK.out _ _ t1).mono ?_); rintro e w2 ⟨k, rfl, t2, _⟩))
  obtain ⟨W3, hW3⟩ : ∃ W3, W3 = (w2.alloc (.cells #[.string ⟨#[]⟩, .string ⟨#[]⟩, .string ⟨#[]⟩, .string ⟨#[]⟩, .int .i64 k, .bool false, .int .u32 0, .int .u32 0, .int .u32 0, .string ⟨#[]⟩, .string ⟨#[]⟩, .int .i64 k, .int .i64 k, .int .i64 k] 38)).alloc (.cells #[.string ⟨#[]⟩, .string ⟨#[]⟩, .string ⟨#[]⟩, .string ⟨#[]⟩, .int .i64 k, .bool true, .int .u32 0, .int .u32 0, .int .u32 0, .string ⟨#[]⟩, .string ⟨#[]⟩, .int .i64 k, .int .i64 k, .int .i64 k] 38) := ⟨_, rfl⟩
  rw [← hW3]
  have b3 : Below w2.heap.size w2 W3 := by rw [hW3]; exact ((Below.refl _ _).alloc (Nat.le_refl _) _).alloc (by simp) _
  have t3 := t2.below b3
  have hp : Holds W3 w2.heap.size 38 #[.string ⟨#[]⟩, .string ⟨#[]⟩, .string ⟨#[]⟩, .string ⟨#[]⟩, .int .i64 k, .bool false, .int .u32 0, .int .u32 0, .int .u32 0, .string ⟨#[]⟩, .string ⟨#[]⟩, .int .i64 k, .int .i64 k, .int .i64 k] := by
    rw [hW3]
    exact Holds.moves (S := nobody) (Holds.new w2 38 #[.string ⟨#[]⟩, .string ⟨#[]⟩, .string ⟨#[]⟩, .string ⟨#[]⟩, .int .i64 k, .bool false, .int .u32 0, .int .u32 0, .int .u32 0, .string ⟨#[]⟩, .string ⟨#[]⟩, .int .i64 k, .int .i64 k, .int .i64 k]) ((Moves.refl nobody _).alloc _) (fun h => h)
  have hq : Holds W3 (w2.heap.size + 1) 38 #[.string ⟨#[]⟩, .string ⟨#[]⟩, .string ⟨#[]⟩, .string ⟨#[]⟩, .int .i64 k, .bool true, .int .u32 0, .int .u32 0, .int .u32 0, .string ⟨#[]⟩, .string ⟨#[]⟩, .int .i64 k, .int .i64 k, .int .i64 k] := by
    rw [hW3]
    have := Holds.new (w2.alloc (.cells #[.string ⟨#[]⟩, .string ⟨#[]⟩, .string ⟨#[]⟩, .string ⟨#[]⟩, .int .i64 k, .bool false, .int .u32 0, .int .u32 0, .int .u32 0, .string ⟨#[]⟩, .string ⟨#[]⟩, .int .i64 k, .int .i64 k, .int .i64 k] 38)) 38 #[.string ⟨#[]⟩, .string ⟨#[]⟩, .string ⟨#[]⟩, .string ⟨#[]⟩, .int .i64 k, .bool true, .int .u32 0, .int .u32 0, .int .u32 0, .string ⟨#[]⟩, .string ⟨#[]⟩, .int .i64 k, .int .i64 k, .int .i64 k]
    rwa [World.size_alloc] at this
  have HQ : Hid (∀ W, Kept W3 W → Holds W (w2.heap.size + 1) 38 #[.string ⟨#[]⟩, .string ⟨#[]⟩, .string ⟨#[]⟩, .string ⟨#[]⟩, .int .i64 k, .bool true, .int .u32 0, .int .u32 0, .int .u32 0, .string ⟨#[]⟩, .string ⟨#[]⟩, .int .i64 k, .int .i64 k, .int .i64 k]) := fun W hk => hk.hold _ _ _ (by decide) (by decide) hq
  clear hW3 b3 hq t1 t2
  go_upto_region 7 with (first
    | (go_at_call 12; (with_reducible refine (HL1.out _ _ _ t3).mono ?_); rintro e w4 ⟨i, rfl, t4, k4⟩)
    | (go_at_call 19; (with_reducible refine (HV1.out _ _ _ _ t4).mono ?_); rintro e w5 ⟨kd1, a1, c1, s1, ao1, cc1, f1, rfl, b5⟩)
    | (refine wpList_load_row rfl 38 _ rfl w2.heap.size rfl 38 _ (0, 0) _ hp Tryz.underlying38 rfl sizeXParts ?_))
  obtain ⟨W6, hW6⟩ : ∃ W6, W6 = w5.alloc (.cells #[.int .i64 kd1, .int .i64 a1, .int .i64 c1, .string s1, .slice ao1 8 cc1] 60) := ⟨_, rfl⟩
  rw [← hW6]
  have b6 : Below w4.heap.size w4 W6 := by rw [hW6]; exact b5.alloc b5.size _
  have t6 := t4.below b6
  have k6 := k4.trans (Kept.ofBelow b6)
  have hx6 : Holds W6 w5.heap.size 60 #[.int .i64 kd1, .int .i64 a1, .int .i64 c1, .string s1, .slice ao1 8 cc1] := by rw [hW6]; exact Holds.new w5 _ _
  have hq6 := HQ.out _ k6
  generalize w5.heap.size = X5 at *
  clear hW6 b6 b5 hp t3 t4 k4
  go_upto_region 8 with (first
    | (go_at_call 12; (with_reducible refine (HL2.out _ _ _ _ t6).mono ?_); rintro e w7 ⟨j, rfl, t7, k7⟩)
    | (go_at_call 19; (with_reducible refine (HV2.out _ _ _ _ _ t7).mono ?_); rintro e w8 ⟨kd2, a2, c2, s2, ao2, cc2, f2, rfl, b8⟩)
    | (refine wpList_load_row rfl 38 _ rfl (w2.heap.size + 1) rfl 38 _ (0, 0) _ hq6 Tryz.underlying38 rfl sizeXParts ?_))
  obtain ⟨W9, hW9⟩ : ∃ W9, W9 = w8.alloc (.cells #[.int .i64 kd2, .int .i64 a2, .int .i64 c2, .string s2, .slice ao2 13 cc2] 60) := ⟨_, rfl⟩
  rw [← hW9]
  have b9 : Below w7.heap.size w7 W9 := by rw [hW9]; exact b8.alloc b8.size _
  have t9 := t7.below b9
  have hy9 : Holds W9 w8.heap.size 60 #[.int .i64 kd2, .int .i64 a2, .int .i64 c2, .string s2, .slice ao2 13 cc2] := by rw [hW9]; exact Holds.new w8 _ _
  have hx9 := (k7.trans (Kept.ofBelow b9)).hold _ _ _ (by decide) (by decide) hx6
  have y4 := hx9.cell 4
  have z4 := hy9.cell 4
  have T9 := Lib.hid t9.bel
  generalize w8.heap.size = Y8 at *
  clear hW9 b9 b8 t9 t7 k7 t6 k6 hx6 hq6 hx9 hy9
  go_wp2_with fail
  go_ret
  exact ⟨rfl, T9.out⟩
end Go.Proofs.YtobhpclemmhpoaaGreatDoor

namespace Go.Proofs.YtobhpclemmhpoaaGreatDoor
open Go.RowKit

theorem row_type6 {w : World} {base m : Nat} {t : TypeId} {v : Value} {xs : List Value} (h : w.ownsRow base t 1 v m xs) : ∀ k, v.ownBlock = some k → ∃ cur, Holds w k t cur := by
  intro k hk
  rcases h.2 with ⟨rfl, _⟩ | ⟨g, cap, cur, rfl, hb, hg, _⟩
  · cases hk
  · have e : g = k := Option.some.inj hk
    subst e
    exact ⟨cur, hg⟩
end Go.Proofs.YtobhpclemmhpoaaGreatDoor
