/- The contracts of the constructors, all but Exp: each is build at its own head and its own subterms. -/
import Derived.Test.YtnbhbhogcggbnaaBuild
namespace Go.Proofs.Ytnbhbhogcggbnaa
open Go.RowKit

def isNum (n : Int) : Bool := decide (0 ≤ n) && decide (n ≤ 2147483647)
theorem isNum_iff {n : Int} : isNum n = true ↔ 0 ≤ n ∧ n ≤ 2147483647 := by simp [isNum]

theorem isNumber_yes (n : Int) (w : World) (h0 : 0 ≤ n) (h1 : n ≤ 2147483647) : Calls Try.prog 45 #[.int .i64 n] w fun e w' => e = .returned (.bool true) ∧ w = w' := by
  go_enter Try.func45, Try.ntmps45
  go_wp2
  go_ret
  exact ⟨rfl, rfl⟩
theorem isNumber_no (n : Int) (w : World) (h : ¬ (0 ≤ n ∧ n ≤ 2147483647)) : Calls Try.prog 45 #[.int .i64 n] w fun e w' => e = .returned (.bool false) ∧ w = w' := by
  by_cases h0 : 0 ≤ n
  · have h1 : 2147483647 < n := by omega
    have hd : decide (n ≤ 2147483647) = false := by simp; omega
    clear h
    go_enter Try.func45, Try.ntmps45
    go_wp2
    go_ret
    exact ⟨rfl, rfl⟩
  · have h1 : n < 0 := by omega
    clear h h0
    go_enter Try.func45, Try.ntmps45
    go_wp2
    go_ret
    exact ⟨rfl, rfl⟩

/-- A slice that was just built out of integers. -/
theorem ids_new (w : World) (l : List Int) (t : TypeId) : IdsAt (w.alloc (.cells (l.map (Value.int .i64)).toArray t)) (.slice (some ⟨w.heap.size, 0, none⟩) l.length l.length) l :=
  ⟨_, _, rfl, fun _ => ⟨w.heap.size, 0, rfl, by simp, fun k x hx => by
    have h := (Holds.new w t (l.map (Value.int .i64)).toArray).cell k
    rw [Nat.zero_add, h]
    simp [hx]⟩⟩

def noStr : ByteArray := ⟨#[]⟩
theorem noStr_le : noStr.size ≤ 281474976710656 := by decide
theorem hdOk {k a b : Nat} {s : ByteArray} (h1 : k ≤ 10) (h2 : a ≤ 4294967295) (h3 : b ≤ 4294967295) (h4 : s.size ≤ 281474976710656) : Hd.Ok ⟨k, a, b, s⟩ := ⟨h1, h2, h3, h4⟩
def dataM (L : List Ent) (s : ByteArray) : Int × List Ent := built L ⟨1, 0, 0, s⟩ 5 []
def nonceM (L : List Ent) (x y : Int) : Int × List Ent := if isNum x = true ∧ isNum y = true then built L ⟨2, x.toNat, y.toNat, noStr⟩ 9 [] else (-1, L)
def keyM (L : List Ent) (x : Int) : Int × List Ent := if isNum x = true then built L ⟨3, x.toNat, 0, noStr⟩ 5 [] else (-1, L)
def pubM (L : List Ent) (k : Int) : Int × List Ent := if kindAt L k = 3 then built L ⟨4, 0, 0, noStr⟩ 1 [k] else (-1, L)
def baseM (L : List Ent) (s : ByteArray) : Int × List Ent := if 1 ≤ s.size ∧ s.size ≤ 2100 then built L ⟨5, 0, 0, s⟩ 9 [] else (-1, L)
def signM (L : List Ent) (s : ByteArray) (k t : Int) : Int × List Ent := if (1 ≤ s.size ∧ s.size ≤ 64) ∧ kindAt L k = 3 then built L ⟨6, 0, 0, s⟩ 5 [k, t] else (-1, L)
def hashM (L : List Ent) (t : Int) : Int × List Ent := built L ⟨7, 0, 0, noStr⟩ 1 [t]
def deriveM (L : List Ent) (c : Nat) (x y z : Int) : Int × List Ent := built L ⟨8, 0, c, noStr⟩ 2 [x, y, z]
def sealM (L : List Ent) (k : Int) (n : Nat) (t : Int) : Int × List Ent := built L ⟨9, 0, n, noStr⟩ 5 [k, t]
def listM (L : List Ent) (l : List Int) : Int × List Ent := if l.length ≤ 32 then built L ⟨10, 0, 0, noStr⟩ 5 l else (-1, L)

/-- What a constructor's call leaves. -/
def Makes (B A : Nat) (F : Nat → Prop) (w : World) (m : Int × List Ent) (r : Ending) (w' : World) : Prop := r = .returned (.int .i64 m.1) ∧ Left B A m.2 F w w'
theorem makes_none {B A : Nat} {L : List Ent} {F : Nat → Prop} {w w' : World} (h : ArenaAt B A L F w) (hb : Below w.heap.size w w') {m : Int × List Ent} (hm : m = (-1, L)) {r : Ending} (hr : r = .returned (.int .i64 (-1))) : Makes B A F w m r w' := by
  subst hm
  exact ⟨hr, Left.refl h hb⟩

theorem Data_any {B A : Nat} {L : List Ent} {F : Nat → Prop} {w : World} (ha : ArenaAt B A L F w) (hlen : L.length < 1073741824) (s : ByteArray) (hs : s.size ≤ 281474976710656) :
    Calls Try.prog 21 #[.pointer (some ⟨A, 0, none⟩), .string s] w (Makes B A F w (dataM L s)) := by
  have hb : Calls Try.prog 42 #[.pointer (some ⟨A, 0, none⟩), .agg #[.int .i64 1, .int .i64 0, .int .i64 0, .string s, .string ⟨#[]⟩], .int .i64 5, .slice none 0 0] w _ := build_any ha (h := ⟨1, 0, 0, s⟩) (hdOk (by omega) (by omega) (by omega) hs) (own := 5) (by omega) (IdsAt.nil w) (by simp) hlen
  go_enter Try.func21, Try.ntmps21
  go_wp2_with (first | (go_at_call 42; refine hb.mono ?_; rintro e w' ⟨rfl, h2⟩))
  go_ret
  exact ⟨rfl, h2⟩

theorem Nonce_any {B A : Nat} {L : List Ent} {F : Nat → Prop} {w : World} (ha : ArenaAt B A L F w) (hlen : L.length < 1073741824) (x y : Int) :
    Calls Try.prog 25 #[.pointer (some ⟨A, 0, none⟩), .int .i64 x, .int .i64 y] w (Makes B A F w (nonceM L x y)) := by
  by_cases hx : isNum x = true
  · have hx' := isNum_iff.1 hx
    by_cases hy : isNum y = true
    · have hy' := isNum_iff.1 hy
      have hm : Hid (nonceM L x y = built L ⟨2, x.toNat, y.toNat, noStr⟩ 9 []) := if_pos ⟨hx, hy⟩
      obtain ⟨n, rfl⟩ : ∃ n : Nat, x = n := ⟨x.toNat, by omega⟩
      obtain ⟨k, rfl⟩ : ∃ k : Nat, y = k := ⟨y.toNat, by omega⟩
      rw [Int.toNat_natCast, Int.toNat_natCast] at hm
      clear hx hy
      have hb : Calls Try.prog 42 #[.pointer (some ⟨A, 0, none⟩), .agg #[.int .i64 2, .int .i64 n, .int .i64 k, .string ⟨#[]⟩, .string ⟨#[]⟩], .int .i64 9, .slice none 0 0] w _ := build_any ha (h := ⟨2, n, k, noStr⟩) (hdOk (by omega) (by omega) (by omega) noStr_le) (own := 9) (by omega) (IdsAt.nil w) (by simp) hlen
      have H1 := Lib.hid hx'
      have H2 := Lib.hid hy'
      clear hx' hy'
      go_enter Try.func25, Try.ntmps25
      go_wp2_with (first
        | (go_at_call 42; refine hb.mono ?_; rintro e w' ⟨rfl, h2⟩)
        | (go_at_call 45; with_reducible refine (isNumber_yes (n : Int) _ H1.out.1 H1.out.2).mono ?_; rintro e w' ⟨rfl, rfl⟩)
        | (go_at_call 45; with_reducible refine (isNumber_yes (k : Int) _ H2.out.1 H2.out.2).mono ?_; rintro e w' ⟨rfl, rfl⟩))
      go_ret
      exact ⟨by rw [hm.out]; rfl, by rw [hm.out]; exact h2⟩
    · have hm : Hid (nonceM L x y = (-1, L)) := if_neg fun h => hy h.2
      have H1 := Lib.hid hx'
      have H2 := Lib.hid (mt isNum_iff.2 hy)
      clear hx' hx hy
      go_enter Try.func25, Try.ntmps25
      go_wp2_with (first
        | (go_at_call 45; with_reducible refine (isNumber_yes x _ H1.out.1 H1.out.2).mono ?_; rintro e w' ⟨rfl, rfl⟩)
        | (go_at_call 45; with_reducible refine (isNumber_no y _ H2.out).mono ?_; rintro e w' ⟨rfl, rfl⟩))
      go_ret
      exact makes_none ha (Below.refl _ _) hm.out rfl
  · have hm : Hid (nonceM L x y = (-1, L)) := if_neg fun h => hx h.1
    have H1 := Lib.hid (mt isNum_iff.2 hx)
    clear hx
    go_enter Try.func25, Try.ntmps25
    go_wp2_with (go_at_call 45; with_reducible refine (isNumber_no x _ H1.out).mono ?_; rintro e w' ⟨rfl, rfl⟩)
    go_ret
    exact makes_none ha (Below.refl _ _) hm.out rfl

theorem Key_any {B A : Nat} {L : List Ent} {F : Nat → Prop} {w : World} (ha : ArenaAt B A L F w) (hlen : L.length < 1073741824) (x : Int) :
    Calls Try.prog 35 #[.pointer (some ⟨A, 0, none⟩), .int .i64 x] w (Makes B A F w (keyM L x)) := by
  by_cases hx : isNum x = true
  · have hx' := isNum_iff.1 hx
    have hm : Hid (keyM L x = built L ⟨3, x.toNat, 0, noStr⟩ 5 []) := if_pos hx
    obtain ⟨n, rfl⟩ : ∃ n : Nat, x = n := ⟨x.toNat, by omega⟩
    rw [Int.toNat_natCast] at hm
    clear hx
    have hb : Calls Try.prog 42 #[.pointer (some ⟨A, 0, none⟩), .agg #[.int .i64 3, .int .i64 n, .int .i64 0, .string ⟨#[]⟩, .string ⟨#[]⟩], .int .i64 5, .slice none 0 0] w _ := build_any ha (h := ⟨3, n, 0, noStr⟩) (hdOk (by omega) (by omega) (by omega) noStr_le) (own := 5) (by omega) (IdsAt.nil w) (by simp) hlen
    have H1 := Lib.hid hx'
    clear hx'
    go_enter Try.func35, Try.ntmps35
    go_wp2_with (first
      | (go_at_call 42; refine hb.mono ?_; rintro e w' ⟨rfl, h2⟩)
      | (go_at_call 45; refine (isNumber_yes (n : Int) _ H1.out.1 H1.out.2).mono ?_; rintro e w' ⟨rfl, rfl⟩))
    go_ret
    exact ⟨by rw [hm.out]; rfl, by rw [hm.out]; exact h2⟩
  · have hm : Hid (keyM L x = (-1, L)) := if_neg hx
    have H1 := Lib.hid (mt isNum_iff.2 hx)
    clear hx
    go_enter Try.func35, Try.ntmps35
    go_wp2_with (go_at_call 45; refine (isNumber_no x _ H1.out).mono ?_; rintro e w' ⟨rfl, rfl⟩)
    go_ret
    exact makes_none ha (Below.refl _ _) hm.out rfl

theorem Pub_any {B A : Nat} {L : List Ent} {F : Nat → Prop} {w : World} (ha : ArenaAt B A L F w) (hlen : L.length < 1073741824) (k : Int) :
    Calls Try.prog 36 #[.pointer (some ⟨A, 0, none⟩), .int .i64 k] w (Makes B A F w (pubM L k)) := by
  by_cases hk : kindAt L k = 3
  · have hm : Hid (pubM L k = built L ⟨4, 0, 0, noStr⟩ 1 [k]) := if_pos hk
    have hkd := Kind_any ha k
    rw [hk] at hkd
    clear hk
    have hm0 : Moves nobody w (w.alloc (.cells #[.int .i64 k] 32)) := (Moves.refl _ _).alloc _
    have ha0 := ha.moves hm0 fun _ _ h => h
    have hi : IdsAt (w.alloc (.cells #[.int .i64 k] 32)) (.slice (some ⟨w.heap.size, 0, none⟩) 1 1) [k] := ids_new w [k] 32
    have hb : Calls Try.prog 42 #[.pointer (some ⟨A, 0, none⟩), .agg #[.int .i64 4, .int .i64 0, .int .i64 0, .string ⟨#[]⟩, .string ⟨#[]⟩], .int .i64 1, .slice (some ⟨w.heap.size, 0, none⟩) 1 1] (w.alloc (.cells #[.int .i64 k] 32)) _ := build_any ha0 (h := ⟨4, 0, 0, noStr⟩) (hdOk (by omega) (by omega) (by omega) noStr_le) (own := 1) (by omega) hi (by simp) hlen
    have HM := Lib.hid hm0
    clear hi ha0 hm0
    go_enter Try.func36, Try.ntmps36
    go_wp2_with (first
      | (go_at_call 42; refine hb.mono ?_; rintro e w' ⟨rfl, h2⟩)
      | (go_at_call 17; refine hkd.mono ?_; rintro e w' ⟨rfl, rfl⟩))
    go_ret
    exact ⟨by rw [hm.out]; rfl, by rw [hm.out]; exact Left.after HM.out h2⟩
  · have hm : Hid (pubM L k = (-1, L)) := if_neg hk
    have hkd := Kind_any ha k
    have hd : (!(kindAt L k == 3)) = true := by simpa using hk
    generalize kindAt L k = K at *
    go_enter Try.func36, Try.ntmps36
    go_wp2_with (go_at_call 17; refine hkd.mono ?_; rintro e w' ⟨rfl, rfl⟩)
    go_ret
    exact makes_none ha (Below.refl _ _) hm.out rfl

theorem Base_any {B A : Nat} {L : List Ent} {F : Nat → Prop} {w : World} (ha : ArenaAt B A L F w) (hlen : L.length < 1073741824) (s : ByteArray) (hs : s.size ≤ 281474976710656) :
    Calls Try.prog 23 #[.pointer (some ⟨A, 0, none⟩), .string s] w (Makes B A F w (baseM L s)) := by
  by_cases h1 : 1 ≤ s.size
  · by_cases h2 : s.size ≤ 2100
    · have hm : Hid (baseM L s = built L ⟨5, 0, 0, s⟩ 9 []) := if_pos ⟨h1, h2⟩
      have hb : Calls Try.prog 42 #[.pointer (some ⟨A, 0, none⟩), .agg #[.int .i64 5, .int .i64 0, .int .i64 0, .string s, .string ⟨#[]⟩], .int .i64 9, .slice none 0 0] w _ := build_any ha (h := ⟨5, 0, 0, s⟩) (hdOk (by omega) (by omega) (by omega) hs) (own := 9) (by omega) (IdsAt.nil w) (by simp) hlen
      have hd : decide ((2100 : Int) < s.size) = false := by simp; omega
      have hd1 : decide ((s.size : Int) < 1) = false := by simp; omega
      go_enter Try.func23, Try.ntmps23
      go_wp2_with (go_at_call 42; refine hb.mono ?_; rintro e w' ⟨rfl, h2⟩)
      go_ret
      exact ⟨by rw [hm.out]; rfl, by rw [hm.out]; exact h2⟩
    · have hm : Hid (baseM L s = (-1, L)) := if_neg fun h => h2 h.2
      go_enter Try.func23, Try.ntmps23
      go_wp2_with fail
      go_ret
      exact makes_none ha (Below.refl _ _) hm.out rfl
  · have hm : Hid (baseM L s = (-1, L)) := if_neg fun h => h1 h.1
    go_enter Try.func23, Try.ntmps23
    go_wp2_with fail
    go_ret
    exact makes_none ha (Below.refl _ _) hm.out rfl

theorem Sign_any {B A : Nat} {L : List Ent} {F : Nat → Prop} {w : World} (ha : ArenaAt B A L F w) (hlen : L.length < 1073741824) (s : ByteArray) (hs : s.size ≤ 281474976710656) (k t : Int) :
    Calls Try.prog 50 #[.pointer (some ⟨A, 0, none⟩), .string s, .int .i64 k, .int .i64 t] w (Makes B A F w (signM L s k t)) := by
  have hkd := Kind_any ha k
  by_cases h1 : 1 ≤ s.size
  · by_cases h2 : s.size ≤ 64
    · by_cases hk : kindAt L k = 3
      · have hm : Hid (signM L s k t = built L ⟨6, 0, 0, s⟩ 5 [k, t]) := if_pos ⟨⟨h1, h2⟩, hk⟩
        rw [hk] at hkd
        clear hk
        have hm0 : Moves nobody w (w.alloc (.cells #[.int .i64 k, .int .i64 t] 32)) := (Moves.refl _ _).alloc _
        have ha0 := ha.moves hm0 fun _ _ h => h
        have hi : IdsAt (w.alloc (.cells #[.int .i64 k, .int .i64 t] 32)) (.slice (some ⟨w.heap.size, 0, none⟩) 2 2) [k, t] := ids_new w [k, t] 32
        have hb : Calls Try.prog 42 #[.pointer (some ⟨A, 0, none⟩), .agg #[.int .i64 6, .int .i64 0, .int .i64 0, .string s, .string ⟨#[]⟩], .int .i64 5, .slice (some ⟨w.heap.size, 0, none⟩) 2 2] (w.alloc (.cells #[.int .i64 k, .int .i64 t] 32)) _ := build_any ha0 (h := ⟨6, 0, 0, s⟩) (hdOk (by omega) (by omega) (by omega) hs) (own := 5) (by omega) hi (by simp) hlen
        have HM := Lib.hid hm0
        clear hi ha0 hm0
        have hd : decide ((64 : Int) < s.size) = false := by simp; omega
        have hd1 : decide ((s.size : Int) < 1) = false := by simp; omega
        go_enter Try.func50, Try.ntmps50
        go_wp2_with (first
          | (go_at_call 42; refine hb.mono ?_; rintro e w' ⟨rfl, h2⟩)
          | (go_at_call 17; refine hkd.mono ?_; rintro e w' ⟨rfl, rfl⟩))
        go_ret
        exact ⟨by rw [hm.out]; rfl, by rw [hm.out]; exact Left.after HM.out h2⟩
      · have hm : Hid (signM L s k t = (-1, L)) := if_neg fun h => hk h.2
        have hd : decide ((64 : Int) < s.size) = false := by simp; omega
        have hd1 : decide ((s.size : Int) < 1) = false := by simp; omega
        have hd2 : (!(kindAt L k == 3)) = true := by simpa using hk
        generalize kindAt L k = K at *
        go_enter Try.func50, Try.ntmps50
        go_wp2_with (go_at_call 17; refine hkd.mono ?_; rintro e w' ⟨rfl, rfl⟩)
        go_ret
        exact makes_none ha (Below.refl _ _) hm.out rfl
    · have hm : Hid (signM L s k t = (-1, L)) := if_neg fun h => h2 h.1.2
      clear hkd
      go_enter Try.func50, Try.ntmps50
      go_wp2_with fail
      go_ret
      exact makes_none ha (Below.refl _ _) hm.out rfl
  · have hm : Hid (signM L s k t = (-1, L)) := if_neg fun h => h1 h.1.1
    clear hkd
    go_enter Try.func50, Try.ntmps50
    go_wp2_with fail
    go_ret
    exact makes_none ha (Below.refl _ _) hm.out rfl

theorem Hash_any {B A : Nat} {L : List Ent} {F : Nat → Prop} {w : World} (ha : ArenaAt B A L F w) (hlen : L.length < 1073741824) (t : Int) :
    Calls Try.prog 51 #[.pointer (some ⟨A, 0, none⟩), .int .i64 t] w (Makes B A F w (hashM L t)) := by
  have hm0 : Moves nobody w (w.alloc (.cells #[.int .i64 t] 32)) := (Moves.refl _ _).alloc _
  have ha0 := ha.moves hm0 fun _ _ h => h
  have hi : IdsAt (w.alloc (.cells #[.int .i64 t] 32)) (.slice (some ⟨w.heap.size, 0, none⟩) 1 1) [t] := ids_new w [t] 32
  have hb : Calls Try.prog 42 #[.pointer (some ⟨A, 0, none⟩), .agg #[.int .i64 7, .int .i64 0, .int .i64 0, .string ⟨#[]⟩, .string ⟨#[]⟩], .int .i64 1, .slice (some ⟨w.heap.size, 0, none⟩) 1 1] (w.alloc (.cells #[.int .i64 t] 32)) _ := build_any ha0 (h := ⟨7, 0, 0, noStr⟩) (hdOk (by omega) (by omega) (by omega) noStr_le) (own := 1) (by omega) hi (by simp) hlen
  have HM := Lib.hid hm0
  clear hi ha0 hm0
  go_enter Try.func51, Try.ntmps51
  go_wp2_with (go_at_call 42; refine hb.mono ?_; rintro e w' ⟨rfl, h2⟩)
  go_ret
  exact ⟨rfl, Left.after HM.out h2⟩

theorem Derive_any {B A : Nat} {L : List Ent} {F : Nat → Prop} {w : World} (ha : ArenaAt B A L F w) (hlen : L.length < 1073741824) (c : Nat) (hc : c ≤ 255) (x y z : Int) :
    Calls Try.prog 52 #[.pointer (some ⟨A, 0, none⟩), .int .u8 c, .int .i64 x, .int .i64 y, .int .i64 z] w (Makes B A F w (deriveM L c x y z)) := by
  have hm0 : Moves nobody w (w.alloc (.cells #[.int .i64 x, .int .i64 y, .int .i64 z] 32)) := (Moves.refl _ _).alloc _
  have ha0 := ha.moves hm0 fun _ _ h => h
  have hi : IdsAt (w.alloc (.cells #[.int .i64 x, .int .i64 y, .int .i64 z] 32)) (.slice (some ⟨w.heap.size, 0, none⟩) 3 3) [x, y, z] := ids_new w [x, y, z] 32
  have hb : Calls Try.prog 42 #[.pointer (some ⟨A, 0, none⟩), .agg #[.int .i64 8, .int .i64 0, .int .i64 c, .string ⟨#[]⟩, .string ⟨#[]⟩], .int .i64 2, .slice (some ⟨w.heap.size, 0, none⟩) 3 3] (w.alloc (.cells #[.int .i64 x, .int .i64 y, .int .i64 z] 32)) _ := build_any ha0 (h := ⟨8, 0, c, noStr⟩) (hdOk (by omega) (by omega) (by omega) noStr_le) (own := 2) (by omega) hi (by simp) hlen
  have HM := Lib.hid hm0
  clear hi ha0 hm0
  go_enter Try.func52, Try.ntmps52
  go_wp2_with (go_at_call 42; refine hb.mono ?_; rintro e w' ⟨rfl, h2⟩)
  go_ret
  exact ⟨rfl, Left.after HM.out h2⟩

theorem Seal_any {B A : Nat} {L : List Ent} {F : Nat → Prop} {w : World} (ha : ArenaAt B A L F w) (hlen : L.length < 1073741824) (k : Int) (n : Nat) (hn : n ≤ 4294967295) (t : Int) :
    Calls Try.prog 54 #[.pointer (some ⟨A, 0, none⟩), .int .i64 k, .int .u32 n, .int .i64 t] w (Makes B A F w (sealM L k n t)) := by
  have hm0 : Moves nobody w (w.alloc (.cells #[.int .i64 k, .int .i64 t] 32)) := (Moves.refl _ _).alloc _
  have ha0 := ha.moves hm0 fun _ _ h => h
  have hi : IdsAt (w.alloc (.cells #[.int .i64 k, .int .i64 t] 32)) (.slice (some ⟨w.heap.size, 0, none⟩) 2 2) [k, t] := ids_new w [k, t] 32
  have hb : Calls Try.prog 42 #[.pointer (some ⟨A, 0, none⟩), .agg #[.int .i64 9, .int .i64 0, .int .i64 n, .string ⟨#[]⟩, .string ⟨#[]⟩], .int .i64 5, .slice (some ⟨w.heap.size, 0, none⟩) 2 2] (w.alloc (.cells #[.int .i64 k, .int .i64 t] 32)) _ := build_any ha0 (h := ⟨9, 0, n, noStr⟩) (hdOk (by omega) (by omega) (by omega) noStr_le) (own := 5) (by omega) hi (by simp) hlen
  have HM := Lib.hid hm0
  clear hi ha0 hm0
  go_enter Try.func54, Try.ntmps54
  go_wp2_with (go_at_call 42; refine hb.mono ?_; rintro e w' ⟨rfl, h2⟩)
  go_ret
  exact ⟨rfl, Left.after HM.out h2⟩

theorem List_any {B A : Nat} {L : List Ent} {F : Nat → Prop} {w : World} (ha : ArenaAt B A L F w) (hlen : L.length < 1073741824) {v : Value} {l : List Int} (hv : IdsAt w v l) (hvl : l.length ≤ 65536) :
    Calls Try.prog 22 #[.pointer (some ⟨A, 0, none⟩), v] w (Makes B A F w (listM L l)) := by
  by_cases h1 : l.length ≤ 32
  · have hm : Hid (listM L l = built L ⟨10, 0, 0, noStr⟩ 5 l) := if_pos h1
    have hb : Calls Try.prog 42 #[.pointer (some ⟨A, 0, none⟩), .agg #[.int .i64 10, .int .i64 0, .int .i64 0, .string ⟨#[]⟩, .string ⟨#[]⟩], .int .i64 5, v] w _ := build_any ha (h := ⟨10, 0, 0, noStr⟩) (hdOk (by omega) (by omega) (by omega) noStr_le) (own := 5) (by omega) hv hvl hlen
    obtain ⟨ao, cap, rfl, _⟩ := hv
    go_enter Try.func22, Try.ntmps22
    go_wp2_with (go_at_call 42; refine hb.mono ?_; rintro e w' ⟨rfl, h2⟩)
    go_ret
    exact ⟨by rw [hm.out]; rfl, by rw [hm.out]; exact h2⟩
  · have hm : Hid (listM L l = (-1, L)) := if_neg h1
    obtain ⟨ao, cap, rfl, _⟩ := hv
    go_enter Try.func22, Try.ntmps22
    go_wp2_with fail
    go_ret
    exact makes_none ha (Below.refl _ _) hm.out rfl
end Go.Proofs.Ytnbhbhogcggbnaa
