/- Part 6 of what the statement wants. -/
import Derived.Test.YtobhpclemmhpoaaGreatDoorPk04
namespace Go.Proofs.YtobhpclemmhpoaaGreatDoor
open Go.RowKit

/-- A term's number, and the arena's terms behind it. -/
def found (L : List Ent) (e : Ent) : Nat × List Ent := match idx L e.sh with
  | some i => (i, L)
  | none => (L.length, L ++ [e])

theorem ArenaAt.below {B A : Nat} {L : List Ent} {F : Nat → Prop} {w w' : World} (h : ArenaAt B A L F w) (hb : Below w.heap.size w w') : ArenaAt B A L F w' :=
  h.moves (S := nobody) (Moves.ofBelow hb) fun _ _ h => h
theorem Left.refl {B A : Nat} {L : List Ent} {F : Nat → Prop} {w w' : World} (h : ArenaAt B A L F w) (hb : Below w.heap.size w w') : Left B A L F w w' :=
  ⟨F, h.below hb, Moves.ofBelow hb, fun _ h => .inl h⟩
theorem Left.after {B A : Nat} {L' : List Ent} {F : Nat → Prop} {w w1 w' : World} (m : Moves nobody w w1) (h : Left B A L' F w1 w') : Left B A L' F w w' := by
  obtain ⟨F', h1, h2, h3⟩ := h
  exact ⟨F', h1, (m.mono fun _ h _ => h.elim).trans h2 fun _ h => .inl h, fun k hk => (h3 k hk).imp_right fun h => Nat.le_trans m.size h⟩

theorem number_any {B A : Nat} {L : List Ent} {F : Nat → Prop} {w : World} (h : ArenaAt B A L F w) {e : Ent} (hs : e.sh.Ok L.length) (hlen : L.length < 1073741824) (hsz : e.size ≤ 131072) :
    Calls Tryz.prog 71 #[.pointer (some ⟨A, 0, none⟩), e.value] w fun r w' => r = .returned (.int .i64 (found L e).1) ∧ Left B A (found L e).2 F w w' := by
  unfold found
  cases hx : idx L e.sh with
  | some i => exact (number_old h hs hx).mono fun _ _ ⟨h1, h2⟩ => ⟨h1, Left.refl h h2⟩
  | none => exact number_new h hs hx hlen hsz

/-- What describes a term, but for the subterms. -/
structure Hd where
  kind : Nat
  a : Nat
  b : Nat
  s : ByteArray
structure Hd.Ok (h : Hd) : Prop where
  kind : h.kind ≤ 10
  a : h.a ≤ 4294967295
  b : h.b ≤ 4294967295
  s : h.s.size ≤ 281474976710656
def Hd.value (h : Hd) : Value := .agg #[.int .i64 h.kind, .int .i64 h.a, .int .i64 h.b, .string h.s, .string ⟨#[]⟩]
def Hd.with (h : Hd) (l : List Nat) : Shp := ⟨h.kind, h.a, h.b, h.s, l⟩

def inAll (L : List Ent) (l : List Int) : Bool := l.all fun t => decide (0 ≤ t) && decide (t < L.length)
def sizes (L : List Ent) (l : List Int) : Nat := (l.map fun t => (sizeAt L t).toNat).sum
def built (L : List Ent) (h : Hd) (own : Nat) (l : List Int) : Int × List Ent :=
  if inAll L l = true ∧ own + h.s.size + sizes L l ≤ 131072 then (((found L ⟨h.with (l.map Int.toNat), own + h.s.size + sizes L l⟩).1 : Nat), (found L ⟨h.with (l.map Int.toNat), own + h.s.size + sizes L l⟩).2) else (-1, L)

theorem sizes_snoc (L : List Ent) (l : List Int) (t : Int) : sizes L (l ++ [t]) = sizes L l + (sizeAt L t).toNat := by simp [sizes]
theorem sizeAt_nat {L : List Ent} (hL : Wf L) (t : Int) : 0 ≤ sizeAt L t ∧ sizeAt L t ≤ 131072 := by
  unfold sizeAt at_
  split
  · cases hx : L[t.toNat]? with
    | none => simp
    | some e => have := hL.size e (List.mem_of_getElem? hx); simp; omega
  · simp
theorem sizes_le {L : List Ent} (hL : Wf L) (l : List Int) : sizes L l ≤ 131072 * l.length := by
  induction l with
  | nil => simp [sizes]
  | cons t l ih =>
    have := sizeAt_nat hL t
    simp only [sizes, List.map_cons, List.sum_cons, List.length_cons] at ih ⊢
    omega
theorem inAll_take (L : List Ent) (l : List Int) (k : Nat) (h : k < l.length) (h1 : inAll L (l.take k) = true) : inAll L (l.take (k + 1)) = (decide (0 ≤ l[k]) && decide (l[k] < L.length)) := by
  rw [List.take_succ_eq_append_getElem h]
  simp only [inAll, List.all_append, List.all_cons, List.all_nil, Bool.and_true] at h1 ⊢
  rw [h1, Bool.true_and]
theorem inAll_not {L : List Ent} {l : List Int} {k : Nat} (h : k < l.length) (hk : ¬ (0 ≤ l[k] ∧ l[k] < L.length)) : inAll L l ≠ true := by
  intro h1
  have := List.all_eq_true.1 h1 l[k] (List.getElem_mem h)
  simp at this
  exact hk this
theorem inAll_mem {L : List Ent} {l : List Int} (h : inAll L l = true) : ∀ t ∈ l, 0 ≤ t ∧ t < L.length := by
  intro t ht
  have := List.all_eq_true.1 h t ht
  simpa using this

set_option maxRecDepth 100000 in
theorem build_any {B A : Nat} {L : List Ent} {F : Nat → Prop} {w : World} (ha : ArenaAt B A L F w) {h : Hd} (hs : h.Ok) {own : Nat} (ho : own ≤ 16) {v : Value} {l : List Int} (hv : IdsAt w v l) (hvl : l.length ≤ 65536) (hlen : L.length < 1073741824) :
    Calls Tryz.prog 38 #[.pointer (some ⟨A, 0, none⟩), h.value, .int .i64 own, v] w fun r w' => r = .returned (.int .i64 (built L h own l).1) ∧ Left B A (built L h own l).2 F w w' := by
  obtain ⟨kd, a, b, s⟩ := h
  have hs4 := hs.s
  simp only at hs4
  obtain ⟨ao, cap, rfl, hc⟩ := hv
  have hm0 : Moves nobody w (w.alloc (.cells #[.int .i64 kd, .int .i64 a, .int .i64 b, .string s, .string ⟨#[]⟩] 87)) := (Moves.refl _ _).alloc _
  have ha0 := ha.moves hm0 fun _ _ h => h
  have hX0 := Holds.new w 87 #[.int .i64 kd, .int .i64 a, .int .i64 b, .string s, .string ⟨#[]⟩]
  have hc0 : l ≠ [] → ∃ b' off, ao = some ⟨b', off, none⟩ ∧ b' < w.heap.size ∧ ∀ k x, l[k]? = some x → (w.alloc (.cells #[.int .i64 kd, .int .i64 a, .int .i64 b, .string s, .string ⟨#[]⟩] 87)).cell? ⟨b', off + k, none⟩ = some (.int .i64 x) := fun hne => by
    obtain ⟨b', off, e1, e2, e3⟩ := hc hne
    exact ⟨b', off, e1, by omega, fun k x hx => (hm0.cell (p := ⟨b', off + k, none⟩) e2 (fun h => h)).trans (e3 k x hx)⟩
  have hwf := ha.wf
  have haw := ha
  clear hc ha
  unfold Hd.value
  go_enter Tryz.func38, Tryz.ntmps38
  go_wp2_with fail
  generalize w.alloc (.cells #[.int .i64 kd, .int .i64 a, .int .i64 b, .string s, .string ⟨#[]⟩] 87) = W0 at *
  generalize hX : w.heap.size = X at *
  have HX := Lib.hid hX
  clear hX
  have y3 : W0.cell? ⟨X, 3, none⟩ = some (.string s) := hX0.cell 3
  have y4 : W0.cell? ⟨X, 4, none⟩ = some (.string ⟨#[]⟩) := hX0.cell 4
  have g4 := hX0.frozen 4
  go_wp2_with fail
  go_loop [9, 21] (fun z i => ∃ k : Nat, k ≤ l.length ∧ i = .int .i64 k ∧ inAll L (l.take k) = true ∧ z = .int .i64 ((own : Int) + s.size + (sizes L (l.take k) : Nat))) (fun _ i => l.length - (intOf i).toNat)
  case atStart => exact ⟨0, Nat.zero_le _, rfl, rfl, by simp [sizes]⟩
  case round =>
    obtain ⟨k, hk, rfl, hin, rfl⟩ := hrel
    have hsz := sizes_le hwf (l.take k)
    rw [List.length_take] at hsz
    by_cases hlt : k < l.length
    · obtain ⟨b', off, rfl, hb', hcell⟩ := hc0 (by rintro rfl; simp at hlt)
      have hck := hcell k l[k] (List.getElem?_eq_getElem hlt)
      by_cases hik : 0 ≤ l[k] ∧ l[k] < L.length
      · have hnew : inAll L (l.take (k + 1)) = true := by rw [inAll_take L l k hlt hin]; simp [hik]
        have hsum : sizes L (l.take (k + 1)) = sizes L (l.take k) + (sizeAt L l[k]).toNat := by rw [List.take_succ_eq_append_getElem hlt, sizes_snoc]
        obtain ⟨n, hn⟩ : ∃ n : Nat, l[k] = (n : Int) := ⟨l[k].toNat, by omega⟩
        rw [hn] at hck hik hsum
        have hnL : n < L.length := by omega
        obtain ⟨ao2, cap2, mb, d0, _, hlen', hcells⟩ := ha0.read
        obtain ⟨g, rfl, hcg⟩ := hcells n L[n] (List.getElem?_eq_getElem hnL)
        have hce : W0.cell? ⟨g, n * 6 + 5, none⟩ = some (.int .i64 L[n].size) := hcg 5 _ rfl
        have hsn : sizeAt L (n : Int) = (L[n].size : Int) := by simp [sizeAt, at_nat, hnL]
        have hszn := hwf.size L[n] (List.getElem_mem hnL)
        rw [hsn, Int.toNat_natCast] at hsum
        obtain ⟨sz, hszd⟩ : ∃ sz, sz = L[n].size := ⟨_, rfl⟩
        rw [← hszd] at hce hsum hszn
        obtain ⟨S, hS⟩ : ∃ S, S = sizes L (l.take k) := ⟨_, rfl⟩
        rw [← hS] at hsum hsz ⊢
        have HS := Lib.hid hsum
        have HI := Lib.hid hnew
        clear hcells hcg hsn hszd hS hn hsum hcell hc0 hnew hin hik
        go_wp2_with (go_at_call 39; refine (has_yes ha0 _ hnL).mono ?_; rintro e w' ⟨rfl, rfl⟩)
        go_round
        case rel => exact ⟨k + 1, by omega, by go_num, HI.out, by rw [HS.out]; go_num⟩
        case measure => simp [intOf]; omega
      · have hb : Hid (built L ⟨kd, a, b, s⟩ own l = (-1, L)) := if_neg fun hh => inAll_not hlt hik hh.1
        have HIK := Lib.hid (show l[k] < 0 ∨ L.length ≤ l[k] by omega)
        obtain ⟨t, ht⟩ : ∃ t, t = l[k] := ⟨_, rfl⟩
        rw [← ht] at hck HIK
        clear hcell hc0 hik hin ht hsz
        go_wp2_with (go_at_call 39; refine (has_no ha0 _ HIK.out).mono ?_; rintro e w' ⟨rfl, rfl⟩)
        go_ret
        exact ⟨by rw [hb.out]; rfl, by rw [hb.out]; exact Left.after hm0 (Left.refl ha0 (Below.refl _ _))⟩
    · have hkl : k = l.length := by omega
      subst hkl
      rw [List.take_length] at hin hsz ⊢
      clear hlt hk
      rw [Nat.min_self] at hsz
      obtain ⟨S, hS⟩ : ∃ S, S = sizes L l := ⟨_, rfl⟩
      rw [← hS] at hsz ⊢
      by_cases hbig : own + s.size + S ≤ 131072
      · have hb : Hid (built L ⟨kd, a, b, s⟩ own l = ((((found L ⟨Hd.with ⟨kd, a, b, s⟩ (l.map Int.toNat), own + s.size + S⟩).1 : Nat) : Int), (found L ⟨Hd.with ⟨kd, a, b, s⟩ (l.map Int.toNat), own + s.size + S⟩).2)) := by
          rw [hS]; exact if_pos ⟨hin, by rw [← hS]; exact hbig⟩
        have hmem := inAll_mem hin
        have hl2 : (l.map Int.toNat).map Int.ofNat = l := by
          rw [List.map_map]
          exact (List.map_congr_left (fun t ht => by have := hmem t ht; simp; omega)).trans (List.map_id l)
        have hids : IdsAt W0 (.slice ao l.length cap) ((l.map Int.toNat).map Int.ofNat) := by
          rw [hl2]
          exact ⟨ao, cap, rfl, fun hne => by
            obtain ⟨b', off, e1, e2, e3⟩ := hc0 hne
            exact ⟨b', off, e1, by have := hX0.lt; omega, e3⟩⟩
        have hargs : ∀ t ∈ l.map Int.toNat, t < L.length := by
          intro t ht
          obtain ⟨u, hu, rfl⟩ := List.mem_map.1 ht
          have := hmem u hu
          omega
        have hok : (Hd.with ⟨kd, a, b, s⟩ (l.map Int.toNat)).Ok L.length := ⟨hs.kind, hs.a, hs.b, by show s.size ≤ 131072; omega, hargs, by show (l.map Int.toNat).length ≤ 65536; rw [List.length_map]; exact hvl⟩
        have hpk := pack_any _ _ W0 hids (by rw [List.length_map]; exact hvl) (fun t ht => by have := hargs t ht; omega)
        clear hc0 hin hS hmem hl2 hids hargs
        obtain ⟨M, hM⟩ : ∃ M, M = l.map Int.toNat := ⟨_, rfl⟩
        rw [← hM] at hb hok hpk
        clear hM
        go_wp2_with (
          go_at_call 70
          refine hpk.mono ?_
          rintro r w1 ⟨rfl, hb1⟩
          have hX1 : Holds w1 X 87 #[.int .i64 kd, .int .i64 a, .int .i64 b, .string s, .string ⟨#[]⟩] := (hb1.block X hX0.lt).trans hX0
          have z4 : w1.cell? ⟨X, 4, none⟩ = some (.string ⟨#[]⟩) := hX1.cell 4
          have k4 := hX1.frozen 4
          have z0 : w1.cell? ⟨X, 0, none⟩ = some (.int .i64 kd) := hX1.cell 0
          have z1 : w1.cell? ⟨X, 1, none⟩ = some (.int .i64 a) := hX1.cell 1
          have z2 : w1.cell? ⟨X, 2, none⟩ = some (.int .i64 b) := hX1.cell 2
          have z3 : w1.cell? ⟨X, 3, none⟩ = some (.string s) := hX1.cell 3
          have ha1 := ha0.below hb1
          have hm1 : Moves nobody w w1 := hm0.trans (Moves.ofBelow (S := nobody) hb1) fun _ h => h.elim)
        have hm2 : Moves nobody w (w1.setCell ⟨X, 4, none⟩ (.string (packB M))) := hm1.setCell (.inr (Nat.le_of_eq HX.out)) _
        have ha2 : ArenaAt B A L F (w1.setCell ⟨X, 4, none⟩ (.string (packB M))) := ha1.moves ((Moves.refl (fun k => k = X) w1).setCell (.inl rfl) _) fun k hk => by
          rintro rfl
          have := (haw.lt k hk).2
          rw [HX.out] at this
          omega
        generalize w1.setCell ⟨X, 4, none⟩ (.string (packB M)) = W2 at *
        have hnum := number_any ha2 (e := ⟨Hd.with ⟨kd, a, b, s⟩ M, own + s.size + S⟩) hok hlen hbig
        simp only [Ent.value, Hd.with, Int.natCast_add] at hnum
        go_wp2_with (
          go_at_call 71
          refine hnum.mono ?_
          rintro r w3 ⟨rfl, hleft⟩)
        go_ret
        exact ⟨by rw [hb.out]; rfl, by rw [hb.out]; exact Left.after hm2 hleft⟩
      · have hb : Hid (built L ⟨kd, a, b, s⟩ own l = (-1, L)) := if_neg fun hh => hbig (by rw [hS]; exact hh.2)
        clear hc0 hin hS
        go_wp2_with fail
        go_ret
        exact ⟨by rw [hb.out]; rfl, by rw [hb.out]; exact Left.after hm0 (Left.refl ha0 (Below.refl _ _))⟩
end Go.Proofs.YtobhpclemmhpoaaGreatDoor

namespace Go.Proofs.YtobhpclemmhpoaaGreatDoor
open Go.RowKit

def isNum (n : Int) : Bool := decide (0 ≤ n) && decide (n ≤ 2147483647)
theorem isNum_iff {n : Int} : isNum n = true ↔ 0 ≤ n ∧ n ≤ 2147483647 := by simp [isNum]

theorem isNumber_yes (n : Int) (w : World) (h0 : 0 ≤ n) (h1 : n ≤ 2147483647) : Calls Tryz.prog 37 #[.int .i64 n] w fun e w' => e = .returned (.bool true) ∧ w = w' := by
  go_enter Tryz.func37, Tryz.ntmps37
  go_wp2
  go_ret
  exact ⟨rfl, rfl⟩
theorem isNumber_no (n : Int) (w : World) (h : ¬ (0 ≤ n ∧ n ≤ 2147483647)) : Calls Tryz.prog 37 #[.int .i64 n] w fun e w' => e = .returned (.bool false) ∧ w = w' := by
  by_cases h0 : 0 ≤ n
  · have h1 : 2147483647 < n := by omega
    have hd : decide (n ≤ 2147483647) = false := by simp; omega
    clear h
    go_enter Tryz.func37, Tryz.ntmps37
    go_wp2
    go_ret
    exact ⟨rfl, rfl⟩
  · have h1 : n < 0 := by omega
    clear h h0
    go_enter Tryz.func37, Tryz.ntmps37
    go_wp2
    go_ret
    exact ⟨rfl, rfl⟩

/-- A slice that was just built out of integers. -/
theorem ids_new (w : World) (l : List Int) (t : TypeId) : IdsAt (w.alloc (.cells (l.map (Value.int .i64)).toArray t)) (.slice (some ⟨w.heap.size, 0, none⟩) l.length l.length) l :=
  ⟨_, _, rfl, fun _ => ⟨w.heap.size, 0, rfl, by simp, fun k x hx => by
    have h := (Holds.new w t (l.map (Value.int .i64)).toArray).cell k
    rw [Nat.zero_add, h]
    simp [hx]⟩⟩

def noStr : ByteArray := ⟨#[]⟩
theorem noStr_le : noStr.size ≤ 281474976710656 := by decide
theorem hdOk {k a b : Nat} {s : ByteArray} (h1 : k ≤ 10) (h2 : a ≤ 4294967295) (h3 : b ≤ 4294967295) (h4 : s.size ≤ 281474976710656) : Hd.Ok ⟨k, a, b, s⟩ := ⟨h1, h2, h3, h4⟩
def dataM (L : List Ent) (s : ByteArray) : Int × List Ent := built L ⟨1, 0, 0, s⟩ 5 []
def nonceM (L : List Ent) (x y : Int) : Int × List Ent := if isNum x = true ∧ isNum y = true then built L ⟨2, x.toNat, y.toNat, noStr⟩ 9 [] else (-1, L)
def keyM (L : List Ent) (x : Int) : Int × List Ent := if isNum x = true then built L ⟨3, x.toNat, 0, noStr⟩ 5 [] else (-1, L)
def pubM (L : List Ent) (k : Int) : Int × List Ent := if kindAt L k = 3 then built L ⟨4, 0, 0, noStr⟩ 1 [k] else (-1, L)
def baseM (L : List Ent) (s : ByteArray) : Int × List Ent := if 1 ≤ s.size ∧ s.size ≤ 2100 then built L ⟨5, 0, 0, s⟩ 9 [] else (-1, L)
def signM (L : List Ent) (s : ByteArray) (k t : Int) : Int × List Ent := if (1 ≤ s.size ∧ s.size ≤ 64) ∧ kindAt L k = 3 then built L ⟨6, 0, 0, s⟩ 5 [k, t] else (-1, L)
def hashM (L : List Ent) (t : Int) : Int × List Ent := built L ⟨7, 0, 0, noStr⟩ 1 [t]
def deriveM (L : List Ent) (c : Nat) (x y z : Int) : Int × List Ent := built L ⟨8, 0, c, noStr⟩ 2 [x, y, z]
def sealM (L : List Ent) (k : Int) (n : Nat) (t : Int) : Int × List Ent := built L ⟨9, 0, n, noStr⟩ 5 [k, t]
def listM (L : List Ent) (l : List Int) : Int × List Ent := if l.length ≤ 32 then built L ⟨10, 0, 0, noStr⟩ 5 l else (-1, L)

/-- What a constructor's call leaves. -/
def Makes (B A : Nat) (F : Nat → Prop) (w : World) (m : Int × List Ent) (r : Ending) (w' : World) : Prop := r = .returned (.int .i64 m.1) ∧ Left B A m.2 F w w'
theorem makes_none {B A : Nat} {L : List Ent} {F : Nat → Prop} {w w' : World} (h : ArenaAt B A L F w) (hb : Below w.heap.size w w') {m : Int × List Ent} (hm : m = (-1, L)) {r : Ending} (hr : r = .returned (.int .i64 (-1))) : Makes B A F w m r w' := by
  subst hm
  exact ⟨hr, Left.refl h hb⟩

theorem Data_any {B A : Nat} {L : List Ent} {F : Nat → Prop} {w : World} (ha : ArenaAt B A L F w) (hlen : L.length < 1073741824) (s : ByteArray) (hs : s.size ≤ 281474976710656) :
    Calls Tryz.prog 41 #[.pointer (some ⟨A, 0, none⟩), .string s] w (Makes B A F w (dataM L s)) := by
  have hb : Calls Tryz.prog 38 #[.pointer (some ⟨A, 0, none⟩), .agg #[.int .i64 1, .int .i64 0, .int .i64 0, .string s, .string ⟨#[]⟩], .int .i64 5, .slice none 0 0] w _ := build_any ha (h := ⟨1, 0, 0, s⟩) (hdOk (by omega) (by omega) (by omega) hs) (own := 5) (by omega) (IdsAt.nil w) (by simp) hlen
  go_enter Tryz.func41, Tryz.ntmps41
  go_wp2_with (first | (go_at_call 38; refine hb.mono ?_; rintro e w' ⟨rfl, h2⟩))
  go_ret
  exact ⟨rfl, h2⟩

theorem Nonce_any {B A : Nat} {L : List Ent} {F : Nat → Prop} {w : World} (ha : ArenaAt B A L F w) (hlen : L.length < 1073741824) (x y : Int) :
    Calls Tryz.prog 42 #[.pointer (some ⟨A, 0, none⟩), .int .i64 x, .int .i64 y] w (Makes B A F w (nonceM L x y)) := by
  by_cases hx : isNum x = true
  · have hx' := isNum_iff.1 hx
    by_cases hy : isNum y = true
    · have hy' := isNum_iff.1 hy
      have hm : Hid (nonceM L x y = built L ⟨2, x.toNat, y.toNat, noStr⟩ 9 []) := if_pos ⟨hx, hy⟩
      obtain ⟨n, rfl⟩ : ∃ n : Nat, x = n := ⟨x.toNat, by omega⟩
      obtain ⟨k, rfl⟩ : ∃ k : Nat, y = k := ⟨y.toNat, by omega⟩
      rw [Int.toNat_natCast, Int.toNat_natCast] at hm
      clear hx hy
      have hb : Calls Tryz.prog 38 #[.pointer (some ⟨A, 0, none⟩), .agg #[.int .i64 2, .int .i64 n, .int .i64 k, .string ⟨#[]⟩, .string ⟨#[]⟩], .int .i64 9, .slice none 0 0] w _ := build_any ha (h := ⟨2, n, k, noStr⟩) (hdOk (by omega) (by omega) (by omega) noStr_le) (own := 9) (by omega) (IdsAt.nil w) (by simp) hlen
      have H1 := Lib.hid hx'
      have H2 := Lib.hid hy'
      clear hx' hy'
      go_enter Tryz.func42, Tryz.ntmps42
      go_wp2_with (first
        | (go_at_call 38; refine hb.mono ?_; rintro e w' ⟨rfl, h2⟩)
        | (go_at_call 37; with_reducible refine (isNumber_yes (n : Int) _ H1.out.1 H1.out.2).mono ?_; rintro e w' ⟨rfl, rfl⟩)
        | (go_at_call 37; with_reducible refine (isNumber_yes (k : Int) _ H2.out.1 H2.out.2).mono ?_; rintro e w' ⟨rfl, rfl⟩))
      go_ret
      exact ⟨by rw [hm.out]; rfl, by rw [hm.out]; exact h2⟩
    · have hm : Hid (nonceM L x y = (-1, L)) := if_neg fun h => hy h.2
      have H1 := Lib.hid hx'
      have H2 := Lib.hid (mt isNum_iff.2 hy)
      clear hx' hx hy
      go_enter Tryz.func42, Tryz.ntmps42
      go_wp2_with (first
        | (go_at_call 37; with_reducible refine (isNumber_yes x _ H1.out.1 H1.out.2).mono ?_; rintro e w' ⟨rfl, rfl⟩)
        | (go_at_call 37; with_reducible refine (isNumber_no y _ H2.out).mono ?_; rintro e w' ⟨rfl, rfl⟩))
      go_ret
      exact makes_none ha (Below.refl _ _) hm.out rfl
  · have hm : Hid (nonceM L x y = (-1, L)) := if_neg fun h => hx h.1
    have H1 := Lib.hid (mt isNum_iff.2 hx)
    clear hx
    go_enter Tryz.func42, Tryz.ntmps42
    go_wp2_with (go_at_call 37; with_reducible refine (isNumber_no x _ H1.out).mono ?_; rintro e w' ⟨rfl, rfl⟩)
    go_ret
    exact makes_none ha (Below.refl _ _) hm.out rfl

theorem Key_any {B A : Nat} {L : List Ent} {F : Nat → Prop} {w : World} (ha : ArenaAt B A L F w) (hlen : L.length < 1073741824) (x : Int) :
    Calls Tryz.prog 18 #[.pointer (some ⟨A, 0, none⟩), .int .i64 x] w (Makes B A F w (keyM L x)) := by
  by_cases hx : isNum x = true
  · have hx' := isNum_iff.1 hx
    have hm : Hid (keyM L x = built L ⟨3, x.toNat, 0, noStr⟩ 5 []) := if_pos hx
    obtain ⟨n, rfl⟩ : ∃ n : Nat, x = n := ⟨x.toNat, by omega⟩
    rw [Int.toNat_natCast] at hm
    clear hx
    have hb : Calls Tryz.prog 38 #[.pointer (some ⟨A, 0, none⟩), .agg #[.int .i64 3, .int .i64 n, .int .i64 0, .string ⟨#[]⟩, .string ⟨#[]⟩], .int .i64 5, .slice none 0 0] w _ := build_any ha (h := ⟨3, n, 0, noStr⟩) (hdOk (by omega) (by omega) (by omega) noStr_le) (own := 5) (by omega) (IdsAt.nil w) (by simp) hlen
    have H1 := Lib.hid hx'
    clear hx'
    go_enter Tryz.func18, Tryz.ntmps18
    go_wp2_with (first
      | (go_at_call 38; refine hb.mono ?_; rintro e w' ⟨rfl, h2⟩)
      | (go_at_call 37; refine (isNumber_yes (n : Int) _ H1.out.1 H1.out.2).mono ?_; rintro e w' ⟨rfl, rfl⟩))
    go_ret
    exact ⟨by rw [hm.out]; rfl, by rw [hm.out]; exact h2⟩
  · have hm : Hid (keyM L x = (-1, L)) := if_neg hx
    have H1 := Lib.hid (mt isNum_iff.2 hx)
    clear hx
    go_enter Tryz.func18, Tryz.ntmps18
    go_wp2_with (go_at_call 37; refine (isNumber_no x _ H1.out).mono ?_; rintro e w' ⟨rfl, rfl⟩)
    go_ret
    exact makes_none ha (Below.refl _ _) hm.out rfl

theorem Pub_any {B A : Nat} {L : List Ent} {F : Nat → Prop} {w : World} (ha : ArenaAt B A L F w) (hlen : L.length < 1073741824) (k : Int) :
    Calls Tryz.prog 43 #[.pointer (some ⟨A, 0, none⟩), .int .i64 k] w (Makes B A F w (pubM L k)) := by
  by_cases hk : kindAt L k = 3
  · have hm : Hid (pubM L k = built L ⟨4, 0, 0, noStr⟩ 1 [k]) := if_pos hk
    have hkd := Kind_any ha k
    rw [hk] at hkd
    clear hk
    have hm0 : Moves nobody w (w.alloc (.cells #[.int .i64 k] 36)) := (Moves.refl _ _).alloc _
    have ha0 := ha.moves hm0 fun _ _ h => h
    have hi : IdsAt (w.alloc (.cells #[.int .i64 k] 36)) (.slice (some ⟨w.heap.size, 0, none⟩) 1 1) [k] := ids_new w [k] 36
    have hb : Calls Tryz.prog 38 #[.pointer (some ⟨A, 0, none⟩), .agg #[.int .i64 4, .int .i64 0, .int .i64 0, .string ⟨#[]⟩, .string ⟨#[]⟩], .int .i64 1, .slice (some ⟨w.heap.size, 0, none⟩) 1 1] (w.alloc (.cells #[.int .i64 k] 36)) _ := build_any ha0 (h := ⟨4, 0, 0, noStr⟩) (hdOk (by omega) (by omega) (by omega) noStr_le) (own := 1) (by omega) hi (by simp) hlen
    have HM := Lib.hid hm0
    clear hi ha0 hm0
    go_enter Tryz.func43, Tryz.ntmps43
    go_wp2_with (first
      | (go_at_call 38; refine hb.mono ?_; rintro e w' ⟨rfl, h2⟩)
      | (go_at_call 63; refine hkd.mono ?_; rintro e w' ⟨rfl, rfl⟩))
    go_ret
    exact ⟨by rw [hm.out]; rfl, by rw [hm.out]; exact Left.after HM.out h2⟩
  · have hm : Hid (pubM L k = (-1, L)) := if_neg hk
    have hkd := Kind_any ha k
    have hd : (!(kindAt L k == 3)) = true := by simpa using hk
    generalize kindAt L k = K at *
    go_enter Tryz.func43, Tryz.ntmps43
    go_wp2_with (go_at_call 63; refine hkd.mono ?_; rintro e w' ⟨rfl, rfl⟩)
    go_ret
    exact makes_none ha (Below.refl _ _) hm.out rfl

theorem Base_any {B A : Nat} {L : List Ent} {F : Nat → Prop} {w : World} (ha : ArenaAt B A L F w) (hlen : L.length < 1073741824) (s : ByteArray) (hs : s.size ≤ 281474976710656) :
    Calls Tryz.prog 44 #[.pointer (some ⟨A, 0, none⟩), .string s] w (Makes B A F w (baseM L s)) := by
  by_cases h1 : 1 ≤ s.size
  · by_cases h2 : s.size ≤ 2100
    · have hm : Hid (baseM L s = built L ⟨5, 0, 0, s⟩ 9 []) := if_pos ⟨h1, h2⟩
      have hb : Calls Tryz.prog 38 #[.pointer (some ⟨A, 0, none⟩), .agg #[.int .i64 5, .int .i64 0, .int .i64 0, .string s, .string ⟨#[]⟩], .int .i64 9, .slice none 0 0] w _ := build_any ha (h := ⟨5, 0, 0, s⟩) (hdOk (by omega) (by omega) (by omega) hs) (own := 9) (by omega) (IdsAt.nil w) (by simp) hlen
      have hd : decide ((2100 : Int) < s.size) = false := by simp; omega
      have hd1 : decide ((s.size : Int) < 1) = false := by simp; omega
      go_enter Tryz.func44, Tryz.ntmps44
      go_wp2_with (go_at_call 38; refine hb.mono ?_; rintro e w' ⟨rfl, h2⟩)
      go_ret
      exact ⟨by rw [hm.out]; rfl, by rw [hm.out]; exact h2⟩
    · have hm : Hid (baseM L s = (-1, L)) := if_neg fun h => h2 h.2
      go_enter Tryz.func44, Tryz.ntmps44
      go_wp2_with fail
      go_ret
      exact makes_none ha (Below.refl _ _) hm.out rfl
  · have hm : Hid (baseM L s = (-1, L)) := if_neg fun h => h1 h.1
    go_enter Tryz.func44, Tryz.ntmps44
    go_wp2_with fail
    go_ret
    exact makes_none ha (Below.refl _ _) hm.out rfl

theorem Sign_any {B A : Nat} {L : List Ent} {F : Nat → Prop} {w : World} (ha : ArenaAt B A L F w) (hlen : L.length < 1073741824) (s : ByteArray) (hs : s.size ≤ 281474976710656) (k t : Int) :
    Calls Tryz.prog 46 #[.pointer (some ⟨A, 0, none⟩), .string s, .int .i64 k, .int .i64 t] w (Makes B A F w (signM L s k t)) := by
  have hkd := Kind_any ha k
  by_cases h1 : 1 ≤ s.size
  · by_cases h2 : s.size ≤ 64
    · by_cases hk : kindAt L k = 3
      · have hm : Hid (signM L s k t = built L ⟨6, 0, 0, s⟩ 5 [k, t]) := if_pos ⟨⟨h1, h2⟩, hk⟩
        rw [hk] at hkd
        clear hk
        have hm0 : Moves nobody w (w.alloc (.cells #[.int .i64 k, .int .i64 t] 36)) := (Moves.refl _ _).alloc _
        have ha0 := ha.moves hm0 fun _ _ h => h
        have hi : IdsAt (w.alloc (.cells #[.int .i64 k, .int .i64 t] 36)) (.slice (some ⟨w.heap.size, 0, none⟩) 2 2) [k, t] := ids_new w [k, t] 36
        have hb : Calls Tryz.prog 38 #[.pointer (some ⟨A, 0, none⟩), .agg #[.int .i64 6, .int .i64 0, .int .i64 0, .string s, .string ⟨#[]⟩], .int .i64 5, .slice (some ⟨w.heap.size, 0, none⟩) 2 2] (w.alloc (.cells #[.int .i64 k, .int .i64 t] 36)) _ := build_any ha0 (h := ⟨6, 0, 0, s⟩) (hdOk (by omega) (by omega) (by omega) hs) (own := 5) (by omega) hi (by simp) hlen
        have HM := Lib.hid hm0
        clear hi ha0 hm0
        have hd : decide ((64 : Int) < s.size) = false := by simp; omega
        have hd1 : decide ((s.size : Int) < 1) = false := by simp; omega
        go_enter Tryz.func46, Tryz.ntmps46
        go_wp2_with (first
          | (go_at_call 38; refine hb.mono ?_; rintro e w' ⟨rfl, h2⟩)
          | (go_at_call 63; refine hkd.mono ?_; rintro e w' ⟨rfl, rfl⟩))
        go_ret
        exact ⟨by rw [hm.out]; rfl, by rw [hm.out]; exact Left.after HM.out h2⟩
      · have hm : Hid (signM L s k t = (-1, L)) := if_neg fun h => hk h.2
        have hd : decide ((64 : Int) < s.size) = false := by simp; omega
        have hd1 : decide ((s.size : Int) < 1) = false := by simp; omega
        have hd2 : (!(kindAt L k == 3)) = true := by simpa using hk
        generalize kindAt L k = K at *
        go_enter Tryz.func46, Tryz.ntmps46
        go_wp2_with (go_at_call 63; refine hkd.mono ?_; rintro e w' ⟨rfl, rfl⟩)
        go_ret
        exact makes_none ha (Below.refl _ _) hm.out rfl
    · have hm : Hid (signM L s k t = (-1, L)) := if_neg fun h => h2 h.1.2
      clear hkd
      go_enter Tryz.func46, Tryz.ntmps46
      go_wp2_with fail
      go_ret
      exact makes_none ha (Below.refl _ _) hm.out rfl
  · have hm : Hid (signM L s k t = (-1, L)) := if_neg fun h => h1 h.1.1
    clear hkd
    go_enter Tryz.func46, Tryz.ntmps46
    go_wp2_with fail
    go_ret
    exact makes_none ha (Below.refl _ _) hm.out rfl

theorem Hash_any {B A : Nat} {L : List Ent} {F : Nat → Prop} {w : World} (ha : ArenaAt B A L F w) (hlen : L.length < 1073741824) (t : Int) :
    Calls Tryz.prog 34 #[.pointer (some ⟨A, 0, none⟩), .int .i64 t] w (Makes B A F w (hashM L t)) := by
  have hm0 : Moves nobody w (w.alloc (.cells #[.int .i64 t] 36)) := (Moves.refl _ _).alloc _
  have ha0 := ha.moves hm0 fun _ _ h => h
  have hi : IdsAt (w.alloc (.cells #[.int .i64 t] 36)) (.slice (some ⟨w.heap.size, 0, none⟩) 1 1) [t] := ids_new w [t] 36
  have hb : Calls Tryz.prog 38 #[.pointer (some ⟨A, 0, none⟩), .agg #[.int .i64 7, .int .i64 0, .int .i64 0, .string ⟨#[]⟩, .string ⟨#[]⟩], .int .i64 1, .slice (some ⟨w.heap.size, 0, none⟩) 1 1] (w.alloc (.cells #[.int .i64 t] 36)) _ := build_any ha0 (h := ⟨7, 0, 0, noStr⟩) (hdOk (by omega) (by omega) (by omega) noStr_le) (own := 1) (by omega) hi (by simp) hlen
  have HM := Lib.hid hm0
  clear hi ha0 hm0
  go_enter Tryz.func34, Tryz.ntmps34
  go_wp2_with (go_at_call 38; refine hb.mono ?_; rintro e w' ⟨rfl, h2⟩)
  go_ret
  exact ⟨rfl, Left.after HM.out h2⟩

theorem Derive_any {B A : Nat} {L : List Ent} {F : Nat → Prop} {w : World} (ha : ArenaAt B A L F w) (hlen : L.length < 1073741824) (c : Nat) (hc : c ≤ 255) (x y z : Int) :
    Calls Tryz.prog 47 #[.pointer (some ⟨A, 0, none⟩), .int .u8 c, .int .i64 x, .int .i64 y, .int .i64 z] w (Makes B A F w (deriveM L c x y z)) := by
  have hm0 : Moves nobody w (w.alloc (.cells #[.int .i64 x, .int .i64 y, .int .i64 z] 36)) := (Moves.refl _ _).alloc _
  have ha0 := ha.moves hm0 fun _ _ h => h
  have hi : IdsAt (w.alloc (.cells #[.int .i64 x, .int .i64 y, .int .i64 z] 36)) (.slice (some ⟨w.heap.size, 0, none⟩) 3 3) [x, y, z] := ids_new w [x, y, z] 36
  have hb : Calls Tryz.prog 38 #[.pointer (some ⟨A, 0, none⟩), .agg #[.int .i64 8, .int .i64 0, .int .i64 c, .string ⟨#[]⟩, .string ⟨#[]⟩], .int .i64 2, .slice (some ⟨w.heap.size, 0, none⟩) 3 3] (w.alloc (.cells #[.int .i64 x, .int .i64 y, .int .i64 z] 36)) _ := build_any ha0 (h := ⟨8, 0, c, noStr⟩) (hdOk (by omega) (by omega) (by omega) noStr_le) (own := 2) (by omega) hi (by simp) hlen
  have HM := Lib.hid hm0
  clear hi ha0 hm0
  go_enter Tryz.func47, Tryz.ntmps47
  go_wp2_with (go_at_call 38; refine hb.mono ?_; rintro e w' ⟨rfl, h2⟩)
  go_ret
  exact ⟨rfl, Left.after HM.out h2⟩

theorem Seal_any {B A : Nat} {L : List Ent} {F : Nat → Prop} {w : World} (ha : ArenaAt B A L F w) (hlen : L.length < 1073741824) (k : Int) (n : Nat) (hn : n ≤ 4294967295) (t : Int) :
    Calls Tryz.prog 49 #[.pointer (some ⟨A, 0, none⟩), .int .i64 k, .int .u32 n, .int .i64 t] w (Makes B A F w (sealM L k n t)) := by
  have hm0 : Moves nobody w (w.alloc (.cells #[.int .i64 k, .int .i64 t] 36)) := (Moves.refl _ _).alloc _
  have ha0 := ha.moves hm0 fun _ _ h => h
  have hi : IdsAt (w.alloc (.cells #[.int .i64 k, .int .i64 t] 36)) (.slice (some ⟨w.heap.size, 0, none⟩) 2 2) [k, t] := ids_new w [k, t] 36
  have hb : Calls Tryz.prog 38 #[.pointer (some ⟨A, 0, none⟩), .agg #[.int .i64 9, .int .i64 0, .int .i64 n, .string ⟨#[]⟩, .string ⟨#[]⟩], .int .i64 5, .slice (some ⟨w.heap.size, 0, none⟩) 2 2] (w.alloc (.cells #[.int .i64 k, .int .i64 t] 36)) _ := build_any ha0 (h := ⟨9, 0, n, noStr⟩) (hdOk (by omega) (by omega) (by omega) noStr_le) (own := 5) (by omega) hi (by simp) hlen
  have HM := Lib.hid hm0
  clear hi ha0 hm0
  go_enter Tryz.func49, Tryz.ntmps49
  go_wp2_with (go_at_call 38; refine hb.mono ?_; rintro e w' ⟨rfl, h2⟩)
  go_ret
  exact ⟨rfl, Left.after HM.out h2⟩

theorem List_any {B A : Nat} {L : List Ent} {F : Nat → Prop} {w : World} (ha : ArenaAt B A L F w) (hlen : L.length < 1073741824) {v : Value} {l : List Int} (hv : IdsAt w v l) (hvl : l.length ≤ 65536) :
    Calls Tryz.prog 29 #[.pointer (some ⟨A, 0, none⟩), v] w (Makes B A F w (listM L l)) := by
  by_cases h1 : l.length ≤ 32
  · have hm : Hid (listM L l = built L ⟨10, 0, 0, noStr⟩ 5 l) := if_pos h1
    have hb : Calls Tryz.prog 38 #[.pointer (some ⟨A, 0, none⟩), .agg #[.int .i64 10, .int .i64 0, .int .i64 0, .string ⟨#[]⟩, .string ⟨#[]⟩], .int .i64 5, v] w _ := build_any ha (h := ⟨10, 0, 0, noStr⟩) (hdOk (by omega) (by omega) (by omega) noStr_le) (own := 5) (by omega) hv hvl hlen
    obtain ⟨ao, cap, rfl, _⟩ := hv
    go_enter Tryz.func29, Tryz.ntmps29
    go_wp2_with (go_at_call 38; refine hb.mono ?_; rintro e w' ⟨rfl, h2⟩)
    go_ret
    exact ⟨by rw [hm.out]; rfl, by rw [hm.out]; exact h2⟩
  · have hm : Hid (listM L l = (-1, L)) := if_neg h1
    obtain ⟨ao, cap, rfl, _⟩ := hv
    go_enter Tryz.func29, Tryz.ntmps29
    go_wp2_with fail
    go_ret
    exact makes_none ha (Below.refl _ _) hm.out rfl
end Go.Proofs.YtobhpclemmhpoaaGreatDoor
