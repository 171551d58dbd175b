/- Part 17 of what the statement wants. -/
import Derived.Laws.EntriesVeiled
import Derived.Test.YtlalkpgipenkaaaGreatDoorPk12
import Derived.Test.YtlalkpgipenkaaaGreatDoorPk15
import Derived.Test.YtlalkpgipenkaaaGreatDoorPk16
namespace Go.Proofs.YtlalkpgipenkaaaGreatDoor
open Go.RowKit

end Go.Proofs.YtlalkpgipenkaaaGreatDoor

namespace Go.Proofs.YtlalkpgipenkaaaGreatDoor
open Go.RowKit

end Go.Proofs.YtlalkpgipenkaaaGreatDoor

namespace Go.Proofs.YtlalkpgipenkaaaGreatDoor
open Go.RowKit

/-- What Decode answers, by what the reader left. -/
def decP (q : RT) : Int × Int := if q.2.2.2 = false ∧ q.2.2.1 = [] ∧ q.1 ≠ -1 then (q.1, 0) else (-1, 3)

set_option maxHeartbeats 4000000 in
set_option maxRecDepth 100000 in
theorem Decode_any {B A : Nat} {L : List Ent} {F : Nat → Prop} {w : World} {l : List UInt8} (ha : ArenaAt B A L F w) (hlen : L.length + 10 * l.length ≤ 1000000000) (hl : l.length ≤ 131072) :
    Calls Tryz.prog 102 #[.pointer (some ⟨A, 0, none⟩), .string (bs l)] w fun e w' => ∃ q : RT, Reads (l.length + 1) L l false q ∧ e = .returned (.tuple #[.int .i64 (decP q).1, .int .i64 (decP q).2]) ∧ Left B A q.2.1 F w w' := by
  have hR : RdAt (w.alloc (.cells #[.pointer (some ⟨A, 0, none⟩), .string (bs l), .bool false] 180)) w.heap.size A l false := Holds.new w _ _
  have hA := ha.below ((Below.refl _ _).alloc (Nat.le_refl _) (.cells #[.pointer (some ⟨A, 0, none⟩), .string (bs l), .bool false] 180))
  have hF : ¬ F w.heap.size := fun h => by have := (ha.lt _ h).2; omega
  have HT : Hid (Calls Tryz.prog 135 #[.pointer (some ⟨w.heap.size, 0, none⟩)] (w.alloc (.cells #[.pointer (some ⟨A, 0, none⟩), .string (bs l), .bool false] 180)) fun e w' => ∃ (t : Int) (L' : List Ent) (r' : List UInt8) (b' : Bool), Reads (l.length + 1) L l false (t, L', r', b') ∧ e = .returned (.int .i64 t) ∧ RdAt w' w.heap.size A r' b' ∧ Left B A L' F w w') := by
    refine (term_any B A w.heap.size (l.length + 1) _ L F l false hA hR hF hlen (by omega) (by omega)).mono ?_
    rintro e w' ⟨⟨t, L', r', b'⟩, h1, rfl, h2, _, _, F', h3, h4, h5⟩
    refine ⟨t, L', r', b', h1, rfl, h2, F', h3, ?_, fun k hk => (h5 k hk).imp_right fun h => by simp at h; omega⟩
    exact ((Moves.refl F w).alloc _).trans h4 fun k h => h.symm.imp_right fun e => by omega
  have hsz : (bs l).size ≤ 131072 := by rw [bs_size]; exact hl
  clear hA hR ha hF hlen hl
  have HG : Hid (bs l = bs l) := rfl
  generalize bs l = S at *
  go_enter Tryz.func102, Tryz.ntmps102
  go_upto_region 7 with (
    go_at_call 135
    refine HT.out.mono ?_
    rintro e w1 ⟨t, L', r', b', hq, rfl, h1, hl2⟩)
  have c1 : w1.cell? ⟨w.heap.size, 1, none⟩ = some (.string (bs r')) := Holds.cell h1 1
  have c2 : w1.cell? ⟨w.heap.size, 2, none⟩ = some (.bool b') := Holds.cell h1 2
  have Q := Lib.hid hq
  have HL := Lib.hid hl2
  clear hq hl2 HT HG
  cases b' with
  | true =>
    go_wp2_with fail
    go_ret2
    exact ⟨_, Q.out, by unfold decP; rw [if_neg (by simp)]; rfl, HL.out⟩
  | false =>
    cases r' with
    | nil =>
      replace c1 : w1.cell? ⟨w.heap.size, 1, none⟩ = some (.string ⟨#[]⟩) := c1
      by_cases ht : t = -1
      · subst ht
        go_wp2_with fail
        go_ret2
        exact ⟨_, Q.out, by unfold decP; rw [if_neg (by simp)]; rfl, HL.out⟩
      · have hb : (t == -1) = false := by simpa using ht
        have HT := Lib.hid ht
        clear ht
        go_wp2_with fail
        go_ret2
        exact ⟨_, Q.out, by unfold decP; rw [if_pos ⟨rfl, rfl, HT.out⟩]; rfl, HL.out⟩
    | cons x m =>
      have hz0 : (bs (x :: m)).size ≠ 0 := by rw [bs_size]; simp
      have hz : (bs (x :: m) == (⟨#[]⟩ : ByteArray)) = false := by
        have h1 : bs (x :: m) ≠ ⟨#[]⟩ := fun h => hz0 (by rw [h]; rfl)
        simpa using h1
      have hz2 : (bs (x :: m)).toList.isEmpty = false := none_no (by simp)
      clear hz0
      have HQ : Hid (decP (t, L', x :: m, false) = (-1, 3)) := by
        refine Lib.hid ?_
        unfold decP; rw [if_neg (by simp)]
      generalize bs (x :: m) = Z at *
      go_wp2_with fail
      go_ret2
      exact ⟨_, Q.out, by rw [HQ.out]; rfl, HL.out⟩

/-- What Opaque answers, by what the reader left. -/
def opaP (q : RT) : Bool := decide ((decP q).2 = 0 ∧ kindAt q.2.1 q.1 ≠ 1)

set_option maxHeartbeats 4000000 in
set_option maxRecDepth 100000 in
theorem Opaque_any {l : List UInt8} (hl : l.length ≤ 131072) (w : World) :
    Calls Tryz.prog 101 #[.string (bs l)] w fun e w' => ∃ q : RT, Reads (l.length + 1) [] l false q ∧ e = .returned (.bool (opaP q)) ∧ Below w.heap.size w w' := by
  have HD : Hid (∀ (w1 : World) (A : Nat) (F : Nat → Prop), ArenaAt w.heap.size A [] F w1 → Below w.heap.size w w1 → Calls Tryz.prog 102 #[.pointer (some ⟨A, 0, none⟩), .string (bs l)] w1 fun e w' => ∃ (t : Int) (L' : List Ent) (p : List UInt8 × Bool) (F' : Nat → Prop), Reads (l.length + 1) [] l false (t, L', p) ∧ e = .returned (.tuple #[.int .i64 (decP (t, L', p)).1, .int .i64 (decP (t, L', p)).2]) ∧ ArenaAt w.heap.size A L' F' w' ∧ Below w.heap.size w w') := fun w1 A F ha hb => by
    refine (Decode_any ha (by simp; omega) hl).mono ?_
    rintro e w' ⟨⟨t, L', p⟩, h1, rfl, F', h2, h3, h4⟩
    exact ⟨t, L', p, F', h1, rfl, h2, hb.trans (h3.below hb.size fun i h => (ha.lt i h).1)⟩
  have HN : Hid (Calls Tryz.prog 8 #[] w fun e w' => ∃ A F, e = .returned (.pointer (some ⟨A, 0, none⟩)) ∧ ArenaAt w.heap.size A [] F w' ∧ Below w.heap.size w w') := New_any w
  have HKK : Hid (∀ (W : World) (A : Nat) (L' : List Ent) (F' : Nat → Prop) (t : Int), ArenaAt w.heap.size A L' F' W → Calls Tryz.prog 13 #[.pointer (some ⟨A, 0, none⟩), .int .i64 t] W fun e w' => e = .returned (.int .i64 (kindAt L' t)) ∧ W = w') := fun W A L' F' t h => Kind_any h t
  generalize bs l = S at *
  go_enter Tryz.func101, Tryz.ntmps101
  go_upto_region 3 with (first
    | (go_at_call 8; refine HN.out.mono ?_; rintro e w1 ⟨A, F, rfl, h1, b1⟩)
    | (go_at_call 102; refine (HD.out _ _ _ h1 b1).mono ?_; rintro e w2 ⟨t, L', p, F', hq, rfl, h2, b2⟩))
  have Q := Lib.hid hq
  clear hq HD HN h1 b1
  by_cases hd : p.2 = false ∧ p.1 = [] ∧ t ≠ -1
  · have he : decP (t, L', p) = (t, 0) := by unfold decP; exact if_pos hd
    have ho : opaP (t, L', p) = !(kindAt L' t == 1) := by unfold opaP; rw [he]; by_cases hk : kindAt L' t = 1 <;> simp [hk]
    rw [he]
    have HO := Lib.hid ho
    clear he ho hd
    have hk := Lib.hid (HKK.out w2 A L' F' t h2)
    generalize kindAt L' t = kk at *
    clear h2 HKK
    go_wp2_with (go_at_call 13; with_reducible refine hk.out.mono ?_; rintro e w3 ⟨rfl, hw⟩; have hw := hw.symm; subst hw)
    go_ret
    exact ⟨_, Q.out, by rw [HO.out]; rfl, b2⟩
  · have he : decP (t, L', p) = (-1, 3) := by unfold decP; exact if_neg hd
    have ho : opaP (t, L', p) = false := by unfold opaP; rw [he]; simp
    rw [he]
    have HO := Lib.hid ho
    clear he ho hd h2 HKK
    go_wp2_with fail
    go_ret
    exact ⟨_, Q.out, by rw [HO.out]; rfl, b2⟩
end Go.Proofs.YtlalkpgipenkaaaGreatDoor
