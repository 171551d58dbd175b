/- Part 12 of what the statement wants. -/
import Derived.Shelf.Abstract
import Derived.Deep.Cut
import Derived.Test.YtpkkeeblgbdfdaaDoorPk04
import Derived.Test.YtpkkeeblgbdfdaaDoorPk11
namespace Go.Proofs.YtpkkeeblgbdfdaaDoor
open Go.RowKit

theorem mem_safes {l : List EvV} {k : Nat} (hk : k < l.length) : decide ((k : Int) ∈ safesL l l.length) = safeB l k := by
  have h : (k : Int) ∈ safesL l l.length ↔ safeB l k = true := by
    unfold safesL safesN
    rw [List.mem_map]
    constructor
    · rintro ⟨n, hn, he⟩
      have : n = k := Int.ofNat.inj he
      subst this
      exact (List.mem_filter.1 hn).2
    · exact fun h => ⟨k, List.mem_filter.2 ⟨List.mem_range.2 hk, h⟩, rfl⟩
  cases hs : safeB l k with
  | true => exact decide_eq_true (h.2 hs)
  | false => exact decide_eq_false fun e => by rw [h.1 e] at hs; cases hs
theorem safes_rise (l : List EvV) (n : Nat) : (safesL l n).Pairwise (· < ·) := by
  unfold safesL safesN
  rw [List.pairwise_map]
  exact (List.Pairwise.filter _ List.pairwise_lt_range).imp fun h => by simpa using h
end Go.Proofs.YtpkkeeblgbdfdaaDoor

namespace Go.Proofs.YtpkkeeblgbdfdaaDoor
open Go.RowKit Go.Maps Go.WideMaps

set_option maxRecDepth 100000 in
theorem slice_upto32 (ao : Option Addr) (ha : ∀ a, ao = some a → ∃ b off, a = ⟨b, off, none⟩) (n cap m : Nat) (hm : m ≤ cap) (i : Int) (hi : i = (m : Int)) (W : World) : (Instr.slice 22 (.slice ao n cap) none (some (.int .i64 i)) none).run Tryd.prog W = .ok (.slice ao m cap) W := by
  subst hi
  have h := run_slice_h (P := Tryd.prog) (w := W) 22 ao n cap Tryd.underlying22 .i64 (m : Int) (by omega) (by omega)
  rw [h]
  have : (sizeOf (Tryd.prog.elem 22)).run Tryd.prog W = .ok 34 W := by kernel_rfl
  rw [this]
  simp only [Result.andThen_ok]
  unfold sliced
  simp only [Int.toNat_natCast, Nat.sub_zero, Nat.zero_mul]
  have e : ao.map (·.add 0) = ao := by
    cases ao with
    | none => rfl
    | some a =>
      obtain ⟨b, off, rfl⟩ := ha a rfl
      simp [Addr.add_lit]
  by_cases hk : cap = 0
  · rw [if_pos hk]
  · rw [if_neg hk, e]
theorem EventsAt.upto {w : World} {ao : Option Addr} {cap : Nat} {l : List EvV} (h : EventsAt w (.slice ao l.length cap) l) {m : Nat} (hm : m ≤ l.length) : EventsAt w (.slice ao m cap) (l.take m) := by
  obtain ⟨ao', cap', he, hc⟩ := h
  simp only [Value.slice.injEq, true_and] at he
  obtain ⟨rfl, rfl⟩ := he
  refine ⟨ao, cap, by rw [List.length_take, Nat.min_eq_left hm], fun hne => ?_⟩
  obtain ⟨b, off, e, hb, hcell⟩ := hc (by rintro rfl; simp at hne)
  refine ⟨b, off, e, hb, fun k x hk j u hj => hcell k x ?_ j u hj⟩
  rw [List.getElem?_take] at hk
  split at hk
  · exact hk
  · cases hk
/-- A list of events with room for what its capacity says. -/
def EvsAt (w : World) (v : Value) (l : List EvV) : Prop := EventsAt w v l ∧ ∃ ao cap, v = .slice ao l.length cap ∧ l.length ≤ cap ∧ (l ≠ [] → ∀ a, ao = some a → ∃ b off, a = ⟨b, off, none⟩)
theorem EvsAt.of {w : World} {v : Value} {l : List EvV} (h : EventsAt w v l) (hc : ∀ ao cap, v = .slice ao l.length cap → l.length ≤ cap) : EvsAt w v l := by
  obtain ⟨ao, cap, rfl, hh⟩ := id h
  refine ⟨h, ao, cap, rfl, hc _ _ rfl, fun hne a ha => ?_⟩
  obtain ⟨b, off, e, _⟩ := hh hne
  rw [ha] at e
  exact ⟨b, off, Option.some.inj e⟩
theorem EvsAt.below {w w' : World} {v : Value} {l : List EvV} (h : EvsAt w v l) (hb : Below w.heap.size w w') : EvsAt w' v l := ⟨h.1.below hb, h.2⟩
theorem EvsAt.upto {w : World} {ao : Option Addr} {cap : Nat} {l : List EvV} (h : EvsAt w (.slice ao l.length cap) l) {m : Nat} (hm : m ≤ l.length) : EvsAt w (.slice ao m cap) (l.take m) := by
  obtain ⟨h1, ao', cap', he, hc, ha⟩ := h
  simp only [Value.slice.injEq, true_and] at he
  obtain ⟨rfl, rfl⟩ := he
  exact ⟨h1.upto hm, ao, cap, by rw [List.length_take, Nat.min_eq_left hm], by rw [List.length_take]; omega, fun hne => ha (by rintro rfl; simp at hne)⟩
def existsB (l : List EvV) (n : Int) : Bool := decide (0 ≤ n) && decide (n < l.length)
set_option maxHeartbeats 2000000 in
theorem exists_any (ao : Option Addr) (cap : Nat) (l : List EvV) (n : Int) (w : World) : Calls Tryd.prog 14 #[.slice ao l.length cap, .int .i64 n] w fun e w' => e = .returned (.bool (existsB l n)) ∧ w' = w := by
  by_cases h0 : n ≥ 0
  · have q0 : decide (n ≥ 0) = true := decide_eq_true h0
    by_cases h1 : n < l.length
    · have q1 : decide (n < (l.length : Int)) = true := decide_eq_true h1
      have HE : Hid (existsB l n = true) := by show _ = true; unfold existsB; rw [decide_eq_true h1, decide_eq_true (show 0 ≤ n from h0)]; rfl
      go_enter Tryd.func14, Tryd.ntmps14
      go_wp2_with fail
      go_ret
      exact ⟨by rw [HE.out]; rfl, rfl⟩
    · have q1 : decide (n < (l.length : Int)) = false := decide_eq_false h1
      have HE : Hid (existsB l n = false) := by show _ = false; unfold existsB; rw [decide_eq_false h1, Bool.and_false]
      go_enter Tryd.func14, Tryd.ntmps14
      go_wp2_with fail
      go_ret
      exact ⟨by rw [HE.out]; rfl, rfl⟩
  · have q0 : decide (n ≥ 0) = false := decide_eq_false h0
    have HE : Hid (existsB l n = false) := by show _ = false; unfold existsB; rw [decide_eq_false (show ¬ 0 ≤ n from h0)]; rfl
    go_enter Tryd.func14, Tryd.ntmps14
    go_wp2_with fail
    go_ret
    exact ⟨by rw [HE.out]; rfl, rfl⟩
/-- The safe events up to a place. -/
def SB (l : List EvV) (n : Nat) : List Int := safesL (l.take (n + 1)) (n + 1)
theorem SB_rise (l : List EvV) (n : Nat) : (SB l n).Pairwise (· < ·) := safes_rise _ _
theorem SB_len (l : List EvV) (n : Nat) : (SB l n).length ≤ n + 1 := safes_len _ _
set_option maxHeartbeats 4000000 in
set_option maxRecDepth 100000 in
theorem before_any {w : World} {v : Value} {l : List EvV} (h : EvsAt w v l) (hl : l.length ≤ 900) (ho : ∀ x ∈ l, ∀ u ∈ x.row.toList, CellOk u) {n : Nat} (hn : n < l.length) :
    Calls Tryd.prog 16 #[v, .int .i64 (n : Int)] w fun e w' => ∃ w0 v', e = .returned (.pointer (some ⟨w0.heap.size + 4, 0, none⟩)) ∧ PastAt w0 w' v' (SB l n) l n ∧ IdsAt w0 v' (SB l n) ∧ Below w.heap.size w w' ∧ Below w.heap.size w w0 := by
  obtain ⟨h1, ao, cap, rfl, hcap, haf0⟩ := h
  have haf := haf0 (by rintro rfl; simp at hn)
  have hs1 := slice_upto32 ao haf l.length cap (n + 1) (by omega) ((n : Int) + 1) rfl
  have hs2 := slice_upto32 ao haf l.length cap n (by omega) (n : Int) rfl
  have HSf : Hid (∀ W, Below w.heap.size w W → Calls Tryd.prog 19 #[.slice ao (n + 1) cap] W fun e w' => ∃ a m c, e = .returned (.slice a m c) ∧ IdsAt w' (.slice a m c) (SB l n) ∧ Below W.heap.size W w') := fun W hb => by
    have h2 := (h1.below hb).upto (m := n + 1) (by omega)
    have h3 := safes_any h2 (by rw [List.length_take]; omega) (fun x hx => ho x (List.mem_of_mem_take hx))
    have e : (l.take (n + 1)).length = n + 1 := by rw [List.length_take]; omega
    rw [e] at h3
    refine h3.mono ?_
    rintro e w' ⟨v', rfl, hi, hb'⟩
    obtain ⟨a, c, rfl, hh⟩ := hi
    exact ⟨a, _, c, rfl, ⟨a, c, rfl, hh⟩, hb'⟩
  have HNp : Hid (∀ W a m c, Calls Tryd.prog 18 #[.slice a m c] W fun e w' => e = .returned (.pointer (some ⟨W.heap.size + 4, 0, none⟩)) ∧ PastNew W (.slice a m c) w') := fun W a m c => newPast_any _ ⟨_, _, _, rfl⟩ W
  have HAd : Hid (∀ w0 W v' k (hk : k < n), PastAt w0 W v' (SB l n) l k → IdsAt w0 v' (SB l n) → Calls Tryd.prog 20 #[.pointer (some ⟨w0.heap.size + 4, 0, none⟩), .agg (l[k]'(by omega)).row] W fun e w' => e = .returned (.tuple #[]) ∧ PastAt w0 w' v' (SB l n) l (k + 1)) := fun w0 W v' k hk hp hi =>
    (add_any (x := l[k]'(by omega)) hp hi (SB_rise l n) (by have := SB_len l n; omega) (List.getElem?_eq_getElem (by omega)) (by omega) (ho _ (List.getElem_mem _))).mono fun e w' h => ⟨h.1, h.2.1⟩
  have HCl : Hid (∃ b off, ao = some ⟨b, off, none⟩ ∧ ∀ W, Below w.heap.size w W → ∀ k (hk : k < l.length), ∀ j u, (l[k]).row[j]? = some u → W.cell? ((⟨b, off + k * 34, none⟩ : Addr).add j) = some u) := by
    obtain ⟨ao', cap', he, hc⟩ := h1
    simp only [Value.slice.injEq, true_and] at he
    obtain ⟨b, off, e, hb, hcell⟩ := hc (by rintro rfl; simp at hn)
    refine ⟨b, off, he.1.trans e, fun W hw k hk j u hj => ?_⟩
    rw [Addr.add_lit]
    exact (hw.cell (p := ⟨b, off + k * 34 + j, none⟩) hb).trans (hcell k _ (List.getElem?_eq_getElem hk) j u hj)
  clear h1 ho haf haf0
  obtain ⟨b, off, rfl, hcell⟩ := HCl.out
  have HCe := Lib.hid hcell
  clear HCl hcell
  generalize SB l n = S at *
  go_enter Tryd.func16, Tryd.ntmps16
  go_wp2_with (first
    | (go_at_call 19; (with_reducible refine (HSf.out _ (Below.refl _ _)).mono ?_); rintro e w1 ⟨a1, m1, c1, rfl, hi1, b1⟩; have HI := Lib.hid hi1; have B1 := Lib.hid b1; clear hi1 b1)
    | (go_at_call 18; (with_reducible refine (HNp.out _ _ _ _).mono ?_); rintro e w2 ⟨rfl, hp⟩; have HP := Lib.hid hp; clear hp))
  have HP0 := Lib.hid (PastAt.made HP.out S l)
  clear HP HSf HNp
  go_loopw [18] (fun i wr => ∃ k : Nat, k ≤ n ∧ i = .int .i64 k ∧ Hid (PastAt w1 wr (.slice a1 m1 c1) S l k)) (fun i _ => n - (intOf i).toNat)
  case atStart => exact ⟨0, Nat.zero_le _, rfl, HP0⟩
  case round =>
    obtain ⟨k, hk, rfl, HPk⟩ := hrel
    have hbw : Below w1.heap.size w1 wr := by
      obtain ⟨_, _, _, _, _, _, _, _, hm, _⟩ := HPk.out
      exact hm.below
    have HBw : Hid (Below w.heap.size w wr) := Lib.hid (B1.out.trans (hbw.mono B1.out.size))
    clear hbw
    by_cases hlt : k < n
    · have HL := Lib.hid (HCe.out wr HBw.out k (by omega))
      have HS : Hid ((l[k]).row.size = 34 ∧ (l[k]).row.all (·.oneCell') = true) := ⟨rfl, EvV.row_one _⟩
      have HA := Lib.hid (fun W hp => HAd.out w1 W (.slice a1 m1 c1) k hlt hp HI.out)
      have hki : (k : Int) < (l.length : Int) := by omega
      clear HAd HCe
      generalize (l[k]).row = R at *
      go_upto_region 5 with (first
        | (refine wpList_load_cells rfl 45 _ rfl ⟨b, off + k * 34, none⟩ rfl R _ HL.out Tryd.underlying45 rfl (by rw [HS.out.1]; exact sizeEvent) ?_)
        | (refine wpList_store_new rfl 45 _ _ rfl wr.heap.size _ R 45 rfl rfl rfl (by rw [HS.out.1]; exact sizeEvent) (by rw [HS.out.1]; rfl) HS.out.2 ?_))
      have HP1 := Lib.hid (HPk.out.keep ((Below.refl _ wr).alloc (Nat.le_refl _) (.cells R 45)))
      have HE1 := Lib.hid (Holds.new wr 45 R)
      clear HL HPk
      go_wp2_with (first
        | (refine wpList_load_row rfl 45 _ rfl wr.heap.size rfl 45 R (0, 0) _ (by exact HE1.out) Tryd.underlying45 rfl (by rw [HS.out.1]; exact sizeEvent) ?_)
        | (go_at_call 20; (with_reducible refine (HA.out _ HP1.out).mono ?_); rintro e w3 ⟨rfl, hp⟩; have HP3 := Lib.hid hp; clear hp))
      go_roundw
      case rel => exact ⟨k + 1, by omega, by go_num, HP3⟩
      case measure => simp [intOf]; omega
    · have hkl : k = n := by omega
      subst hkl
      clear HAd HCe hlt
      go_wp2_with fail
      go_ret
      have hb0 : Below w.heap.size w wr := HBw.out
      exact ⟨w1, _, rfl, HPk.out, HI.out, hb0, B1.out⟩
end Go.Proofs.YtpkkeeblgbdfdaaDoor

namespace Go.Proofs.YtpkkeeblgbdfdaaDoor
open Go.RowKit Go.Maps Go.WideMaps

theorem PastAt.source {w0 w : World} {v : Value} {S : List Int} {l : List EvV} {k : Nat} (h : PastAt w0 w v S l k) {x : EvV} (hx : l[k]? = some x) (ho : ∀ u ∈ x.row.toList, CellOk u) :
    Calls Tryd.prog 38 #[.pointer (some ⟨w0.heap.size + 4, 0, none⟩), .agg x.row] w fun e w' => e = .returned (.tuple #[.int .i64 (((srcK l k).getD 0 : Nat) : Int), .bool (srcK l k).isSome]) ∧ Below w.heap.size w w' := by
  obtain ⟨n2, n3, n4, n5, f2, f3, f4, f5, hm, _, _, _, _, _, _, o4, _⟩ := h
  have h1 := source_any hm.box hm.first o4 x ho
  have e : srcK l k = sourceO (fun m => fstM l m k) x := by unfold srcK; rw [hx]
  rw [e]
  exact h1
theorem PastAt.asked {w0 w : World} {v : Value} {S : List Int} {l : List EvV} {k : Nat} (h : PastAt w0 w v S l k) (hi : IdsAt w0 v S) (hS : S.Pairwise (· < ·)) (hl : S.length ≤ 1000) {x : EvV} (hx : l[k]? = some x) (ho : ∀ u ∈ x.row.toList, CellOk u) :
    Calls Tryd.prog 39 #[.pointer (some ⟨w0.heap.size + 4, 0, none⟩), .agg x.row] w fun e w' => e = .returned (.bool (askK S l k)) ∧ Below w.heap.size w w' := by
  obtain ⟨n2, n3, n4, n5, f2, f3, f4, f5, hm, _, _, _, _, o2, _⟩ := h
  have h1 := asked_any hm.box hm.sess o2 (hi.keep hm.below.size fun _ _ _ _ _ hlt => hm.below.cell hlt) hS hl x ho
  have e : askK S l k = askedV S (fun z => sessS S l z k) k x := by unfold askK; rw [hx]
  rw [e]
  exact h1
end Go.Proofs.YtpkkeeblgbdfdaaDoor
