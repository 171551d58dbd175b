/- The walk of the law WireReads. -/
import Derived.Test.YtfbegkmogdjaiaaDoorWRef4
import Derived.Test.YtfbegkmogdjaiaaDoorWNil
import Derived.Deep.RegionHeld3
namespace Go.Proofs.YtfbegkmogdjaiaaDoor
open Go.RowKit

/-- A slice value that reads as these acts. -/
def ActsAt (w : World) (v : Value) (l : List (Int × Int)) : Prop :=
  ∃ ao cap, v = .slice ao l.length cap ∧ (l ≠ [] → ∃ b off, ao = some ⟨b, off, none⟩ ∧ b < w.heap.size ∧ ∀ k p, l[k]? = some p → w.cell? ⟨b, off + k * 2, none⟩ = some (.int .i64 p.1) ∧ w.cell? ⟨b, off + k * 2 + 1, none⟩ = some (.int .i64 p.2))

theorem countedP_rest (right : List UInt8 → Bool) (rest : List UInt8) (err : Int) : (countedP right rest err).2.1.length ≤ rest.length := by
  have h := Nat.le_trans (fixedP_rest right (u32Q rest err).1 (u32Q rest err).2.1 (u32Q rest err).2.2) (fixedP_rest anyR 4 rest err)
  unfold countedP
  show (if (fixedP right (u32Q rest err).1 (u32Q rest err).2.1 (u32Q rest err).2.2).2.2 = 0 then fixedP right (u32Q rest err).1 (u32Q rest err).2.1 (u32Q rest err).2.2 else ((fixedP right (u32Q rest err).1 (u32Q rest err).2.1 (u32Q rest err).2.2).1, rest, (fixedP right (u32Q rest err).1 (u32Q rest err).2.1 (u32Q rest err).2.2).2.2)).2.1.length ≤ _
  split
  · exact h
  · exact Nat.le_refl _

/-- Both readers stand alike. -/
structure Both (B R Q : Nat) (rest : List UInt8) (err : Int) (w wr : World) : Prop where
  r : WAt wr R rest err
  q : QAt wr Q rest err
  len : rest.length ≤ 500
  bel : Below B w wr
  hR : B ≤ R
  hQ : B ≤ Q
  ne : R ≠ Q

theorem Both.after {B R Q : Nat} {rest r2 : List UInt8} {err e2 : Int} {w wr w1 w2 : World} (h : Both B R Q rest err w wr) (hl : r2.length ≤ rest.length) (h1 : WAt w1 R r2 e2) (m1 : Moves (fun k => k = R) wr w1) (h2 : QAt w2 Q r2 e2) (m2 : Moves (fun k => k = Q) w1 w2) : Both B R Q r2 e2 w w2 := by
  have hwl := h.r.lt
  refine ⟨Holds.moves h1 m2 h.ne, h2, Nat.le_trans hl h.len, (h.bel.trans (m1.below (by have := h.hR; omega) fun i hi => by have := h.hR; omega)).trans (m2.below (by have := m1.size; have := h.hR; omega) fun i hi => by have := h.hQ; omega), h.hR, h.hQ, h.ne⟩
theorem Both.mid {B R Q : Nat} {rest : List UInt8} {err : Int} {w wr w1 : World} (h : Both B R Q rest err w wr) (m1 : Moves (fun k => k = R) wr w1) : QAt w1 Q rest err := Holds.moves h.q m1 (Ne.symm h.ne)
theorem Both.drewN {B R Q : Nat} {rest : List UInt8} {err : Int} {w wr : World} (h : Both B R Q rest err w wr) (n : Nat) : Both B R Q rest err w (wr.drewN n) :=
  ⟨h.r, h.q, h.len, ⟨h.bel.os, h.bel.tape, h.bel.output, h.bel.size, h.bel.block⟩, h.hR, h.hQ, h.ne⟩
theorem Both.drew {B R Q : Nat} {rest : List UInt8} {err : Int} {w wr : World} (h : Both B R Q rest err w wr) : Both B R Q rest err w wr.drew :=
  ⟨h.r, h.q, h.len, h.bel.drew, h.hR, h.hQ, h.ne⟩

set_option maxHeartbeats 2000000 in
set_option maxRecDepth 100000 in
theorem WireReads_small (s : List UInt8) (hs : s.length ≤ 500) (l : List (Int × Int)) (hl : l.length ≤ 50) (v : Value) (w : World) (hv : ActsAt w v l) :
    Calls Tryd.prog 3 #[.string (bs s), v] w fun e w' => e = .returned (.bool true) ∧ Below w.heap.size w w' := by
  obtain ⟨ao, cap, rfl, hc⟩ := hv
  have hsz := bs_size s
  have HA := Lib.hid awake3_any
  have HN := Lib.hid (fun W => wNew_any s W)
  have HQ0 : Hid (∀ (W : World), Holds (W.alloc (.cells #[.string (bs s), .int .i64 0] 28)) W.heap.size 28 #[.string (bs s), .int .i64 0]) := fun W => Holds.new W _ _
  have hbs : (bs s).size ≤ 500 := by omega
  go_enter Tryd.func3, Tryd.ntmps3
  go_wp2_with (go_at_call 9; refine (HN.out _).mono ?_; rintro e w1 ⟨rfl, h1, b1⟩)
  have hB0 : Both w.heap.size w.heap.size w1.heap.size s 0 w (w1.alloc (.cells #[.string (bs s), .int .i64 0] 28)) :=
    ⟨Holds.moves h1 ((Moves.refl nobody w1).alloc _) (fun h => h), HQ0.out w1, hs, b1.alloc b1.size _, Nat.le_refl _, b1.size, by have := h1.lt; omega⟩
  have hR0 : w1.heap.size = w1.heap.size := rfl
  obtain ⟨Q, hQ⟩ : ∃ Q, Q = w1.heap.size := ⟨_, rfl⟩
  rw [← hQ] at hB0 ⊢
  clear hR0 HQ0 HN hsz hbs
  go_loopw [7] (fun i wr => ∃ (k : Nat) (rest : List UInt8) (err : Int), k ≤ l.length ∧ i = .int .i64 k ∧ Both w.heap.size w.heap.size Q rest err w wr) (fun i _ => l.length - (intOf i).toNat)
  case atStart => exact ⟨0, s, 0, Nat.zero_le _, rfl, hB0⟩
  case round =>
    clear h1 hQ b1 hB0
    obtain ⟨k, rest, err, hk, rfl, HB⟩ := hrel
    by_cases hlt : k < l.length
    · obtain ⟨b, off, rfl, hb, hcell⟩ := hc (by intro h; simp [h] at hlt)
      obtain ⟨x, y, hxy⟩ : ∃ x y, l[k]? = some (x, y) := ⟨l[k].1, l[k].2, by simp [hlt]⟩
      obtain ⟨q1, q2⟩ := hcell k _ hxy
      have c1 : wr.cell? ⟨b, off + k * 2, none⟩ = some (.int .i64 x) := (HB.bel.cell (p := ⟨b, off + k * 2, none⟩) hb).trans q1
      have c2 : wr.cell? ⟨b, off + k * 2 + 1, none⟩ = some (.int .i64 y) := (HB.bel.cell (p := ⟨b, off + k * 2 + 1, none⟩) hb).trans q2
      have hrl : rest.length ≤ 10000 := by have := HB.len; omega
      have hrl2 : rest.length ≤ 1000000 := by have := HB.len; omega
      have hbl := HB.bel
      clear hc hcell hxy q1 q2 HA
      by_cases hx0 : x = 0
      · subst hx0
        have hf := rByte_any HB.r hrl2
        have hg := fun (W : World) (hq : QAt W Q rest err) => qByte_any hq hrl2
        have hle : (byteP rest err).2.1.length ≤ rest.length := fixedP_rest anyR 1 rest err
        generalize byteP rest err = p at *
        obtain ⟨vv, r2, e2⟩ := p
        simp only at hf hg hle
        have HF := Lib.hid hf
        have HG := Lib.hid hg
        clear hf hg hrl hrl2 c2
        go_wp2_with (first
          | (go_at_call 10; refine HF.out.mono ?_; rintro e w2 ⟨rfl, h1, m1⟩)
          | (go_at_call 11; refine (HG.out _ (HB.mid m1)).mono ?_; rintro e w3 ⟨rfl, h2, m2⟩))
        have HB2 := HB.after hle h1 m1 h2 m2
        have d0 := Holds.cell HB2.q 0
        have d1 := Holds.cell HB2.q 1
        have hz := bs_size r2
        have HE := Lib.hid (fun (n : Nat) => err_any (HB2.drewN n).r)
        have HL := Lib.hid (fun (n : Nat) => left_any (HB2.drewN n).r)
        have HD := Lib.hid (fun (n : Nat) => end_any (HB2.drewN n).r)
        have HQD := Lib.hid (fun (n : Nat) => qEnd_any (HB2.drewN n).q)
        have HB3 := Lib.hid (fun (n : Nat) => HB2.drewN n)
        clear HB2 h1 m1 h2 m2 HB
        generalize bs r2 = S2 at *
        generalize endP r2 e2 = ep at *
        go_quiet (first
          | (go_at_call 22; refine Calls.quiet_of_same (HE.out _))
          | (go_at_call 23; refine Calls.quiet_of_same (HL.out _))
          | (go_at_call 24; refine Calls.quiet_of_same (HD.out _))
          | (go_at_call 25; refine Calls.quiet_of_same (HQD.out _)))
        go_wp2_with fail
        go_roundw
        case rel => exact ⟨k + 1, r2, e2, by omega, by go_num, HB3.out _⟩
        case measure => simp [intOf]; omega
      have hx0q : (x == 0) = false := by simpa using hx0
      by_cases hx1 : x = 1
      · subst hx1
        have hf := rBool_any HB.r hrl2
        have hg := fun (W : World) (hq : QAt W Q rest err) => qBool_any hq hrl2
        have hle : (boolP rest err).2.1.length ≤ rest.length := fixedP_rest boolR 1 rest err
        generalize boolP rest err = p at *
        obtain ⟨vv, r2, e2⟩ := p
        simp only at hf hg hle
        have HF := Lib.hid hf
        have HG := Lib.hid hg
        clear hf hg hrl hrl2 c2
        go_wp2_with (first
          | (go_at_call 12; refine HF.out.mono ?_; rintro e w2 ⟨rfl, h1, m1⟩)
          | (go_at_call 13; refine (HG.out _ (HB.mid m1)).mono ?_; rintro e w3 ⟨rfl, h2, m2⟩))
        have HB2 := HB.after hle h1 m1 h2 m2
        have d0 := Holds.cell HB2.q 0
        have d1 := Holds.cell HB2.q 1
        have hz := bs_size r2
        have HE := Lib.hid (fun (n : Nat) => err_any (HB2.drewN n).r)
        have HL := Lib.hid (fun (n : Nat) => left_any (HB2.drewN n).r)
        have HD := Lib.hid (fun (n : Nat) => end_any (HB2.drewN n).r)
        have HQD := Lib.hid (fun (n : Nat) => qEnd_any (HB2.drewN n).q)
        have HB3 := Lib.hid (fun (n : Nat) => HB2.drewN n)
        clear HB2 h1 m1 h2 m2 HB
        generalize bs r2 = S2 at *
        generalize endP r2 e2 = ep at *
        go_quiet (first
          | (go_at_call 22; refine Calls.quiet_of_same (HE.out _))
          | (go_at_call 23; refine Calls.quiet_of_same (HL.out _))
          | (go_at_call 24; refine Calls.quiet_of_same (HD.out _))
          | (go_at_call 25; refine Calls.quiet_of_same (HQD.out _)))
        go_wp2_with fail
        go_roundw
        case rel => exact ⟨k + 1, r2, e2, by omega, by go_num, HB3.out _⟩
        case measure => simp [intOf]; omega
      have hx1q : (x == 1) = false := by simpa using hx1
      by_cases hx2 : x = 2
      · subst hx2
        have hf := rU32_any HB.r hrl2
        have hg := fun (W : World) (hq : QAt W Q rest err) => qU32_any hq hrl2
        have hle : (u32Q rest err).2.1.length ≤ rest.length := fixedP_rest anyR 4 rest err
        generalize u32Q rest err = p at *
        obtain ⟨vv, r2, e2⟩ := p
        simp only at hf hg hle
        have HF := Lib.hid hf
        have HG := Lib.hid hg
        clear hf hg hrl hrl2 c2
        go_wp2_with (first
          | (go_at_call 14; refine HF.out.mono ?_; rintro e w2 ⟨rfl, h1, m1⟩)
          | (go_at_call 15; refine (HG.out _ (HB.mid m1)).mono ?_; rintro e w3 ⟨rfl, h2, m2⟩))
        have HB2 := HB.after hle h1 m1 h2 m2
        have d0 := Holds.cell HB2.q 0
        have d1 := Holds.cell HB2.q 1
        have hz := bs_size r2
        have HE := Lib.hid (fun (n : Nat) => err_any (HB2.drewN n).r)
        have HL := Lib.hid (fun (n : Nat) => left_any (HB2.drewN n).r)
        have HD := Lib.hid (fun (n : Nat) => end_any (HB2.drewN n).r)
        have HQD := Lib.hid (fun (n : Nat) => qEnd_any (HB2.drewN n).q)
        have HB3 := Lib.hid (fun (n : Nat) => HB2.drewN n)
        clear HB2 h1 m1 h2 m2 HB
        generalize bs r2 = S2 at *
        generalize endP r2 e2 = ep at *
        go_quiet (first
          | (go_at_call 22; refine Calls.quiet_of_same (HE.out _))
          | (go_at_call 23; refine Calls.quiet_of_same (HL.out _))
          | (go_at_call 24; refine Calls.quiet_of_same (HD.out _))
          | (go_at_call 25; refine Calls.quiet_of_same (HQD.out _)))
        go_wp2_with fail
        go_roundw
        case rel => exact ⟨k + 1, r2, e2, by omega, by go_num, HB3.out _⟩
        case measure => simp [intOf]; omega
      have hx2q : (x == 2) = false := by simpa using hx2
      by_cases hx3 : x = 3
      · subst hx3
        have hf := rText_any HB.r hrl2
        have hg := fun (W : World) (hq : QAt W Q rest err) => qText_any hq hrl2
        have hle : (countedP anyR rest err).2.1.length ≤ rest.length := countedP_rest anyR rest err
        generalize countedP anyR rest err = p at *
        obtain ⟨vv, r2, e2⟩ := p
        simp only at hf hg hle
        generalize bs vv = VV at *
        have HF := Lib.hid hf
        have HG := Lib.hid hg
        clear hf hg hrl hrl2 c2
        go_wp2_with (first
          | (go_at_call 16; refine HF.out.mono ?_; rintro e w2 ⟨rfl, h1, m1⟩)
          | (go_at_call 17; refine (HG.out _ (HB.mid m1)).mono ?_; rintro e w3 ⟨rfl, h2, m2⟩))
        have HB2 := HB.after hle h1 m1 h2 m2
        have d0 := Holds.cell HB2.q 0
        have d1 := Holds.cell HB2.q 1
        have hz := bs_size r2
        have HE := Lib.hid (fun (n : Nat) => err_any (HB2.drewN n).r)
        have HL := Lib.hid (fun (n : Nat) => left_any (HB2.drewN n).r)
        have HD := Lib.hid (fun (n : Nat) => end_any (HB2.drewN n).r)
        have HQD := Lib.hid (fun (n : Nat) => qEnd_any (HB2.drewN n).q)
        have HB3 := Lib.hid (fun (n : Nat) => HB2.drewN n)
        clear HB2 h1 m1 h2 m2 HB
        generalize bs r2 = S2 at *
        generalize endP r2 e2 = ep at *
        go_quiet (first
          | (go_at_call 22; refine Calls.quiet_of_same (HE.out _))
          | (go_at_call 23; refine Calls.quiet_of_same (HL.out _))
          | (go_at_call 24; refine Calls.quiet_of_same (HD.out _))
          | (go_at_call 25; refine Calls.quiet_of_same (HQD.out _)))
        go_wp2_with fail
        go_roundw
        case rel => exact ⟨k + 1, r2, e2, by omega, by go_num, HB3.out _⟩
        case measure => simp [intOf]; omega
      have hx3q : (x == 3) = false := by simpa using hx3
      by_cases hx4 : x = 4
      · subst hx4
        have hf := rWhole_any HB.r hrl2
        have hg := fun (W : World) (hq : QAt W Q rest err) => qWhole_any hq hrl
        have hle : (countedP wholeR rest err).2.1.length ≤ rest.length := countedP_rest wholeR rest err
        generalize countedP wholeR rest err = p at *
        obtain ⟨vv, r2, e2⟩ := p
        simp only at hf hg hle
        generalize bs (plainL vv) = VV at *
        have HF := Lib.hid hf
        have HG := Lib.hid hg
        clear hf hg hrl hrl2 c2
        go_wp2_with (first
          | (go_at_call 18; refine HF.out.mono ?_; rintro e w2 ⟨rfl, h1, m1⟩)
          | (go_at_call 19; refine (HG.out _ (HB.mid m1)).mono ?_; rintro e w3 ⟨rfl, h2, m2⟩))
        have HB2 := HB.after hle h1 m1 h2 m2
        have d0 := Holds.cell HB2.q 0
        have d1 := Holds.cell HB2.q 1
        have hz := bs_size r2
        have HE := Lib.hid (fun (n : Nat) => err_any (HB2.drewN n).r)
        have HL := Lib.hid (fun (n : Nat) => left_any (HB2.drewN n).r)
        have HD := Lib.hid (fun (n : Nat) => end_any (HB2.drewN n).r)
        have HQD := Lib.hid (fun (n : Nat) => qEnd_any (HB2.drewN n).q)
        have HB3 := Lib.hid (fun (n : Nat) => HB2.drewN n)
        clear HB2 h1 m1 h2 m2 HB
        generalize bs r2 = S2 at *
        generalize endP r2 e2 = ep at *
        go_quiet (first
          | (go_at_call 22; refine Calls.quiet_of_same (HE.out _))
          | (go_at_call 23; refine Calls.quiet_of_same (HL.out _))
          | (go_at_call 24; refine Calls.quiet_of_same (HD.out _))
          | (go_at_call 25; refine Calls.quiet_of_same (HQD.out _)))
        go_wp2_with fail
        go_roundw
        case rel => exact ⟨k + 1, r2, e2, by omega, by go_num, HB3.out _⟩
        case measure => simp [intOf]; omega
      have hx4q : (x == 4) = false := by simpa using hx4
      have HBd := HB.drew
      have hbw : b < wr.drew.heap.size := by have := HB.bel.size; show b < wr.heap.size; omega
      have hbR : b ≠ w.heap.size := by omega
      have hbQ : b ≠ Q := by have := HB.hQ; omega
      have c3 : wr.drew.cell? ⟨b, off + k * 2 + 1, none⟩ = some (.int .i64 y) := c2
      have hf := rBytes_any HBd.r hrl2 y
      have hg := fun (W : World) (hq : QAt W Q rest err) => qBytes_any hq hrl2 y
      have hle : (fixedP anyR y rest err).2.1.length ≤ rest.length := fixedP_rest anyR y rest err
      generalize fixedP anyR y rest err = p at *
      obtain ⟨vv, r2, e2⟩ := p
      simp only at hf hg hle
      generalize bs vv = VV at *
      have HF := Lib.hid hf
      have HG := Lib.hid hg
      clear hf hg hrl hrl2 HB
      have HB := Lib.hid HBd
      clear HBd
      go_wp2_with fail
      go_region_held3 (fun w' => w'.cell? ⟨b, off + k * 2 + 1, none⟩ = some (.int .i64 y))
        (first | with_reducible exact c3 | with_reducible exact z1 | with_reducible exact z2 | go_keep)
        (first
          | (go_at_call 20; refine HF.out.mono ?_; rintro e w2 ⟨rfl, h1, m1⟩; have z1 := (m1.cell (p := ⟨b, off + k * 2 + 1, none⟩) hbw hbR).trans c3)
          | (go_at_call 21; refine (HG.out _ (HB.out.mid m1)).mono ?_; rintro e w3 ⟨rfl, h2, m2⟩; have z2 := (m2.cell (p := ⟨b, off + k * 2 + 1, none⟩) (Nat.lt_of_lt_of_le hbw m1.size) hbQ).trans z1))
      go_wp2_with fail
      have HB2 := HB.out.after hle h1 m1 h2 m2
      have d0 := Holds.cell HB2.q 0
      have d1 := Holds.cell HB2.q 1
      have hz := bs_size r2
      have HE := Lib.hid (fun (n : Nat) => err_any (HB2.drewN n).r)
      have HL := Lib.hid (fun (n : Nat) => left_any (HB2.drewN n).r)
      have HD := Lib.hid (fun (n : Nat) => end_any (HB2.drewN n).r)
      have HQD := Lib.hid (fun (n : Nat) => qEnd_any (HB2.drewN n).q)
      have HB3 := Lib.hid (fun (n : Nat) => HB2.drewN n)
      clear HB2 h1 m1 h2 m2 HB
      generalize bs r2 = S2 at *
      generalize endP r2 e2 = ep at *
      go_quiet (first
        | (go_at_call 22; refine Calls.quiet_of_same (HE.out _))
        | (go_at_call 23; refine Calls.quiet_of_same (HL.out _))
        | (go_at_call 24; refine Calls.quiet_of_same (HD.out _))
        | (go_at_call 25; refine Calls.quiet_of_same (HQD.out _)))
      go_wp2_with fail
      go_roundw
      case rel => exact ⟨k + 1, r2, e2, by omega, by go_num, HB3.out _⟩
      case measure => simp [intOf]; omega
    · have hkl : k = l.length := by omega
      subst hkl
      have HBB := Lib.hid HB
      clear hlt hc HB
      go_wp2_with (first
        | (go_at_call 8; refine (HA.out _).mono ?_; rintro e w2 ⟨rfl, b2⟩)
        | (go_at_call 10; refine (rByte_nil _).mono ?_; rintro e w3 ⟨rfl, rfl⟩)
        | (go_at_call 12; refine (rBool_nil _).mono ?_; rintro e w4 ⟨rfl, rfl⟩)
        | (go_at_call 14; refine (rU32_nil _).mono ?_; rintro e w5 ⟨rfl, b5⟩)
        | (go_at_call 16; refine (rText_nil _).mono ?_; rintro e w6 ⟨rfl, rfl⟩)
        | (go_at_call 18; refine (rWhole_nil _).mono ?_; rintro e w7 ⟨rfl, rfl⟩)
        | (go_at_call 20; refine (rBytes_nil _ _).mono ?_; rintro e w8 ⟨rfl, rfl⟩)
        | (go_at_call 23; refine (left_nil _).mono ?_; rintro e w9 ⟨rfl, rfl⟩)
        | (go_at_call 22; refine (err_nil _).mono ?_; rintro e w10 ⟨rfl, rfl⟩)
        | (go_at_call 24; refine (end_nil _).mono ?_; rintro e w11 ⟨rfl, rfl⟩))
      go_ret
      exact ⟨rfl, (HBB.out.bel.trans (b2.mono HBB.out.bel.size)).trans (b5.mono (Nat.le_trans HBB.out.bel.size b2.size))⟩
end Go.Proofs.YtfbegkmogdjaiaaDoor
