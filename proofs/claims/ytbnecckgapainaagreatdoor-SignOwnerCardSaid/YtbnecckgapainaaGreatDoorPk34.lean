/- Part 34 of what the statement wants. -/
import Derived.OpenShut
import Derived.WideKeyArgs
import Derived.Deep.Slices
import Derived.Test.YtbnecckgapainaaGreatDoorPk00
import Derived.Test.YtbnecckgapainaaGreatDoorPk23
import Derived.Test.YtbnecckgapainaaGreatDoorPk33
namespace Go.Proofs.YtbnecckgapainaaGreatDoor
open Go.RowKit

set_option maxRecDepth 100000 in
theorem sizeMade22 : (Tryz.prog.info? 47).map (·.size) = some 2 := by kernel_rfl
/-- The box of what the harness made, behind an alloc. -/
theorem made_box22 {w2 : World} {ai at' : Option Addr} {n ci ct : Nat} {ids : List Int} {texts : List (List UInt8)} {W3 : World} (hW : W3 = w2.alloc (.cells #[.slice ai n ci, .slice at' n ct] 47)) (hI : IdsAt w2 (.slice ai n ci) ids) (hT : TextsAt w2 (.slice at' n ct) (texts.map bs)) (hl : ids.length = n ∧ texts.length = n) (hn : n ≤ 1000000) :
    Holds W3 w2.heap.size 47 #[.slice ai n ci, .slice at' n ct] ∧ ∀ (i : Int) (W : World), Below W3.heap.size W3 W → Calls Tryz.prog 23 #[.agg #[.slice ai n ci, .slice at' n ct], .int .i64 i] W fun e w' => e = .returned (.tuple #[.int .i64 (pickP ids texts i).1, .string (bs (pickP ids texts i).2)]) ∧ Below W.heap.size W w' := by
  subst hW
  refine ⟨Holds.new w2 _ _, fun i W hb => ?_⟩
  have h0 : Below w2.heap.size w2 W := ((Below.refl _ _).alloc (Nat.le_refl _) _).trans (hb.mono (by rw [World.size_alloc]; omega))
  exact Pick_any (hI.below h0) (hT.below h0) (by omega) (by omega) i


theorem makes_below22 {w W0 : World} {v : Value} {l : List MakeR} (hM : MakesAt w v l) (b0 : Below w.heap.size w W0) : MakesAt W0 v l := by
  obtain ⟨ao, cap, rfl, hc⟩ := hM
  refine ⟨ao, cap, rfl, fun hne => ?_⟩
  obtain ⟨b, off, e1, hb, h⟩ := hc hne
  refine ⟨b, off, e1, Nat.lt_of_lt_of_le hb b0.size, fun k x hk => ?_⟩
  obtain ⟨c0, c1, c2, c3, c4⟩ := h k x hk
  exact ⟨(b0.cell (p := ⟨b, off + k * 5, none⟩) hb).trans c0, (b0.cell (p := ⟨b, off + k * 5 + 1, none⟩) hb).trans c1, (b0.cell (p := ⟨b, off + k * 5 + 2, none⟩) hb).trans c2, (b0.cell (p := ⟨b, off + k * 5 + 3, none⟩) hb).trans c3, (b0.cell (p := ⟨b, off + k * 5 + 4, none⟩) hb).trans c4⟩
set_option maxHeartbeats 4000000 in
set_option maxRecDepth 100000 in
theorem SignOwner_small {w : World} (hg : TypeOfError w) {v : Value} {l : List MakeR} (hM : MakesAt w v l) (hl : l.length ≤ 20) (hs : ∀ x ∈ l, x.s.length ≤ 200) (x who : Int) :
    Calls Tryz.prog 8 #[v, .int .i64 x, .int .i64 who] w fun e w' => e = .returned (.bool true) ∧ Below w.heap.size w w' := by
  have hfew : fewP l 20 = true := decide_eq_true ⟨by omega, hs⟩
  have HFw := few_any hM 20 (fun x hx => by have := hs x hx; omega) (by omega)
  rw [hfew] at HFw
  have HFw := Lib.hid HFw
  have HN := Lib.hid (taNew w)
  have HMk : Hid (∀ (A : Nat) (W : World), Ta w.heap.size w A [] 0 W → Calls Tryz.prog 14 #[.pointer (some ⟨A, 0, none⟩), v] W fun e w' => ∃ (ids : List Int) (texts : List (List UInt8)) (ai : Option Addr) (ci : Nat) (at' : Option Addr) (ct : Nat), e = .returned (.agg #[.slice ai l.length ci, .slice at' l.length ct]) ∧
      (ids.length = l.length ∧ texts.length = l.length) ∧ IdsAt w' (.slice ai l.length ci) ids ∧ TextsAt w' (.slice at' l.length ct) (texts.map bs) ∧ Ta w.heap.size w A (ids.zip texts) l.length w') := fun A W h => taMakes hM (Below.refl _ _) (Nat.le_refl _) h (by omega) (fun x hx => by have := hs x hx; omega)
  have HAw : Hid (∀ W, Below w.heap.size w W → Calls Tryz.prog 22 #[] W fun e w' => e = .returned (.bool true) ∧ Below W.heap.size W w') := fun W hb => awake22_any W (hg.later hb)
  obtain ⟨ao0, cap0, rfl, _⟩ := id hM
  clear hM hs hfew
  go_enter Tryz.func8, Tryz.ntmps8
  go_upto_region 5 with (first
    | (go_at_call 9; (with_reducible refine HFw.out.mono ?_); rintro e w' ⟨rfl, hw⟩; have hw := hw.symm; subst hw)
    | (go_at_call 12; (with_reducible refine HN.out.mono ?_); rintro e w1 ⟨A, rfl, t1⟩)
    | (go_at_call 14; (with_reducible refine (HMk.out _ _ t1).mono ?_); rintro e w2 ⟨ids, texts, ai, ci, at', ct, rfl, hln, hI, hT, t2⟩))
  obtain ⟨W3, hW3⟩ : ∃ W3, W3 = w2.alloc (.cells #[.slice ai l.length ci, .slice at' l.length ct] 47) := ⟨_, rfl⟩
  rw [← hW3]
  obtain ⟨hBx, hPk⟩ := made_box22 hW3 hI hT hln (by omega)
  have t3 : Ta w.heap.size w A (ids.zip texts) l.length W3 := by rw [hW3]; exact t2.alloc _
  have hln' : ids.length = texts.length := by omega
  have hp0 := pick_in hln' x
  have hP0 := hPk x W3 (Below.refl _ _)
  generalize pickP ids texts x = p0 at *
  obtain ⟨i, s⟩ := p0
  simp only at hP0
  have t4 : Ta w.heap.size w A [(i, s)] 20 W3 := (t3.cons hp0).mono (by omega) (fun p hp => by rw [List.mem_singleton.1 hp]; exact .head _)
  have HP := Lib.hid hP0
  have HT4 := Lib.hid t4
  have hps := t4.pubOk (.head _)
  have HO : Hid (∀ W, Ta w.heap.size w A [(i, s)] 20 W → Calls Tryz.prog 40 #[.pointer (some ⟨A, 0, none⟩), .int .i64 i] W fun e w' => e = .returned (.tuple #[.int .i64 (ownerP s).1, .bool (ownerP s).2]) ∧ Below W.heap.size W w') := fun W h => snOwner_any h (.head _)
  have HRO := Lib.hid (fun W => r22Owner_any s hps W)
  have HK : Hid (∀ W, Ta w.heap.size w A [(i, s)] 20 W → Calls Tryz.prog 27 #[.pointer (some ⟨A, 0, none⟩), .int .i64 who] W (TaPost w.heap.size w A [(i, s)] 21 W (refKeyL who))) := fun W h => taKey h (by omega) who
  have HPb : Hid (∀ (k : Int) W, Ta w.heap.size w A [(k, refKeyL who), (i, s)] 21 W → Calls Tryz.prog 26 #[.pointer (some ⟨A, 0, none⟩), .int .i64 k] W (TaPost w.heap.size w A [(k, refKeyL who), (i, s)] 22 W (pubL who))) := fun k W h => taPub h (by omega) (.head _)
  have hO2 : ∀ (p k : Int) W, Ta w.heap.size w A [(p, pubL who), (k, refKeyL who), (i, s)] 22 W → Calls Tryz.prog 40 #[.pointer (some ⟨A, 0, none⟩), .int .i64 p] W fun e w' => e = .returned (.tuple #[.int .i64 (ownerP (pubL who)).1, .bool (ownerP (pubL who)).2]) ∧ Below W.heap.size W w' := fun p k W h => snOwner_any h (.head _)
  have q1 : ((ownerP s).1 != (ownerP s).1) = false := by simp
  have q2 : ((ownerP s).2 != (ownerP s).2) = false := by simp
  have qw : (who == who) = true := by simp
  have HNd : Hid (Below W3.heap.size W3 W3) := Below.refl _ _
  generalize w2.heap.size = N at *
  by_cases hw : who < 0
  · have e1 : ownerP (pubL who) = (0, false) := by rw [pubL_out (.inl hw)]; rfl
    rw [e1] at hO2
    have HO2 := Lib.hid hO2
    have qr : decide (who < 0) = true := decide_eq_true hw
    clear hW3 hI hT hln t3 hln' hp0 hPk hP0 t4 hps hO2 hw e1 HMk HN HFw t1 t2 hg
    generalize (ownerP s).1 = y at *
    generalize (ownerP s).2 = z at *
    generalize bs s = S at *
    generalize pubL who = PW at *
    generalize refKeyL who = KW at *
    go_wp2_with (first
      | (go_at_call 23; (with_reducible refine HP.out.mono ?_); rintro e w4 ⟨rfl, b4⟩; have t4 := HT4.out.below b4)
      | (go_at_call 40; (with_reducible refine (HO.out _ t4).mono ?_); rintro e w5 ⟨rfl, b5⟩; have t5 := t4.below b5)
      | (go_at_call 41; (with_reducible refine (HRO.out _).mono ?_); rintro e w6 ⟨rfl, b6⟩; have t6 := t5.below b6)
      | (go_at_call 27; (with_reducible refine (HK.out _ t6).mono ?_); rintro e w7 ⟨k, rfl, t7, _⟩)
      | (go_at_call 26; (with_reducible refine (HPb.out _ _ t7).mono ?_); rintro e w8 ⟨p, rfl, t8, _⟩)
      | (go_at_call 40; (with_reducible refine (HO2.out _ _ _ t8).mono ?_); rintro e w9 ⟨rfl, b9⟩; have t9 := t8.below b9)
      | (go_at_call 22; (with_reducible refine (HAw.out _ t9.bel).mono ?_); rintro e w10 ⟨rfl, b10⟩; have t10 := t9.below b10)
      | (refine wpList_load_row rfl 47 _ rfl N rfl 47 _ (0, 0) _ hBx Tryz.underlying47 rfl sizeMade22 ?_)
      | fail)
    go_ret
    exact ⟨rfl, t10.bel⟩
  by_cases hw2 : who > 2147483647
  · have e1 : ownerP (pubL who) = (0, false) := by rw [pubL_out (.inr hw2)]; rfl
    rw [e1] at hO2
    have HO2 := Lib.hid hO2
    have qr : decide (who < 0) = false := decide_eq_false hw
    have qr2 : decide (who > 2147483647) = true := decide_eq_true hw2
    clear hW3 hI hT hln t3 hln' hp0 hPk hP0 t4 hps hO2 hw e1 hw2 HMk HN HFw t1 t2 hg
    generalize (ownerP s).1 = y at *
    generalize (ownerP s).2 = z at *
    generalize bs s = S at *
    generalize pubL who = PW at *
    generalize refKeyL who = KW at *
    go_wp2_with (first
      | (go_at_call 23; (with_reducible refine HP.out.mono ?_); rintro e w4 ⟨rfl, b4⟩; have t4 := HT4.out.below b4)
      | (go_at_call 40; (with_reducible refine (HO.out _ t4).mono ?_); rintro e w5 ⟨rfl, b5⟩; have t5 := t4.below b5)
      | (go_at_call 41; (with_reducible refine (HRO.out _).mono ?_); rintro e w6 ⟨rfl, b6⟩; have t6 := t5.below b6)
      | (go_at_call 27; (with_reducible refine (HK.out _ t6).mono ?_); rintro e w7 ⟨k, rfl, t7, _⟩)
      | (go_at_call 26; (with_reducible refine (HPb.out _ _ t7).mono ?_); rintro e w8 ⟨p, rfl, t8, _⟩)
      | (go_at_call 40; (with_reducible refine (HO2.out _ _ _ t8).mono ?_); rintro e w9 ⟨rfl, b9⟩; have t9 := t8.below b9)
      | (go_at_call 22; (with_reducible refine (HAw.out _ t9.bel).mono ?_); rintro e w10 ⟨rfl, b10⟩; have t10 := t9.below b10)
      | (refine wpList_load_row rfl 47 _ rfl N rfl 47 _ (0, 0) _ hBx Tryz.underlying47 rfl sizeMade22 ?_)
      | fail)
    go_ret
    exact ⟨rfl, t10.bel⟩
  · have e1 : ownerP (pubL who) = (who, true) := by
      obtain ⟨x, hx⟩ : ∃ x : Nat, who = x := ⟨who.toNat, by omega⟩
      rw [hx]
      exact owner_pub (by omega)
    rw [e1] at hO2
    have HO2 := Lib.hid hO2
    have qr : decide (who < 0) = false := decide_eq_false hw
    have qr2 : decide (who > 2147483647) = false := decide_eq_false hw2
    clear hW3 hI hT hln t3 hln' hp0 hPk hP0 t4 hps hO2 hw e1 hw2 HMk HN HFw t1 t2 hg
    generalize (ownerP s).1 = y at *
    generalize (ownerP s).2 = z at *
    generalize bs s = S at *
    generalize pubL who = PW at *
    generalize refKeyL who = KW at *
    go_wp2_with (first
      | (go_at_call 23; (with_reducible refine HP.out.mono ?_); rintro e w4 ⟨rfl, b4⟩; have t4 := HT4.out.below b4)
      | (go_at_call 40; (with_reducible refine (HO.out _ t4).mono ?_); rintro e w5 ⟨rfl, b5⟩; have t5 := t4.below b5)
      | (go_at_call 41; (with_reducible refine (HRO.out _).mono ?_); rintro e w6 ⟨rfl, b6⟩; have t6 := t5.below b6)
      | (go_at_call 27; (with_reducible refine (HK.out _ t6).mono ?_); rintro e w7 ⟨k, rfl, t7, _⟩)
      | (go_at_call 26; (with_reducible refine (HPb.out _ _ t7).mono ?_); rintro e w8 ⟨p, rfl, t8, _⟩)
      | (go_at_call 40; (with_reducible refine (HO2.out _ _ _ t8).mono ?_); rintro e w9 ⟨rfl, b9⟩; have t9 := t8.below b9)
      | (go_at_call 22; (with_reducible refine (HAw.out _ t9.bel).mono ?_); rintro e w10 ⟨rfl, b10⟩; have t10 := t9.below b10)
      | (refine wpList_load_row rfl 47 _ rfl N rfl 47 _ (0, 0) _ hBx Tryz.underlying47 rfl sizeMade22 ?_)
      | fail)
    go_ret
    exact ⟨rfl, t10.bel⟩

set_option maxHeartbeats 1000000 in
set_option maxRecDepth 100000 in
theorem SignOwner_any {w : World} (hg : TypeOfError w) {v : Value} {l : List MakeR} (hM : MakesAt w v l) (hlm : l.length ≤ maxLen) (hls : ∀ x ∈ l, x.s.length ≤ maxLen) (x who : Int) :
    Calls Tryz.prog 8 #[v, .int .i64 x, .int .i64 who] w fun e w' => e = .returned (.bool true) ∧ Below w.heap.size w w' := by
  by_cases hf : l.length ≤ 20 ∧ ∀ x ∈ l, x.s.length ≤ 200
  · exact SignOwner_small hg hM hf.1 hf.2 x who
  · have hfew : fewP l 20 = false := decide_eq_false (fun h => hf ⟨by omega, h.2⟩)
    have HFw := few_any hM 20 hls hlm
    rw [hfew] at HFw
    have HFw := Lib.hid HFw
    have HAw := Lib.hid (awake22_any w hg)
    obtain ⟨ao0, cap0, rfl, _⟩ := id hM
    clear hM hls hfew hf hg
    go_enter Tryz.func8, Tryz.ntmps8
    go_wp2_with (first
      | (go_at_call 9; (with_reducible refine HFw.out.mono ?_); rintro e w' ⟨rfl, hw⟩; have hw := hw.symm; subst hw)
      | (go_at_call 22; (with_reducible refine HAw.out.mono ?_); rintro e w1 ⟨rfl, b1⟩))
    go_ret
    exact ⟨rfl, b1⟩
end Go.Proofs.YtbnecckgapainaaGreatDoor

namespace Go.Proofs.YtbnecckgapainaaGreatDoor
open Go.RowKit Go.WideShapes Go.ChangeShapes Go.Deep
section
variable {H : Type} {enc : TypeId × Value → H} {w : World} {base : Nat} {spare : Nat → Bool} {held : Bool}
set_option maxRecDepth 100000 in
theorem cellsInt1 : Tryz.prog.cellsOf 3 = 1 := by kernel_rfl
set_option maxRecDepth 100000 in
theorem cellsMake : Tryz.prog.cellsOf 91 = 5 := by kernel_rfl
set_option maxRecDepth 100000 in
theorem cellsStrM : Tryz.prog.cellsOf 9 = 1 := by kernel_rfl

set_option maxRecDepth 100000 in
theorem open_makes {v : Value} {d : DataW H} {p : List MemPlace} {b0 : Nat} (hv : Value.okWide Tryz.prog w .any b0 22 v) (h : DataW.Trod enc Tryz.prog w base (fun _ => true) true 22 v d p) :
    ∃ l : List MakeR, MakesAt w v l ∧ l.length ≤ maxLen ∧ ∀ x ∈ l, x.s.length ≤ maxLen := by
  obtain ⟨ao, n, c, rfl⟩ := okWide_slice Tryz.underlying22 hv
  obtain ⟨fuel, hf⟩ := h
  rcases open_slice Tryz.underlying22 (by simpa [Value.cells] using hf) with ⟨h1, _⟩ | ⟨a, len, cap, m, k, D, Pl, h1, hb, hl, hc, hm, hx, hi⟩
  · simp only [List.cons.injEq, and_true] at h1
    rw [h1]
    exact ⟨[], ⟨none, 0, rfl, fun h => absurd rfl h⟩, by simp, by simp⟩
  · simp only [List.cons.injEq, and_true] at h1
    have hmc : m = cap := by simpa using hm
    have each : ∀ i, i < len → ∃ q : MakeR, (w.cell? (a.add (i * 5)) = some (.int .i64 q.kind) ∧ w.cell? (a.add (i * 5 + 1)) = some (.int .i64 q.a) ∧ w.cell? (a.add (i * 5 + 2)) = some (.int .i64 q.b) ∧ w.cell? (a.add (i * 5 + 3)) = some (.int .i64 q.c) ∧ w.cell? (a.add (i * 5 + 4)) = some (.string (bs q.s))) ∧ q.s.length ≤ maxLen := by
      intro i hil
      obtain ⟨cs', hcs, ht⟩ := hi i (by omega)
      rw [cellsMake] at hcs
      obtain ⟨hb2, hlen, hat⟩ := World.cells?_some hcs
      obtain ⟨xs, m', _, _, _, hxl, hxs⟩ := DataW.trod_struct Tryz.underlying91 ht
      match cs', hlen with
      | [c0, c1, c2, c3, c4], _ =>
        have t0 : DataW.trod enc Tryz.prog w base _ _ m' 3 ((([c0, c1, c2, c3, c4] : List Value).drop 0).take (Tryz.prog.cellsOf 3)) = xs[0]? := hxs 0 _ rfl
        have t1 : DataW.trod enc Tryz.prog w base _ _ m' 3 ((([c0, c1, c2, c3, c4] : List Value).drop 1).take (Tryz.prog.cellsOf 3)) = xs[1]? := hxs 1 _ rfl
        have t2 : DataW.trod enc Tryz.prog w base _ _ m' 3 ((([c0, c1, c2, c3, c4] : List Value).drop 2).take (Tryz.prog.cellsOf 3)) = xs[2]? := hxs 2 _ rfl
        have t3 : DataW.trod enc Tryz.prog w base _ _ m' 3 ((([c0, c1, c2, c3, c4] : List Value).drop 3).take (Tryz.prog.cellsOf 3)) = xs[3]? := hxs 3 _ rfl
        have t4 : DataW.trod enc Tryz.prog w base _ _ m' 9 ((([c0, c1, c2, c3, c4] : List Value).drop 4).take (Tryz.prog.cellsOf 9)) = xs[4]? := hxs 4 _ rfl
        simp only [cellsInt1, cellsStrM] at t0 t1 t2 t3 t4
        match xs, hxl with
        | [y0, y1, y2, y3, y4], _ =>
          simp at t0 t1 t2 t3 t4
          obtain ⟨z0, e0, _, _⟩ := DataW.trod_int Tryz.underlying3 t0
          obtain ⟨z1, e1, _, _⟩ := DataW.trod_int Tryz.underlying3 t1
          obtain ⟨z2, e2, _, _⟩ := DataW.trod_int Tryz.underlying3 t2
          obtain ⟨z3, e3, _, _⟩ := DataW.trod_int Tryz.underlying3 t3
          obtain ⟨z4, e4, _, hz⟩ := DataW.trod_string Tryz.underlying9 t4
          simp at e0 e1 e2 e3 e4
          subst e0 e1 e2 e3 e4
          have a0 := hat 0 (by omega)
          have a1 := hat 1 (by omega)
          have a2 := hat 2 (by omega)
          have a3 := hat 3 (by omega)
          have a4 := hat 4 (by omega)
          simp only [Go.Deep.add_add, Nat.add_zero] at a0 a1 a2 a3 a4
          exact ⟨⟨z0, z1, z2, z3, z4.data.toList⟩, ⟨by simpa using a0, by simpa using a1, by simpa using a2, by simpa using a3, by rw [bs_list]; simpa using a4⟩, by simpa using hz⟩
    rcases Nat.eq_zero_or_pos len with h0 | h0
    · subst h0
      rw [h1]
      exact ⟨[], ⟨some a, cap, rfl, fun h => absurd rfl h⟩, by simp, by simp⟩
    · haveI : Inhabited MakeR := ⟨⟨0, 0, 0, 0, []⟩⟩
      obtain ⟨q, hq⟩ := choose_lt each
      obtain ⟨b, off, spot⟩ := a
      have hspot : spot = none := by simpa [Addr.add] using World.cell?_spot (hq 0 h0).1.1
      subst hspot
      have hblk := World.block_lt_of_cell? w _ (hq 0 h0).1.1
      simp only [Addr.add_lit] at hq hblk
      refine ⟨(List.range len).map q, ⟨some ⟨b, off, none⟩, cap, by rw [h1]; simp, fun _ => ⟨b, off, rfl, hblk, fun k pr hk => ?_⟩⟩, by simp; omega, fun x hx => ?_⟩
      · rw [List.getElem?_map] at hk
        by_cases hkl : k < len
        · rw [List.getElem?_range hkl] at hk
          simp at hk
          subst hk
          have := (hq k hkl).1
          simp only [← Nat.add_assoc] at this
          exact this
        · rw [List.getElem?_eq_none (by simpa using hkl)] at hk
          simp at hk
      · obtain ⟨k, hk, rfl⟩ := List.mem_map.1 hx
        exact (hq k (by simpa using hk)).2
end
end Go.Proofs.YtbnecckgapainaaGreatDoor
