/- Part 18 of what the statement wants. -/
import Derived.Deep.DeepCutAuto
import Derived.Deep.CutRange
import Derived.Deep.RegionWith
import Derived.Deep.RegionHeld3
import Derived.Test.YtobhpclemmhpoaaGreatDoorPk10
import Derived.Test.YtobhpclemmhpoaaGreatDoorPk11
import Derived.Test.YtobhpclemmhpoaaGreatDoorPk17
namespace Go.Proofs.YtobhpclemmhpoaaGreatDoor
open Go.RowKit

def IdTo (L : List Ent) (ids : List Int) (texts : List (List UInt8)) (x : MakeR) (m : Int × List Ent) : Prop :=
  if x.kind = 1 then m = dataM L (bs x.s)
  else if x.kind = 2 then m = nonceM L x.a x.b
  else if x.kind = 3 then m = keyM L x.a
  else if x.kind = 4 then m = pubM L (pickP ids texts x.a).1
  else if x.kind = 5 then (if x.a < 0 then m = baseM L (bs x.s) else ExpTo L (pickP ids texts x.a).1 (pickP ids texts x.b).1 m)
  else if x.kind = 6 then m = signM L (bs x.s) (pickP ids texts x.a).1 (pickP ids texts x.b).1
  else if x.kind = 7 then m = hashM L (pickP ids texts x.a).1
  else if x.kind = 8 then m = deriveM L (letterL x.s).toNat (pickP ids texts x.a).1 (pickP ids texts x.b).1 (pickP ids texts x.c).1
  else if x.kind = 9 then m = sealM L (pickP ids texts x.a).1 (x.c % 4294967296).toNat (pickP ids texts x.b).1
  else if x.kind = 10 then m = listM L (runP ids ids.length x.a x.b)
  else m = (-1, L)
theorem left_up {B A : Nat} {L : List Ent} {F : Nat → Prop} {w w3 w' : World} (h : Below w.heap.size w w3) (k : Left B A L F w3 w') : Left B A L F w w' := by
  obtain ⟨F', h1, h2, h3⟩ := k
  exact ⟨F', h1, (Moves.ofBelow h).trans h2 fun _ hi => .inl hi, fun i hi => (h3 i hi).imp_right fun e => Nat.le_trans h.size e⟩
theorem left_same {B A : Nat} {L : List Ent} {F : Nat → Prop} {w w3 : World} (ha : ArenaAt B A L F w3) (h : Below w.heap.size w w3) : Left B A L F w w3 :=
  ⟨F, ha, Moves.ofBelow h, fun _ h => .inl h⟩

set_option maxHeartbeats 2000000 in
set_option maxRecDepth 100000 in
theorem mid_any {B A : Nat} {L : List Ent} {F : Nat → Prop} {w : World} (hA : ArenaAt B A L F w) (hLl : L.length < 1073741824) {vi vt : Value} {ids : List Int} {texts : List (List UInt8)} (hI : IdsAt w vi ids) (hT : TextsAt w vt (texts.map bs)) (hl : texts.length = ids.length) (hn : ids.length ≤ 1000000)
    (x : MakeR) (hs : x.s.length ≤ 10000) :
    Calls Tryz.prog 21 #[.agg #[vi, vt], .pointer (some ⟨A, 0, none⟩), makeV x] w fun e w' => ∃ m, IdTo L ids texts x m ∧ e = .returned (.int .i64 m.1) ∧ Left B A m.2 F w w' := by
  obtain ⟨K, a, b, c, s⟩ := x
  simp only at hs
  unfold makeV
  simp only
  have hIb : ∀ W, Below w.heap.size w W → IdsAt W vi ids := fun W h => hI.below h
  have hTb : ∀ W, Below w.heap.size w W → TextsAt W vt (texts.map bs) := fun W h => hT.below h
  have HPa := Lib.hid (fun W (h : Below w.heap.size w W) => Pick_any (hIb W h) (hTb W h) hl hn a)
  have HPb := Lib.hid (fun W (h : Below w.heap.size w W) => Pick_any (hIb W h) (hTb W h) hl hn b)
  have HPc := Lib.hid (fun W (h : Below w.heap.size w W) => Pick_any (hIb W h) (hTb W h) hl hn c)
  have HRn := Lib.hid (fun W (h : Below w.heap.size w W) => run_any (hIb W h) (hTb W h) hl hn a b)
  have HB1 : Below w.heap.size w ((w.alloc (.cells #[vi, vt] 47)).alloc (.cells #[.int .i64 K, .int .i64 a, .int .i64 b, .int .i64 c, .string (bs s)] 57)) := ((Below.refl _ _).alloc (Nat.le_refl _) _).alloc (by simp) _
  have hM : Holds ((w.alloc (.cells #[vi, vt] 47)).alloc (.cells #[.int .i64 K, .int .i64 a, .int .i64 b, .int .i64 c, .string (bs s)] 57)) w.heap.size 47 #[vi, vt] := (Holds.new w _ _).moves ((Moves.refl nobody _).alloc _) (fun h => h)
  have hX : Holds ((w.alloc (.cells #[vi, vt] 47)).alloc (.cells #[.int .i64 K, .int .i64 a, .int .i64 b, .int .i64 c, .string (bs s)] 57)) (w.heap.size + 1) 57 #[.int .i64 K, .int .i64 a, .int .i64 b, .int .i64 c, .string (bs s)] := by
    have := Holds.new (w.alloc (.cells #[vi, vt] 47)) 57 #[.int .i64 K, .int .i64 a, .int .i64 b, .int .i64 c, .string (bs s)]
    rwa [World.size_alloc] at this
  have HA := Lib.hid (fun W (h : Below w.heap.size w W) => hA.below h)
  have hsz := bs_size s
  have hbz : (bs s).size ≤ 281474976710656 := by omega
  have hrl : (runP ids ids.length a b).length ≤ 65536 := Nat.le_trans (run_len ids ids.length a b) (by omega)
  obtain ⟨P, hP⟩ : ∃ P, P = (pickP ids texts a).1 := ⟨_, rfl⟩
  obtain ⟨Q, hQ⟩ : ∃ Q, Q = (pickP ids texts b).1 := ⟨_, rfl⟩
  obtain ⟨R, hR⟩ : ∃ R, R = (pickP ids texts c).1 := ⟨_, rfl⟩
  obtain ⟨Lr, hLr⟩ : ∃ Lr, Lr = runP ids ids.length a b := ⟨_, rfl⟩
  have HU : Hid (∀ m, IdTo L ids texts ⟨K, a, b, c, s⟩ m = if K = 1 then m = dataM L (bs s) else if K = 2 then m = nonceM L a b else if K = 3 then m = keyM L a else if K = 4 then m = pubM L P else if K = 5 then (if a < 0 then m = baseM L (bs s) else ExpTo L P Q m) else if K = 6 then m = signM L (bs s) P Q
    else if K = 7 then m = hashM L P else if K = 8 then m = deriveM L (letterL s).toNat P Q R else if K = 9 then m = sealM L P (c % 4294967296).toNat Q else if K = 10 then m = listM L Lr else m = (-1, L)) := by intro m; rw [hP, hQ, hR, hLr]; rfl
  simp only [← hP] at HPa
  simp only [← hQ] at HPb
  simp only [← hR] at HPc
  simp only [← hLr] at HRn hrl
  generalize bs (pickP ids texts a).2 = PS at *
  generalize bs (pickP ids texts b).2 = QS at *
  generalize bs (pickP ids texts c).2 = RS at *
  obtain ⟨T, hTm⟩ : ∃ T, T = IdTo L ids texts ⟨K, a, b, c, s⟩ := ⟨_, rfl⟩
  rw [← hTm] at HU ⊢
  clear hI hT hIb hTb hP hQ hR hLr hTm hl hsz hA
  have HM := Lib.hid hM
  have HX := Lib.hid hX
  have m0 := hM.cell 0
  have m1 := hM.cell 1
  have x0 := hX.cell 0
  have x1 := hX.cell 1
  have x2 := hX.cell 2
  have x3 := hX.cell 3
  have x4 := hX.cell 4
  clear hM hX
  by_cases k1 : K = 1
  · subst k1
    have HE : Hid (T (dataM L (bs s))) := by show T _; rw [HU.out]; simp
    have HC : Hid (∀ W, Below w.heap.size w W → Calls Tryz.prog 41 #[.pointer (some ⟨A, 0, none⟩), .string (bs s)] W fun e w' => e = .returned (.int .i64 (dataM L (bs s)).1) ∧ Left B A (dataM L (bs s)).2 F W w') := fun W h => Data_any (HA.out W h) hLl (bs s) hbz
    generalize dataM L (bs s) = mm at *
    obtain ⟨mi, mL⟩ := mm
    simp only at HC
    clear HU
    generalize bs s = SS at *
    go_enter Tryz.func21, Tryz.ntmps21
    go_wp2_with (first
      | (go_at_call 41; with_reducible refine (HC.out _ hb3).mono ?_; rintro e w5 ⟨rfl, h5⟩)
      | (go_at_call 20; with_reducible refine (HPc.out _ hb2).mono ?_; rintro e w3 ⟨rfl, b3⟩; have hb3 := (hb2).trans (b3.mono (hb2).size); have hM3 := Holds.moves hM2 (Moves.ofBelow (S := nobody) b3) (fun h => h); have hX3 := Holds.moves hX2 (Moves.ofBelow (S := nobody) b3) (fun h => h); have m30 := hM3.cell 0; have m31 := hM3.cell 1; have x30 := hX3.cell 0; have x31 := hX3.cell 1; have x32 := hX3.cell 2; have x33 := hX3.cell 3; have x34 := hX3.cell 4)
      | (go_at_call 20; with_reducible refine (HPb.out _ hb1).mono ?_; rintro e w2 ⟨rfl, b2⟩; have hb2 := (hb1).trans (b2.mono (hb1).size); have hM2 := Holds.moves hM1 (Moves.ofBelow (S := nobody) b2) (fun h => h); have hX2 := Holds.moves hX1 (Moves.ofBelow (S := nobody) b2) (fun h => h); have m20 := hM2.cell 0; have m21 := hM2.cell 1; have x20 := hX2.cell 0; have x21 := hX2.cell 1; have x22 := hX2.cell 2; have x23 := hX2.cell 3; have x24 := hX2.cell 4)
      | (go_at_call 20; with_reducible refine (HPa.out _ HB1).mono ?_; rintro e w1 ⟨rfl, b1⟩; have hb1 := (HB1).trans (b1.mono (HB1).size); have hM1 := Holds.moves HM.out (Moves.ofBelow (S := nobody) b1) (fun h => h); have hX1 := Holds.moves HX.out (Moves.ofBelow (S := nobody) b1) (fun h => h); have m10 := hM1.cell 0; have m11 := hM1.cell 1; have x10 := hX1.cell 0; have x11 := hX1.cell 1; have x12 := hX1.cell 2; have x13 := hX1.cell 3; have x14 := hX1.cell 4))
    go_ret
    exact ⟨(mi, mL), HE.out, rfl, left_up hb3 h5⟩
  by_cases k2 : K = 2
  · subst k2
    have HE : Hid (T (nonceM L a b)) := by show T _; rw [HU.out]; simp
    have HC : Hid (∀ W, Below w.heap.size w W → Calls Tryz.prog 42 #[.pointer (some ⟨A, 0, none⟩), .int .i64 a, .int .i64 b] W fun e w' => e = .returned (.int .i64 (nonceM L a b).1) ∧ Left B A (nonceM L a b).2 F W w') := fun W h => Nonce_any (HA.out W h) hLl a b
    generalize nonceM L a b = mm at *
    obtain ⟨mi, mL⟩ := mm
    simp only at HC
    clear HU
    generalize bs s = SS at *
    go_enter Tryz.func21, Tryz.ntmps21
    go_wp2_with (first
      | (go_at_call 42; with_reducible refine (HC.out _ hb3).mono ?_; rintro e w5 ⟨rfl, h5⟩)
      | (go_at_call 20; with_reducible refine (HPc.out _ hb2).mono ?_; rintro e w3 ⟨rfl, b3⟩; have hb3 := (hb2).trans (b3.mono (hb2).size); have hM3 := Holds.moves hM2 (Moves.ofBelow (S := nobody) b3) (fun h => h); have hX3 := Holds.moves hX2 (Moves.ofBelow (S := nobody) b3) (fun h => h); have m30 := hM3.cell 0; have m31 := hM3.cell 1; have x30 := hX3.cell 0; have x31 := hX3.cell 1; have x32 := hX3.cell 2; have x33 := hX3.cell 3; have x34 := hX3.cell 4)
      | (go_at_call 20; with_reducible refine (HPb.out _ hb1).mono ?_; rintro e w2 ⟨rfl, b2⟩; have hb2 := (hb1).trans (b2.mono (hb1).size); have hM2 := Holds.moves hM1 (Moves.ofBelow (S := nobody) b2) (fun h => h); have hX2 := Holds.moves hX1 (Moves.ofBelow (S := nobody) b2) (fun h => h); have m20 := hM2.cell 0; have m21 := hM2.cell 1; have x20 := hX2.cell 0; have x21 := hX2.cell 1; have x22 := hX2.cell 2; have x23 := hX2.cell 3; have x24 := hX2.cell 4)
      | (go_at_call 20; with_reducible refine (HPa.out _ HB1).mono ?_; rintro e w1 ⟨rfl, b1⟩; have hb1 := (HB1).trans (b1.mono (HB1).size); have hM1 := Holds.moves HM.out (Moves.ofBelow (S := nobody) b1) (fun h => h); have hX1 := Holds.moves HX.out (Moves.ofBelow (S := nobody) b1) (fun h => h); have m10 := hM1.cell 0; have m11 := hM1.cell 1; have x10 := hX1.cell 0; have x11 := hX1.cell 1; have x12 := hX1.cell 2; have x13 := hX1.cell 3; have x14 := hX1.cell 4))
    go_ret
    exact ⟨(mi, mL), HE.out, rfl, left_up hb3 h5⟩
  by_cases k3 : K = 3
  · subst k3
    have HE : Hid (T (keyM L a)) := by show T _; rw [HU.out]; simp
    have HC : Hid (∀ W, Below w.heap.size w W → Calls Tryz.prog 18 #[.pointer (some ⟨A, 0, none⟩), .int .i64 a] W fun e w' => e = .returned (.int .i64 (keyM L a).1) ∧ Left B A (keyM L a).2 F W w') := fun W h => Key_any (HA.out W h) hLl a
    generalize keyM L a = mm at *
    obtain ⟨mi, mL⟩ := mm
    simp only at HC
    clear HU
    generalize bs s = SS at *
    go_enter Tryz.func21, Tryz.ntmps21
    go_wp2_with (first
      | (go_at_call 18; with_reducible refine (HC.out _ hb3).mono ?_; rintro e w5 ⟨rfl, h5⟩)
      | (go_at_call 20; with_reducible refine (HPc.out _ hb2).mono ?_; rintro e w3 ⟨rfl, b3⟩; have hb3 := (hb2).trans (b3.mono (hb2).size); have hM3 := Holds.moves hM2 (Moves.ofBelow (S := nobody) b3) (fun h => h); have hX3 := Holds.moves hX2 (Moves.ofBelow (S := nobody) b3) (fun h => h); have m30 := hM3.cell 0; have m31 := hM3.cell 1; have x30 := hX3.cell 0; have x31 := hX3.cell 1; have x32 := hX3.cell 2; have x33 := hX3.cell 3; have x34 := hX3.cell 4)
      | (go_at_call 20; with_reducible refine (HPb.out _ hb1).mono ?_; rintro e w2 ⟨rfl, b2⟩; have hb2 := (hb1).trans (b2.mono (hb1).size); have hM2 := Holds.moves hM1 (Moves.ofBelow (S := nobody) b2) (fun h => h); have hX2 := Holds.moves hX1 (Moves.ofBelow (S := nobody) b2) (fun h => h); have m20 := hM2.cell 0; have m21 := hM2.cell 1; have x20 := hX2.cell 0; have x21 := hX2.cell 1; have x22 := hX2.cell 2; have x23 := hX2.cell 3; have x24 := hX2.cell 4)
      | (go_at_call 20; with_reducible refine (HPa.out _ HB1).mono ?_; rintro e w1 ⟨rfl, b1⟩; have hb1 := (HB1).trans (b1.mono (HB1).size); have hM1 := Holds.moves HM.out (Moves.ofBelow (S := nobody) b1) (fun h => h); have hX1 := Holds.moves HX.out (Moves.ofBelow (S := nobody) b1) (fun h => h); have m10 := hM1.cell 0; have m11 := hM1.cell 1; have x10 := hX1.cell 0; have x11 := hX1.cell 1; have x12 := hX1.cell 2; have x13 := hX1.cell 3; have x14 := hX1.cell 4))
    go_ret
    exact ⟨(mi, mL), HE.out, rfl, left_up hb3 h5⟩
  by_cases k4 : K = 4
  · subst k4
    have HE : Hid (T (pubM L P)) := by show T _; rw [HU.out]; simp
    have HC : Hid (∀ W, Below w.heap.size w W → Calls Tryz.prog 43 #[.pointer (some ⟨A, 0, none⟩), .int .i64 P] W fun e w' => e = .returned (.int .i64 (pubM L P).1) ∧ Left B A (pubM L P).2 F W w') := fun W h => Pub_any (HA.out W h) hLl P
    generalize pubM L P = mm at *
    obtain ⟨mi, mL⟩ := mm
    simp only at HC
    clear HU
    generalize bs s = SS at *
    go_enter Tryz.func21, Tryz.ntmps21
    go_wp2_with (first
      | (go_at_call 43; with_reducible refine (HC.out _ hb3).mono ?_; rintro e w5 ⟨rfl, h5⟩)
      | (go_at_call 20; with_reducible refine (HPc.out _ hb2).mono ?_; rintro e w3 ⟨rfl, b3⟩; have hb3 := (hb2).trans (b3.mono (hb2).size); have hM3 := Holds.moves hM2 (Moves.ofBelow (S := nobody) b3) (fun h => h); have hX3 := Holds.moves hX2 (Moves.ofBelow (S := nobody) b3) (fun h => h); have m30 := hM3.cell 0; have m31 := hM3.cell 1; have x30 := hX3.cell 0; have x31 := hX3.cell 1; have x32 := hX3.cell 2; have x33 := hX3.cell 3; have x34 := hX3.cell 4)
      | (go_at_call 20; with_reducible refine (HPb.out _ hb1).mono ?_; rintro e w2 ⟨rfl, b2⟩; have hb2 := (hb1).trans (b2.mono (hb1).size); have hM2 := Holds.moves hM1 (Moves.ofBelow (S := nobody) b2) (fun h => h); have hX2 := Holds.moves hX1 (Moves.ofBelow (S := nobody) b2) (fun h => h); have m20 := hM2.cell 0; have m21 := hM2.cell 1; have x20 := hX2.cell 0; have x21 := hX2.cell 1; have x22 := hX2.cell 2; have x23 := hX2.cell 3; have x24 := hX2.cell 4)
      | (go_at_call 20; with_reducible refine (HPa.out _ HB1).mono ?_; rintro e w1 ⟨rfl, b1⟩; have hb1 := (HB1).trans (b1.mono (HB1).size); have hM1 := Holds.moves HM.out (Moves.ofBelow (S := nobody) b1) (fun h => h); have hX1 := Holds.moves HX.out (Moves.ofBelow (S := nobody) b1) (fun h => h); have m10 := hM1.cell 0; have m11 := hM1.cell 1; have x10 := hX1.cell 0; have x11 := hX1.cell 1; have x12 := hX1.cell 2; have x13 := hX1.cell 3; have x14 := hX1.cell 4))
    go_ret
    exact ⟨(mi, mL), HE.out, rfl, left_up hb3 h5⟩
  by_cases k5 : K = 5
  · subst k5
    by_cases hz : a < 0
    · have q1 : decide (a < 0) = true := decide_eq_true hz
      have HE : Hid (T (baseM L (bs s))) := by show T _; rw [HU.out]; simp [hz]
      have HC : Hid (∀ W, Below w.heap.size w W → Calls Tryz.prog 44 #[.pointer (some ⟨A, 0, none⟩), .string (bs s)] W fun e w' => e = .returned (.int .i64 (baseM L (bs s)).1) ∧ Left B A (baseM L (bs s)).2 F W w') := fun W h => Base_any (HA.out W h) hLl (bs s) hbz
      generalize baseM L (bs s) = mm at *
      obtain ⟨mi, mL⟩ := mm
      simp only at HC
      clear HU
      generalize bs s = SS at *
      go_enter Tryz.func21, Tryz.ntmps21
      go_wp2_with (first
        | (go_at_call 44; with_reducible refine (HC.out _ hb3).mono ?_; rintro e w5 ⟨rfl, h5⟩)
        | (go_at_call 20; with_reducible refine (HPc.out _ hb2).mono ?_; rintro e w3 ⟨rfl, b3⟩; have hb3 := (hb2).trans (b3.mono (hb2).size); have hM3 := Holds.moves hM2 (Moves.ofBelow (S := nobody) b3) (fun h => h); have hX3 := Holds.moves hX2 (Moves.ofBelow (S := nobody) b3) (fun h => h); have m30 := hM3.cell 0; have m31 := hM3.cell 1; have x30 := hX3.cell 0; have x31 := hX3.cell 1; have x32 := hX3.cell 2; have x33 := hX3.cell 3; have x34 := hX3.cell 4)
        | (go_at_call 20; with_reducible refine (HPb.out _ hb1).mono ?_; rintro e w2 ⟨rfl, b2⟩; have hb2 := (hb1).trans (b2.mono (hb1).size); have hM2 := Holds.moves hM1 (Moves.ofBelow (S := nobody) b2) (fun h => h); have hX2 := Holds.moves hX1 (Moves.ofBelow (S := nobody) b2) (fun h => h); have m20 := hM2.cell 0; have m21 := hM2.cell 1; have x20 := hX2.cell 0; have x21 := hX2.cell 1; have x22 := hX2.cell 2; have x23 := hX2.cell 3; have x24 := hX2.cell 4)
        | (go_at_call 20; with_reducible refine (HPa.out _ HB1).mono ?_; rintro e w1 ⟨rfl, b1⟩; have hb1 := (HB1).trans (b1.mono (HB1).size); have hM1 := Holds.moves HM.out (Moves.ofBelow (S := nobody) b1) (fun h => h); have hX1 := Holds.moves HX.out (Moves.ofBelow (S := nobody) b1) (fun h => h); have m10 := hM1.cell 0; have m11 := hM1.cell 1; have x10 := hX1.cell 0; have x11 := hX1.cell 1; have x12 := hX1.cell 2; have x13 := hX1.cell 3; have x14 := hX1.cell 4))
      go_ret
      exact ⟨(mi, mL), HE.out, rfl, left_up hb3 h5⟩
    · have q1 : decide (a < 0) = false := decide_eq_false hz
      have HE : Hid (∀ m, ExpTo L P Q m → T m) := fun m h => by rw [HU.out]; simp [hz]; exact h
      have HC : Hid (∀ W, Below w.heap.size w W → Calls Tryz.prog 45 #[.pointer (some ⟨A, 0, none⟩), .int .i64 P, .int .i64 Q] W fun e w' => ∃ m, ExpTo L P Q m ∧ e = .returned (.int .i64 m.1) ∧ Left B A m.2 F W w') := fun W h => Exp_any (HA.out W h) hLl P Q
      clear HU
      generalize bs s = SS at *
      go_enter Tryz.func21, Tryz.ntmps21
      go_wp2_with (first
        | (go_at_call 45; with_reducible refine (HC.out _ hb3).mono ?_; rintro e w5 ⟨mm, hm, rfl, h5⟩)
        | (go_at_call 20; with_reducible refine (HPc.out _ hb2).mono ?_; rintro e w3 ⟨rfl, b3⟩; have hb3 := (hb2).trans (b3.mono (hb2).size); have hM3 := Holds.moves hM2 (Moves.ofBelow (S := nobody) b3) (fun h => h); have hX3 := Holds.moves hX2 (Moves.ofBelow (S := nobody) b3) (fun h => h); have m30 := hM3.cell 0; have m31 := hM3.cell 1; have x30 := hX3.cell 0; have x31 := hX3.cell 1; have x32 := hX3.cell 2; have x33 := hX3.cell 3; have x34 := hX3.cell 4)
        | (go_at_call 20; with_reducible refine (HPb.out _ hb1).mono ?_; rintro e w2 ⟨rfl, b2⟩; have hb2 := (hb1).trans (b2.mono (hb1).size); have hM2 := Holds.moves hM1 (Moves.ofBelow (S := nobody) b2) (fun h => h); have hX2 := Holds.moves hX1 (Moves.ofBelow (S := nobody) b2) (fun h => h); have m20 := hM2.cell 0; have m21 := hM2.cell 1; have x20 := hX2.cell 0; have x21 := hX2.cell 1; have x22 := hX2.cell 2; have x23 := hX2.cell 3; have x24 := hX2.cell 4)
        | (go_at_call 20; with_reducible refine (HPa.out _ HB1).mono ?_; rintro e w1 ⟨rfl, b1⟩; have hb1 := (HB1).trans (b1.mono (HB1).size); have hM1 := Holds.moves HM.out (Moves.ofBelow (S := nobody) b1) (fun h => h); have hX1 := Holds.moves HX.out (Moves.ofBelow (S := nobody) b1) (fun h => h); have m10 := hM1.cell 0; have m11 := hM1.cell 1; have x10 := hX1.cell 0; have x11 := hX1.cell 1; have x12 := hX1.cell 2; have x13 := hX1.cell 3; have x14 := hX1.cell 4))
      go_ret
      exact ⟨mm, HE.out _ hm, rfl, left_up hb3 h5⟩
  by_cases k6 : K = 6
  · subst k6
    have HE : Hid (T (signM L (bs s) P Q)) := by show T _; rw [HU.out]; simp
    have HC : Hid (∀ W, Below w.heap.size w W → Calls Tryz.prog 46 #[.pointer (some ⟨A, 0, none⟩), .string (bs s), .int .i64 P, .int .i64 Q] W fun e w' => e = .returned (.int .i64 (signM L (bs s) P Q).1) ∧ Left B A (signM L (bs s) P Q).2 F W w') := fun W h => Sign_any (HA.out W h) hLl (bs s) hbz P Q
    generalize signM L (bs s) P Q = mm at *
    obtain ⟨mi, mL⟩ := mm
    simp only at HC
    clear HU
    generalize bs s = SS at *
    go_enter Tryz.func21, Tryz.ntmps21
    go_wp2_with (first
      | (go_at_call 46; with_reducible refine (HC.out _ hb3).mono ?_; rintro e w5 ⟨rfl, h5⟩)
      | (go_at_call 20; with_reducible refine (HPc.out _ hb2).mono ?_; rintro e w3 ⟨rfl, b3⟩; have hb3 := (hb2).trans (b3.mono (hb2).size); have hM3 := Holds.moves hM2 (Moves.ofBelow (S := nobody) b3) (fun h => h); have hX3 := Holds.moves hX2 (Moves.ofBelow (S := nobody) b3) (fun h => h); have m30 := hM3.cell 0; have m31 := hM3.cell 1; have x30 := hX3.cell 0; have x31 := hX3.cell 1; have x32 := hX3.cell 2; have x33 := hX3.cell 3; have x34 := hX3.cell 4)
      | (go_at_call 20; with_reducible refine (HPb.out _ hb1).mono ?_; rintro e w2 ⟨rfl, b2⟩; have hb2 := (hb1).trans (b2.mono (hb1).size); have hM2 := Holds.moves hM1 (Moves.ofBelow (S := nobody) b2) (fun h => h); have hX2 := Holds.moves hX1 (Moves.ofBelow (S := nobody) b2) (fun h => h); have m20 := hM2.cell 0; have m21 := hM2.cell 1; have x20 := hX2.cell 0; have x21 := hX2.cell 1; have x22 := hX2.cell 2; have x23 := hX2.cell 3; have x24 := hX2.cell 4)
      | (go_at_call 20; with_reducible refine (HPa.out _ HB1).mono ?_; rintro e w1 ⟨rfl, b1⟩; have hb1 := (HB1).trans (b1.mono (HB1).size); have hM1 := Holds.moves HM.out (Moves.ofBelow (S := nobody) b1) (fun h => h); have hX1 := Holds.moves HX.out (Moves.ofBelow (S := nobody) b1) (fun h => h); have m10 := hM1.cell 0; have m11 := hM1.cell 1; have x10 := hX1.cell 0; have x11 := hX1.cell 1; have x12 := hX1.cell 2; have x13 := hX1.cell 3; have x14 := hX1.cell 4))
    go_ret
    exact ⟨(mi, mL), HE.out, rfl, left_up hb3 h5⟩
  by_cases k7 : K = 7
  · subst k7
    have HE : Hid (T (hashM L P)) := by show T _; rw [HU.out]; simp
    have HC : Hid (∀ W, Below w.heap.size w W → Calls Tryz.prog 34 #[.pointer (some ⟨A, 0, none⟩), .int .i64 P] W fun e w' => e = .returned (.int .i64 (hashM L P).1) ∧ Left B A (hashM L P).2 F W w') := fun W h => Hash_any (HA.out W h) hLl P
    generalize hashM L P = mm at *
    obtain ⟨mi, mL⟩ := mm
    simp only at HC
    clear HU
    generalize bs s = SS at *
    go_enter Tryz.func21, Tryz.ntmps21
    go_wp2_with (first
      | (go_at_call 34; with_reducible refine (HC.out _ hb3).mono ?_; rintro e w5 ⟨rfl, h5⟩)
      | (go_at_call 20; with_reducible refine (HPc.out _ hb2).mono ?_; rintro e w3 ⟨rfl, b3⟩; have hb3 := (hb2).trans (b3.mono (hb2).size); have hM3 := Holds.moves hM2 (Moves.ofBelow (S := nobody) b3) (fun h => h); have hX3 := Holds.moves hX2 (Moves.ofBelow (S := nobody) b3) (fun h => h); have m30 := hM3.cell 0; have m31 := hM3.cell 1; have x30 := hX3.cell 0; have x31 := hX3.cell 1; have x32 := hX3.cell 2; have x33 := hX3.cell 3; have x34 := hX3.cell 4)
      | (go_at_call 20; with_reducible refine (HPb.out _ hb1).mono ?_; rintro e w2 ⟨rfl, b2⟩; have hb2 := (hb1).trans (b2.mono (hb1).size); have hM2 := Holds.moves hM1 (Moves.ofBelow (S := nobody) b2) (fun h => h); have hX2 := Holds.moves hX1 (Moves.ofBelow (S := nobody) b2) (fun h => h); have m20 := hM2.cell 0; have m21 := hM2.cell 1; have x20 := hX2.cell 0; have x21 := hX2.cell 1; have x22 := hX2.cell 2; have x23 := hX2.cell 3; have x24 := hX2.cell 4)
      | (go_at_call 20; with_reducible refine (HPa.out _ HB1).mono ?_; rintro e w1 ⟨rfl, b1⟩; have hb1 := (HB1).trans (b1.mono (HB1).size); have hM1 := Holds.moves HM.out (Moves.ofBelow (S := nobody) b1) (fun h => h); have hX1 := Holds.moves HX.out (Moves.ofBelow (S := nobody) b1) (fun h => h); have m10 := hM1.cell 0; have m11 := hM1.cell 1; have x10 := hX1.cell 0; have x11 := hX1.cell 1; have x12 := hX1.cell 2; have x13 := hX1.cell 3; have x14 := hX1.cell 4))
    go_ret
    exact ⟨(mi, mL), HE.out, rfl, left_up hb3 h5⟩
  by_cases k8 : K = 8
  · subst k8
    have HL := Lib.hid (fun W => letter_any s W)
    have hcl : (letterL s).toNat ≤ 255 := by have := UInt8.toNat_lt (letterL s); omega
    have HE : Hid (T (deriveM L (letterL s).toNat P Q R)) := by show T _; rw [HU.out]; simp
    have HC : Hid (∀ W, Below w.heap.size w W → Calls Tryz.prog 47 #[.pointer (some ⟨A, 0, none⟩), .int .u8 ((letterL s).toNat : Int), .int .i64 P, .int .i64 Q, .int .i64 R] W fun e w' => e = .returned (.int .i64 (deriveM L (letterL s).toNat P Q R).1) ∧ Left B A (deriveM L (letterL s).toNat P Q R).2 F W w') := fun W h => Derive_any (HA.out W h) hLl (letterL s).toNat hcl P Q R
    generalize deriveM L (letterL s).toNat P Q R = mm at *
    obtain ⟨mi, mL⟩ := mm
    simp only at HC
    clear HU
    generalize (letterL s).toNat = lt at *
    generalize bs s = SS at *
    go_enter Tryz.func21, Tryz.ntmps21
    go_wp2_with (first
      | (go_at_call 47; with_reducible refine (HC.out _ hb4).mono ?_; rintro e w5 ⟨rfl, h5⟩)
      | (go_at_call 48; with_reducible refine (HL.out _).mono ?_; rintro e w4 ⟨rfl, b4⟩; have hb4 := hb3.trans (b4.mono hb3.size))
      | (go_at_call 20; with_reducible refine (HPc.out _ hb2).mono ?_; rintro e w3 ⟨rfl, b3⟩; have hb3 := (hb2).trans (b3.mono (hb2).size); have hM3 := Holds.moves hM2 (Moves.ofBelow (S := nobody) b3) (fun h => h); have hX3 := Holds.moves hX2 (Moves.ofBelow (S := nobody) b3) (fun h => h); have m30 := hM3.cell 0; have m31 := hM3.cell 1; have x30 := hX3.cell 0; have x31 := hX3.cell 1; have x32 := hX3.cell 2; have x33 := hX3.cell 3; have x34 := hX3.cell 4)
      | (go_at_call 20; with_reducible refine (HPb.out _ hb1).mono ?_; rintro e w2 ⟨rfl, b2⟩; have hb2 := (hb1).trans (b2.mono (hb1).size); have hM2 := Holds.moves hM1 (Moves.ofBelow (S := nobody) b2) (fun h => h); have hX2 := Holds.moves hX1 (Moves.ofBelow (S := nobody) b2) (fun h => h); have m20 := hM2.cell 0; have m21 := hM2.cell 1; have x20 := hX2.cell 0; have x21 := hX2.cell 1; have x22 := hX2.cell 2; have x23 := hX2.cell 3; have x24 := hX2.cell 4)
      | (go_at_call 20; with_reducible refine (HPa.out _ HB1).mono ?_; rintro e w1 ⟨rfl, b1⟩; have hb1 := (HB1).trans (b1.mono (HB1).size); have hM1 := Holds.moves HM.out (Moves.ofBelow (S := nobody) b1) (fun h => h); have hX1 := Holds.moves HX.out (Moves.ofBelow (S := nobody) b1) (fun h => h); have m10 := hM1.cell 0; have m11 := hM1.cell 1; have x10 := hX1.cell 0; have x11 := hX1.cell 1; have x12 := hX1.cell 2; have x13 := hX1.cell 3; have x14 := hX1.cell 4))
    go_ret
    exact ⟨(mi, mL), HE.out, rfl, left_up hb4 h5⟩
  by_cases k9 : K = 9
  · subst k9
    have hcz : ((c % 4294967296).toNat : Int) = c % 4294967296 := by omega
    have HE : Hid (T (sealM L P (c % 4294967296).toNat Q)) := by show T _; rw [HU.out]; simp
    have HC : Hid (∀ W, Below w.heap.size w W → Calls Tryz.prog 49 #[.pointer (some ⟨A, 0, none⟩), .int .i64 P, .int .u32 (c % 4294967296), .int .i64 Q] W fun e w' => e = .returned (.int .i64 (sealM L P (c % 4294967296).toNat Q).1) ∧ Left B A (sealM L P (c % 4294967296).toNat Q).2 F W w') := fun W h => by rw [← hcz]; exact Seal_any (HA.out W h) hLl P (c % 4294967296).toNat (by omega) Q
    generalize sealM L P (c % 4294967296).toNat Q = mm at *
    obtain ⟨mi, mL⟩ := mm
    simp only at HC
    clear HU
    clear hcz
    generalize bs s = SS at *
    go_enter Tryz.func21, Tryz.ntmps21
    go_wp2_with (first
      | (go_at_call 49; with_reducible refine (HC.out _ hb3).mono ?_; rintro e w5 ⟨rfl, h5⟩)
      | (go_at_call 20; with_reducible refine (HPc.out _ hb2).mono ?_; rintro e w3 ⟨rfl, b3⟩; have hb3 := (hb2).trans (b3.mono (hb2).size); have hM3 := Holds.moves hM2 (Moves.ofBelow (S := nobody) b3) (fun h => h); have hX3 := Holds.moves hX2 (Moves.ofBelow (S := nobody) b3) (fun h => h); have m30 := hM3.cell 0; have m31 := hM3.cell 1; have x30 := hX3.cell 0; have x31 := hX3.cell 1; have x32 := hX3.cell 2; have x33 := hX3.cell 3; have x34 := hX3.cell 4)
      | (go_at_call 20; with_reducible refine (HPb.out _ hb1).mono ?_; rintro e w2 ⟨rfl, b2⟩; have hb2 := (hb1).trans (b2.mono (hb1).size); have hM2 := Holds.moves hM1 (Moves.ofBelow (S := nobody) b2) (fun h => h); have hX2 := Holds.moves hX1 (Moves.ofBelow (S := nobody) b2) (fun h => h); have m20 := hM2.cell 0; have m21 := hM2.cell 1; have x20 := hX2.cell 0; have x21 := hX2.cell 1; have x22 := hX2.cell 2; have x23 := hX2.cell 3; have x24 := hX2.cell 4)
      | (go_at_call 20; with_reducible refine (HPa.out _ HB1).mono ?_; rintro e w1 ⟨rfl, b1⟩; have hb1 := (HB1).trans (b1.mono (HB1).size); have hM1 := Holds.moves HM.out (Moves.ofBelow (S := nobody) b1) (fun h => h); have hX1 := Holds.moves HX.out (Moves.ofBelow (S := nobody) b1) (fun h => h); have m10 := hM1.cell 0; have m11 := hM1.cell 1; have x10 := hX1.cell 0; have x11 := hX1.cell 1; have x12 := hX1.cell 2; have x13 := hX1.cell 3; have x14 := hX1.cell 4))
    go_ret
    exact ⟨(mi, mL), HE.out, rfl, left_up hb3 h5⟩
  by_cases k10 : K = 10
  · subst k10
    have HE : Hid (T (listM L Lr)) := by show T _; rw [HU.out]; simp
    have HC : Hid (∀ W v, Below w.heap.size w W → IdsAt W v Lr → Calls Tryz.prog 29 #[.pointer (some ⟨A, 0, none⟩), v] W fun e w' => e = .returned (.int .i64 (listM L Lr).1) ∧ Left B A (listM L Lr).2 F W w') := fun W v h hv => List_any (HA.out W h) hLl hv hrl
    generalize listM L Lr = mm at *
    obtain ⟨mi, mL⟩ := mm
    simp only at HC
    clear HU
    generalize bs s = SS at *
    go_enter Tryz.func21, Tryz.ntmps21
    go_wp2_with (first
      | (go_at_call 29; with_reducible refine (HC.out _ _ hb4 hI4).mono ?_; rintro e w5 ⟨rfl, h5⟩)
      | (go_at_call 50; with_reducible refine (HRn.out _ hb3).mono ?_; rintro e w4 ⟨ui, ut, rfl, hI4, hT4, b4⟩; have hb4 := hb3.trans (b4.mono hb3.size))
      | (go_at_call 20; with_reducible refine (HPc.out _ hb2).mono ?_; rintro e w3 ⟨rfl, b3⟩; have hb3 := (hb2).trans (b3.mono (hb2).size); have hM3 := Holds.moves hM2 (Moves.ofBelow (S := nobody) b3) (fun h => h); have hX3 := Holds.moves hX2 (Moves.ofBelow (S := nobody) b3) (fun h => h); have m30 := hM3.cell 0; have m31 := hM3.cell 1; have x30 := hX3.cell 0; have x31 := hX3.cell 1; have x32 := hX3.cell 2; have x33 := hX3.cell 3; have x34 := hX3.cell 4)
      | (go_at_call 20; with_reducible refine (HPb.out _ hb1).mono ?_; rintro e w2 ⟨rfl, b2⟩; have hb2 := (hb1).trans (b2.mono (hb1).size); have hM2 := Holds.moves hM1 (Moves.ofBelow (S := nobody) b2) (fun h => h); have hX2 := Holds.moves hX1 (Moves.ofBelow (S := nobody) b2) (fun h => h); have m20 := hM2.cell 0; have m21 := hM2.cell 1; have x20 := hX2.cell 0; have x21 := hX2.cell 1; have x22 := hX2.cell 2; have x23 := hX2.cell 3; have x24 := hX2.cell 4)
      | (go_at_call 20; with_reducible refine (HPa.out _ HB1).mono ?_; rintro e w1 ⟨rfl, b1⟩; have hb1 := (HB1).trans (b1.mono (HB1).size); have hM1 := Holds.moves HM.out (Moves.ofBelow (S := nobody) b1) (fun h => h); have hX1 := Holds.moves HX.out (Moves.ofBelow (S := nobody) b1) (fun h => h); have m10 := hM1.cell 0; have m11 := hM1.cell 1; have x10 := hX1.cell 0; have x11 := hX1.cell 1; have x12 := hX1.cell 2; have x13 := hX1.cell 3; have x14 := hX1.cell 4))
    go_ret
    exact ⟨(mi, mL), HE.out, rfl, left_up hb4 h5⟩
  have HE : Hid (T (-1, L)) := by show T _; rw [HU.out]; simp [k1, k2, k3, k4, k5, k6, k7, k8, k9, k10]
  have e1 : (K == 1) = false := by rw [beq_eq_false_iff_ne]; exact k1
  have e2 : (K == 2) = false := by rw [beq_eq_false_iff_ne]; exact k2
  have e3 : (K == 3) = false := by rw [beq_eq_false_iff_ne]; exact k3
  have e4 : (K == 4) = false := by rw [beq_eq_false_iff_ne]; exact k4
  have e5 : (K == 5) = false := by rw [beq_eq_false_iff_ne]; exact k5
  have e6 : (K == 6) = false := by rw [beq_eq_false_iff_ne]; exact k6
  have e7 : (K == 7) = false := by rw [beq_eq_false_iff_ne]; exact k7
  have e8 : (K == 8) = false := by rw [beq_eq_false_iff_ne]; exact k8
  have e9 : (K == 9) = false := by rw [beq_eq_false_iff_ne]; exact k9
  have e10 : (K == 10) = false := by rw [beq_eq_false_iff_ne]; exact k10
  clear HU k1 k2 k3 k4 k5 k6 k7 k8 k9 k10
  generalize bs s = SS at *
  go_enter Tryz.func21, Tryz.ntmps21
  go_wp2_with (first
    | (go_at_call 20; with_reducible refine (HPc.out _ hb2).mono ?_; rintro e w3 ⟨rfl, b3⟩; have hb3 := (hb2).trans (b3.mono (hb2).size); have hM3 := Holds.moves hM2 (Moves.ofBelow (S := nobody) b3) (fun h => h); have hX3 := Holds.moves hX2 (Moves.ofBelow (S := nobody) b3) (fun h => h); have m30 := hM3.cell 0; have m31 := hM3.cell 1; have x30 := hX3.cell 0; have x31 := hX3.cell 1; have x32 := hX3.cell 2; have x33 := hX3.cell 3; have x34 := hX3.cell 4)
    | (go_at_call 20; with_reducible refine (HPb.out _ hb1).mono ?_; rintro e w2 ⟨rfl, b2⟩; have hb2 := (hb1).trans (b2.mono (hb1).size); have hM2 := Holds.moves hM1 (Moves.ofBelow (S := nobody) b2) (fun h => h); have hX2 := Holds.moves hX1 (Moves.ofBelow (S := nobody) b2) (fun h => h); have m20 := hM2.cell 0; have m21 := hM2.cell 1; have x20 := hX2.cell 0; have x21 := hX2.cell 1; have x22 := hX2.cell 2; have x23 := hX2.cell 3; have x24 := hX2.cell 4)
    | (go_at_call 20; with_reducible refine (HPa.out _ HB1).mono ?_; rintro e w1 ⟨rfl, b1⟩; have hb1 := (HB1).trans (b1.mono (HB1).size); have hM1 := Holds.moves HM.out (Moves.ofBelow (S := nobody) b1) (fun h => h); have hX1 := Holds.moves HX.out (Moves.ofBelow (S := nobody) b1) (fun h => h); have m10 := hM1.cell 0; have m11 := hM1.cell 1; have x10 := hX1.cell 0; have x11 := hX1.cell 1; have x12 := hX1.cell 2; have x13 := hX1.cell 3; have x14 := hX1.cell 4))
  go_ret
  exact ⟨(-1, L), HE.out, rfl, left_same (HA.out _ hb3) hb3⟩
end Go.Proofs.YtobhpclemmhpoaaGreatDoor
